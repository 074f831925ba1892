/- Package fit: the free function. No conditions but the sizes, and that the slices' cells read as functions and policies. Package fit: what is taken, and how many units fit. No conditions but the lists' sizes, and that the slices' cells read as integers. The contract of the document's own May of vectors. No conditions. The contracts of the document's own small answers for rle. No conditions but that the lists' cells read as integers. Slices that read as lists of numbers. No function of the program. No conditions. The contracts of the document's own lists of times, and of its canonical function. No conditions but the lists' sizes. The contract of the document's own list of times. No conditions but the list's size. Appending a slice of numbers to a row that a call owns. No function of the program. No conditions. The contract of the document's own list of the times of two functions. No conditions but the lists' sizes. The contracts of the document's own At and May. No conditions but the lists' sizes. -/
import Derived.Test.YtjhhcljbmnomlaaPFGE
import Derived.Test.YtjhhcljbmnomlaaRows
import Derived.Test.YtjhhcljbmnomlaaPFGA
import Derived.Test.YtjhhcljbmnomlaaPFMA
import Derived.Outline
import Derived.Laws.AppendOwnNone
import Derived.Deep.RegionLaw
import Derived.Deep.DeepCutAuto
namespace Go.Proofs.Ytjhhcljbmnomlaa
open Go.ChangeShapes Go.WideShapes Go.ChangeAt Go.RowKit
attribute [local irreducible] Go.Calls

theorem run_store_fnF {P : Program} {w : World} {a : Addr} {m : Mode} {f : Fn} {l r : Array Value} : (store a (.func f l r) m).run P w = stored P w a (.func f l r) m := run_store P w a _ m rfl
attribute [local go_sem] run_store_fnF

theorem Try.infoSlF : (Try.prog.info? 22).map (fun i => (i.zero, i.size, i.bytes)) = some (some (.slice none 0 0), 1, 24) := by kernel_rfl
/-- The free function is handed back. -/
def FreeR (P : List Pol) (C L O : List Sg) (x : Int) (w : World) (e : Ending) (w' : World) : Prop :=
  ∃ (a : Option Addr) (n cap : Nat) (f : List Sg) (er : Int), e = .returned (.tuple #[.slice a n cap, .int .i64 er]) ∧ SliS w' (.slice a n cap) f ∧ FreeIs P C L O x f er ∧ f.length ≤ 400000 ∧ Below w.heap.size w w'
/-- Nothing is handed back but an error. -/
theorem freeR_no {P : List Pol} {C L O : List Sg} {x er : Int} {w w' : World} (h : FreeIs P C L O x [] er) (hb : Below w.heap.size w w') : FreeR P C L O x w (.returned (.tuple #[.slice none 0 0, .int .i64 er])) w' :=
  ⟨none, 0, 0, [], er, rfl, sliS_nil _, h, by simp, hb⟩
theorem bdsAre_nil (C L O : List Sg) (x : Int) : BdsAre C L O x [] [] := ⟨rfl, fun i hi => by simp at hi⟩
theorem bdsAre_snoc {C L O F : List Sg} {x : Int} {bs : List Bd} {b : Bd} {Fs : List (List Sg)} (h : BdsAre C L O x bs Fs) (h1 : mayB F = true) (h2 : BdOk C L O x b) (h3 : ∀ t, vat F t = valB C L O x b t) : BdsAre C L O x (bs ++ [b]) (Fs ++ [F]) := by
  refine ⟨by simp [h.1], fun i hi => ?_⟩
  rw [getD_snoc, getD_snoc, h.1]
  simp at hi
  by_cases c : i < bs.length
  · rw [if_pos c, if_pos c]; exact h.2 i c
  · rw [if_neg c, if_neg c, if_pos (by omega), if_pos (by omega)]; exact ⟨h1, h2, h3⟩
section
variable {P : List Pol} {C L O C' L' O' : List Sg} {x : Int}
theorem freeIs_bad (hm : (mayB C && mayB L && mayB O) = true) (hk : P.any kindB = false) (hx : nowB x = true) (hC : SinceIs C x C') (hL : SinceIs L x L') (hO : SinceIs O x O') {b : Bd} (hb : b ∈ bds P) (hn : ¬ BdOk C' L' O' x b) : FreeIs P C L O x [] 10 := by
  refine .inr ⟨hm, .inr ⟨fun p hp => ?_, .inr ⟨hx, .inl ⟨fun h => hn ((free_ok hC hL hO).2 h b hb), rfl, rfl⟩⟩⟩⟩
  have := List.any_eq_false.1 hk p hp
  unfold kindB at this
  simp at this
  omega
theorem freeIs_good {Fs : List (List Sg)} {f : List Sg} (hm : (mayB C && mayB L && mayB O) = true) (hk : P.any kindB = false) (hx : nowB x = true) (hC : SinceIs C x C') (hL : SinceIs L x L') (hO : SinceIs O x O') (hF : BdsAre C' L' O' x (bds P) Fs) (hf : MinIs Fs f) : FreeIs P C L O x f 0 := by
  refine .inr ⟨hm, .inr ⟨fun p hp => ?_, .inr ⟨hx, .inr ⟨(free_ok hC hL hO).1 fun b hb => ?_, rfl, free_val hC hL hO hF hf⟩⟩⟩⟩
  · have := List.any_eq_false.1 hk p hp
    unfold kindB at this
    simp at this
    omega
  · obtain ⟨i, hi, rfl⟩ := List.getElem_of_mem hb
    have := (hF.2 i hi).2.1
    rw [getD_get _ _ _ hi] at this
    exact this
end
/-- Where something is in the way. -/
theorem freeIs_form {P : List Pol} {C L O : List Sg} {x : Int} (h : (mayB C && mayB L && mayB O) = false) : FreeIs P C L O x [] 5 := .inl ⟨h, rfl, rfl⟩
theorem freeIs_kind {P : List Pol} {C L O : List Sg} {x : Int} (hm : (mayB C && mayB L && mayB O) = true) (hk : P.any kindB = true) : FreeIs P C L O x [] 2 := by
  refine .inr ⟨hm, .inl ⟨?_, rfl, rfl⟩⟩
  obtain ⟨p, hp, h⟩ := List.any_eq_true.1 hk
  exact ⟨p, hp, by simpa [kindB] using h⟩
theorem freeIs_time {P : List Pol} {C L O : List Sg} {x : Int} (hm : (mayB C && mayB L && mayB O) = true) (hk : P.any kindB = false) (hx : nowB x = false) : FreeIs P C L O x [] 10 := by
  refine .inr ⟨hm, .inr ⟨fun p hp => ?_, .inl ⟨hx, rfl, rfl⟩⟩⟩
  have := List.any_eq_false.1 hk p hp
  unfold kindB at this
  simp at this
  omega
section
variable {P : List Pol} {C L O : List Sg} {x : Int} {a1 a2 a3 a4 : Option Addr} {c1 c2 c3 c4 : Nat} {w : World}
set_option maxRecDepth 100000 in
set_option maxHeartbeats 4000000 in
theorem free_no (h1 : ArgS w a1 C) (h2 : ArgS w a2 L) (h3 : ArgS w a3 O) (hl1 : C.length ≤ 10000) (hl2 : L.length ≤ 10000) (hl3 : O.length ≤ 10000) (hm : (mayB C && mayB L && mayB O) = false) :
    Calls Try.prog 8 #[.slice a1 C.length c1, .slice a2 L.length c2, .slice a3 O.length c3, .slice a4 P.length c4, .int .i64 x] w (FreeR P C L O x w) := by
  have HE := hidE (freeIs_form (P := P) (x := x) hm)
  have H1 := hidE (fun w hA => pmay_c C a1 c1 w (by omega) hA); have H2 := hidE (fun w hA => pmay_c L a2 c2 w (by omega) hA); have H3 := hidE (fun w hA => pmay_c O a3 c3 w (by omega) hA)
  have HA1 := hidE h1; have HA2 := hidE h2; have HA3 := hidE h3
  clear h1 h2 h3
  cases m1 : mayB C
  · rw [m1] at H1
    clear hm m1
    go_enter Try.func8, Try.ntmps8
    go_wp2_with fail
    ((with_reducible refine (H1.out _ HA1.out).mono ?_); rintro e w1 ⟨rfl, hb1⟩)
    go_wp2
    go_ret2
    exact freeR_no HE.out (by (repeat (first | exact Below.refl _ _ | assumption | refine balloc ?_ _ | refine below_drewN ?_ _ | refine bstep (by assumption) ?_ | refine bstep (Past.prop _) ?_ | refine Below.setCell ?_ (by first | exact Nat.le_refl _ | (simp; done) | (simp; omega)) _)))
  · rw [m1] at H1
    cases m2 : mayB L
    · rw [m2] at H2
      clear hm m1 m2
      go_enter Try.func8, Try.ntmps8
      go_wp2_with fail
      ((with_reducible refine (H1.out _ HA1.out).mono ?_); rintro e w1 ⟨rfl, hb1⟩)
      go_wp2_with fail
      ((with_reducible refine (H2.out _ (HA2.out.past hb1)).mono ?_); rintro e w2 ⟨rfl, hb2⟩)
      go_wp2
      go_ret2
      exact freeR_no HE.out (by (repeat (first | exact Below.refl _ _ | assumption | refine balloc ?_ _ | refine below_drewN ?_ _ | refine bstep (by assumption) ?_ | refine bstep (Past.prop _) ?_ | refine Below.setCell ?_ (by first | exact Nat.le_refl _ | (simp; done) | (simp; omega)) _)))
    · rw [m2] at H2
      have m3 : mayB O = false := by rw [m1, m2] at hm; simpa using hm
      rw [m3] at H3
      clear hm m1 m2 m3
      go_enter Try.func8, Try.ntmps8
      go_wp2_with fail
      ((with_reducible refine (H1.out _ HA1.out).mono ?_); rintro e w1 ⟨rfl, hb1⟩)
      go_wp2_with fail
      ((with_reducible refine (H2.out _ (HA2.out.past hb1)).mono ?_); rintro e w2 ⟨rfl, hb2⟩)
      have hb12 := bstep hb2 hb1
      go_wp2_with fail
      ((with_reducible refine (H3.out _ (HA3.out.past hb12)).mono ?_); rintro e w3 ⟨rfl, hb3⟩)
      go_wp2
      go_ret2
      exact freeR_no HE.out (by (repeat (first | exact Below.refl _ _ | assumption | refine balloc ?_ _ | refine below_drewN ?_ _ | refine bstep (by assumption) ?_ | refine bstep (Past.prop _) ?_ | refine Below.setCell ?_ (by first | exact Nat.le_refl _ | (simp; done) | (simp; omega)) _)))
set_option maxRecDepth 100000 in
set_option maxHeartbeats 8000000 in
theorem free_yes (h1 : ArgS w a1 C) (h2 : ArgS w a2 L) (h3 : ArgS w a3 O) (h4 : ArgPs w a4 P) (hl1 : C.length ≤ 10000) (hl2 : L.length ≤ 10000) (hl3 : O.length ≤ 10000) (hl4 : P.length ≤ 1000000)
    (hc1 : C.length ≤ c1 ∧ c1 ≤ 9223372036854775807) (hc2 : L.length ≤ c2 ∧ c2 ≤ 9223372036854775807) (hc3 : O.length ≤ c3 ∧ c3 ≤ 9223372036854775807) (hm : (mayB C && mayB L && mayB O) = true) :
    Calls Try.prog 8 #[.slice a1 C.length c1, .slice a2 L.length c2, .slice a3 O.length c3, .slice a4 P.length c4, .int .i64 x] w (FreeR P C L O x w) := by
  have HM := hidE hm
  obtain ⟨⟨m1, m2⟩, m3⟩ : (mayB C = true ∧ mayB L = true) ∧ mayB O = true := by simpa using hm
  have H1 := hidE (fun w hA => pmay_c C a1 c1 w (by omega) hA); have H2 := hidE (fun w hA => pmay_c L a2 c2 w (by omega) hA); have H3 := hidE (fun w hA => pmay_c O a3 c3 w (by omega) hA)
  rw [m1] at H1; rw [m2] at H2; rw [m3] at H3
  have HA1 := hidE h1; have HA2 := hidE h2; have HA3 := hidE h3; have HA4 := hidE h4
  have HK := hidE (fun w hA => kd_any P a4 c4 w (by omega) hA)
  clear h1 h2 h3 h4 hm
  cases hk : P.any kindB
  · rw [hk] at HK
    cases hx : nowB x
    · have HE := hidE (freeIs_time HM.out hk hx)
      have HT := hidE (fun w => fisTime_eq (w := w) hx)
      clear m1 m2 m3 hk hx
      go_enter Try.func8, Try.ntmps8
      go_wp2_with fail
      ((with_reducible refine (H1.out _ HA1.out).mono ?_); rintro e w1 ⟨rfl, hb1⟩)
      go_wp2_with fail
      ((with_reducible refine (H2.out _ (HA2.out.past hb1)).mono ?_); rintro e w2 ⟨rfl, hb2⟩)
      have hb12 := bstep hb2 hb1
      go_wp2_with fail
      ((with_reducible refine (H3.out _ (HA3.out.past hb12)).mono ?_); rintro e w3 ⟨rfl, hb3⟩)
      have hb13 := bstep hb3 hb12
      clear hb1 hb2 hb12 hb3
      go_wp2_with fail
      ((with_reducible refine (HK.out _ (HA4.out.past hb13)).mono ?_); rintro e w4 ⟨rfl, hb4⟩)
      have hb14 := bstep hb4 hb13
      clear hb4 hb13
      go_wp2_with fail
      ((with_reducible refine (HT.out _).mono ?_); rintro e w5 ⟨rfl, hb5⟩)
      go_wp2
      go_ret2
      exact freeR_no HE.out (by (repeat (first | exact Below.refl _ _ | assumption | refine balloc ?_ _ | refine below_drewN ?_ _ | refine bstep (by assumption) ?_ | refine bstep (Past.prop _) ?_ | refine Below.setCell ?_ (by first | exact Nat.le_refl _ | (simp; done) | (simp; omega)) _)))
    · have HT := hidE (fun w => fisTime_eq (w := w) hx)
      have HS1 := hidE (fun w hA => since_c C x a1 c1 w hc1.1 hc1.2 (by omega) hA m1 hx)
      have HS2 := hidE (fun w hA => since_c L x a2 c2 w hc2.1 hc2.2 (by omega) hA m2 hx)
      have HS3 := hidE (fun w hA => since_c O x a3 c3 w hc3.1 hc3.2 (by omega) hA m3 hx)
      have HBS := hidE (fun w hA => bounds_c P a4 c4 w (by omega) hA)
      have HNK := hidE hk; have HX := hidE hx
      clear m1 m2 m3 hk hx
      obtain ⟨ix, hix, hz0, hz1, hz2⟩ := info_parts Try.infoSlF
      have HI := hidE hix; have HZ0 := hidE hz0; have HZ1 := hidE hz1; have HZ2 := hidE hz2
      clear hix hz0 hz1 hz2
      go_enter Try.func8, Try.ntmps8
      go_wp2_with fail
      ((with_reducible refine (H1.out _ HA1.out).mono ?_); rintro e w1 ⟨rfl, hb1⟩)
      go_wp2_with fail
      ((with_reducible refine (H2.out _ (HA2.out.past hb1)).mono ?_); rintro e w2 ⟨rfl, hb2⟩)
      have hb12 := bstep hb2 hb1
      go_wp2_with fail
      ((with_reducible refine (H3.out _ (HA3.out.past hb12)).mono ?_); rintro e w3 ⟨rfl, hb3⟩)
      have hb13 := bstep hb3 hb12
      clear hb1 hb2 hb12 hb3
      go_wp2_with fail
      ((with_reducible refine (HK.out _ (HA4.out.past hb13)).mono ?_); rintro e w4 ⟨rfl, hb4⟩)
      have hb14 := bstep hb4 hb13
      clear hb4 hb13
      go_wp2_with fail
      ((with_reducible refine (HT.out _).mono ?_); rintro e w5 ⟨rfl, hb5⟩)
      have hb15 := bstep hb5 hb14
      clear hb14 hb5
      go_wp2_with fail
      ((with_reducible refine (HS1.out _ (HA1.out.past hb15)).mono ?_); rintro e w6 ⟨b1, n1, d1, C', rfl, hs1, hi1, hb6⟩)
      have hb16 := bstep hb6 hb15
      clear hb15
      go_wp2_with fail
      ((with_reducible refine (HS2.out _ (HA2.out.past hb16)).mono ?_); rintro e w7 ⟨b2, n2, d2, L', rfl, hs2, hi2, hb7⟩)
      have hb17 := bstep hb7 hb16
      clear hb16 hb6
      go_wp2_with fail
      ((with_reducible refine (HS3.out _ (HA3.out.past hb17)).mono ?_); rintro e w8 ⟨b3, n3, d3, O', rfl, hs3, hi3, hb8⟩)
      have hb18 := bstep hb8 hb17
      have HC1 := hidE ((hs1.past hb7).past hb8); have HC2 := hidE (hs2.past hb8); have HC3 := hidE hs3
      have HI1 := hidE hi1; have HI2 := hidE hi2; have HI3 := hidE hi3
      have HB8 := hidE hb18
      clear hb17 hb7 hb8 hs1 hs2 hs3 hb18
      obtain ⟨q, hq⟩ : ∃ q, q = w8.heap.size := ⟨_, rfl⟩
      go_upto_region 8 with fail
      obtain ⟨w9, hw9⟩ : ∃ w9, w9 = w8.alloc (Obj.cells #[.slice b1 n1 d1, .slice b2 n2 d2, .slice b3 n3 d3, .int .i64 x] 62) := ⟨_, rfl⟩
      have hb9 : Below w8.heap.size w8 w9 := by rw [hw9]; exact (Below.refl _ _).alloc (Nat.le_refl _) _
      have HQ9 := hidE (show Blk w9 q #[.slice b1 n1 d1, .slice b2 n2 d2, .slice b3 n3 d3, .int .i64 x] 62 by rw [hw9, hq]; exact Blk.made _ _ _)
      rw [← hw9, ← hq]
      have HB9 := hidE (bstep hb9 HB8.out)
      have HD1 := hidE (HC1.out.past hb9); have HD2 := hidE (HC2.out.past hb9); have HD3 := hidE (HC3.out.past hb9)
      clear hw9 hq hb9 HC1 HC2 HC3 HB8
      go_wp2_with fail
      ((with_reducible refine (HBS.out _ (HA4.out.past HB9.out)).mono ?_); rintro e w10 ⟨v10, xs, rfl, hX, hBX, hb10⟩)
      obtain ⟨a5, c5, rfl, hx1, hx2, hx3⟩ := hX
      have HBX := hidE hBX; have HX3 := hidE hx3; have HXL := hidE hBX.1
      have HB10 := hidE (bstep hb10 HB9.out)
      have HQ10 := hidE (HQ9.out.past hb10)
      have HC1 := hidE (HD1.out.past hb10); have HC2 := hidE (HD2.out.past hb10); have HC3 := hidE (HD3.out.past hb10)
      have HL4 := hidE (bds_len P)
      have HLN := hidE (show C'.length ≤ 20002 ∧ L'.length ≤ 20002 ∧ O'.length ≤ 20002 by have q1 := HI1.out.2.1; have q2 := HI2.out.2.1; have q3 := HI3.out.2.1; omega)
      rw [HXL.out] at hx1
      rw [HXL.out]
      have HN := hidE (show ∃ n, n = (bds P).length from ⟨_, rfl⟩)
      obtain ⟨n, hn⟩ := HN.out
      rw [← hn] at hx1
      rw [← hn]
      have HNE := hidE hn
      clear HD1 HD2 HD3 HB9 HQ9 hb10 hBX hx3 HN hn
      go_wp2
      go_loopg [13, 50] n (fun g v13 v50 wr => ∃ (k : Nat) (av : Option Addr) (cv : Nat) (ys : List Value) (Fs : List (List Sg)), v13 = .slice av ys.length cv ∧ v50 = .int .i64 k ∧ k ≤ n ∧ n - k ≤ g ∧ OwnNI wr w10.heap.size 22 1 (.slice av ys.length cv) ys.length ys ∧ RowX wr ys Fs ∧ BdsAre C' L' O' x ((bds P).take k) Fs ∧ (∀ i, i < Fs.length → (Fs.getD i []).length ≤ 60007) ∧ Below w10.heap.size w10 wr)
      case atStart => exact ⟨0, none, 0, [], [], rfl, rfl, Nat.zero_le _, Nat.le_refl _, OwnNI.nil _ _ _ _, ⟨rfl, fun i hi => by simp at hi⟩, bdsAre_nil _ _ _ _, fun i hi => by simp at hi, Below.refl _ _⟩
      case round =>
        obtain ⟨k, av, cv, ys, Fs, rfl, rfl, hkn, hg, ho, hr, hf, hfl, hb⟩ := hrel
        have HO := hidE ho; have HRX := hidE hr; have HFA := hidE hf; have HFL := hidE hfl; have HB := hidE hb; have HGK := hidE hg
        clear ho hr hf hfl hg
        by_cases hlt : k < n
        · have hlb : k < (bds P).length := by rw [← HNE.out]; exact hlt
          have hlx : k < xs.length := by rw [HXL.out]; exact hlb
          obtain ⟨b, off, rfl, hbz, hcx⟩ := HX3.out (by omega)
          have e0 := hcx k hlx
          have hv := HBX.out.2 k hlx
          rw [← hb.cell hbz] at e0
          have hbr : b < wr.heap.size := Nat.lt_of_lt_of_le hbz hb.size
          have hwz := hb.size
          have HMEM := hidE (show (bds P).getD k .most ∈ bds P by rw [getD_get _ _ _ hlb]; exact List.getElem_mem hlb)
          have HTK := hidE (show (bds P).take (k + 1) = (bds P).take k ++ [(bds P).getD k .most] by rw [List.take_succ_eq_append_getElem hlb, getD_get _ _ _ hlb])
          have hyl : ys.length ≤ 4 := by
            have h1 := HRX.out.1; have h2 := HFA.out.1; have h3 := HL4.out
            rw [List.length_take] at h2; omega
          have HYL := hidE hyl
          have q9 := HQ10.out.past HB.out
          have p0 := q9.cell 0; have p1 := q9.cell 1; have p2 := q9.cell 2; have p3 := q9.cell 3; have pz := q9.lt
          simp at p0 p1 p2 p3
          generalize (bds P).getD k .most = bd at *
          clear hcx hlb hb hyl q9
          cases bd with
          | most =>
            have hv : xs.getD k (.slice none 0 0) = .func (.func 50) #[] #[] := hv
            have HCL := hidE (fun W (hW : Below w10.heap.size w10 W) => bmost_c (C := C') (L := L') (O := O') (x := x) (a1 := b1) (a2 := b2) (a3 := b3) (n1 := n1) (c1 := d1) (n2 := n2) (c2 := d2) (n3 := n3) (c3 := d3) (w := W) HX.out)
            rw [hv] at e0
            clear hv
            go_wp2_with fail
            (with_reducible refine (HCL.out _ ?hWm).mono ?_)
            case hWm => exact HB.out.alloc hwz _
            rintro e w11 ⟨a6, n6, c6, f, er, rfl, hs6, hi6, hb11⟩
            have HB11 := hidE (show Below w10.heap.size w10 w11 from ((HB.out.alloc hwz (Obj.cells #[.func (.func 50) #[] #[]] 68)).trans (hb11.mono (by simp; omega))))
            have HO11 := hidE (HO.out.past (w' := w11) (((Below.refl _ wr).alloc (Nat.le_refl _) (Obj.cells #[.func (.func 50) #[] #[]] 68)).trans (hb11.mono (by simp))))
            have HR11 := hidE (HRX.out.past (w' := w11) (((Below.refl _ wr).alloc (Nat.le_refl _) (Obj.cells #[.func (.func 50) #[] #[]] 68)).trans (hb11.mono (by simp))))
            have hf6 : f.length ≤ 60007 := by have := hi6.1; have := HLN.out; omega
            have HF6 := hidE hf6; have HS6 := hidE hs6
            have hz11 := HB11.out.size
            clear hb11 hf6 HO HRX
            rcases hi6.2 with ⟨rfl, hm6, hk6, hv6⟩ | ⟨rfl, rfl, hk6⟩
            · have HFS := hidE (bdsAre_snoc HFA.out hm6 hk6 hv6)
              clear hi6 hm6 hk6 hv6 hs6 e0 p0 p1 p2 p3 pz
              go_wp2_with (at_builtin; refine list_app_ni _ rfl (.tmp 64) (.tmp 66) 63 rfl w10.heap.size 22 ix (.slice none 0 0) 1 24 Try.underlying63 HI.out HZ0.out HZ1.out HZ2.out rfl (by decide) _ _ _ rfl (HO11.out.past (by (repeat (first | exact Below.refl _ _ | assumption | refine balloc ?_ _ | refine below_drewN ?_ _ | refine bstep (by assumption) ?_ | refine bstep (Past.prop _) ?_ | refine Below.setCell ?_ (by first | exact Nat.le_refl _ | (simp; done) | (simp; omega)) _)))) ⟨_, 0, none⟩ 1 1 [.slice a6 n6 c6] rfl rfl (new_cells_atF _ #[.slice a6 n6 c6] 22 _ (by simp)) (by intro x hx; simp at hx; rcases hx with rfl; rfl) (by unfold maxLen; have := HYL.out; omega) (by have := HYL.out; omega) (by simp; omega) (by intro u hu; simp [Value.cells] at hu; subst hu; rfl) (by intro u hu; simp at hu; subst hu; rfl) ?_; intro v7 w12 hown7 hgrow7; obtain ⟨a7, c7, rfl⟩ := own_sli hown7.1)
              have HR12 := hidE (show RowX w12 (ys ++ [.slice a6 n6 c6]) (Fs ++ [f]) from by
                have hp : Below w11.heap.size w11 (w11.alloc (Obj.cells #[.slice a6 n6 c6] 22)) := (Below.refl _ _).alloc (Nat.le_refl _) _
                have h1 := HR11.out.past hp
                refine RowX.snoc ⟨h1.1, fun i hi => ?_⟩ ?_
                · exact (h1.2 i hi).apart (HO11.out.past hp).2 hgrow7
                · exact (HS6.out.past hp).apart (HO11.out.past hp).2 hgrow7)
              have HB12 := hidE (show Below w10.heap.size w10 w12 from Below.grown (HB11.out.alloc hz11 _) hgrow7 (by simp; omega) (fun k hk => (HO11.out.1.lt k hk).1))
              have HO12 := hidE hown7
              have hye : ys.length + 1 = (ys ++ [Value.slice a6 n6 c6]).length := by simp
              clear hown7 hgrow7 hz11
              go_wp2
              go_roundg (n - (k + 1))
              case measure => have := HGK.out; omega
              case rel =>
                refine ⟨k + 1, a7, c7, _, _, by rw [← hye], by go_num, by omega, Nat.le_refl _, ?_, HR12.out, by rw [HTK.out]; exact HFS.out, fun i hi => ?_, HB12.out⟩
                · have := HO12.out
                  rw [hye] at this
                  exact this
                · rw [getD_snoc]
                  split
                  · rename_i h; exact HFL.out i h
                  · split
                    · exact HF6.out
                    · simp
            · have HE := hidE (freeIs_bad HM.out HNK.out HX.out HI1.out HI2.out HI3.out HMEM.out hk6)
              clear hi6 hk6 hs6 e0 p0 p1 p2 p3 pz
              go_wp2
              go_ret2
              exact freeR_no HE.out (HB10.out.trans (HB11.out.mono HB10.out.size))
          | rest =>
            have hv : xs.getD k (.slice none 0 0) = .func (.func 52) #[] #[] := hv
            have HCL := hidE (fun W (hW : Below w10.heap.size w10 W) => brest_c (C := C') (L := L') (O := O') (x := x) (a1 := b1) (a2 := b2) (a3 := b3) (n1 := n1) (c1 := d1) (n2 := n2) (c2 := d2) (n3 := n3) (c3 := d3) (w := W) (HC1.out.past hW) (HC2.out.past hW) HI1.out.1 HI2.out.1 (by have q1 := HC1.out.len.1; have q2 := HC2.out.len.1; have := HLN.out; omega))
            rw [hv] at e0
            clear hv
            go_wp2_with fail
            (with_reducible refine (HCL.out _ ?hWr).mono ?_)
            case hWr => exact HB.out.alloc hwz _
            rintro e w11 ⟨a6, n6, c6, f, er, rfl, hs6, hi6, hb11⟩
            have HB11 := hidE (show Below w10.heap.size w10 w11 from ((HB.out.alloc hwz (Obj.cells #[.func (.func 52) #[] #[]] 68)).trans (hb11.mono (by simp; omega))))
            have HO11 := hidE (HO.out.past (w' := w11) (((Below.refl _ wr).alloc (Nat.le_refl _) (Obj.cells #[.func (.func 52) #[] #[]] 68)).trans (hb11.mono (by simp))))
            have HR11 := hidE (HRX.out.past (w' := w11) (((Below.refl _ wr).alloc (Nat.le_refl _) (Obj.cells #[.func (.func 52) #[] #[]] 68)).trans (hb11.mono (by simp))))
            have hf6 : f.length ≤ 60007 := by have := hi6.1; have := HLN.out; omega
            have HF6 := hidE hf6; have HS6 := hidE hs6
            have hz11 := HB11.out.size
            clear hb11 hf6 HO HRX
            rcases hi6.2 with ⟨rfl, hm6, hk6, hv6⟩ | ⟨rfl, rfl, hk6⟩
            · have HFS := hidE (bdsAre_snoc HFA.out hm6 hk6 hv6)
              clear hi6 hm6 hk6 hv6 hs6 e0 p0 p1 p2 p3 pz
              go_wp2_with (at_builtin; refine list_app_ni _ rfl (.tmp 64) (.tmp 66) 63 rfl w10.heap.size 22 ix (.slice none 0 0) 1 24 Try.underlying63 HI.out HZ0.out HZ1.out HZ2.out rfl (by decide) _ _ _ rfl (HO11.out.past (by (repeat (first | exact Below.refl _ _ | assumption | refine balloc ?_ _ | refine below_drewN ?_ _ | refine bstep (by assumption) ?_ | refine bstep (Past.prop _) ?_ | refine Below.setCell ?_ (by first | exact Nat.le_refl _ | (simp; done) | (simp; omega)) _)))) ⟨_, 0, none⟩ 1 1 [.slice a6 n6 c6] rfl rfl (new_cells_atF _ #[.slice a6 n6 c6] 22 _ (by simp)) (by intro x hx; simp at hx; rcases hx with rfl; rfl) (by unfold maxLen; have := HYL.out; omega) (by have := HYL.out; omega) (by simp; omega) (by intro u hu; simp [Value.cells] at hu; subst hu; rfl) (by intro u hu; simp at hu; subst hu; rfl) ?_; intro v7 w12 hown7 hgrow7; obtain ⟨a7, c7, rfl⟩ := own_sli hown7.1)
              have HR12 := hidE (show RowX w12 (ys ++ [.slice a6 n6 c6]) (Fs ++ [f]) from by
                have hp : Below w11.heap.size w11 (w11.alloc (Obj.cells #[.slice a6 n6 c6] 22)) := (Below.refl _ _).alloc (Nat.le_refl _) _
                have h1 := HR11.out.past hp
                refine RowX.snoc ⟨h1.1, fun i hi => ?_⟩ ?_
                · exact (h1.2 i hi).apart (HO11.out.past hp).2 hgrow7
                · exact (HS6.out.past hp).apart (HO11.out.past hp).2 hgrow7)
              have HB12 := hidE (show Below w10.heap.size w10 w12 from Below.grown (HB11.out.alloc hz11 _) hgrow7 (by simp; omega) (fun k hk => (HO11.out.1.lt k hk).1))
              have HO12 := hidE hown7
              have hye : ys.length + 1 = (ys ++ [Value.slice a6 n6 c6]).length := by simp
              clear hown7 hgrow7 hz11
              go_wp2
              go_roundg (n - (k + 1))
              case measure => have := HGK.out; omega
              case rel =>
                refine ⟨k + 1, a7, c7, _, _, by rw [← hye], by go_num, by omega, Nat.le_refl _, ?_, HR12.out, by rw [HTK.out]; exact HFS.out, fun i hi => ?_, HB12.out⟩
                · have := HO12.out
                  rw [hye] at this
                  exact this
                · rw [getD_snoc]
                  split
                  · rename_i h; exact HFL.out i h
                  · split
                    · exact HF6.out
                    · simp
            · have HE := hidE (freeIs_bad HM.out HNK.out HX.out HI1.out HI2.out HI3.out HMEM.out hk6)
              clear hi6 hk6 hs6 e0 p0 p1 p2 p3 pz
              go_wp2
              go_ret2
              exact freeR_no HE.out (HB10.out.trans (HB11.out.mono HB10.out.size))
          | lim u =>
            obtain ⟨um, uc⟩ := u
            obtain ⟨pu, hv, hpu⟩ := hv
            have HCL := hidE (fun W (hW : Below w10.heap.size w10 W) => blim_c (C := C') (L := L') (O := O') (x := x) (a1 := b1) (a2 := b2) (a3 := b3) (n1 := n1) (c1 := d1) (n2 := n2) (c2 := d2) (n3 := n3) (c3 := d3) (w := W) (m := um) (c := uc) (p := pu) (HC3.out.past hW) HI3.out.1 (by have q1 := HC3.out.len.1; have := HLN.out; omega) HX.out (hpu.past hW))
            rw [hv] at e0
            clear hv
            go_wp2_with fail
            (with_reducible refine (HCL.out _ ?hWl).mono ?_)
            case hWl => exact HB.out.alloc hwz _
            rintro e w11 ⟨a6, n6, c6, f, er, rfl, hs6, hi6, hb11⟩
            have HB11 := hidE (show Below w10.heap.size w10 w11 from ((HB.out.alloc hwz (Obj.cells #[.func (.func 54) #[] #[.pointer (some ⟨pu, 0, none⟩)]] 68)).trans (hb11.mono (by simp; omega))))
            have HO11 := hidE (HO.out.past (w' := w11) (((Below.refl _ wr).alloc (Nat.le_refl _) (Obj.cells #[.func (.func 54) #[] #[.pointer (some ⟨pu, 0, none⟩)]] 68)).trans (hb11.mono (by simp))))
            have HR11 := hidE (HRX.out.past (w' := w11) (((Below.refl _ wr).alloc (Nat.le_refl _) (Obj.cells #[.func (.func 54) #[] #[.pointer (some ⟨pu, 0, none⟩)]] 68)).trans (hb11.mono (by simp))))
            have hf6 : f.length ≤ 60007 := by have := hi6.1; have := HLN.out; omega
            have HF6 := hidE hf6; have HS6 := hidE hs6
            have hz11 := HB11.out.size
            clear hb11 hf6 HO HRX
            rcases hi6.2 with ⟨rfl, hm6, hk6, hv6⟩ | ⟨rfl, rfl, hk6⟩
            · have HFS := hidE (bdsAre_snoc HFA.out hm6 hk6 hv6)
              clear hi6 hm6 hk6 hv6 hs6 e0 p0 p1 p2 p3 pz
              go_wp2_with (at_builtin; refine list_app_ni _ rfl (.tmp 64) (.tmp 66) 63 rfl w10.heap.size 22 ix (.slice none 0 0) 1 24 Try.underlying63 HI.out HZ0.out HZ1.out HZ2.out rfl (by decide) _ _ _ rfl (HO11.out.past (by (repeat (first | exact Below.refl _ _ | assumption | refine balloc ?_ _ | refine below_drewN ?_ _ | refine bstep (by assumption) ?_ | refine bstep (Past.prop _) ?_ | refine Below.setCell ?_ (by first | exact Nat.le_refl _ | (simp; done) | (simp; omega)) _)))) ⟨_, 0, none⟩ 1 1 [.slice a6 n6 c6] rfl rfl (new_cells_atF _ #[.slice a6 n6 c6] 22 _ (by simp)) (by intro x hx; simp at hx; rcases hx with rfl; rfl) (by unfold maxLen; have := HYL.out; omega) (by have := HYL.out; omega) (by simp; omega) (by intro u hu; simp [Value.cells] at hu; subst hu; rfl) (by intro u hu; simp at hu; subst hu; rfl) ?_; intro v7 w12 hown7 hgrow7; obtain ⟨a7, c7, rfl⟩ := own_sli hown7.1)
              have HR12 := hidE (show RowX w12 (ys ++ [.slice a6 n6 c6]) (Fs ++ [f]) from by
                have hp : Below w11.heap.size w11 (w11.alloc (Obj.cells #[.slice a6 n6 c6] 22)) := (Below.refl _ _).alloc (Nat.le_refl _) _
                have h1 := HR11.out.past hp
                refine RowX.snoc ⟨h1.1, fun i hi => ?_⟩ ?_
                · exact (h1.2 i hi).apart (HO11.out.past hp).2 hgrow7
                · exact (HS6.out.past hp).apart (HO11.out.past hp).2 hgrow7)
              have HB12 := hidE (show Below w10.heap.size w10 w12 from Below.grown (HB11.out.alloc hz11 _) hgrow7 (by simp; omega) (fun k hk => (HO11.out.1.lt k hk).1))
              have HO12 := hidE hown7
              have hye : ys.length + 1 = (ys ++ [Value.slice a6 n6 c6]).length := by simp
              clear hown7 hgrow7 hz11
              go_wp2
              go_roundg (n - (k + 1))
              case measure => have := HGK.out; omega
              case rel =>
                refine ⟨k + 1, a7, c7, _, _, by rw [← hye], by go_num, by omega, Nat.le_refl _, ?_, HR12.out, by rw [HTK.out]; exact HFS.out, fun i hi => ?_, HB12.out⟩
                · have := HO12.out
                  rw [hye] at this
                  exact this
                · rw [getD_snoc]
                  split
                  · rename_i h; exact HFL.out i h
                  · split
                    · exact HF6.out
                    · simp
            · have HE := hidE (freeIs_bad HM.out HNK.out HX.out HI1.out HI2.out HI3.out HMEM.out hk6)
              clear hi6 hk6 hs6 e0 p0 p1 p2 p3 pz
              go_wp2
              go_ret2
              exact freeR_no HE.out (HB10.out.trans (HB11.out.mono HB10.out.size))
        · have hkn2 : k = n := by omega
          have HF := hidE (show BdsAre C' L' O' x (bds P) Fs by have := HFA.out; rw [hkn2, HNE.out, List.take_length] at this; exact this)
          have hl0 : 0 < (bds P).length := by simp [bds]
          have HLW := hidE (fun w hX hR => lowest_c Fs ys (.slice av ys.length cv) 60007 w (by rw [HF.out.1]; exact hl0) (by rw [HF.out.1]; exact HL4.out) hX hR (fun i hi => ⟨(HF.out.2 i (by rw [← HF.out.1]; exact hi)).1, HFL.out i hi⟩) (by omega))
          have HSX := hidE (sliX_own HO.out.1)
          clear hkn2 hl0 hb
          go_wp2_with fail
          ((with_reducible refine (HLW.out _ HSX.out HRX.out).mono ?_); rintro e w11 ⟨a6, n6, c6, f, rfl, hs6, hmi, hfl, hb11⟩)
          have HE := hidE (freeIs_good HM.out HNK.out HX.out HI1.out HI2.out HI3.out HF.out hmi)
          have HS6 := hidE hs6; have HFN := hidE (show f.length ≤ 400000 by omega)
          have HB11 := hidE (show Below w.heap.size w w11 from HB10.out.trans ((HB.out.trans (hb11.mono HB.out.size)).mono HB10.out.size))
          clear hs6 hmi hfl hb11
          go_wp2
          go_ret2
          exact ⟨_, _, _, f, 0, rfl, HS6.out, HE.out, HFN.out, HB11.out⟩
  · have HE := hidE (freeIs_kind (x := x) HM.out hk)
    rw [hk] at HK
    clear m1 m2 m3 hk
    go_enter Try.func8, Try.ntmps8
    go_wp2_with fail
    ((with_reducible refine (H1.out _ HA1.out).mono ?_); rintro e w1 ⟨rfl, hb1⟩)
    go_wp2_with fail
    ((with_reducible refine (H2.out _ (HA2.out.past hb1)).mono ?_); rintro e w2 ⟨rfl, hb2⟩)
    have hb12 := bstep hb2 hb1
    go_wp2_with fail
    ((with_reducible refine (H3.out _ (HA3.out.past hb12)).mono ?_); rintro e w3 ⟨rfl, hb3⟩)
    have hb13 := bstep hb3 hb12
    clear hb1 hb2 hb12 hb3
    go_wp2_with fail
    ((with_reducible refine (HK.out _ (HA4.out.past hb13)).mono ?_); rintro e w4 ⟨rfl, hb4⟩)
    go_wp2
    go_ret2
    exact freeR_no HE.out (by (repeat (first | exact Below.refl _ _ | assumption | refine balloc ?_ _ | refine below_drewN ?_ _ | refine bstep (by assumption) ?_ | refine bstep (Past.prop _) ?_ | refine Below.setCell ?_ (by first | exact Nat.le_refl _ | (simp; done) | (simp; omega)) _)))
theorem free_s {n1 n2 n3 n4 : Nat} (h1 : SliS w (.slice a1 n1 c1) C) (h2 : SliS w (.slice a2 n2 c2) L) (h3 : SliS w (.slice a3 n3 c3) O) (h4 : ArgPs w a4 P) (h5 : n4 = P.length) (hl1 : n1 ≤ 10000) (hl2 : n2 ≤ 10000) (hl3 : n3 ≤ 10000) (hl4 : n4 ≤ 1000000) :
    Calls Try.prog 8 #[.slice a1 n1 c1, .slice a2 n2 c2, .slice a3 n3 c3, .slice a4 n4 c4, .int .i64 x] w (FreeR P C L O x w) := by
  obtain ⟨e1, q1, q2, q3⟩ := h1.len; obtain ⟨e2, q4, q5, q6⟩ := h2.len; obtain ⟨e3, q7, q8, q9⟩ := h3.len
  subst e1; subst e2; subst e3; subst h5
  cases hm : (mayB C && mayB L && mayB O)
  · exact free_no q3 q6 q9 hl1 hl2 hl3 hm
  · exact free_yes q3 q6 q9 h4 hl1 hl2 hl3 hl4 ⟨q1, q2⟩ ⟨q4, q5⟩ ⟨q7, q8⟩ hm
end
end Go.Proofs.Ytjhhcljbmnomlaa

namespace Go.Proofs.Ytjhhcljbmnomlaa
open Go.ChangeShapes Go.WideShapes Go.ChangeAt Go.RowKit
attribute [local irreducible] Go.Calls

def takeS (F : List Sg) (x d : Int) (v : Int × Int) : List Sg × Int := if fitE F x d v = 0 then rangeS F x (x + d) (-v.1, -v.2) else ([], fitE F x d v)
theorem scl_neg {m c : Int} (h : okV m c = true) : sclS m c (-1) = (-m, -c, 0) := by
  have h1 := okV_iff.1 h
  unfold sclS
  have e1 : m * -1 = -m := by omega
  have e2 : c * -1 = -c := by omega
  rw [h, e1, e2]
  exact gate_true (by have : okV (-m) (-c) = true := okV_iff.2 (by omega); rw [this]; rfl)
theorem take_c (F : List Sg) (x d m c : Int) (a : Option Addr) (cap : Nat) (w : World) (hF : F.length ≤ cap) (hc : cap ≤ 9223372036854775807) (hl : F.length ≤ 999999980) (hA : ArgS w a F) :
    Calls Try.prog 18 #[.slice a F.length cap, .int .i64 x, .int .i64 d, V m c] w (OfIs w (takeS F x d (m, c)).1 (takeS F x d (m, c)).2) := by
  have HFA := hidE (fun w hA => ffault_c F x d m c a cap w (by omega) hA)
  have HA := hidE hA
  clear hA
  by_cases h0 : fitE F x d (m, c) = 0
  · obtain ⟨q1, q2, q3, q4⟩ := fitE_zero h0
    have q3 := nowB_iff.1 q3
    have HE := hidE (show takeS F x d (m, c) = rangeS F x (x + d) (-m, -c) by unfold takeS; rw [if_pos h0])
    have HR := hidE (fun w hA => crange_c F x (x + d) (-m) (-c) a cap w hF hc hl hA)
    have HC := hidE (fun w => scl_c m c (-1) w (by omega))
    rw [scl_neg q4] at HC
    have wq : IntKind.i64.wrap (x + d) = x + d := IntWalk.i64_in _ (by omega)
    rw [h0] at HFA
    rw [HE.out]
    clear h0 q1 q2 q3 q4 HE
    generalize rangeS F x (x + d) (-m, -c) = r at *
    go_enter Try.func18, Try.ntmps18
    go_wp2_with fail
    ((with_reducible refine (HFA.out _ (HA.out.past (by (repeat (first | exact Below.refl _ _ | assumption | refine balloc ?_ _ | refine below_drewN ?_ _ | refine bstep (by assumption) ?_ | refine bstep (Past.prop _) ?_ | refine Below.setCell ?_ (by first | exact Nat.le_refl _ | (simp; done) | (simp; omega)) _))))).mono ?_); rintro e w1 ⟨rfl, hb1⟩)
    have hB1 : Below w.heap.size w w1 := by (repeat (first | exact Below.refl _ _ | assumption | refine balloc ?_ _ | refine below_drewN ?_ _ | refine bstep (by assumption) ?_ | refine bstep (Past.prop _) ?_ | refine Below.setCell ?_ (by first | exact Nat.le_refl _ | (simp; done) | (simp; omega)) _))
    have B0 := (Blk.made w #[.int .i64 m, .int .i64 c] 27).past hb1
    have b0 := B0.cell 0; have b1 := B0.cell 1; have bz := B0.lt
    simp at b0 b1
    clear hb1
    go_wp2_with fail
    ((with_reducible refine (HC.out _).mono ?_); rintro e w2 ⟨rfl, hb2⟩)
    have hB2 : Below w.heap.size w w2 := bstep hb2 hB1
    clear hb2 b0 b1 bz B0
    go_wp2_with fail
    ((with_reducible refine (HR.out _ (HA.out.past (by (repeat (first | exact Below.refl _ _ | assumption | refine balloc ?_ _ | refine below_drewN ?_ _ | refine bstep (by assumption) ?_ | refine bstep (Past.prop _) ?_ | refine Below.setCell ?_ (by first | exact Nat.le_refl _ | (simp; done) | (simp; omega)) _))))).mono ?_); rintro e w3 ⟨v3, rfl, hv3, hb3⟩)
    go_wp2
    go_ret2
    exact ⟨_, rfl, hv3, by (repeat (first | exact Below.refl _ _ | assumption | refine balloc ?_ _ | refine below_drewN ?_ _ | refine bstep (by assumption) ?_ | refine bstep (Past.prop _) ?_ | refine Below.setCell ?_ (by first | exact Nat.le_refl _ | (simp; done) | (simp; omega)) _))⟩
  · have e0 : (fitE F x d (m, c) == 0) = false := beq_eq_false_iff_ne.2 h0
    have HE := hidE (show takeS F x d (m, c) = ([], fitE F x d (m, c)) by unfold takeS; rw [if_neg h0])
    rw [HE.out]
    clear h0 HE
    generalize fitE F x d (m, c) = k at *
    go_enter Try.func18, Try.ntmps18
    go_wp2_with fail
    ((with_reducible refine (HFA.out _ (HA.out.past (by (repeat (first | exact Below.refl _ _ | assumption | refine balloc ?_ _ | refine below_drewN ?_ _ | refine bstep (by assumption) ?_ | refine bstep (Past.prop _) ?_ | refine Below.setCell ?_ (by first | exact Nat.le_refl _ | (simp; done) | (simp; omega)) _))))).mono ?_); rintro e w1 ⟨rfl, hb1⟩)
    go_wp2
    go_ret2
    exact ⟨_, rfl, sliS_nil _, by (repeat (first | exact Below.refl _ _ | assumption | refine balloc ?_ _ | refine below_drewN ?_ _ | refine bstep (by assumption) ?_ | refine bstep (Past.prop _) ?_ | refine Below.setCell ?_ (by first | exact Nat.le_refl _ | (simp; done) | (simp; omega)) _))⟩
theorem take_s {F r : List Sg} {x d m c er : Int} {a : Option Addr} {n cap : Nat} {w : World} (h1 : SliS w (.slice a n cap) F) (hl : n ≤ 1000000) (he : takeS F x d (m, c) = (r, er)) :
    Calls Try.prog 18 #[.slice a n cap, .int .i64 x, .int .i64 d, V m c] w (OfIs w r er) := by
  obtain ⟨a', c', e, h2, h3, h4⟩ := h1
  cases e
  have := take_c F x d m c a cap w h2 h3 (by omega) h4
  rw [he] at this; exact this
/-- What the closure of Most writes. -/
theorem mostcl_c (m c l1 l2 : Int) (p q : Nat) (n : Int) (w : World) (hp : Blk w p #[.int .i64 m, .int .i64 c] 27) (hq : Blk w q #[.int .i64 n] 2) :
    Calls Try.prog 42 #[V l1 l2, .pointer (some ⟨p, 0, none⟩), .pointer (some ⟨q, 0, none⟩)] w fun e w' => (∃ v, e = .returned v) ∧ (Blk w' q #[.int .i64 (unS l1 l2 m c).1] 2 ∧ Below q w w') := by
  have p0 := hp.cell 0; have p1 := hp.cell 1; have pz := hp.lt; have qz := hq.lt
  simp at p0 p1
  have HQ := hidE hq; have HQZ := hidE (Nat.le_of_lt qz); have HU := hidE (fun w => un_c l1 l2 m c w)
  clear hq
  generalize unS l1 l2 m c = u at *
  go_enter Try.func42, Try.ntmps42
  go_wp2_with fail
  ((with_reducible refine (HU.out _).mono ?_); rintro e w1 ⟨rfl, hb1⟩)
  have hB : Below w.heap.size w w1 := by (repeat (first | exact Below.refl _ _ | assumption | refine balloc ?_ _ | refine below_drewN ?_ _ | refine bstep (by assumption) ?_ | refine bstep (Past.prop _) ?_ | refine Below.setCell ?_ (by first | exact Nat.le_refl _ | (simp; done) | (simp; omega)) _))
  have B1 := HQ.out.past hB
  have q0 := B1.cell 0; have qf := B1.free; have qz1 := B1.lt
  simp at q0
  have HB := hidE hB
  clear p0 p1 pz hb1 hB
  go_wp2
  go_end0
  exact ⟨⟨_, rfl⟩, by simpa using B1.set 0 (.int .i64 u.1), Below.setCell (p := ⟨q, 0, none⟩) (Below.mono HB.out HQZ.out) (Nat.le_refl _) _⟩
theorem most_c (F : List Sg) (x d m c : Int) (a : Option Addr) (cap : Nat) (w : World) (hl : F.length ≤ 1000000000) (hA : ArgS w a F) :
    Calls Try.prog 19 #[.slice a F.length cap, .int .i64 x, .int .i64 d, V m c] w fun e w' => e = .returned (IE (mostS F x d (m, c))) ∧ Below w.heap.size w w' := by
  obtain ⟨w0, hw0⟩ : ∃ w0, w0 = (w.alloc (Obj.cells #[.int .i64 m, .int .i64 c] 27)).alloc (Obj.cells #[.int .i64 0] 2) := ⟨_, rfl⟩
  have hz0 : w0.heap.size = w.heap.size + 2 := by rw [hw0]; simp
  have hbw : Below w.heap.size w w0 := by rw [hw0]; (repeat (first | exact Below.refl _ _ | assumption | refine balloc ?_ _ | refine below_drewN ?_ _ | refine bstep (by assumption) ?_ | refine bstep (Past.prop _) ?_ | refine Below.setCell ?_ (by first | exact Nat.le_refl _ | (simp; done) | (simp; omega)) _))
  have B0 : Blk w0 w.heap.size #[.int .i64 m, .int .i64 c] 27 := by rw [hw0]; exact (Blk.made _ _ _).alloc _
  have B1 : Blk w0 (w.heap.size + 1) #[.int .i64 0] 2 := by rw [hw0]; exact Blk.made_at _ _ _ _ (by simp)
  obtain ⟨N, hN⟩ : ∃ N, N = if fitE F x d (m, c) = 0 then (unS (lowN F x d.toNat).1 (lowN F x d.toNat).2 m c).1 else 0 := ⟨_, rfl⟩
  have HX := hidE ((exam_mo F x d m c a cap w.heap.size (w.heap.size + 1) w0 (fun W' => Blk W' (w.heap.size + 1) #[.int .i64 (unS (lowN F x d.toNat).1 (lowN F x d.toNat).2 m c).1] 2 ∧ Below (w.heap.size + 1) w0 W') hl (hA.past hbw) (fun h W hb =>
    (mostcl_c m c (lowN F x d.toNat).1 (lowN F x d.toNat).2 w.heap.size (w.heap.size + 1) 0 W (B0.past hb) (B1.past hb)).mono fun e W' ⟨h1, h2, h3⟩ => ⟨h1, h2, (hb.mono (by omega)).trans h3⟩)).mono
    (R' := fun e w' => e = .returned (.int .i64 (fitE F x d (m, c))) ∧ Blk w' (w.heap.size + 1) #[.int .i64 N] 2 ∧ Below (w.heap.size + 1) w0 w') (fun e w' ⟨h1, h2, h3⟩ => by
      refine ⟨h1, ?_⟩
      by_cases h0 : fitE F x d (m, c) = 0
      · rw [hN, if_pos h0]; exact h2 h0
      · rw [hN, if_neg h0]; exact ⟨B1.past (h3 h0), (h3 h0).mono (by omega)⟩))
  have HE := hidE (show mostS F x d (m, c) = if fitE F x d (m, c) = 5 then (0, 5) else if leB 1 1 m c then (N, fitE F x d (m, c)) else (0, 2) by
    unfold mostS
    by_cases h5 : fitE F x d (m, c) = 5
    · rw [if_pos h5, if_pos h5]
    · rw [if_neg h5, if_neg h5]
      by_cases hu : m < 1 ∨ c < 1
      · have : leB 1 1 m c = false := leB_not.2 (by omega)
        rw [if_pos hu, this]; rfl
      · have : leB 1 1 m c = true := leB_iff.2 (by omega)
        rw [if_neg hu, this, if_pos rfl, hN]
        by_cases h0 : fitE F x d (m, c) = 0
        · rw [if_pos h0, if_pos h0, h0]
        · rw [if_neg h0, if_neg h0])
  have HBW := hidE hbw
  have HB0 := hidE B0
  have b0 := B0.cell 0; have b1 := B0.cell 1; have bz := B0.lt; have c0 := B1.cell 0; have cz := B1.lt
  simp at b0 b1 c0
  rw [HE.out]
  have hN5 : fitE F x d (m, c) = 5 → N = 0 := fun h => by rw [hN, h]; rfl
  clear hA hbw hN HE
  generalize fitE F x d (m, c) = k at *
  by_cases h5 : k = 5
  · have e5 : (k != 5) = false := by rw [h5]; decide
    have H5 := hidE h5
    obtain rfl := hN5 h5
    rw [if_pos h5]
    clear h5 hN5
    go_enter Try.func19, Try.ntmps19
    go_upto_region 2 with fail
    rw [← hw0]
    clear hw0
    go_wp2_with fail
    ((with_reducible refine (HX.out).mono ?_); rintro e w1 ⟨rfl, hq1, hq2⟩)
    have HQ2 := hidE hq2
    clear b0 b1 bz c0 cz B0 B1 hq2 HX
    have c0 := hq1.cell 0; have cz := hq1.lt
    simp at c0
    go_wp2
    go_ret2
    exact ⟨by have e := H5.out; subst e; rfl, HBW.out.trans (HQ2.out.mono (by omega))⟩
  · have e5 : (k != 5) = true := bne_iff_ne.2 h5
    rw [if_neg h5]
    clear h5 hN5
    cases hu : leB 1 1 m c
    all_goals
      go_enter Try.func19, Try.ntmps19
      go_upto_region 2 with fail
      rw [← hw0]
      clear hw0
      go_wp2_with fail
      ((with_reducible refine (HX.out).mono ?_); rintro e w1 ⟨rfl, hq1, hq2⟩)
      have P0 := HB0.out.below hq2 (by omega)
      have HQ2 := hidE hq2; have HQ1 := hidE hq1
      clear b0 b1 bz c0 cz B0 B1 hq2 HX
      have b0 := P0.cell 0; have b1 := P0.cell 1; have bz := P0.lt; have c0 := hq1.cell 0; have cz := hq1.lt
      simp at b0 b1 c0
      clear hq1 P0
      go_wp2_with fail
      ((with_reducible refine (le_eq hu).mono ?_); rintro e w2 ⟨rfl, hb2⟩)
      have hB2 : Below w.heap.size w w2 := bstep hb2 (HBW.out.trans (HQ2.out.mono (by omega)))
      have q1 := HQ1.out.past hb2
      clear b0 b1 bz c0 cz hb2
      have c0 := q1.cell 0; have cz := q1.lt
      simp at c0
      go_wp2
      go_ret2
      exact ⟨rfl, hB2⟩
theorem most_eq {F : List Sg} {x d m c : Int} {a : Option Addr} {n cap : Nat} {w : World} {r : Int × Int} (h1 : SliS w (.slice a n cap) F) (hl : n ≤ 1000000) (he : mostS F x d (m, c) = r) :
    Calls Try.prog 19 #[.slice a n cap, .int .i64 x, .int .i64 d, V m c] w fun e w' => e = .returned (IE r) ∧ Below w.heap.size w w' := by
  obtain ⟨a', c', e, h2, h3, h4⟩ := h1
  cases e; subst he
  exact most_c F x d m c a cap w (by omega) h4
end Go.Proofs.Ytjhhcljbmnomlaa

namespace Go.Proofs.Ytjhhcljbmnomlaa
open Go.ChangeShapes Go.WideShapes Go.ChangeAt Go.RowKit

theorem rmay (a b : Int) (w : World) : Calls Try.prog 94 #[V a b] w fun e w' => e = .returned (.bool (okV a b)) ∧ Below w.heap.size w w' := by
  go_enter Try.func94, Try.ntmps94
  go_wp2
  all_goals
    go_ret
    refine ⟨ret_bool (by unfold okV; rw [Bool.eq_iff_iff]; simp; omega), ?_⟩
    (repeat (first | exact Below.refl _ _ | assumption | refine balloc ?_ _ | refine below_drewN ?_ _ | refine bstep (by assumption) ?_ | refine bstep (Past.prop _) ?_ | refine Below.setCell ?_ (by first | exact Nat.le_refl _ | (simp; done) | (simp; omega)) _))
theorem rmay_eq {a b : Int} {r : Bool} {w : World} (h : okV a b = r) : Calls Try.prog 94 #[V a b] w fun e w' => e = .returned (.bool r) ∧ Below w.heap.size w w' := h ▸ rmay a b w
end Go.Proofs.Ytjhhcljbmnomlaa

namespace Go.Proofs.Ytjhhcljbmnomlaa
open Go.ChangeShapes Go.WideShapes Go.ChangeAt Go.RowKit
attribute [local irreducible] Go.Calls

theorem rin_c (s : Sg) (w : World) : Calls Try.prog 86 #[S s.1 s.2.1 s.2.2] w fun e w' => e = .returned (.bool (okS s)) ∧ Below w.heap.size w w' := by
  obtain ⟨x, m, c⟩ := s
  show Calls _ _ #[S x m c] _ _
  by_cases h1 : -1125899906842624 ≤ x
  · by_cases h2 : x ≤ 1125899906842624
    · have e : okS (x, m, c) = okV m c := by
        have : okT x = true := okT_iff.2 ⟨h1, h2⟩
        unfold okS; simp only [this, Bool.true_and]
      rw [e]
      have d1 : decide (-1125899906842624 ≤ x) = true := decide_eq_true h1
      have d2 : decide (x ≤ 1125899906842624) = true := decide_eq_true h2
      clear e
      go_enter Try.func86, Try.ntmps86
      go_wp2_with (go_at_call 94; ((with_reducible refine (rmay m c _).mono ?_); rintro e w' ⟨rfl, hb⟩; obtain ⟨hc, hf⟩ := bcell hb))
      go_ret
      exact ⟨rfl, by (repeat (first | exact Below.refl _ _ | assumption | refine balloc ?_ _ | refine below_drewN ?_ _ | refine bstep (by assumption) ?_ | refine bstep (Past.prop _) ?_ | refine Below.setCell ?_ (by first | exact Nat.le_refl _ | (simp; done) | (simp; omega)) _))⟩
    · have e : okS (x, m, c) = false := by
        have : okT x = false := decide_eq_false (by omega)
        unfold okS; simp only [this, Bool.false_and]
      rw [e]
      have d1 : decide (-1125899906842624 ≤ x) = true := decide_eq_true h1
      have d2 : decide (x ≤ 1125899906842624) = false := decide_eq_false h2
      clear e
      go_enter Try.func86, Try.ntmps86
      go_wp2
      go_ret
      exact ⟨rfl, by (repeat (first | exact Below.refl _ _ | assumption | refine balloc ?_ _ | refine below_drewN ?_ _ | refine bstep (by assumption) ?_ | refine bstep (Past.prop _) ?_ | refine Below.setCell ?_ (by first | exact Nat.le_refl _ | (simp; done) | (simp; omega)) _))⟩
  · have e : okS (x, m, c) = false := by
      have : okT x = false := decide_eq_false (by omega)
      unfold okS; simp only [this, Bool.false_and]
    rw [e]
    have d1 : decide (-1125899906842624 ≤ x) = false := decide_eq_false h1
    clear e
    go_enter Try.func86, Try.ntmps86
    go_wp2
    go_ret
    exact ⟨rfl, by (repeat (first | exact Below.refl _ _ | assumption | refine balloc ?_ _ | refine below_drewN ?_ _ | refine bstep (by assumption) ?_ | refine bstep (Past.prop _) ?_ | refine Below.setCell ?_ (by first | exact Nat.le_refl _ | (simp; done) | (simp; omega)) _))⟩
set_option maxHeartbeats 1000000 in
theorem rsame_c (l r : List Sg) (a a' : Option Addr) (cap cap' : Nat) (w : World) (hl : l.length ≤ 9223372036854775807) (hr : r.length ≤ 9223372036854775807) (hA : ArgS w a l) (hA' : ArgS w a' r) :
    Calls Try.prog 14 #[.slice a l.length cap, .slice a' r.length cap'] w fun e w' => e = .returned (.bool (sameB l r)) ∧ Below w.heap.size w w' := by
  have HA := hidE hA; have HA' := hidE hA'; clear hA hA'
  by_cases hlen : l.length = r.length
  · have e1 : ((l.length : Int) != (r.length : Int)) = false := by rw [bne_eq_false_iff_eq]; omega
    have e2 : ((l.length : Int) == (r.length : Int)) = true := beq_iff_eq.2 (by omega)
    have HL := hidE hlen
    have le1 : l.length ≤ r.length := by omega
    clear hlen
    go_enter Try.func14, Try.ntmps14
    go_wp2
    go_loopg [5] l.length (fun g vi wr => ∃ k : Nat, k ≤ l.length ∧ l.length - k ≤ g ∧ vi = .int .i64 k ∧ (∀ i, i < k → ats l i = ats r i ∧ vls l i = vls r i) ∧ Below w.heap.size w wr)
    case atStart => exact ⟨0, Nat.zero_le _, by omega, rfl, fun i hi => by omega, Below.refl _ _⟩
    case round =>
      obtain ⟨k, hk, hg, rfl, hs, hb⟩ := hrel
      have HS := hidE hs; have HB := hidE hb; clear hs hb
      by_cases hlt : k < l.length
      · obtain ⟨b, off, rfl, hb, hc⟩ := (HA.out.past HB.out) (by omega)
        obtain ⟨c0, c1, c2⟩ := hc.get hlt
        obtain ⟨b', off', rfl, hb', hc'⟩ := (HA'.out.past HB.out) (by omega)
        obtain ⟨d0, d1, d2⟩ := hc'.get (i := k) (by omega)
        clear hc hc'
        by_cases hne : ats l k = ats r k ∧ (vls l k).1 = (vls r k).1 ∧ (vls l k).2 = (vls r k).2
        · have HX := hidE (show ∀ i, i < k + 1 → ats l i = ats r i ∧ vls l i = vls r i from fun i hi => by
            by_cases e : i = k
            · rw [e]; exact ⟨hne.1, Prod.ext hne.2.1 hne.2.2⟩
            · exact HS.out i (by omega))
          obtain ⟨n1, n2, n3⟩ := hne
          rw [← n1] at d0; rw [← n2] at d1; rw [← n3] at d2
          clear n1 n2 n3
          generalize ats l k = u at *
          generalize vls l k = v at *
          go_wp2
          go_quiet (fail)
          go_wp2
          go_roundg (l.length - (k + 1))
          case measure => omega
          case rel => exact ⟨k + 1, by omega, Nat.le_refl _, by go_num, HX.out, by have := HB.out; (repeat (first | exact Below.refl _ _ | assumption | refine balloc ?_ _ | refine below_drewN ?_ _ | refine bstep (by assumption) ?_ | refine bstep (Past.prop _) ?_ | refine Below.setCell ?_ (by first | exact Nat.le_refl _ | (simp; done) | (simp; omega)) _))⟩
        · have HX := hidE (show sameB l r = false from same_f (i := k) (by
            by_cases e : ats l k = ats r k
            · right; intro h; exact hne ⟨e, by rw [h], by rw [h]⟩
            · exact .inl e))
          by_cases n1 : ats l k = ats r k
          · by_cases n2 : (vls l k).1 = (vls r k).1
            · have n3 : ((vls l k).2 == (vls r k).2) = false := beq_eq_false_iff_ne.2 fun h => hne ⟨n1, n2, h⟩
              rw [← n1] at d0; rw [← n2] at d1
              clear n1 n2 hne
              generalize ats l k = u at *
              generalize vls l k = v at *
              generalize vls r k = v' at *
              go_wp2
              go_quiet (fail)
              go_wp2
              go_ret
              exact ⟨ret_bool (by rw [HX.out]), by have := HB.out; (repeat (first | exact Below.refl _ _ | assumption | refine balloc ?_ _ | refine below_drewN ?_ _ | refine bstep (by assumption) ?_ | refine bstep (Past.prop _) ?_ | refine Below.setCell ?_ (by first | exact Nat.le_refl _ | (simp; done) | (simp; omega)) _))⟩
            · have n3 : ((vls l k).1 == (vls r k).1) = false := beq_eq_false_iff_ne.2 n2
              rw [← n1] at d0
              clear n1 n2 hne
              generalize ats l k = u at *
              generalize vls l k = v at *
              generalize vls r k = v' at *
              go_wp2
              go_quiet (fail)
              go_wp2
              go_ret
              exact ⟨ret_bool (by rw [HX.out]), by have := HB.out; (repeat (first | exact Below.refl _ _ | assumption | refine balloc ?_ _ | refine below_drewN ?_ _ | refine bstep (by assumption) ?_ | refine bstep (Past.prop _) ?_ | refine Below.setCell ?_ (by first | exact Nat.le_refl _ | (simp; done) | (simp; omega)) _))⟩
          · have n3 : (ats l k == ats r k) = false := beq_eq_false_iff_ne.2 n1
            clear n1 hne
            generalize ats l k = u at *
            generalize vls l k = v at *
            generalize ats r k = u' at *
            generalize vls r k = v' at *
            go_wp2
            go_quiet (fail)
            go_wp2
            go_ret
            exact ⟨ret_bool (by rw [HX.out]), by have := HB.out; (repeat (first | exact Below.refl _ _ | assumption | refine balloc ?_ _ | refine below_drewN ?_ _ | refine bstep (by assumption) ?_ | refine bstep (Past.prop _) ?_ | refine Below.setCell ?_ (by first | exact Nat.le_refl _ | (simp; done) | (simp; omega)) _))⟩
      · have hk' : k = l.length := by omega
        subst hk'
        have HX := hidE (same_t HL.out HS.out)
        go_wp2
        go_ret
        exact ⟨ret_bool (by rw [HX.out]), HB.out⟩
  · have e1 : ((l.length : Int) != (r.length : Int)) = true := bne_iff_ne.2 (by omega)
    have e2 : ((l.length : Int) == (r.length : Int)) = false := beq_eq_false_iff_ne.2 (by omega)
    have HX := hidE (show sameB l r = false from decide_eq_false (fun e => hlen (by rw [e])))
    clear hlen
    go_enter Try.func14, Try.ntmps14
    go_wp2
    go_ret
    exact ⟨ret_bool (by rw [HX.out]), Below.refl _ _⟩

set_option maxHeartbeats 1000000 in
theorem rraw_c (l : List Sg) (a : Option Addr) (cap : Nat) (t : Int) (w : World) (hl : l.length ≤ 9223372036854775807) (hA : ArgS w a l) :
    Calls Try.prog 88 #[.slice a l.length cap, .int .i64 t] w fun e w' => e = .returned (V (rawAt l t).1 (rawAt l t).2) ∧ Below w.heap.size w w' := by
  have HA := hidE hA; clear hA
  go_enter Try.func88, Try.ntmps88
  go_wp2
  go_loopg [6] l.length (fun g vi wr => ∃ k : Nat, k ≤ l.length ∧ l.length - k ≤ g ∧ vi = .int .i64 k ∧ Below w.heap.size w wr ∧ Blk wr (w.heap.size + 1) #[.int .i64 (rawAt (l.take k) t).1, .int .i64 (rawAt (l.take k) t).2] 27 ∧ Blk wr w.heap.size #[.int .i64 0, .int .i64 0] 27)
  case atStart => exact ⟨0, Nat.zero_le _, by omega, rfl, by (repeat (first | exact Below.refl _ _ | assumption | refine balloc ?_ _ | refine below_drewN ?_ _ | refine bstep (by assumption) ?_ | refine bstep (Past.prop _) ?_ | refine Below.setCell ?_ (by first | exact Nat.le_refl _ | (simp; done) | (simp; omega)) _)), Blk.made_at _ _ _ _ (by simp), (Blk.made _ _ _).alloc _⟩
  case round =>
    obtain ⟨k, hk, hg, rfl, hb, h1, h0⟩ := hrel
    have c10 := h1.cell 0; have c11 := h1.cell 1; have f1 := h1.free; have c00 := h0.cell 0; have c01 := h0.cell 1; have f0 := h0.free; have z1 := h1.lt; have z0 := h0.lt
    simp at c10 c11 c00 c01
    by_cases hlt : k < l.length
    · have HST := hidE (rawAt_step (t := t) hlt)
      obtain ⟨b, off, rfl, hbb, hc⟩ := (HA.out.past hb) (by omega)
      have hbw : b < w.heap.size := by
        obtain ⟨b', off', e, hb', _⟩ := HA.out (by omega)
        simp at e; omega
      obtain ⟨d0, d1, d2⟩ := hc.get hlt
      clear hc
      by_cases hq : ats l k = t
      · have HS := hidE (show rawAt (l.take (k + 1)) t = vls l k by rw [HST.out, if_pos hq])
        have d3 : (ats l k == t) = true := beq_iff_eq.2 hq
        have hn1 : b ≠ w.heap.size := by omega
        have hn2 : b ≠ w.heap.size + 1 := by omega
        clear hq HST c00 c01
        generalize ats l k = u at *
        generalize vls l k = v at *
        generalize rawAt (l.take k) t = q at *
        go_wp2
        go_roundg (l.length - (k + 1))
        case measure => omega
        case rel => exact ⟨k + 1, by omega, Nat.le_refl _, by go_num, by (repeat (first | exact Below.refl _ _ | assumption | refine balloc ?_ _ | refine below_drewN ?_ _ | refine bstep (by assumption) ?_ | refine bstep (Past.prop _) ?_ | refine Below.setCell ?_ (by first | exact Nat.le_refl _ | (simp; done) | (simp; omega)) _)), by rw [HS.out]; exact (h1.set 0 _).set 1 _, (h0.other (by omega) _).other (by omega) _⟩
      · have HS := hidE (show rawAt (l.take (k + 1)) t = rawAt (l.take k) t by rw [HST.out, if_neg hq])
        have d3 : (ats l k == t) = false := beq_eq_false_iff_ne.2 hq
        clear hq HST
        generalize ats l k = u at *
        go_wp2
        go_roundg (l.length - (k + 1))
        case measure => omega
        case rel => exact ⟨k + 1, by omega, Nat.le_refl _, by go_num, hb, by rw [HS.out]; exact h1, h0⟩
    · have hk' : k = l.length := by omega
      subst hk'
      have e : rawAt (l.take l.length) t = rawAt l t := by rw [List.take_length]
      rw [e] at c10 c11
      clear e
      generalize hq : rawAt l t = q at *
      have HQ := hidE hq; clear hq
      go_wp2
      have B0 := (h0.set 0 (.int .i64 q.1)).set 1 (.int .i64 q.2)
      have g0 := B0.cell 0; have g1 := B0.cell 1
      simp at g0 g1
      refine bodyPost_ret (v := V q.1 q.2) (by simp [results, Try.results88, go_sem, g0, g1]) rfl ⟨by rw [HQ.out], ?_⟩
      (repeat (first | exact Below.refl _ _ | assumption | refine balloc ?_ _ | refine below_drewN ?_ _ | refine bstep (by assumption) ?_ | refine bstep (Past.prop _) ?_ | refine Below.setCell ?_ (by first | exact Nat.le_refl _ | (simp; done) | (simp; omega)) _))
end Go.Proofs.Ytjhhcljbmnomlaa

namespace Go.Proofs.Ytjhhcljbmnomlaa
open Go.ChangeShapes Go.WideShapes Go.ChangeAt Go.RowKit
attribute [local irreducible] Go.Calls

theorem Try.infoI64 : (Try.prog.info? 2).map (fun i => (i.zero, i.size, i.bytes)) = some (some (.int .i64 0), 1, 8) := by kernel_rfl

/-- The cells of a list of numbers. -/
def cellsI (l : List Int) : List Value := l.map (.int .i64)
theorem cellsI_get {l : List Int} {i : Nat} (h : i < l.length) : (cellsI l)[i]? = some (.int .i64 (l.getD i 0)) := by
  unfold cellsI
  rw [List.getElem?_map, List.getElem?_eq_getElem h, getD_get _ _ _ h]; rfl
theorem cellsI_one (l : List Int) : ∀ u ∈ cellsI l, u.oneCell' = true := fun u hu => by
  unfold cellsI at hu
  rw [List.mem_map] at hu
  obtain ⟨x, _, rfl⟩ := hu
  rfl
/-- The numbers that a slice's cells hold. -/
def CellsI (w : World) (b off : Nat) (l : List Int) : Prop := ∀ i, i < l.length → w.cell? ⟨b, off + i, none⟩ = some (.int .i64 (l.getD i 0))
def ArgI (w : World) (a : Option Addr) (l : List Int) : Prop := 0 < l.length → ∃ b off, a = some ⟨b, off, none⟩ ∧ b < w.heap.size ∧ CellsI w b off l
theorem CellsI.below {w w' : World} {b off B : Nat} {l : List Int} (h : CellsI w b off l) (hb : Below B w w') (hB : b < B) : CellsI w' b off l := fun i hi => (hb.cell (p := ⟨b, _, none⟩) hB).trans (h i hi)
theorem ArgI.past {w w' : World} {a : Option Addr} {l : List Int} (h : ArgI w a l) (hb : Below w.heap.size w w') : ArgI w' a l := fun hl => by
  obtain ⟨b, off, e, h1, h2⟩ := h hl
  exact ⟨b, off, e, Nat.lt_of_lt_of_le h1 hb.size, h2.below hb h1⟩
def SliI (w : World) (v : Value) (l : List Int) : Prop := ∃ (a : Option Addr) (cap : Nat), v = .slice a l.length cap ∧ l.length ≤ cap ∧ cap ≤ 9223372036854775807 ∧ ArgI w a l
theorem sliI_own {w : World} {base : Nat} {e : TypeId} {v : Value} {l : List Int} (h : w.ownsRow base e 1 v l.length (cellsI l)) : SliI w v l := by
  obtain ⟨h1, h2 | ⟨g, cap, cur, rfl, h3, h4, h5, h6, h7, h8⟩⟩ := h
  · obtain ⟨rfl, h2⟩ := h2
    have : l = [] := List.eq_nil_of_length_eq_zero h2
    subst this
    exact ⟨none, 0, rfl, Nat.le_refl _, by omega, fun h => by simp at h⟩
  · refine ⟨some ⟨g, 0, none⟩, cap, rfl, h5, by unfold maxLen at h6; omega, fun _ => ⟨g, 0, rfl, lt_of_block h4, fun i hi => ?_⟩⟩
    have hg := cellsI_get hi
    have e : w.cell? ⟨g, 0 + i, none⟩ = cur[i]? := by simp [World.cell?, h4]
    rw [e, ← Array.getElem?_toList]
    rw [← h8, List.getElem?_take, if_pos (by omega)] at hg
    exact hg
end Go.Proofs.Ytjhhcljbmnomlaa

namespace Go.Proofs.Ytjhhcljbmnomlaa
open Go.ChangeShapes Go.WideShapes Go.ChangeAt Go.RowKit
attribute [local irreducible] Go.Calls

set_option maxHeartbeats 1000000 in
theorem rwhen_c (l : List Sg) (a : Option Addr) (cap : Nat) (w : World) (hl : l.length ≤ 1099511627776) (hA : ArgS w a l) :
    Calls Try.prog 11 #[.slice a l.length cap] w (RetV w fun v w' => w'.ownsRow w.heap.size 2 1 v l.length (cellsI (l.map (·.1)))) := by
  have HA := hidE hA; clear hA
  obtain ⟨i0, hi, hz0, hz1, hz2⟩ := info_parts Try.infoI64
  have HI := hidE hi; have HZ0 := hidE hz0; have HZ1 := hidE hz1; have HZ2 := hidE hz2
  clear hi hz0 hz1 hz2
  go_enter Try.func11, Try.ntmps11
  go_wp2
  go_loopg [3, 4] l.length (fun g vf vi wr => ∃ (k : Nat) (v : Value), v = vf ∧ k ≤ l.length ∧ l.length - k ≤ g ∧ vi = .int .i64 k ∧ Below w.heap.size w wr ∧ wr.ownsRow w.heap.size 2 1 v k (cellsI ((l.take k).map (·.1))))
  case atStart => exact ⟨0, .slice none 0 0, rfl, Nat.zero_le _, by omega, rfl, Below.refl _ _, ⟨rfl, .inl ⟨rfl, rfl⟩⟩⟩
  case round =>
    obtain ⟨k, v, rfl, hk, hg, rfl, hb, ho⟩ := hrel
    have HB := hidE hb; have HO := hidE ho; clear hb ho
    by_cases hlt : k < l.length
    · obtain ⟨b, off, rfl, hbb, hc⟩ := (HA.out.past HB.out) (by omega)
      obtain ⟨d0, d1, d2⟩ := hc.get hlt
      have HS := hidE (show cellsI ((l.take (k + 1)).map (·.1)) = cellsI ((l.take k).map (·.1)) ++ [.int .i64 (ats l k)] by
        rw [List.take_succ_eq_append_getElem hlt]
        unfold cellsI ats
        rw [getD_get _ _ _ hlt, List.map_append, List.map_append]; rfl)
      have hsz := HB.out.size
      clear hc d1 d2
      generalize ats l k = u at *
      go_wp2_with (at_builtin; refine wpList_append_own _ rfl (.tmp 11) (.tmp 17) 38 rfl w.heap.size 2 i0 (.int .i64 0) 1 8 Try.underlying38 HI.out HZ0.out HZ1.out HZ2.out rfl (by decide) _ _ _ rfl (HO.out.alloc _) ⟨wr.heap.size, 0, none⟩ 1 1 [.int .i64 u] rfl rfl (new_cells wr #[.int .i64 u] 2) (by intro x hx; simp at hx; rcases hx with rfl; rfl) (by unfold maxLen; omega) (by omega) (by simp; omega) ?_; intro v' w4 hown4 hgrow4 _)
      have p4 : Below w.heap.size w w4 := Below.grown (HB.out.alloc hsz (.cells #[.int .i64 u] 2)) hgrow4 (by simp; omega) (fun k hk => own_block HO.out hk)
      rw [← HS.out] at hown4
      have P4 := hidE p4; have PO := hidE hown4
      clear p4 hown4 hgrow4 d0
      go_wp2
      go_roundg (l.length - (k + 1))
      case measure => omega
      case rel => exact ⟨k + 1, v', rfl, by omega, Nat.le_refl _, by go_num, P4.out, PO.out⟩
    · have hk' : k = l.length := by omega
      subst hk'
      have ho := HO.out
      rw [List.take_length] at ho
      have HO2 := hidE ho; clear ho HO
      go_wp2
      go_ret
      exact ⟨_, rfl, HO2.out, HB.out⟩

theorem new_cells_at (w : World) (cs : Array Value) (t : TypeId) (k : Nat) (h : k = w.heap.size) : ∀ j u, cs.toList[j]? = some u → (w.alloc (.cells cs t)).cell? ((⟨k, 0, none⟩ : Addr).add j) = some u := by
  subst h; exact new_cells w cs t
def WithPost (w : World) (B : Nat) (v0 : Value) (f : List Sg) (e : Ending) (w' : World) : Prop :=
  ∃ v' : Value, e = .returned v' ∧ w'.ownsRow B 54 3 v' f.length (cellsOfS f) ∧ w.grownBy w' v0.ownBlock
theorem own_past {w w' : World} {B : Nat} {e : TypeId} {sz : Nat} {v : Value} {n : Nat} {xs : List Value} (h : w.ownsRow B e sz v n xs) (hb : Below w.heap.size w w') : w'.ownsRow B e sz v n xs := own_below h hb

set_option maxHeartbeats 1000000 in
set_option maxRecDepth 100000 in
theorem rwith_c (f : List Sg) (v0 : Value) (B : Nat) (t m c : Int) (w : World) (hB : B ≤ w.heap.size) (hl : f.length ≤ 1099511627776) (ho : w.ownsRow B 54 3 v0 f.length (cellsOfS f)) :
    Calls Try.prog 87 #[v0, .int .i64 t, V m c] w (WithPost w B v0 (withL f t (m, c))) := by
  obtain ⟨a, cap, rfl, hlc, hcap, hA⟩ := sliS_own ho
  have HO := hidE ho; have HA := hidE hA
  clear ho hA
  obtain ⟨i0, hi, hz0, hz1, hz2⟩ := info_parts Try.infoSeg
  have HI := hidE hi; have HZ0 := hidE hz0; have HZ1 := hidE hz1; have HZ2 := hidE hz2
  clear hi hz0 hz1 hz2
  have app : ∀ (wx : World), Below w.heap.size w wx → Hid (wx.ownsRow B 54 3 (.slice a f.length cap) f.length (cellsOfS f) ∧ B ≤ wx.heap.size) := fun wx hb => ⟨own_past HO.out hb, Nat.le_trans hB hb.size⟩
  have APP := hidE app; clear app
  have HCS := hidE (show cellsOfS (f ++ [(t, (m, c))]) = cellsOfS f ++ [.int .i64 t, .int .i64 m, .int .i64 c] from cellsOfS_app _ _)
  have hlen1 : (f ++ [(t, (m, c))]).length = f.length + 1 := by simp
  have HL1 := hidE hlen1; clear hlen1
  by_cases h0 : f.length = 0
  · have hlast : lastV f = (0, 0) := by unfold lastV; rw [if_pos h0]
    have hd : decide ((0 : Int) < (f.length : Int)) = false := decide_eq_false (by omega)
    have hd' : ¬ (0 : Int) < (f.length : Int) := by omega
    have hd2 : ¬ 0 < f.length := by omega
    by_cases hv : (m, c) = ((0, 0) : Int × Int)
    · have HF := hidE (show withL f t (m, c) = f by unfold withL; rw [hlast, if_pos hv])
      obtain ⟨rfl, rfl⟩ : m = 0 ∧ c = 0 := by simpa using hv
      clear hv hlast h0
      go_enter Try.func87, Try.ntmps87
      go_wp2
      go_ret
      exact ⟨_, rfl, by rw [HF.out]; exact own_past HO.out (by (repeat (first | exact Below.refl _ _ | assumption | refine balloc ?_ _ | refine below_drewN ?_ _ | refine bstep (by assumption) ?_ | refine bstep (Past.prop _) ?_ | refine Below.setCell ?_ (by first | exact Nat.le_refl _ | (simp; done) | (simp; omega)) _))), grown_any (by (repeat (first | exact Below.refl _ _ | assumption | refine balloc ?_ _ | refine below_drewN ?_ _ | refine bstep (by assumption) ?_ | refine bstep (Past.prop _) ?_ | refine Below.setCell ?_ (by first | exact Nat.le_refl _ | (simp; done) | (simp; omega)) _)))⟩
    · have HF := hidE (show withL f t (m, c) = f ++ [(t, (m, c))] by unfold withL; rw [hlast, if_neg hv])
      have hmc : ((m == 0) && (c == 0)) = false := by
        rw [Bool.eq_false_iff]; intro h; simp at h; exact hv (by rw [h.1, h.2])
      clear hv hlast h0
      cases hm : (m == 0)
      rotate_left
      · have hc : (c == 0) = false := by rw [hm] at hmc; simpa using hmc
        clear hmc
        go_enter Try.func87, Try.ntmps87
        go_wp2_with (at_builtin; go_loud (refine wpList_append_own _ rfl (.tmp 23) (.tmp 27) 22 rfl B 54 i0 (.agg #[.int .i64 0, .int .i64 0, .int .i64 0]) 3 24 Try.underlying22 HI.out HZ0.out HZ1.out HZ2.out rfl (by decide) _ _ _ rfl (APP.out _ (by (repeat (first | exact Below.refl _ _ | assumption | refine balloc ?_ _ | refine below_drewN ?_ _ | refine bstep (by assumption) ?_ | refine bstep (Past.prop _) ?_ | refine Below.setCell ?_ (by first | exact Nat.le_refl _ | (simp; done) | (simp; omega)) _)))).out.1 ⟨_, 0, none⟩ 1 1 [.int .i64 t, .int .i64 m, .int .i64 c] rfl rfl (new_cells_at _ #[.int .i64 t, .int .i64 m, .int .i64 c] 54 _ (by simp)) (by intro x hx; simp at hx; rcases hx with rfl | rfl | rfl <;> rfl) (by unfold maxLen; omega) (by omega) (by simp; omega) ?_; intro v' w4 hown4 hgrow4 _))
        rw [← HCS.out, ← HL1.out] at hown4
        have HO4 := hidE hown4; have HG4 := hidE (grown_trans (grown_any (show Below w.heap.size w _ by (repeat (first | exact Below.refl _ _ | assumption | refine balloc ?_ _ | refine below_drewN ?_ _ | refine bstep (by assumption) ?_ | refine bstep (Past.prop _) ?_ | refine Below.setCell ?_ (by first | exact Nat.le_refl _ | (simp; done) | (simp; omega)) _)))) hgrow4)
        clear hown4 hgrow4
        go_wp2
        go_ret
        exact ⟨_, rfl, by rw [HF.out]; exact HO4.out, HG4.out⟩
      · clear hmc
        go_enter Try.func87, Try.ntmps87
        go_wp2_with (at_builtin; refine wpList_append_own _ rfl (.tmp 23) (.tmp 27) 22 rfl B 54 i0 (.agg #[.int .i64 0, .int .i64 0, .int .i64 0]) 3 24 Try.underlying22 HI.out HZ0.out HZ1.out HZ2.out rfl (by decide) _ _ _ rfl (APP.out _ (by (repeat (first | exact Below.refl _ _ | assumption | refine balloc ?_ _ | refine below_drewN ?_ _ | refine bstep (by assumption) ?_ | refine bstep (Past.prop _) ?_ | refine Below.setCell ?_ (by first | exact Nat.le_refl _ | (simp; done) | (simp; omega)) _)))).out.1 ⟨_, 0, none⟩ 1 1 [.int .i64 t, .int .i64 m, .int .i64 c] rfl rfl (new_cells_at _ #[.int .i64 t, .int .i64 m, .int .i64 c] 54 _ (by simp)) (by intro x hx; simp at hx; rcases hx with rfl | rfl | rfl <;> rfl) (by unfold maxLen; omega) (by omega) (by simp; omega) ?_; intro v' w4 hown4 hgrow4 _)
        rw [← HCS.out, ← HL1.out] at hown4
        have HO4 := hidE hown4; have HG4 := hidE (grown_trans (grown_any (show Below w.heap.size w _ by (repeat (first | exact Below.refl _ _ | assumption | refine balloc ?_ _ | refine below_drewN ?_ _ | refine bstep (by assumption) ?_ | refine bstep (Past.prop _) ?_ | refine Below.setCell ?_ (by first | exact Nat.le_refl _ | (simp; done) | (simp; omega)) _)))) hgrow4)
        clear hown4 hgrow4
        go_wp2
        go_ret
        exact ⟨_, rfl, by rw [HF.out]; exact HO4.out, HG4.out⟩
  · obtain ⟨k, hk⟩ : ∃ k, f.length = k + 1 := ⟨f.length - 1, by omega⟩
    have hlast : lastV f = vls f k := by unfold lastV; rw [if_neg h0, hk, Nat.add_sub_cancel]
    obtain ⟨b, off, rfl, hb, hc⟩ := HA.out (by omega)
    obtain ⟨d0, d1, d2⟩ := hc.get (i := k) (by omega)
    have hd : decide ((0 : Int) < (f.length : Int)) = true := decide_eq_true (by omega)
    have hkz : (f.length : Int) - 1 = (k : Int) := by omega
    have hkl : k < f.length := by omega
    have HKZ := hidE hkz
    have hn1 : b ≠ w.heap.size := by omega
    have hn2 : b ≠ w.heap.size + 1 := by omega
    clear hc hk h0 hkz d0
    by_cases hv : (m, c) = vls f k
    · have HF := hidE (show withL f t (m, c) = f by unfold withL; rw [hlast, if_pos hv])
      rw [← hv] at d1 d2
      clear hv hlast
      go_enter Try.func87, Try.ntmps87
      go_upto_region 3 with fail
      have hkz := HKZ.out
      go_wp2
      go_ret
      exact ⟨_, rfl, by rw [HF.out]; exact own_past HO.out (by (repeat (first | exact Below.refl _ _ | assumption | refine balloc ?_ _ | refine below_drewN ?_ _ | refine bstep (by assumption) ?_ | refine bstep (Past.prop _) ?_ | refine Below.setCell ?_ (by first | exact Nat.le_refl _ | (simp; done) | (simp; omega)) _))), grown_any (by (repeat (first | exact Below.refl _ _ | assumption | refine balloc ?_ _ | refine below_drewN ?_ _ | refine bstep (by assumption) ?_ | refine bstep (Past.prop _) ?_ | refine Below.setCell ?_ (by first | exact Nat.le_refl _ | (simp; done) | (simp; omega)) _)))⟩
    · have HF := hidE (show withL f t (m, c) = f ++ [(t, (m, c))] by unfold withL; rw [hlast, if_neg hv])
      have hmc : ((m == (vls f k).1) && (c == (vls f k).2)) = false := by
        rw [Bool.eq_false_iff]; intro h; simp at h; exact hv (Prod.ext h.1 h.2)
      clear hv hlast
      generalize vls f k = q at *
      cases hm : (m == q.1)
      rotate_left
      · have hc : (c == q.2) = false := by rw [hm] at hmc; simpa using hmc
        clear hmc
        go_enter Try.func87, Try.ntmps87
        go_upto_region 3 with fail
        have hkz := HKZ.out
        go_wp2_with (at_builtin; refine wpList_append_own _ rfl (.tmp 23) (.tmp 27) 22 rfl B 54 i0 (.agg #[.int .i64 0, .int .i64 0, .int .i64 0]) 3 24 Try.underlying22 HI.out HZ0.out HZ1.out HZ2.out rfl (by decide) _ _ _ rfl (APP.out _ (by (repeat (first | exact Below.refl _ _ | assumption | refine balloc ?_ _ | refine below_drewN ?_ _ | refine bstep (by assumption) ?_ | refine bstep (Past.prop _) ?_ | refine Below.setCell ?_ (by first | exact Nat.le_refl _ | (simp; done) | (simp; omega)) _)))).out.1 ⟨_, 0, none⟩ 1 1 [.int .i64 t, .int .i64 m, .int .i64 c] rfl rfl (new_cells_at _ #[.int .i64 t, .int .i64 m, .int .i64 c] 54 _ (by simp)) (by intro x hx; simp at hx; rcases hx with rfl | rfl | rfl <;> rfl) (by unfold maxLen; omega) (by omega) (by simp; omega) ?_; intro v' w4 hown4 hgrow4 _)
        rw [← HCS.out, ← HL1.out] at hown4
        have HO4 := hidE hown4; have HG4 := hidE (grown_trans (grown_any (show Below w.heap.size w _ by (repeat (first | exact Below.refl _ _ | assumption | refine balloc ?_ _ | refine below_drewN ?_ _ | refine bstep (by assumption) ?_ | refine bstep (Past.prop _) ?_ | refine Below.setCell ?_ (by first | exact Nat.le_refl _ | (simp; done) | (simp; omega)) _)))) hgrow4)
        clear hown4 hgrow4
        go_wp2
        go_ret
        exact ⟨_, rfl, by rw [HF.out]; exact HO4.out, HG4.out⟩
      · clear hmc
        go_enter Try.func87, Try.ntmps87
        go_upto_region 3 with fail
        have hkz := HKZ.out
        go_wp2_with (at_builtin; refine wpList_append_own _ rfl (.tmp 23) (.tmp 27) 22 rfl B 54 i0 (.agg #[.int .i64 0, .int .i64 0, .int .i64 0]) 3 24 Try.underlying22 HI.out HZ0.out HZ1.out HZ2.out rfl (by decide) _ _ _ rfl (APP.out _ (by (repeat (first | exact Below.refl _ _ | assumption | refine balloc ?_ _ | refine below_drewN ?_ _ | refine bstep (by assumption) ?_ | refine bstep (Past.prop _) ?_ | refine Below.setCell ?_ (by first | exact Nat.le_refl _ | (simp; done) | (simp; omega)) _)))).out.1 ⟨_, 0, none⟩ 1 1 [.int .i64 t, .int .i64 m, .int .i64 c] rfl rfl (new_cells_at _ #[.int .i64 t, .int .i64 m, .int .i64 c] 54 _ (by simp)) (by intro x hx; simp at hx; rcases hx with rfl | rfl | rfl <;> rfl) (by unfold maxLen; omega) (by omega) (by simp; omega) ?_; intro v' w4 hown4 hgrow4 _)
        rw [← HCS.out, ← HL1.out] at hown4
        have HO4 := hidE hown4; have HG4 := hidE (grown_trans (grown_any (show Below w.heap.size w _ by (repeat (first | exact Below.refl _ _ | assumption | refine balloc ?_ _ | refine below_drewN ?_ _ | refine bstep (by assumption) ?_ | refine bstep (Past.prop _) ?_ | refine Below.setCell ?_ (by first | exact Nat.le_refl _ | (simp; done) | (simp; omega)) _)))) hgrow4)
        clear hown4 hgrow4
        go_wp2
        go_ret
        exact ⟨_, rfl, by rw [HF.out]; exact HO4.out, HG4.out⟩
end Go.Proofs.Ytjhhcljbmnomlaa

namespace Go.Proofs.Ytjhhcljbmnomlaa
open Go.ChangeShapes Go.WideShapes Go.ChangeAt Go.RowKit
attribute [local irreducible] Go.Calls

/-- A slice whose cells are the list's, nil too. -/
def SrcI (w : World) (v : Value) (l : List Int) : Prop := ∃ (a : Option Addr) (cap : Nat), v = .slice a l.length cap ∧ (a = none → l = [] ∧ cap = 0) ∧ ∀ ad, a = some ad → ∀ j u, (cellsI l)[j]? = some u → w.cell? (ad.add j) = some u
theorem step_append_src {P : Program} {ops : Array Oper} {o : Oper} {a : Act} {w : World} {K : Act → World → Prop} {Q : Exit → Act → World → Prop} {E : Prop}
    (hg : o.guard = none) (s x : Operand) (t : TypeId) (hop : o.op = Op.call { callee := Callee.builtin Builtin.append, args := #[s, x], argTypes := #[t, t] })
    (base : Nat) (e : TypeId) (i : TypeInfo) (ht : P.underlying t = some (.slice e)) (hi : P.info? e = some i) (hz : i.zero = some (.int .i64 0)) (hsize : i.size = 1) (hby : i.bytes = 8)
    (v : Value) (n : Nat) (xs : List Value) (hs : a.eval s = v) (hown : w.ownsRow base e 1 v n xs)
    (vx : Value) (news : List Int) (hx : a.eval x = vx) (hsrc : SrcI w vx news)
    (h63 : n + news.length ≤ 1099511627776) (hbase : base ≤ w.heap.size)
    (h : ∀ v' w', w'.ownsRow base e 1 v' (n + news.length) (xs ++ cellsI news) → w.grownBy w' v.ownBlock → K (a.put o.dst v') w') :
    if Region.wanted o (yielded ops a.tmps) = true then Oper.wp P o a w K Q else E := by
  have hw : Region.wanted o (yielded ops a.tmps) = true := by simp [Region.wanted, hg]
  rw [if_pos hw]
  obtain ⟨ad, cap, rfl, hn, hc⟩ := hsrc
  cases ad with
  | none =>
    obtain ⟨rfl, rfl⟩ := hn rfl
    have hrun := run_append_owned_none (P := P) (w := w) base t o.type e i 1 ht hi v n xs hown
    have hK := h v w (by simpa [cellsI] using hown) ⟨rfl, rfl, rfl, Nat.le_refl _, fun _ _ _ => rfl⟩
    unfold Oper.wp
    simp [execOp, hop, resolve, invoke, builtin, hs, hx, hrun, Result.andThen]
    exact hK
  | some ad =>
    exact wp_append_own w s x t hop base e i (.int .i64 0) 1 8 ht hi hz hsize hby rfl (by decide) v n xs hs hown ad news.length cap (cellsI news) hx (by simp [cellsI]) (hc ad rfl) (cellsI_one news) (by unfold maxLen; omega) (by omega) hbase fun v' w' h1 h2 _ => h v' w' h1 h2

/-- The same, told for rows that lie from a world's end on. -/
theorem step_app {P : Program} {ops : Array Oper} {o : Oper} {a : Act} {w : World} {K : Act → World → Prop} {Q : Exit → Act → World → Prop} {E : Prop}
    (hg : o.guard = none) (s x : Operand) (t : TypeId) (hop : o.op = Op.call { callee := Callee.builtin Builtin.append, args := #[s, x], argTypes := #[t, t] })
    (W0 : World) (e : TypeId) (i : TypeInfo) (ht : P.underlying t = some (.slice e)) (hi : P.info? e = some i) (hz : i.zero = some (.int .i64 0)) (hsize : i.size = 1) (hby : i.bytes = 8)
    (v : Value) (n : Nat) (xs : List Value) (hs : a.eval s = v) (hown : w.ownsRow W0.heap.size e 1 v n xs)
    (vx : Value) (news : List Int) (hx : a.eval x = vx) (hsrc : SrcI w vx news)
    (h63 : n + news.length ≤ 1099511627776) (hb : Below W0.heap.size W0 w)
    (h : ∀ v' w', w'.ownsRow W0.heap.size e 1 v' (n + news.length) (xs ++ cellsI news) → Below W0.heap.size W0 w' → (∀ k cs t, Blk w k cs t → v.ownBlock ≠ some k → Blk w' k cs t) → K (a.put o.dst v') w') :
    if Region.wanted o (yielded ops a.tmps) = true then Oper.wp P o a w K Q else E :=
  step_append_src hg s x t hop W0.heap.size e i ht hi hz hsize hby v n xs hs hown vx news hx hsrc h63 hb.size fun v' w' h1 h2 =>
    h v' w' h1 (hb.grown h2 hb.size (fun _k hk => own_block hown hk)) (fun _k _cs _t hB hne => hB.grown h2 (fun e => hne e.symm))
theorem own_empty {w : World} {p base : Nat} {e : TypeId} (hB : Blk w p #[] e) (hp : base ≤ p) : w.ownsRow base e 1 (.slice (some ⟨p, 0, none⟩) 0 0) 0 [] :=
  ⟨rfl, .inr ⟨p, 0, #[], rfl, hp, hB, Nat.le_refl _, Nat.zero_le _, rfl, rfl⟩⟩
theorem own_low {w : World} {B B' : Nat} {e : TypeId} {sz : Nat} {v : Value} {n : Nat} {xs : List Value} (h : w.ownsRow B e sz v n xs) (hB : B' ≤ B) : w.ownsRow B' e sz v n xs := by
  obtain ⟨h1, h2 | ⟨g, cap, cur, h3, h4, h5⟩⟩ := h
  · exact ⟨h1, .inl h2⟩
  · exact ⟨h1, .inr ⟨g, cap, cur, h3, Nat.le_trans hB h4, h5⟩⟩
theorem src_one {w : World} {p : Nat} {x : Int} {t : TypeId} (hB : Blk w p #[.int .i64 x] t) : SrcI w (.slice (some ⟨p, 0, none⟩) 1 1) [x] := by
  refine ⟨some ⟨p, 0, none⟩, 1, rfl, (fun h => by cases h), fun ad had j u hj => ?_⟩
  cases had
  have hj0 : j = 0 := by
    have := (List.getElem?_eq_some_iff.1 hj).1
    simp [cellsI] at this; exact this
  subst hj0
  have e : ((⟨p, 0, none⟩ : Addr).add 0) = ⟨p, 0, none⟩ := by simp [Addr.add]
  rw [e, hB.cell 0, ← hj]; rfl
theorem src_nil (w : World) : SrcI w (.slice none 0 0) [] := ⟨none, 0, rfl, fun _ => ⟨rfl, rfl⟩, fun _ h => by cases h⟩
theorem cellsI_app (l r : List Int) : cellsI (l ++ r) = cellsI l ++ cellsI r := by unfold cellsI; rw [List.map_append]

theorem own_fin {w : World} {B : Nat} {e : TypeId} {v : Value} {o : List Int} {x : Int} {j : Nat} (h : w.ownsRow B e 1 v (0 + (o.take j).length + [x].length + (o.drop j).length) ([] ++ cellsI (o.take j) ++ cellsI [x] ++ cellsI (o.drop j))) (hins : insT x o = o.take j ++ x :: o.drop j) :
    w.ownsRow B e 1 v (insT x o).length (cellsI (insT x o)) := by
  have e1 : (insT x o).length = 0 + (o.take j).length + [x].length + (o.drop j).length := by rw [hins]; simp; omega
  have e2 : cellsI (insT x o) = [] ++ cellsI (o.take j) ++ cellsI [x] ++ cellsI (o.drop j) := by
    rw [hins, show o.take j ++ x :: o.drop j = o.take j ++ ([x] ++ o.drop j) from rfl, cellsI_app, cellsI_app, List.nil_append, List.append_assoc]
  rw [e1, e2]; exact h
/-- Pieces of a row read as slices. -/
theorem src_take {w : World} {g cap j n : Nat} {o : List Int} (hc : ∀ i, i < o.length → w.cell? ⟨g, i, none⟩ = some (.int .i64 (o.getD i 0))) (hj : j ≤ o.length) (hn : n = j) : SrcI w (.slice (some ⟨g, 0, none⟩) n cap) (o.take j) := by
  subst hn
  refine ⟨some ⟨g, 0, none⟩, cap, by simp [Nat.min_eq_left hj], (fun h => by cases h), fun ad had i u hu => ?_⟩
  cases had
  have hi := (List.getElem?_eq_some_iff.1 hu).1
  simp [cellsI] at hi
  have e : ((⟨g, 0, none⟩ : Addr).add i) = ⟨g, i, none⟩ := by
    unfold Addr.add
    by_cases c : i = 0
    · subst c; simp
    · simp [c]
  rw [e, hc i (by omega), ← hu]
  unfold cellsI
  rw [List.getElem?_map, List.getElem?_take, if_pos (by omega), List.getElem?_eq_getElem (by omega), getD_get _ _ _ (by omega)]; rfl
theorem src_drop {w : World} {g cap j n p : Nat} {o : List Int} (hc : ∀ i, i < o.length → w.cell? ⟨g, i, none⟩ = some (.int .i64 (o.getD i 0))) (hj : j ≤ o.length) (hn : n = o.length - j) (hp : p = j ∨ j = o.length) : SrcI w (.slice (some ⟨g, p, none⟩) n cap) (o.drop j) := by
  subst hn
  refine ⟨some ⟨g, p, none⟩, cap, by simp, (fun h => by cases h), fun ad had i u hu => ?_⟩
  cases had
  have hi := (List.getElem?_eq_some_iff.1 hu).1
  simp [cellsI] at hi
  have hpj : p = j := by omega
  subst hpj
  have e : ((⟨g, p, none⟩ : Addr).add i) = ⟨g, p + i, none⟩ := by
    unfold Addr.add
    by_cases c : i = 0
    · subst c; simp
    · simp [c]
  rw [e, hc (p + i) (by omega), ← hu]
  unfold cellsI
  rw [List.getElem?_map, List.getElem?_drop, List.getElem?_eq_getElem (by omega), getD_get _ _ _ (by omega)]; rfl
theorem own_cells {w : World} {g : Nat} {e : TypeId} {cur : Array Value} {o : List Int} (h : w.heap[g]? = some (.cells cur e (0, 0))) (ht : cur.toList.take (o.length * 1) = cellsI o) : ∀ i, i < o.length → w.cell? ⟨g, i, none⟩ = some (.int .i64 (o.getD i 0)) := fun i hi => by
  have hg := cellsI_get hi
  have e : w.cell? ⟨g, i, none⟩ = cur[i]? := by simp [World.cell?, h]
  rw [e, ← Array.getElem?_toList]
  rw [← ht, List.getElem?_take, if_pos (by omega)] at hg
  exact hg

set_option maxRecDepth 100000 in
set_option maxHeartbeats 8000000 in
theorem rtimes_c (l : List Int) (a : Option Addr) (cap : Nat) (w : World) (hl : l.length ≤ 1000000000) (hA : ArgI w a l) :
    Calls Try.prog 63 #[.slice a l.length cap] w (RetV w fun v w' => w'.ownsRow w.heap.size 2 1 v (timesL l).length (cellsI (timesL l))) := by
  have HA := hidE hA; clear hA
  obtain ⟨i0, hi, hz0, hz1, hz2⟩ := info_parts Try.infoI64
  have HI := hidE hi; have HZ0 := hidE hz0; have HZ1 := hidE hz1; have HZ2 := hidE hz2
  clear hi hz0 hz1 hz2
  go_enter Try.func63, Try.ntmps63
  go_wp2
  go_loopg [3, 4, 5] l.length (fun g vf vi _ wr => ∃ (k : Nat) (v : Value), v = vf ∧ k ≤ l.length ∧ l.length - k ≤ g ∧ vi = .int .i64 k ∧ Below w.heap.size w wr ∧ wr.ownsRow w.heap.size 2 1 v (timesL (l.take k)).length (cellsI (timesL (l.take k))))
  case atStart => exact ⟨0, .slice none 0 0, rfl, Nat.zero_le _, by omega, rfl, Below.refl _ _, ⟨rfl, .inl ⟨rfl, rfl⟩⟩⟩
  case round =>
    obtain ⟨k, v, rfl, hk, hg, rfl, hb, ho⟩ := hrel
    have HB := hidE hb; have HO := hidE ho; clear hb ho
    by_cases hlt : k < l.length
    · obtain ⟨b, off, rfl, hbb, hc⟩ := (HA.out.past HB.out) (by omega)
      have d0 := hc k hlt
      have HT := hidE (timesL_step hlt)
      have htl := timesL_len (l.take k)
      rw [List.length_take] at htl
      generalize timesL (l.take k) = o at *
      generalize l.getD k 0 = x at *
      have hsz := HB.out.size
      have hho := HO.out
      obtain ⟨hol, ⟨rfl, ho0⟩ | ⟨g, co, cur, rfl, hgB, hgh, hlc, hcm, hcs, hct⟩⟩ := hho
      · have : o = [] := List.eq_nil_of_length_eq_zero ho0
        subst this
        have HR := hidE (show insT x [] = [x] from rfl)
        clear hc hol ho0
        obtain ⟨wo, rfl⟩ : ∃ wo : World, wo = wr := ⟨_, rfl⟩
        go_wp2_with fail
        go_loopg [5] 0 (fun g2 vj wr2 => vj = .int .i64 0 ∧ wr2 = wo)
        case atStart => exact ⟨rfl, rfl⟩
        case round =>
          obtain ⟨rfl, rfl⟩ := hrel
          go_wp2_with fail
          refine wp_region_past_lit (by kernel_rfl) (by kernel_rfl) ?_
          repeat (go_big_quiet_step (fail))
          refine wpQuiet_nil ?_
          rintro _ ⟨x', rfl⟩
          have o1 := own_below HO.out x'.2
          have o2 : Below w.heap.size w x'.1 := by have := HB.out; (repeat (first | exact Below.refl _ _ | assumption | refine balloc ?_ _ | refine below_drewN ?_ _ | refine bstep (by assumption) ?_ | refine bstep (Past.prop _) ?_ | refine Below.setCell ?_ (by first | exact Nat.le_refl _ | (simp; done) | (simp; omega)) _))
          have o3 : b < x'.1.heap.size := Nat.lt_of_lt_of_le hbb x'.2.size
          have o4 := (x'.2.cell (p := ⟨b, off + k, none⟩) hbb).trans d0
          clear HO HB d0 hbb
          generalize x'.1 = w5 at *
          go_wp2_with fail
          refine wp_region_past_lit (by kernel_rfl) (by kernel_rfl) ?_
          repeat (go_big_quiet_step (fail))
          refine wpQuiet_nil ?_
          rintro _ ⟨x', rfl⟩
          have o1 := own_below o1 x'.2
          have o2' : Below w.heap.size w x'.1 := by (repeat (first | exact Below.refl _ _ | assumption | refine balloc ?_ _ | refine below_drewN ?_ _ | refine bstep (by assumption) ?_ | refine bstep (Past.prop _) ?_ | refine Below.setCell ?_ (by first | exact Nat.le_refl _ | (simp; done) | (simp; omega)) _))
          have o4 := (x'.2.cell (p := ⟨b, off + k, none⟩) o3).trans o4
          have o3 : b < x'.1.heap.size := Nat.lt_of_lt_of_le o3 x'.2.size
          clear o2
          generalize x'.1 = w6 at *
          go_wp2_with fail
          have HS3 := hidE (fun (w' : World) (_ : Below w6.heap.size w6 w') => src_nil w')
          have HS1 := hidE (fun (w' : World) (_ : Below w6.heap.size w6 w') => src_nil w')
          have ho2 := hidE o2'
          go_region_law (first | (refine step_app rfl (.tmp 44) (.tmp 47) 38 rfl w6 2 i0 Try.underlying38 HI.out HZ0.out HZ1.out HZ2.out (.slice (some ⟨w6.heap.size, 0, none⟩) 0 0) 0 [] rfl (own_empty (p := w6.heap.size) ((Blk.made _ _ _).drew 1) (by omega)) _ _ rfl (HS1.out _ (by (repeat (first | exact Below.refl _ _ | assumption | refine balloc ?_ _ | refine below_drewN ?_ _ | refine bstep (by assumption) ?_ | refine bstep (Past.prop _) ?_ | refine Below.setCell ?_ (by first | exact Nat.le_refl _ | (simp; done) | (simp; omega)) _)))) (by (try simp only [List.length_nil]); omega) (by (repeat (first | exact Below.refl _ _ | assumption | refine balloc ?_ _ | refine below_drewN ?_ _ | refine bstep (by assumption) ?_ | refine bstep (Past.prop _) ?_ | refine Below.setCell ?_ (by first | exact Nat.le_refl _ | (simp; done) | (simp; omega)) _))) ?_; intro v1 w1 own1 hb1 keep1; have hcell1 := (hb1.cell (p := ⟨b, off + k, none⟩) o3).trans o4; have hsz1 := hb1.size) | (refine step_app rfl (.tmp 44) (.tmp 47) 38 rfl w6 2 i0 Try.underlying38 HI.out HZ0.out HZ1.out HZ2.out (.slice (some ⟨w6.heap.size, 0, none⟩) 0 0) 0 [] rfl (own_empty (p := w6.heap.size) (((Blk.made _ _ _).alloc _).drew 1) (by omega)) _ _ rfl (HS1.out _ (by (repeat (first | exact Below.refl _ _ | assumption | refine balloc ?_ _ | refine below_drewN ?_ _ | refine bstep (by assumption) ?_ | refine bstep (Past.prop _) ?_ | refine Below.setCell ?_ (by first | exact Nat.le_refl _ | (simp; done) | (simp; omega)) _)))) (by (try simp only [List.length_nil]); omega) (by (repeat (first | exact Below.refl _ _ | assumption | refine balloc ?_ _ | refine below_drewN ?_ _ | refine bstep (by assumption) ?_ | refine bstep (Past.prop _) ?_ | refine Below.setCell ?_ (by first | exact Nat.le_refl _ | (simp; done) | (simp; omega)) _))) ?_; intro v1 w1 own1 hb1 keep1; have hcell1 := (hb1.cell (p := ⟨b, off + k, none⟩) o3).trans o4; have hsz1 := hb1.size) | (refine step_app rfl (.tmp 44) (.tmp 47) 38 rfl w6 2 i0 Try.underlying38 HI.out HZ0.out HZ1.out HZ2.out (.slice (some ⟨w6.heap.size + 1, 0, none⟩) 0 0) 0 [] rfl (own_empty (p := w6.heap.size + 1) ((Blk.made_at _ _ _ _ (by simp)).drew 1) (by omega)) _ _ rfl (HS1.out _ (by (repeat (first | exact Below.refl _ _ | assumption | refine balloc ?_ _ | refine below_drewN ?_ _ | refine bstep (by assumption) ?_ | refine bstep (Past.prop _) ?_ | refine Below.setCell ?_ (by first | exact Nat.le_refl _ | (simp; done) | (simp; omega)) _)))) (by (try simp only [List.length_nil]); omega) (by (repeat (first | exact Below.refl _ _ | assumption | refine balloc ?_ _ | refine below_drewN ?_ _ | refine bstep (by assumption) ?_ | refine bstep (Past.prop _) ?_ | refine Below.setCell ?_ (by first | exact Nat.le_refl _ | (simp; done) | (simp; omega)) _))) ?_; intro v1 w1 own1 hb1 keep1; have hcell1 := (hb1.cell (p := ⟨b, off + k, none⟩) o3).trans o4; have hsz1 := hb1.size) | (refine step_app rfl (.tmp 48) (.tmp 53) 38 rfl w6 2 i0 Try.underlying38 HI.out HZ0.out HZ1.out HZ2.out _ _ _ rfl (own1.alloc _) _ [x] rfl (src_one (Blk.made _ _ _)) (by (try simp only [List.length_cons, List.length_nil]); omega) (by (repeat (first | exact Below.refl _ _ | assumption | refine balloc ?_ _ | refine below_drewN ?_ _ | refine bstep (by assumption) ?_ | refine bstep (Past.prop _) ?_ | refine Below.setCell ?_ (by first | exact Nat.le_refl _ | (simp; done) | (simp; omega)) _))) ?_; intro v2 w2 own2 hb2 keep2) | (refine step_app rfl (.tmp 48) (.tmp 53) 38 rfl w6 2 i0 Try.underlying38 HI.out HZ0.out HZ1.out HZ2.out _ _ _ rfl (own1) _ [x] rfl (src_one (keep1 w6.heap.size _ _ (((Blk.made _ _ _).alloc _).drew 1) (by simp [Value.ownBlock]))) (by (try simp only [List.length_cons, List.length_nil]); omega) (by (repeat (first | exact Below.refl _ _ | assumption | refine balloc ?_ _ | refine below_drewN ?_ _ | refine bstep (by assumption) ?_ | refine bstep (Past.prop _) ?_ | refine Below.setCell ?_ (by first | exact Nat.le_refl _ | (simp; done) | (simp; omega)) _))) ?_; intro v2 w2 own2 hb2 keep2) | (refine step_app rfl (.tmp 48) (.tmp 53) 38 rfl w6 2 i0 Try.underlying38 HI.out HZ0.out HZ1.out HZ2.out _ _ _ rfl (own1) _ [x] rfl (src_one (keep1 (w6.heap.size + 1) _ _ ((Blk.made_at _ _ _ _ (by simp)).drew 1) (by simp [Value.ownBlock]))) (by (try simp only [List.length_cons, List.length_nil]); omega) (by (repeat (first | exact Below.refl _ _ | assumption | refine balloc ?_ _ | refine below_drewN ?_ _ | refine bstep (by assumption) ?_ | refine bstep (Past.prop _) ?_ | refine Below.setCell ?_ (by first | exact Nat.le_refl _ | (simp; done) | (simp; omega)) _))) ?_; intro v2 w2 own2 hb2 keep2) | (refine step_app rfl (.tmp 54) (.tmp 57) 38 rfl w6 2 i0 Try.underlying38 HI.out HZ0.out HZ1.out HZ2.out _ _ _ rfl own2 _ _ rfl (HS3.out _ (by (repeat (first | exact Below.refl _ _ | assumption | refine balloc ?_ _ | refine below_drewN ?_ _ | refine bstep (by assumption) ?_ | refine bstep (Past.prop _) ?_ | refine Below.setCell ?_ (by first | exact Nat.le_refl _ | (simp; done) | (simp; omega)) _)))) (by (try simp only [List.length_cons, List.length_nil]); omega) (by (repeat (first | exact Below.refl _ _ | assumption | refine balloc ?_ _ | refine below_drewN ?_ _ | refine bstep (by assumption) ?_ | refine bstep (Past.prop _) ?_ | refine Below.setCell ?_ (by first | exact Nat.le_refl _ | (simp; done) | (simp; omega)) _))) ?_; intro v3 w3 own3 hb3 keep3))
          all_goals
            go_wp2
            have hown3 := own_fin (o := []) (j := 0) own3 rfl
            rw [← HT.out] at hown3
            have HO3 := hidE (own_low hown3 o2'.size); have HB3 := hidE (o2'.trans (hb3.mono o2'.size))
            clear hown3
            go_roundg (l.length - (k + 1))
            case measure => omega
            case rel => exact ⟨k + 1, v3, rfl, by omega, Nat.le_refl _, by go_num, HB3.out, HO3.out⟩
      · have hcells := own_cells hgh hct
        have hglt : g < wr.heap.size := lt_of_block hgh
        have HC := hidE hcells
        clear hc hol hgh hct hcs hcells
        have hcm' : co ≤ 9223372036854775807 := hcm
        obtain ⟨wo, rfl⟩ : ∃ wo : World, wo = wr := ⟨_, rfl⟩
        go_wp2_with fail
        go_loopg [5] o.length (fun g2 vj wr2 => ∃ j : Nat, vj = .int .i64 j ∧ j ≤ o.length ∧ o.length - j ≤ g2 ∧ (∀ i, i < j → o.getD i 0 < x) ∧ Below wo.heap.size wo wr2)
        case atStart => exact ⟨0, rfl, Nat.zero_le _, by omega, fun i hi => by omega, Below.refl _ _⟩
        case round =>
          obtain ⟨j, rfl, hj, hg2, hj2, hbr⟩ := hrel
          have HJ := hidE hj2; have HBR := hidE hbr
          have d1 := (hbr.cell (p := ⟨b, off + k, none⟩) hbb).trans d0
          have hbb2 := Nat.lt_of_lt_of_le hbb hbr.size
          have hgl2 := Nat.lt_of_lt_of_le hglt hbr.size
          clear hj2 hbr
          by_cases hjl : j < o.length
          · have c0 := (HBR.out.cell (p := ⟨g, j, none⟩) hglt).trans (HC.out j hjl)
            have hjd : decide ((j : Int) < (o.length : Int)) = true := decide_eq_true (by omega)
            by_cases hjx : o.getD j 0 < x
            · have HJ2 := hidE (show ∀ i, i < j + 1 → o.getD i 0 < x from fun i hi => by
                by_cases e : i = j
                · rw [e]; exact hjx
                · exact HJ.out i (by omega))
              have hd : decide (o.getD j 0 < x) = true := decide_eq_true hjx
              clear hjx
              generalize o.getD j 0 = y at *
              go_wp2_with fail
              refine wp_region_past_lit (by kernel_rfl) (by kernel_rfl) ?_
              have hcp := Past.cell (W := wr)
              repeat (go_big_quiet_step (fail))
              refine wpQuiet_nil ?_
              rintro _ ⟨x', rfl⟩
              have o1 := bstep x'.2 HBR.out
              clear hcp d1 c0
              generalize x'.1 = w5 at *
              go_wp2
              go_roundg (o.length - (j + 1))
              case measure => omega
              case rel => exact ⟨j + 1, by go_num, by omega, Nat.le_refl _, HJ2.out, o1⟩
            · have hd : decide (o.getD j 0 < x) = false := decide_eq_false hjx
              have HI2 := hidE (insT_at (x := x) (o := o) (k := j) hj HJ.out (fun _ => hjx))
              by_cases hjq : o.getD j 0 = x
              · have HS := hidE (show insT x o = o by rw [HI2.out, if_pos ⟨hjl, hjq⟩])
                have hde : (o.getD j 0 == x) = true := beq_iff_eq.2 hjq
                clear hjx hjq HI2
                generalize o.getD j 0 = y at *
                go_wp2_with fail
                refine wp_region_past_lit (by kernel_rfl) (by kernel_rfl) ?_
                have hcp := Past.cell (W := wr)
                repeat (go_big_quiet_step (fail))
                refine wpQuiet_nil ?_
                rintro _ ⟨x', rfl⟩
                have o1 := bstep x'.2 HBR.out
                have e1 := (x'.2.cell (p := ⟨b, off + k, none⟩) hbb2).trans d1
                have e2 := (x'.2.cell (p := ⟨g, j, none⟩) hgl2).trans c0
                have hb5 := Nat.lt_of_lt_of_le hbb2 x'.2.size
                have hg5 := Nat.lt_of_lt_of_le hgl2 x'.2.size
                clear hcp d1 c0 HBR
                generalize x'.1 = w5 at *
                go_wp2_with fail
                refine wp_region_past_lit (by kernel_rfl) (by kernel_rfl) ?_
                have hcp := Past.cell (W := w5)
                repeat (go_big_quiet_step (fail))
                refine wpQuiet_nil ?_
                rintro _ ⟨x', rfl⟩
                have o1 := bstep x'.2 o1
                clear hcp e1 e2
                generalize x'.1 = w6 at *
                have HB6 := hidE (HB.out.trans (o1.mono hsz))
                have HO6 := hidE (show w6.ownsRow w.heap.size 2 1 (.slice (some ⟨g, 0, none⟩) o.length co) (timesL (l.take (k + 1))).length (cellsI (timesL (l.take (k + 1)))) by rw [HT.out, HS.out]; exact own_below HO.out o1)
                clear o1
                go_wp2
                go_roundg (l.length - (k + 1))
                case measure => omega
                case rel => exact ⟨k + 1, _, rfl, by omega, Nat.le_refl _, by go_num, HB6.out, HO6.out⟩
              · have HI3 := hidE (show insT x o = o.take j ++ x :: o.drop j by rw [HI2.out, if_neg (fun q => hjq q.2)])
                have hde : (o.getD j 0 == x) = false := beq_eq_false_iff_ne.2 hjq
                clear hjx hjq HI2 HJ
                generalize o.getD j 0 = y at *
                go_wp2_with fail
                refine wp_region_past_lit (by kernel_rfl) (by kernel_rfl) ?_
                have hcp := Past.cell (W := wr)
                repeat (go_big_quiet_step (fail))
                refine wpQuiet_nil ?_
                rintro _ ⟨x', rfl⟩
                have o1 := bstep x'.2 HBR.out
                have e1 := (x'.2.cell (p := ⟨b, off + k, none⟩) hbb2).trans d1
                have e2 := (x'.2.cell (p := ⟨g, j, none⟩) hgl2).trans c0
                have hb5 := Nat.lt_of_lt_of_le hbb2 x'.2.size
                have hg5 := Nat.lt_of_lt_of_le hgl2 x'.2.size
                clear hcp d1 HBR c0
                generalize x'.1 = w5 at *
                go_wp2_with fail
                refine wp_region_past_lit (by kernel_rfl) (by kernel_rfl) ?_
                have hcp := Past.cell (W := w5)
                repeat (go_big_quiet_step (fail))
                refine wpQuiet_nil ?_
                rintro _ ⟨x', rfl⟩
                have o1 := bstep x'.2 o1
                have o4 := (x'.2.cell (p := ⟨b, off + k, none⟩) hb5).trans e1
                have o3 := Nat.lt_of_lt_of_le hb5 x'.2.size
                have hg6 := Nat.lt_of_lt_of_le hg5 x'.2.size
                clear hcp e1 hb5 hg5 e2
                generalize x'.1 = w6 at *
                have o2' := HB.out.trans (o1.mono hsz)
                have HCW := hidE (fun (w' : World) (hw' : Below w6.heap.size w6 w') (i : Nat) (hi : i < o.length) => ((bstep hw' o1).cell (p := ⟨g, i, none⟩) hglt).trans (HC.out i hi))
                have HS1 := hidE (fun (n : Nat) (hn : n = j) (w' : World) (hw' : Below w6.heap.size w6 w') => src_take (cap := co) (n := n) (HCW.out w' hw') hj hn)
                have HS3 := hidE (fun (n p c : Nat) (hn : n = o.length - j) (hp : p = j ∨ j = o.length) (w' : World) (hw' : Below w6.heap.size w6 w') => src_drop (cap := c) (n := n) (p := p) (HCW.out w' hw') hj hn hp)
                clear HC HO HB d0 o1
                have hjco : j ≤ co := by omega
                have hjcz : (j : Int) ≤ (co : Int) := by omega
                by_cases hjc : j = co
                · subst hjc
                  go_wp2_with fail
                  go_region_law (first | (refine step_app rfl (.tmp 44) (.tmp 47) 38 rfl w6 2 i0 Try.underlying38 HI.out HZ0.out HZ1.out HZ2.out (.slice (some ⟨w6.heap.size, 0, none⟩) 0 0) 0 [] rfl (own_empty (p := w6.heap.size) ((Blk.made _ _ _).drew 1) (by omega)) _ _ rfl (HS1.out _ (by omega) _ (by (repeat (first | exact Below.refl _ _ | assumption | refine balloc ?_ _ | refine below_drewN ?_ _ | refine bstep (by assumption) ?_ | refine bstep (Past.prop _) ?_ | refine Below.setCell ?_ (by first | exact Nat.le_refl _ | (simp; done) | (simp; omega)) _)))) (by (try simp only [List.length_take]); omega) (by (repeat (first | exact Below.refl _ _ | assumption | refine balloc ?_ _ | refine below_drewN ?_ _ | refine bstep (by assumption) ?_ | refine bstep (Past.prop _) ?_ | refine Below.setCell ?_ (by first | exact Nat.le_refl _ | (simp; done) | (simp; omega)) _))) ?_; intro v1 w1 own1 hb1 keep1; have hcell1 := (hb1.cell (p := ⟨b, off + k, none⟩) o3).trans o4; have hsz1 := hb1.size) | (refine step_app rfl (.tmp 44) (.tmp 47) 38 rfl w6 2 i0 Try.underlying38 HI.out HZ0.out HZ1.out HZ2.out (.slice (some ⟨w6.heap.size, 0, none⟩) 0 0) 0 [] rfl (own_empty (p := w6.heap.size) (((Blk.made _ _ _).alloc _).drew 1) (by omega)) _ _ rfl (HS1.out _ (by omega) _ (by (repeat (first | exact Below.refl _ _ | assumption | refine balloc ?_ _ | refine below_drewN ?_ _ | refine bstep (by assumption) ?_ | refine bstep (Past.prop _) ?_ | refine Below.setCell ?_ (by first | exact Nat.le_refl _ | (simp; done) | (simp; omega)) _)))) (by (try simp only [List.length_take]); omega) (by (repeat (first | exact Below.refl _ _ | assumption | refine balloc ?_ _ | refine below_drewN ?_ _ | refine bstep (by assumption) ?_ | refine bstep (Past.prop _) ?_ | refine Below.setCell ?_ (by first | exact Nat.le_refl _ | (simp; done) | (simp; omega)) _))) ?_; intro v1 w1 own1 hb1 keep1; have hcell1 := (hb1.cell (p := ⟨b, off + k, none⟩) o3).trans o4; have hsz1 := hb1.size) | (refine step_app rfl (.tmp 44) (.tmp 47) 38 rfl w6 2 i0 Try.underlying38 HI.out HZ0.out HZ1.out HZ2.out (.slice (some ⟨w6.heap.size + 1, 0, none⟩) 0 0) 0 [] rfl (own_empty (p := w6.heap.size + 1) ((Blk.made_at _ _ _ _ (by simp)).drew 1) (by omega)) _ _ rfl (HS1.out _ (by omega) _ (by (repeat (first | exact Below.refl _ _ | assumption | refine balloc ?_ _ | refine below_drewN ?_ _ | refine bstep (by assumption) ?_ | refine bstep (Past.prop _) ?_ | refine Below.setCell ?_ (by first | exact Nat.le_refl _ | (simp; done) | (simp; omega)) _)))) (by (try simp only [List.length_take]); omega) (by (repeat (first | exact Below.refl _ _ | assumption | refine balloc ?_ _ | refine below_drewN ?_ _ | refine bstep (by assumption) ?_ | refine bstep (Past.prop _) ?_ | refine Below.setCell ?_ (by first | exact Nat.le_refl _ | (simp; done) | (simp; omega)) _))) ?_; intro v1 w1 own1 hb1 keep1; have hcell1 := (hb1.cell (p := ⟨b, off + k, none⟩) o3).trans o4; have hsz1 := hb1.size) | (refine step_app rfl (.tmp 48) (.tmp 53) 38 rfl w6 2 i0 Try.underlying38 HI.out HZ0.out HZ1.out HZ2.out _ _ _ rfl (own1.alloc _) _ [x] rfl (src_one (Blk.made _ _ _)) (by (try simp only [List.length_cons, List.length_nil, List.length_take]); omega) (by (repeat (first | exact Below.refl _ _ | assumption | refine balloc ?_ _ | refine below_drewN ?_ _ | refine bstep (by assumption) ?_ | refine bstep (Past.prop _) ?_ | refine Below.setCell ?_ (by first | exact Nat.le_refl _ | (simp; done) | (simp; omega)) _))) ?_; intro v2 w2 own2 hb2 keep2) | (refine step_app rfl (.tmp 48) (.tmp 53) 38 rfl w6 2 i0 Try.underlying38 HI.out HZ0.out HZ1.out HZ2.out _ _ _ rfl (own1) _ [x] rfl (src_one (keep1 w6.heap.size _ _ (((Blk.made _ _ _).alloc _).drew 1) (by simp [Value.ownBlock]))) (by (try simp only [List.length_cons, List.length_nil, List.length_take]); omega) (by (repeat (first | exact Below.refl _ _ | assumption | refine balloc ?_ _ | refine below_drewN ?_ _ | refine bstep (by assumption) ?_ | refine bstep (Past.prop _) ?_ | refine Below.setCell ?_ (by first | exact Nat.le_refl _ | (simp; done) | (simp; omega)) _))) ?_; intro v2 w2 own2 hb2 keep2) | (refine step_app rfl (.tmp 48) (.tmp 53) 38 rfl w6 2 i0 Try.underlying38 HI.out HZ0.out HZ1.out HZ2.out _ _ _ rfl (own1) _ [x] rfl (src_one (keep1 (w6.heap.size + 1) _ _ ((Blk.made_at _ _ _ _ (by simp)).drew 1) (by simp [Value.ownBlock]))) (by (try simp only [List.length_cons, List.length_nil, List.length_take]); omega) (by (repeat (first | exact Below.refl _ _ | assumption | refine balloc ?_ _ | refine below_drewN ?_ _ | refine bstep (by assumption) ?_ | refine bstep (Past.prop _) ?_ | refine Below.setCell ?_ (by first | exact Nat.le_refl _ | (simp; done) | (simp; omega)) _))) ?_; intro v2 w2 own2 hb2 keep2) | (refine step_app rfl (.tmp 54) (.tmp 57) 38 rfl w6 2 i0 Try.underlying38 HI.out HZ0.out HZ1.out HZ2.out _ _ _ rfl own2 _ _ rfl (HS3.out _ _ _ (by omega) (by omega) _ (by (repeat (first | exact Below.refl _ _ | assumption | refine balloc ?_ _ | refine below_drewN ?_ _ | refine bstep (by assumption) ?_ | refine bstep (Past.prop _) ?_ | refine Below.setCell ?_ (by first | exact Nat.le_refl _ | (simp; done) | (simp; omega)) _)))) (by (try simp only [List.length_cons, List.length_nil, List.length_take, List.length_drop]); omega) (by (repeat (first | exact Below.refl _ _ | assumption | refine balloc ?_ _ | refine below_drewN ?_ _ | refine bstep (by assumption) ?_ | refine bstep (Past.prop _) ?_ | refine Below.setCell ?_ (by first | exact Nat.le_refl _ | (simp; done) | (simp; omega)) _))) ?_; intro v3 w3 own3 hb3 keep3))
                  all_goals
                    go_wp2
                    have hown3 := own_fin own3 HI3.out
                    rw [← HT.out] at hown3
                    have HO3 := hidE (own_low hown3 o2'.size); have HB3 := hidE (o2'.trans (hb3.mono o2'.size))
                    clear hown3
                    go_roundg (l.length - (k + 1))
                    case measure => omega
                    case rel => exact ⟨k + 1, v3, rfl, by omega, Nat.le_refl _, by go_num, HB3.out, HO3.out⟩
                · have hjce : ¬ co = j := fun h => hjc h.symm
                  go_wp2_with fail
                  go_region_law (first | (refine step_app rfl (.tmp 44) (.tmp 47) 38 rfl w6 2 i0 Try.underlying38 HI.out HZ0.out HZ1.out HZ2.out (.slice (some ⟨w6.heap.size, 0, none⟩) 0 0) 0 [] rfl (own_empty (p := w6.heap.size) ((Blk.made _ _ _).drew 1) (by omega)) _ _ rfl (HS1.out _ (by omega) _ (by (repeat (first | exact Below.refl _ _ | assumption | refine balloc ?_ _ | refine below_drewN ?_ _ | refine bstep (by assumption) ?_ | refine bstep (Past.prop _) ?_ | refine Below.setCell ?_ (by first | exact Nat.le_refl _ | (simp; done) | (simp; omega)) _)))) (by (try simp only [List.length_take]); omega) (by (repeat (first | exact Below.refl _ _ | assumption | refine balloc ?_ _ | refine below_drewN ?_ _ | refine bstep (by assumption) ?_ | refine bstep (Past.prop _) ?_ | refine Below.setCell ?_ (by first | exact Nat.le_refl _ | (simp; done) | (simp; omega)) _))) ?_; intro v1 w1 own1 hb1 keep1; have hcell1 := (hb1.cell (p := ⟨b, off + k, none⟩) o3).trans o4; have hsz1 := hb1.size) | (refine step_app rfl (.tmp 44) (.tmp 47) 38 rfl w6 2 i0 Try.underlying38 HI.out HZ0.out HZ1.out HZ2.out (.slice (some ⟨w6.heap.size, 0, none⟩) 0 0) 0 [] rfl (own_empty (p := w6.heap.size) (((Blk.made _ _ _).alloc _).drew 1) (by omega)) _ _ rfl (HS1.out _ (by omega) _ (by (repeat (first | exact Below.refl _ _ | assumption | refine balloc ?_ _ | refine below_drewN ?_ _ | refine bstep (by assumption) ?_ | refine bstep (Past.prop _) ?_ | refine Below.setCell ?_ (by first | exact Nat.le_refl _ | (simp; done) | (simp; omega)) _)))) (by (try simp only [List.length_take]); omega) (by (repeat (first | exact Below.refl _ _ | assumption | refine balloc ?_ _ | refine below_drewN ?_ _ | refine bstep (by assumption) ?_ | refine bstep (Past.prop _) ?_ | refine Below.setCell ?_ (by first | exact Nat.le_refl _ | (simp; done) | (simp; omega)) _))) ?_; intro v1 w1 own1 hb1 keep1; have hcell1 := (hb1.cell (p := ⟨b, off + k, none⟩) o3).trans o4; have hsz1 := hb1.size) | (refine step_app rfl (.tmp 44) (.tmp 47) 38 rfl w6 2 i0 Try.underlying38 HI.out HZ0.out HZ1.out HZ2.out (.slice (some ⟨w6.heap.size + 1, 0, none⟩) 0 0) 0 [] rfl (own_empty (p := w6.heap.size + 1) ((Blk.made_at _ _ _ _ (by simp)).drew 1) (by omega)) _ _ rfl (HS1.out _ (by omega) _ (by (repeat (first | exact Below.refl _ _ | assumption | refine balloc ?_ _ | refine below_drewN ?_ _ | refine bstep (by assumption) ?_ | refine bstep (Past.prop _) ?_ | refine Below.setCell ?_ (by first | exact Nat.le_refl _ | (simp; done) | (simp; omega)) _)))) (by (try simp only [List.length_take]); omega) (by (repeat (first | exact Below.refl _ _ | assumption | refine balloc ?_ _ | refine below_drewN ?_ _ | refine bstep (by assumption) ?_ | refine bstep (Past.prop _) ?_ | refine Below.setCell ?_ (by first | exact Nat.le_refl _ | (simp; done) | (simp; omega)) _))) ?_; intro v1 w1 own1 hb1 keep1; have hcell1 := (hb1.cell (p := ⟨b, off + k, none⟩) o3).trans o4; have hsz1 := hb1.size) | (refine step_app rfl (.tmp 48) (.tmp 53) 38 rfl w6 2 i0 Try.underlying38 HI.out HZ0.out HZ1.out HZ2.out _ _ _ rfl (own1.alloc _) _ [x] rfl (src_one (Blk.made _ _ _)) (by (try simp only [List.length_cons, List.length_nil, List.length_take]); omega) (by (repeat (first | exact Below.refl _ _ | assumption | refine balloc ?_ _ | refine below_drewN ?_ _ | refine bstep (by assumption) ?_ | refine bstep (Past.prop _) ?_ | refine Below.setCell ?_ (by first | exact Nat.le_refl _ | (simp; done) | (simp; omega)) _))) ?_; intro v2 w2 own2 hb2 keep2) | (refine step_app rfl (.tmp 48) (.tmp 53) 38 rfl w6 2 i0 Try.underlying38 HI.out HZ0.out HZ1.out HZ2.out _ _ _ rfl (own1) _ [x] rfl (src_one (keep1 w6.heap.size _ _ (((Blk.made _ _ _).alloc _).drew 1) (by simp [Value.ownBlock]))) (by (try simp only [List.length_cons, List.length_nil, List.length_take]); omega) (by (repeat (first | exact Below.refl _ _ | assumption | refine balloc ?_ _ | refine below_drewN ?_ _ | refine bstep (by assumption) ?_ | refine bstep (Past.prop _) ?_ | refine Below.setCell ?_ (by first | exact Nat.le_refl _ | (simp; done) | (simp; omega)) _))) ?_; intro v2 w2 own2 hb2 keep2) | (refine step_app rfl (.tmp 48) (.tmp 53) 38 rfl w6 2 i0 Try.underlying38 HI.out HZ0.out HZ1.out HZ2.out _ _ _ rfl (own1) _ [x] rfl (src_one (keep1 (w6.heap.size + 1) _ _ ((Blk.made_at _ _ _ _ (by simp)).drew 1) (by simp [Value.ownBlock]))) (by (try simp only [List.length_cons, List.length_nil, List.length_take]); omega) (by (repeat (first | exact Below.refl _ _ | assumption | refine balloc ?_ _ | refine below_drewN ?_ _ | refine bstep (by assumption) ?_ | refine bstep (Past.prop _) ?_ | refine Below.setCell ?_ (by first | exact Nat.le_refl _ | (simp; done) | (simp; omega)) _))) ?_; intro v2 w2 own2 hb2 keep2) | (refine step_app rfl (.tmp 54) (.tmp 57) 38 rfl w6 2 i0 Try.underlying38 HI.out HZ0.out HZ1.out HZ2.out _ _ _ rfl own2 _ _ rfl (HS3.out _ _ _ (by omega) (by omega) _ (by (repeat (first | exact Below.refl _ _ | assumption | refine balloc ?_ _ | refine below_drewN ?_ _ | refine bstep (by assumption) ?_ | refine bstep (Past.prop _) ?_ | refine Below.setCell ?_ (by first | exact Nat.le_refl _ | (simp; done) | (simp; omega)) _)))) (by (try simp only [List.length_cons, List.length_nil, List.length_take, List.length_drop]); omega) (by (repeat (first | exact Below.refl _ _ | assumption | refine balloc ?_ _ | refine below_drewN ?_ _ | refine bstep (by assumption) ?_ | refine bstep (Past.prop _) ?_ | refine Below.setCell ?_ (by first | exact Nat.le_refl _ | (simp; done) | (simp; omega)) _))) ?_; intro v3 w3 own3 hb3 keep3))
                  all_goals
                    go_wp2
                    have hown3 := own_fin own3 HI3.out
                    rw [← HT.out] at hown3
                    have HO3 := hidE (own_low hown3 o2'.size); have HB3 := hidE (o2'.trans (hb3.mono o2'.size))
                    clear hown3
                    go_roundg (l.length - (k + 1))
                    case measure => omega
                    case rel => exact ⟨k + 1, v3, rfl, by omega, Nat.le_refl _, by go_num, HB3.out, HO3.out⟩
          · have hje : j = o.length := by omega
            have HI3 := hidE (show insT x o = o.take j ++ x :: o.drop j by rw [insT_at (x := x) (o := o) (k := j) hj HJ.out (fun h => absurd h hjl), if_neg (fun q => hjl q.1)])
            have hjd : decide ((j : Int) < (o.length : Int)) = false := decide_eq_false (by omega)
            have hje1 : j ≤ o.length := by omega
            have hje2 : o.length ≤ j := by omega
            clear hje HJ
            go_wp2_with fail
            refine wp_region_past_lit (by kernel_rfl) (by kernel_rfl) ?_
            have hcp := Past.cell (W := wr)
            repeat (go_big_quiet_step (fail))
            refine wpQuiet_nil ?_
            rintro _ ⟨x', rfl⟩
            have o1 := bstep x'.2 HBR.out
            have e1 := (x'.2.cell (p := ⟨b, off + k, none⟩) hbb2).trans d1
            have hb5 := Nat.lt_of_lt_of_le hbb2 x'.2.size
            have hg5 := Nat.lt_of_lt_of_le hgl2 x'.2.size
            clear hcp d1 HBR
            generalize x'.1 = w5 at *
            go_wp2_with fail
            refine wp_region_past_lit (by kernel_rfl) (by kernel_rfl) ?_
            have hcp := Past.cell (W := w5)
            repeat (go_big_quiet_step (fail))
            refine wpQuiet_nil ?_
            rintro _ ⟨x', rfl⟩
            have o1 := bstep x'.2 o1
            have o4 := (x'.2.cell (p := ⟨b, off + k, none⟩) hb5).trans e1
            have o3 := Nat.lt_of_lt_of_le hb5 x'.2.size
            have hg6 := Nat.lt_of_lt_of_le hg5 x'.2.size
            clear hcp e1 hb5 hg5
            generalize x'.1 = w6 at *
            have o2' := HB.out.trans (o1.mono hsz)
            have HCW := hidE (fun (w' : World) (hw' : Below w6.heap.size w6 w') (i : Nat) (hi : i < o.length) => ((bstep hw' o1).cell (p := ⟨g, i, none⟩) hglt).trans (HC.out i hi))
            have HS1 := hidE (fun (n : Nat) (hn : n = j) (w' : World) (hw' : Below w6.heap.size w6 w') => src_take (cap := co) (n := n) (HCW.out w' hw') hj hn)
            have HS3 := hidE (fun (n p c : Nat) (hn : n = o.length - j) (hp : p = j ∨ j = o.length) (w' : World) (hw' : Below w6.heap.size w6 w') => src_drop (cap := c) (n := n) (p := p) (HCW.out w' hw') hj hn hp)
            clear HC HO HB d0 o1
            have hjco : j ≤ co := by omega
            have hjcz : (j : Int) ≤ (co : Int) := by omega
            by_cases hjc : j = co
            · subst hjc
              go_wp2_with fail
              go_region_law (first | (refine step_app rfl (.tmp 44) (.tmp 47) 38 rfl w6 2 i0 Try.underlying38 HI.out HZ0.out HZ1.out HZ2.out (.slice (some ⟨w6.heap.size, 0, none⟩) 0 0) 0 [] rfl (own_empty (p := w6.heap.size) ((Blk.made _ _ _).drew 1) (by omega)) _ _ rfl (HS1.out _ (by omega) _ (by (repeat (first | exact Below.refl _ _ | assumption | refine balloc ?_ _ | refine below_drewN ?_ _ | refine bstep (by assumption) ?_ | refine bstep (Past.prop _) ?_ | refine Below.setCell ?_ (by first | exact Nat.le_refl _ | (simp; done) | (simp; omega)) _)))) (by (try simp only [List.length_take]); omega) (by (repeat (first | exact Below.refl _ _ | assumption | refine balloc ?_ _ | refine below_drewN ?_ _ | refine bstep (by assumption) ?_ | refine bstep (Past.prop _) ?_ | refine Below.setCell ?_ (by first | exact Nat.le_refl _ | (simp; done) | (simp; omega)) _))) ?_; intro v1 w1 own1 hb1 keep1; have hcell1 := (hb1.cell (p := ⟨b, off + k, none⟩) o3).trans o4; have hsz1 := hb1.size) | (refine step_app rfl (.tmp 44) (.tmp 47) 38 rfl w6 2 i0 Try.underlying38 HI.out HZ0.out HZ1.out HZ2.out (.slice (some ⟨w6.heap.size, 0, none⟩) 0 0) 0 [] rfl (own_empty (p := w6.heap.size) (((Blk.made _ _ _).alloc _).drew 1) (by omega)) _ _ rfl (HS1.out _ (by omega) _ (by (repeat (first | exact Below.refl _ _ | assumption | refine balloc ?_ _ | refine below_drewN ?_ _ | refine bstep (by assumption) ?_ | refine bstep (Past.prop _) ?_ | refine Below.setCell ?_ (by first | exact Nat.le_refl _ | (simp; done) | (simp; omega)) _)))) (by (try simp only [List.length_take]); omega) (by (repeat (first | exact Below.refl _ _ | assumption | refine balloc ?_ _ | refine below_drewN ?_ _ | refine bstep (by assumption) ?_ | refine bstep (Past.prop _) ?_ | refine Below.setCell ?_ (by first | exact Nat.le_refl _ | (simp; done) | (simp; omega)) _))) ?_; intro v1 w1 own1 hb1 keep1; have hcell1 := (hb1.cell (p := ⟨b, off + k, none⟩) o3).trans o4; have hsz1 := hb1.size) | (refine step_app rfl (.tmp 44) (.tmp 47) 38 rfl w6 2 i0 Try.underlying38 HI.out HZ0.out HZ1.out HZ2.out (.slice (some ⟨w6.heap.size + 1, 0, none⟩) 0 0) 0 [] rfl (own_empty (p := w6.heap.size + 1) ((Blk.made_at _ _ _ _ (by simp)).drew 1) (by omega)) _ _ rfl (HS1.out _ (by omega) _ (by (repeat (first | exact Below.refl _ _ | assumption | refine balloc ?_ _ | refine below_drewN ?_ _ | refine bstep (by assumption) ?_ | refine bstep (Past.prop _) ?_ | refine Below.setCell ?_ (by first | exact Nat.le_refl _ | (simp; done) | (simp; omega)) _)))) (by (try simp only [List.length_take]); omega) (by (repeat (first | exact Below.refl _ _ | assumption | refine balloc ?_ _ | refine below_drewN ?_ _ | refine bstep (by assumption) ?_ | refine bstep (Past.prop _) ?_ | refine Below.setCell ?_ (by first | exact Nat.le_refl _ | (simp; done) | (simp; omega)) _))) ?_; intro v1 w1 own1 hb1 keep1; have hcell1 := (hb1.cell (p := ⟨b, off + k, none⟩) o3).trans o4; have hsz1 := hb1.size) | (refine step_app rfl (.tmp 48) (.tmp 53) 38 rfl w6 2 i0 Try.underlying38 HI.out HZ0.out HZ1.out HZ2.out _ _ _ rfl (own1.alloc _) _ [x] rfl (src_one (Blk.made _ _ _)) (by (try simp only [List.length_cons, List.length_nil, List.length_take]); omega) (by (repeat (first | exact Below.refl _ _ | assumption | refine balloc ?_ _ | refine below_drewN ?_ _ | refine bstep (by assumption) ?_ | refine bstep (Past.prop _) ?_ | refine Below.setCell ?_ (by first | exact Nat.le_refl _ | (simp; done) | (simp; omega)) _))) ?_; intro v2 w2 own2 hb2 keep2) | (refine step_app rfl (.tmp 48) (.tmp 53) 38 rfl w6 2 i0 Try.underlying38 HI.out HZ0.out HZ1.out HZ2.out _ _ _ rfl (own1) _ [x] rfl (src_one (keep1 w6.heap.size _ _ (((Blk.made _ _ _).alloc _).drew 1) (by simp [Value.ownBlock]))) (by (try simp only [List.length_cons, List.length_nil, List.length_take]); omega) (by (repeat (first | exact Below.refl _ _ | assumption | refine balloc ?_ _ | refine below_drewN ?_ _ | refine bstep (by assumption) ?_ | refine bstep (Past.prop _) ?_ | refine Below.setCell ?_ (by first | exact Nat.le_refl _ | (simp; done) | (simp; omega)) _))) ?_; intro v2 w2 own2 hb2 keep2) | (refine step_app rfl (.tmp 48) (.tmp 53) 38 rfl w6 2 i0 Try.underlying38 HI.out HZ0.out HZ1.out HZ2.out _ _ _ rfl (own1) _ [x] rfl (src_one (keep1 (w6.heap.size + 1) _ _ ((Blk.made_at _ _ _ _ (by simp)).drew 1) (by simp [Value.ownBlock]))) (by (try simp only [List.length_cons, List.length_nil, List.length_take]); omega) (by (repeat (first | exact Below.refl _ _ | assumption | refine balloc ?_ _ | refine below_drewN ?_ _ | refine bstep (by assumption) ?_ | refine bstep (Past.prop _) ?_ | refine Below.setCell ?_ (by first | exact Nat.le_refl _ | (simp; done) | (simp; omega)) _))) ?_; intro v2 w2 own2 hb2 keep2) | (refine step_app rfl (.tmp 54) (.tmp 57) 38 rfl w6 2 i0 Try.underlying38 HI.out HZ0.out HZ1.out HZ2.out _ _ _ rfl own2 _ _ rfl (HS3.out _ _ _ (by omega) (by omega) _ (by (repeat (first | exact Below.refl _ _ | assumption | refine balloc ?_ _ | refine below_drewN ?_ _ | refine bstep (by assumption) ?_ | refine bstep (Past.prop _) ?_ | refine Below.setCell ?_ (by first | exact Nat.le_refl _ | (simp; done) | (simp; omega)) _)))) (by (try simp only [List.length_cons, List.length_nil, List.length_take, List.length_drop]); omega) (by (repeat (first | exact Below.refl _ _ | assumption | refine balloc ?_ _ | refine below_drewN ?_ _ | refine bstep (by assumption) ?_ | refine bstep (Past.prop _) ?_ | refine Below.setCell ?_ (by first | exact Nat.le_refl _ | (simp; done) | (simp; omega)) _))) ?_; intro v3 w3 own3 hb3 keep3))
              all_goals
                go_wp2
                have hown3 := own_fin own3 HI3.out
                rw [← HT.out] at hown3
                have HO3 := hidE (own_low hown3 o2'.size); have HB3 := hidE (o2'.trans (hb3.mono o2'.size))
                clear hown3
                go_roundg (l.length - (k + 1))
                case measure => omega
                case rel => exact ⟨k + 1, v3, rfl, by omega, Nat.le_refl _, by go_num, HB3.out, HO3.out⟩
            · have hjce : ¬ co = j := fun h => hjc h.symm
              go_wp2_with fail
              go_region_law (first | (refine step_app rfl (.tmp 44) (.tmp 47) 38 rfl w6 2 i0 Try.underlying38 HI.out HZ0.out HZ1.out HZ2.out (.slice (some ⟨w6.heap.size, 0, none⟩) 0 0) 0 [] rfl (own_empty (p := w6.heap.size) ((Blk.made _ _ _).drew 1) (by omega)) _ _ rfl (HS1.out _ (by omega) _ (by (repeat (first | exact Below.refl _ _ | assumption | refine balloc ?_ _ | refine below_drewN ?_ _ | refine bstep (by assumption) ?_ | refine bstep (Past.prop _) ?_ | refine Below.setCell ?_ (by first | exact Nat.le_refl _ | (simp; done) | (simp; omega)) _)))) (by (try simp only [List.length_take]); omega) (by (repeat (first | exact Below.refl _ _ | assumption | refine balloc ?_ _ | refine below_drewN ?_ _ | refine bstep (by assumption) ?_ | refine bstep (Past.prop _) ?_ | refine Below.setCell ?_ (by first | exact Nat.le_refl _ | (simp; done) | (simp; omega)) _))) ?_; intro v1 w1 own1 hb1 keep1; have hcell1 := (hb1.cell (p := ⟨b, off + k, none⟩) o3).trans o4; have hsz1 := hb1.size) | (refine step_app rfl (.tmp 44) (.tmp 47) 38 rfl w6 2 i0 Try.underlying38 HI.out HZ0.out HZ1.out HZ2.out (.slice (some ⟨w6.heap.size, 0, none⟩) 0 0) 0 [] rfl (own_empty (p := w6.heap.size) (((Blk.made _ _ _).alloc _).drew 1) (by omega)) _ _ rfl (HS1.out _ (by omega) _ (by (repeat (first | exact Below.refl _ _ | assumption | refine balloc ?_ _ | refine below_drewN ?_ _ | refine bstep (by assumption) ?_ | refine bstep (Past.prop _) ?_ | refine Below.setCell ?_ (by first | exact Nat.le_refl _ | (simp; done) | (simp; omega)) _)))) (by (try simp only [List.length_take]); omega) (by (repeat (first | exact Below.refl _ _ | assumption | refine balloc ?_ _ | refine below_drewN ?_ _ | refine bstep (by assumption) ?_ | refine bstep (Past.prop _) ?_ | refine Below.setCell ?_ (by first | exact Nat.le_refl _ | (simp; done) | (simp; omega)) _))) ?_; intro v1 w1 own1 hb1 keep1; have hcell1 := (hb1.cell (p := ⟨b, off + k, none⟩) o3).trans o4; have hsz1 := hb1.size) | (refine step_app rfl (.tmp 44) (.tmp 47) 38 rfl w6 2 i0 Try.underlying38 HI.out HZ0.out HZ1.out HZ2.out (.slice (some ⟨w6.heap.size + 1, 0, none⟩) 0 0) 0 [] rfl (own_empty (p := w6.heap.size + 1) ((Blk.made_at _ _ _ _ (by simp)).drew 1) (by omega)) _ _ rfl (HS1.out _ (by omega) _ (by (repeat (first | exact Below.refl _ _ | assumption | refine balloc ?_ _ | refine below_drewN ?_ _ | refine bstep (by assumption) ?_ | refine bstep (Past.prop _) ?_ | refine Below.setCell ?_ (by first | exact Nat.le_refl _ | (simp; done) | (simp; omega)) _)))) (by (try simp only [List.length_take]); omega) (by (repeat (first | exact Below.refl _ _ | assumption | refine balloc ?_ _ | refine below_drewN ?_ _ | refine bstep (by assumption) ?_ | refine bstep (Past.prop _) ?_ | refine Below.setCell ?_ (by first | exact Nat.le_refl _ | (simp; done) | (simp; omega)) _))) ?_; intro v1 w1 own1 hb1 keep1; have hcell1 := (hb1.cell (p := ⟨b, off + k, none⟩) o3).trans o4; have hsz1 := hb1.size) | (refine step_app rfl (.tmp 48) (.tmp 53) 38 rfl w6 2 i0 Try.underlying38 HI.out HZ0.out HZ1.out HZ2.out _ _ _ rfl (own1.alloc _) _ [x] rfl (src_one (Blk.made _ _ _)) (by (try simp only [List.length_cons, List.length_nil, List.length_take]); omega) (by (repeat (first | exact Below.refl _ _ | assumption | refine balloc ?_ _ | refine below_drewN ?_ _ | refine bstep (by assumption) ?_ | refine bstep (Past.prop _) ?_ | refine Below.setCell ?_ (by first | exact Nat.le_refl _ | (simp; done) | (simp; omega)) _))) ?_; intro v2 w2 own2 hb2 keep2) | (refine step_app rfl (.tmp 48) (.tmp 53) 38 rfl w6 2 i0 Try.underlying38 HI.out HZ0.out HZ1.out HZ2.out _ _ _ rfl (own1) _ [x] rfl (src_one (keep1 w6.heap.size _ _ (((Blk.made _ _ _).alloc _).drew 1) (by simp [Value.ownBlock]))) (by (try simp only [List.length_cons, List.length_nil, List.length_take]); omega) (by (repeat (first | exact Below.refl _ _ | assumption | refine balloc ?_ _ | refine below_drewN ?_ _ | refine bstep (by assumption) ?_ | refine bstep (Past.prop _) ?_ | refine Below.setCell ?_ (by first | exact Nat.le_refl _ | (simp; done) | (simp; omega)) _))) ?_; intro v2 w2 own2 hb2 keep2) | (refine step_app rfl (.tmp 48) (.tmp 53) 38 rfl w6 2 i0 Try.underlying38 HI.out HZ0.out HZ1.out HZ2.out _ _ _ rfl (own1) _ [x] rfl (src_one (keep1 (w6.heap.size + 1) _ _ ((Blk.made_at _ _ _ _ (by simp)).drew 1) (by simp [Value.ownBlock]))) (by (try simp only [List.length_cons, List.length_nil, List.length_take]); omega) (by (repeat (first | exact Below.refl _ _ | assumption | refine balloc ?_ _ | refine below_drewN ?_ _ | refine bstep (by assumption) ?_ | refine bstep (Past.prop _) ?_ | refine Below.setCell ?_ (by first | exact Nat.le_refl _ | (simp; done) | (simp; omega)) _))) ?_; intro v2 w2 own2 hb2 keep2) | (refine step_app rfl (.tmp 54) (.tmp 57) 38 rfl w6 2 i0 Try.underlying38 HI.out HZ0.out HZ1.out HZ2.out _ _ _ rfl own2 _ _ rfl (HS3.out _ _ _ (by omega) (by omega) _ (by (repeat (first | exact Below.refl _ _ | assumption | refine balloc ?_ _ | refine below_drewN ?_ _ | refine bstep (by assumption) ?_ | refine bstep (Past.prop _) ?_ | refine Below.setCell ?_ (by first | exact Nat.le_refl _ | (simp; done) | (simp; omega)) _)))) (by (try simp only [List.length_cons, List.length_nil, List.length_take, List.length_drop]); omega) (by (repeat (first | exact Below.refl _ _ | assumption | refine balloc ?_ _ | refine below_drewN ?_ _ | refine bstep (by assumption) ?_ | refine bstep (Past.prop _) ?_ | refine Below.setCell ?_ (by first | exact Nat.le_refl _ | (simp; done) | (simp; omega)) _))) ?_; intro v3 w3 own3 hb3 keep3))
              all_goals
                go_wp2
                have hown3 := own_fin own3 HI3.out
                rw [← HT.out] at hown3
                have HO3 := hidE (own_low hown3 o2'.size); have HB3 := hidE (o2'.trans (hb3.mono o2'.size))
                clear hown3
                go_roundg (l.length - (k + 1))
                case measure => omega
                case rel => exact ⟨k + 1, v3, rfl, by omega, Nat.le_refl _, by go_num, HB3.out, HO3.out⟩
    · have hk' : k = l.length := by omega
      subst hk'
      have ho := HO.out
      rw [List.take_length] at ho
      have HO2 := hidE ho; clear ho HO
      go_wp2
      go_ret
      exact ⟨_, rfl, HO2.out, HB.out⟩
end Go.Proofs.Ytjhhcljbmnomlaa

namespace Go.Proofs.Ytjhhcljbmnomlaa
open Go.ChangeShapes Go.WideShapes Go.ChangeAt Go.RowKit
attribute [local irreducible] Go.Calls

/-- A row of numbers made by calls: a slice to append from. -/
theorem src_own {w : World} {B : Nat} {e : TypeId} {v : Value} {l : List Int} (h : w.ownsRow B e 1 v l.length (cellsI l)) : SrcI w v l := by
  obtain ⟨h1, h2 | ⟨g, cap, cur, rfl, h3, h4, h5, h6, h7, h8⟩⟩ := h
  · obtain ⟨rfl, h2⟩ := h2
    have : l = [] := List.eq_nil_of_length_eq_zero h2
    subst this
    exact src_nil w
  · refine ⟨some ⟨g, 0, none⟩, cap, rfl, (fun h => by cases h), fun ad had j u hj => ?_⟩
    cases had
    have hjl : j < l.length := by
      have := (List.getElem?_eq_some_iff.1 hj).1
      simpa [cellsI] using this
    have e2 : w.cell? ⟨g, j, none⟩ = cur[j]? := by simp [World.cell?, h4]
    have e3 : ((⟨g, 0, none⟩ : Addr).add j) = ⟨g, j, none⟩ := by
      unfold Addr.add
      by_cases c : j = 0
      · subst c; simp
      · simp [c]
    rw [e3, e2, ← Array.getElem?_toList]
    rw [← h8, List.getElem?_take, if_pos (by omega)] at hj
    exact hj
theorem wpList_append_src {P : Program} {ops : Array Oper} {rest : List Oper} {o : Oper} {a : Act} {w : World} {Q : Exit → Act → World → Prop} (hgd : o.guard = none) (s x : Operand) (t : TypeId)
    (hop : o.op = .call { callee := .builtin .append, args := #[s, x], argTypes := #[t, t] })
    (base : Nat) (e : TypeId) (i : TypeInfo) (ht : P.underlying t = some (.slice e)) (hi : P.info? e = some i) (hz : i.zero = some (.int .i64 0)) (hsize : i.size = 1) (hby : i.bytes = 8)
    (v : Value) (n : Nat) (xs : List Value) (hs : a.eval s = v) (hown : w.ownsRow base e 1 v n xs)
    (vx : Value) (news : List Int) (hx : a.eval x = vx) (hsrc : SrcI w vx news)
    (h63 : n + news.length ≤ 1099511627776) (hbase : base ≤ w.heap.size)
    (h : ∀ v' w', w'.ownsRow base e 1 v' (n + news.length) (xs ++ cellsI news) → w.grownBy w' v.ownBlock → wpList P ops Q rest (a.put o.dst v') w') : wpList P ops Q (o :: rest) a w := by
  obtain ⟨ad, cap, rfl, hn, hc⟩ := hsrc
  cases ad with
  | none =>
    obtain ⟨rfl, rfl⟩ := hn rfl
    exact wpList_append_own_none hgd s x t hop base e i 1 ht hi v n xs hs hown hx (h v w (by simpa [cellsI] using hown) ⟨rfl, rfl, rfl, Nat.le_refl _, fun _ _ _ => rfl⟩)
  | some ad =>
    exact wpList_append_own w hgd s x t hop base e i (.int .i64 0) 1 8 ht hi hz hsize hby rfl (by decide) v n xs hs hown ad news.length cap (cellsI news) hx (by simp [cellsI]) (hc ad rfl) (cellsI_one news) (by unfold maxLen; omega) (by omega) hbase fun v' w' h1 h2 _ => h v' w' h1 h2
theorem own_two {w : World} {p base : Nat} {e : TypeId} {x y : Int} (hB : Blk w p #[.int .i64 x, .int .i64 y] e) (hp : base ≤ p) : w.ownsRow base e 1 (.slice (some ⟨p, 0, none⟩) 2 2) 2 (cellsI [x, y]) :=
  ⟨rfl, .inr ⟨p, 2, #[.int .i64 x, .int .i64 y], rfl, hp, hB, Nat.le_refl _, by unfold maxLen; omega, rfl, rfl⟩⟩
end Go.Proofs.Ytjhhcljbmnomlaa

namespace Go.Proofs.Ytjhhcljbmnomlaa
open Go.ChangeShapes Go.WideShapes Go.ChangeAt Go.RowKit
attribute [local irreducible] Go.Calls

set_option maxHeartbeats 1000000 in
theorem rtwo_own (f g : List Sg) (a a' : Option Addr) (cap cap' : Nat) (w : World) (hl : f.length + g.length ≤ 1000000000) (hA : ArgS w a f) (hA' : ArgS w a' g) :
    Calls Try.prog 64 #[.slice a f.length cap, .slice a' g.length cap'] w (RetV w fun v w' => w'.ownsRow w.heap.size 2 1 v (twoT f g).length (cellsI (twoT f g))) := by
  have HA := hidE hA; have HA' := hidE hA'; clear hA hA'
  obtain ⟨i0, hi, hz0, hz1, hz2⟩ := info_parts Try.infoI64
  have HI := hidE hi; have HZ0 := hidE hz0; have HZ1 := hidE hz1; have HZ2 := hidE hz2
  clear hi hz0 hz1 hz2
  go_enter Try.func64, Try.ntmps64
  go_wp2_with fail
  ((with_reducible refine (rwhen_c f a cap _ (by omega) HA.out).mono ?_); rintro e w1 ⟨v1, rfl, ho1, hb1⟩)
  have HB1 := hidE hb1; have HO1 := hidE ho1
  clear hb1 ho1
  go_wp2_with fail
  ((with_reducible refine (rwhen_c g a' cap' _ (by omega) (HA'.out.past HB1.out)).mono ?_); rintro e w2 ⟨v2, rfl, ho2, hb2⟩)
  have HB2 := hidE (bstep hb2 HB1.out)
  have HO1' := hidE (own_below HO1.out hb2)
  have ho2' : w2.ownsRow w1.heap.size 2 1 v2 (g.map (·.1)).length (cellsI (g.map (·.1))) := by rw [List.length_map]; exact ho2
  have HS2 := hidE (src_own ho2')
  clear ho2 ho2' hb2 HO1
  go_wp2_with (at_builtin; refine wpList_append_src rfl (.tmp 6) (.tmp 8) 38 rfl w.heap.size 2 i0 Try.underlying38 HI.out HZ0.out HZ1.out HZ2.out _ _ _ rfl HO1'.out _ _ rfl HS2.out (by simp; omega) HB2.out.size ?_; intro v3 w3 ho3 hg3)
  have hb3 : Below w.heap.size w w3 := Below.grown HB2.out hg3 HB2.out.size (fun k hk => own_block HO1'.out hk)
  have ho3' : w3.ownsRow w.heap.size 2 1 v3 (f.map (·.1) ++ g.map (·.1)).length (cellsI (f.map (·.1) ++ g.map (·.1))) := by
    rw [cellsI_app, List.length_append, List.length_map]; exact ho3
  obtain ⟨a3, c3, rfl, _, _, hA3⟩ := sliI_own ho3'
  have hrt := rtimes_c (f.map (·.1) ++ g.map (·.1)) a3 c3 w3 (by simp; omega) hA3
  rw [show (f.map (·.1) ++ g.map (·.1)).length = f.length + g.length by simp] at hrt
  have HRT := hidE hrt
  clear hrt
  have HB3 := hidE hb3
  clear ho3 ho3' hg3 hb3 hA3
  go_wp2_with fail
  ((with_reducible refine (HRT.out).mono ?_); rintro e w4 ⟨v4, rfl, ho4, hb4⟩)
  have HB4 := hidE (bstep hb4 HB3.out)
  have HO4 := hidE (own_low ho4 HB3.out.size)
  clear hb4 ho4
  go_wp2
  go_ret
  exact ⟨_, rfl, HO4.out, HB4.out⟩
theorem rtwo_c (f g : List Sg) (a a' : Option Addr) (cap cap' : Nat) (w : World) (hl : f.length + g.length ≤ 1000000000) (hA : ArgS w a f) (hA' : ArgS w a' g) :
    Calls Try.prog 64 #[.slice a f.length cap, .slice a' g.length cap'] w (RetV w fun v w' => SliI w' v (twoT f g)) :=
  (rtwo_own f g a a' cap cap' w hl hA hA').mono fun _ _ ⟨v, h1, h2, h3⟩ => ⟨v, h1, sliI_own h2, h3⟩
end Go.Proofs.Ytjhhcljbmnomlaa

namespace Go.Proofs.Ytjhhcljbmnomlaa
open Go.ChangeShapes Go.WideShapes Go.ChangeAt Go.RowKit
attribute [local irreducible] Go.Calls

set_option maxHeartbeats 1000000 in
theorem rat_c (l : List Sg) (a : Option Addr) (cap : Nat) (t : Int) (w : World) (hl : l.length ≤ 9223372036854775807) (hA : ArgS w a l) :
    Calls Try.prog 13 #[.slice a l.length cap, .int .i64 t] w fun e w' => e = .returned (V (vat l t).1 (vat l t).2) ∧ Below w.heap.size w w' := by
  have HA := hidE hA; clear hA
  go_enter Try.func13, Try.ntmps13
  go_wp2
  go_loopg [6] l.length (fun g vi wr => ∃ k : Nat, k ≤ l.length ∧ l.length - k ≤ g ∧ vi = .int .i64 k ∧ Below w.heap.size w wr ∧ Blk wr (w.heap.size + 1) #[.int .i64 (vat (l.take k) t).1, .int .i64 (vat (l.take k) t).2] 27 ∧ Blk wr w.heap.size #[.int .i64 0, .int .i64 0] 27)
  case atStart => exact ⟨0, Nat.zero_le _, by omega, rfl, by (repeat (first | exact Below.refl _ _ | assumption | refine balloc ?_ _ | refine below_drewN ?_ _ | refine bstep (by assumption) ?_ | refine bstep (Past.prop _) ?_ | refine Below.setCell ?_ (by first | exact Nat.le_refl _ | (simp; done) | (simp; omega)) _)), Blk.made_at _ _ _ _ (by simp), (Blk.made _ _ _).alloc _⟩
  case round =>
    obtain ⟨k, hk, hg, rfl, hb, h1, h0⟩ := hrel
    have c10 := h1.cell 0; have c11 := h1.cell 1; have f1 := h1.free; have c00 := h0.cell 0; have c01 := h0.cell 1; have f0 := h0.free; have z1 := h1.lt; have z0 := h0.lt
    simp at c10 c11 c00 c01
    by_cases hlt : k < l.length
    · have HST := hidE (vat_step (t := t) hlt)
      obtain ⟨b, off, rfl, hbb, hc⟩ := (HA.out.past hb) (by omega)
      have hbw : b < w.heap.size := by
        obtain ⟨b', off', e, hb', _⟩ := HA.out (by omega)
        simp at e; omega
      obtain ⟨d0, d1, d2⟩ := hc.get hlt
      clear hc
      by_cases hq : ats l k ≤ t
      · have HS := hidE (show vat (l.take (k + 1)) t = vls l k by rw [HST.out, if_pos hq])
        have d3 : decide (ats l k ≤ t) = true := decide_eq_true hq
        have hn1 : b ≠ w.heap.size := by omega
        have hn2 : b ≠ w.heap.size + 1 := by omega
        clear HST c00 c01
        generalize ats l k = u at *
        generalize vls l k = v at *
        generalize vat (l.take k) t = q at *
        go_wp2
        go_roundg (l.length - (k + 1))
        case measure => omega
        case rel => exact ⟨k + 1, by omega, Nat.le_refl _, by go_num, by (repeat (first | exact Below.refl _ _ | assumption | refine balloc ?_ _ | refine below_drewN ?_ _ | refine bstep (by assumption) ?_ | refine bstep (Past.prop _) ?_ | refine Below.setCell ?_ (by first | exact Nat.le_refl _ | (simp; done) | (simp; omega)) _)), by rw [HS.out]; exact (h1.set 0 _).set 1 _, (h0.other (by omega) _).other (by omega) _⟩
      · have HS := hidE (show vat (l.take (k + 1)) t = vat (l.take k) t by rw [HST.out, if_neg hq])
        have d3 : decide (ats l k ≤ t) = false := decide_eq_false hq
        clear HST
        generalize ats l k = u at *
        go_wp2
        go_roundg (l.length - (k + 1))
        case measure => omega
        case rel => exact ⟨k + 1, by omega, Nat.le_refl _, by go_num, hb, by rw [HS.out]; exact h1, h0⟩
    · have hk' : k = l.length := by omega
      subst hk'
      have e : vat (l.take l.length) t = vat l t := by rw [List.take_length]
      rw [e] at c10 c11
      clear e
      generalize hq : vat l t = q at *
      have HQ := hidE hq; clear hq
      go_wp2
      have B0 := (h0.set 0 (.int .i64 q.1)).set 1 (.int .i64 q.2)
      have g0 := B0.cell 0; have g1 := B0.cell 1
      simp at g0 g1
      refine bodyPost_ret (v := V q.1 q.2) (by simp [results, Try.results13, go_sem, g0, g1]) rfl ⟨by rw [HQ.out], ?_⟩
      (repeat (first | exact Below.refl _ _ | assumption | refine balloc ?_ _ | refine below_drewN ?_ _ | refine bstep (by assumption) ?_ | refine bstep (Past.prop _) ?_ | refine Below.setCell ?_ (by first | exact Nat.le_refl _ | (simp; done) | (simp; omega)) _))
end Go.Proofs.Ytjhhcljbmnomlaa
