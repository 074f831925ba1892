/- The walk of the statement on what fits and can be used. Conditions: that the slices read as functions and policies. FitUsed: for every case and question, the statement's function answers true and leaves its arguments alone. No conditions. -/
import Derived.Test.YtjhhcljbmnomlaaPFGG
import Derived.Test.YtjhhcljbmnomlaaPFGA
namespace Go.Proofs.Ytjhhcljbmnomlaa
open Go.ChangeShapes Go.WideShapes Go.ChangeAt Go.RowKit
attribute [local irreducible] Go.Calls

/-- What stays in memory. -/
structure FuI (C L O : List Sg) (P : List Pol) (a1 a2 a3 a4 : Option Addr) (n1 c1 n2 c2 n3 c3 n4 c4 : Nat) (x0 x d m c : Int) (w W : World) : Prop where
  b1 : Blk W w.heap.size #[.slice a1 n1 c1, .slice a2 n2 c2, .slice a3 n3 c3, .slice a4 n4 c4, .int .i64 x0] 25
  b2 : Blk W (w.heap.size + 1) #[.int .i64 x, .int .i64 d, .int .i64 m, .int .i64 c] 29
  s1 : SliS W (.slice a1 n1 c1) C
  s2 : SliS W (.slice a2 n2 c2) L
  s3 : SliS W (.slice a3 n3 c3) O
  sp : ArgPs W a4 P
  bel : Below w.heap.size w W
section
variable {C L O : List Sg} {P : List Pol} {a1 a2 a3 a4 : Option Addr} {n1 c1 n2 c2 n3 c3 n4 c4 : Nat} {x0 x d m c : Int}
theorem FuI.past {w W W' : World} (h : FuI C L O P a1 a2 a3 a4 n1 c1 n2 c2 n3 c3 n4 c4 x0 x d m c w W) (hb : Below W.heap.size W W') : FuI C L O P a1 a2 a3 a4 n1 c1 n2 c2 n3 c3 n4 c4 x0 x d m c w W' :=
  ⟨h.b1.past hb, h.b2.past hb, h.s1.past hb, h.s2.past hb, h.s3.past hb, h.sp.past hb, bstep hb h.bel⟩
theorem freeIs_casesU {P : List Pol} {C L O f : List Sg} {x er : Int} (h : FreeIs P C L O x f er) : (er ≠ 0) ∨ (er = 0 ∧ FreeF P C L O x f) := by
  rcases h with ⟨_, rfl, rfl⟩ | ⟨hm, ⟨_, rfl, rfl⟩ | ⟨_, ⟨_, rfl, rfl⟩ | ⟨_, ⟨_, rfl, rfl⟩ | ⟨_, rfl, h⟩⟩⟩⟩
  · exact .inl (by decide)
  · exact .inl (by decide)
  · exact .inl (by decide)
  · exact .inl (by decide)
  · exact .inr ⟨rfl, h⟩
theorem range_lenU {F A : List Sg} {x y er : Int} {v : Int × Int} (h : rangeS F x y v = (A, er)) : A.length ≤ F.length + 2 := by
  unfold rangeS at h
  split at h
  · cases h; simp
  · split at h
    · cases h; simp
    · have hb := boxS_len x y v
      unfold doS at h
      split at h
      · cases h; simp
      · split at h
        · have := opL_len 0 F (boxS x y v).1
          cases h; omega
        · cases h; simp
/-- What is kept up to a time of the list. -/
def kpT (P : List Pol) (C A B : List Sg) (x d t : Int) : Bool := !(inW x d t) || P.all (keepP C A B t)
def kpS (P : List Pol) (C A B : List Sg) (x d : Int) (ts : List Int) : Bool := ts.all (kpT P C A B x d)
theorem kpS_step {P : List Pol} {C A B : List Sg} {x d : Int} {ts : List Int} {k : Nat} (h : k < ts.length) : kpS P C A B x d (ts.take (k + 1)) = (kpS P C A B x d (ts.take k) && kpT P C A B x d (ts.getD k 0)) := by
  unfold kpS
  rw [List.take_succ_eq_append_getElem h, List.all_append, getD_get _ _ _ h]
  simp
theorem kpP_step {P : List Pol} {C A B : List Sg} {t : Int} {j : Nat} (h : j < P.length) : (P.take (j + 1)).all (keepP C A B t) = ((P.take j).all (keepP C A B t) && keepP C A B t (P.getD j (0, (0, 0), 0))) := by
  rw [List.take_succ_eq_append_getElem h, List.all_append, getD_get _ _ _ h]
  simp
theorem keepP_0 {C A B : List Sg} {t m c n : Int} : keepP C A B t (0, (m, c), n) = leB (vat A t).1 (vat A t).2 (vat C t).1 (vat C t).2 := by unfold keepP; simp
theorem keepP_1 {C A B : List Sg} {t m c n : Int} : keepP C A B t (1, (m, c), n) = leB (vat B t).1 (vat B t).2 m c := by unfold keepP; simp
theorem keepP_2 {C A B : List Sg} {t k m c n : Int} (h0 : k ≠ 0) (h1 : k ≠ 1) : keepP C A B t (k, (m, c), n) = true := by unfold keepP; simp [h0, h1]
theorem timesK_cells (C A B : List Sg) (x : Int) : cellsI (timesK C A B x) = cellsI [x] ++ cellsI (A.map (·.1)) ++ cellsI (B.map (·.1)) ++ cellsI (C.map (·.1)) := by
  unfold timesK cellsI; simp
theorem timesK_len (C A B : List Sg) (x : Int) : (timesK C A B x).length = 1 + A.length + B.length + C.length := by
  unfold timesK; simp; omega
set_option maxRecDepth 100000 in
set_option maxHeartbeats 16000000 in
theorem fused_c (w : World) (S1 : SliS w (.slice a1 n1 c1) C) (S2 : SliS w (.slice a2 n2 c2) L) (S3 : SliS w (.slice a3 n3 c3) O) (S4 : ArgPs w a4 P) (hn4 : n4 = P.length) :
    Calls Try.prog 3 #[.agg #[.slice a1 n1 c1, .slice a2 n2 c2, .slice a3 n3 c3, .slice a4 n4 c4, .int .i64 x0], .agg #[.int .i64 x, .int .i64 d, .int .i64 m, .int .i64 c]] w fun e w' => e = .returned (.bool true) ∧ Below w.heap.size w w' := by
  obtain ⟨w0, hw0⟩ : ∃ w0, w0 = (w.alloc (Obj.cells #[.slice a1 n1 c1, .slice a2 n2 c2, .slice a3 n3 c3, .slice a4 n4 c4, .int .i64 x0] 25)).alloc (Obj.cells #[.int .i64 x, .int .i64 d, .int .i64 m, .int .i64 c] 29) := ⟨_, rfl⟩
  have hb0 : Below w.heap.size w w0 := by rw [hw0]; (repeat (first | exact Below.refl _ _ | assumption | refine balloc ?_ _ | refine below_drewN ?_ _ | refine bstep (by assumption) ?_ | refine bstep (Past.prop _) ?_ | refine Below.setCell ?_ (by first | exact Nat.le_refl _ | (simp; done) | (simp; omega)) _))
  have HI := hidE (show FuI C L O P a1 a2 a3 a4 n1 c1 n2 c2 n3 c3 n4 c4 x0 x d m c w w0 from ⟨by rw [hw0]; exact (Blk.made _ _ _).alloc _, by rw [hw0]; exact Blk.made_at _ _ _ _ (by simp), S1.past hb0, S2.past hb0, S3.past hb0, S4.past hb0, hb0⟩)
  have HH := hidE (fun w => fhead_c w)
  have HG := hidE (fun w => fgreat_c a1 a2 a3 a4 n1 c1 n2 c2 n3 c3 n4 c4 x0 w)
  have H4 := hidE hn4
  clear S1 S2 S3 S4 hb0 hn4
  cases hg : greatF n1 n2 n3 n4
  · rw [hg] at HG
    have NL := hidE (greatF_no hg)
    clear hg
    go_enter Try.func3, Try.ntmps3
    go_upto_region 1 with fail
    rw [← hw0]
    clear hw0
    have b0 := HI.out.b1.cell 0; have b1 := HI.out.b1.cell 1; have b2 := HI.out.b1.cell 2; have b3 := HI.out.b1.cell 3; have b4 := HI.out.b1.cell 4; have bz := HI.out.b1.lt; have d0 := HI.out.b2.cell 0; have d1 := HI.out.b2.cell 1; have d2 := HI.out.b2.cell 2; have d3 := HI.out.b2.cell 3; have dz := HI.out.b2.lt
    simp at b0 b1 b2 b3 b4 d0 d1 d2 d3
    go_wp2_with fail
    ((with_reducible refine (HG.out _).mono ?_); rintro e w1 ⟨rfl, hb⟩)
    have HX := hidE (show Below w0.heap.size w0 w1 from hb)
    have HI := hidE (HI.out.past HX.out)
    clear hb HX b0 b1 b2 b3 b4 bz d0 d1 d2 d3 dz
    have b0 := HI.out.b1.cell 0; have b1 := HI.out.b1.cell 1; have b2 := HI.out.b1.cell 2; have b3 := HI.out.b1.cell 3; have b4 := HI.out.b1.cell 4; have bz := HI.out.b1.lt; have d0 := HI.out.b2.cell 0; have d1 := HI.out.b2.cell 1; have d2 := HI.out.b2.cell 2; have d3 := HI.out.b2.cell 3; have dz := HI.out.b2.lt
    simp at b0 b1 b2 b3 b4 d0 d1 d2 d3
    go_wp2_with fail
    (with_reducible refine (free_s (P := P) (C := C) (L := L) (O := O) (x := x0) ?q1 ?q2 ?q3 ?q4 ?q5 ?q6 ?q7 ?q8 ?q9).mono ?_)
    case q1 => exact HI.out.s1
    case q2 => exact HI.out.s2
    case q3 => exact HI.out.s3
    case q4 => exact HI.out.sp
    case q5 => exact H4.out
    case q6 => have := NL.out; omega
    case q7 => have := NL.out; omega
    case q8 => have := NL.out; omega
    case q9 => have := NL.out; omega
    rintro e w2 ⟨af, nf, cf, F, er, rfl, hs, hi, hl, hb⟩
    have SF := hidE hs; have HF := hidE hi
    have NF := hidE (show nf ≤ 400000 by have := hs.len.1; omega)
    have HX := hidE (show Below w1.heap.size w1 w2 from hb)
    have HI := hidE (HI.out.past HX.out)
    clear hb HX b0 b1 b2 b3 b4 bz d0 d1 d2 d3 dz
    clear hs hl hi
    have b0 := HI.out.b1.cell 0; have b1 := HI.out.b1.cell 1; have b2 := HI.out.b1.cell 2; have b3 := HI.out.b1.cell 3; have b4 := HI.out.b1.cell 4; have bz := HI.out.b1.lt; have d0 := HI.out.b2.cell 0; have d1 := HI.out.b2.cell 1; have d2 := HI.out.b2.cell 2; have d3 := HI.out.b2.cell 3; have dz := HI.out.b2.lt
    simp at b0 b1 b2 b3 b4 d0 d1 d2 d3
    obtain ⟨⟨bf, gf⟩, hfit⟩ : ∃ r, fitsS F x d (m, c) = r := ⟨_, rfl⟩
    have HFIT := hidE hfit
    clear hfit
    go_wp2_with fail
    (with_reducible refine (fits_eq (F := F) ?t1 ?t2 HFIT.out).mono ?_)
    case t1 => exact SF.out
    case t2 => have := NF.out; omega
    rintro e w3 ⟨rfl, hb⟩
    have HX := hidE (show Below w2.heap.size w2 w3 from hb)
    have HI := hidE (HI.out.past HX.out)
    clear hb HX b0 b1 b2 b3 b4 bz d0 d1 d2 d3 dz
    have b0 := HI.out.b1.cell 0; have b1 := HI.out.b1.cell 1; have b2 := HI.out.b1.cell 2; have b3 := HI.out.b1.cell 3; have b4 := HI.out.b1.cell 4; have bz := HI.out.b1.lt; have d0 := HI.out.b2.cell 0; have d1 := HI.out.b2.cell 1; have d2 := HI.out.b2.cell 2; have d3 := HI.out.b2.cell 3; have dz := HI.out.b2.lt
    simp at b0 b1 b2 b3 b4 d0 d1 d2 d3
    by_cases hall : er = 0 ∧ gf = 0 ∧ x0 ≤ x
    · obtain ⟨rfl, rfl, hxx⟩ := hall
      have dx : decide (x < x0) = false := decide_eq_false (by omega)
      have HFF := hidE (show FreeF P C L O x0 F from by
        rcases freeIs_casesU HF.out with h | ⟨_, h⟩
        · exact absurd rfl h
        · exact h)
      have HFE := hidE (show fitE F x d (m, c) = 0 ∧ bf = fitB F x d (m, c) from by
        have h := HFIT.out
        unfold fitsS at h
        by_cases h0 : fitE F x d (m, c) = 0
        · rw [if_pos h0] at h; exact ⟨h0, ((Prod.mk.inj h).1).symm⟩
        · rw [if_neg h0] at h; exact absurd (Prod.mk.inj h).2 h0)
      have HXX := hidE hxx
      have hxr := nowB_iff.1 (fitE_zero HFE.out.1).2.2.1
      have hdr := (fitE_zero HFE.out.1).2.1
      have wq : IntKind.i64.wrap (x + d) = x + d := IntWalk.i64_in _ (by omega)
      clear hxx hxr hdr HF HFIT
      obtain ⟨⟨A, ha⟩, hra⟩ : ∃ r, rangeS L x (x + d) (m, c) = r := ⟨_, rfl⟩
      obtain ⟨⟨B, hbb⟩, hrb⟩ : ∃ r, rangeS O x (x + d) (m, c) = r := ⟨_, rfl⟩
      have HRA := hidE hra; have HRB := hidE hrb
      have NA := hidE (show A.length ≤ 42 by have h1 := range_lenU hra; have h2 := HI.out.s2.len.1; have h3 := NL.out; omega)
      have NB := hidE (show B.length ≤ 42 by have h1 := range_lenU hrb; have h2 := HI.out.s3.len.1; have h3 := NL.out; omega)
      clear hra hrb
      go_wp2_with fail
      (with_reducible refine (crange_f (F := L) ?u1 ?u2 HRA.out).mono ?_)
      case u1 => exact HI.out.s2
      case u2 => have := NL.out; omega
      rintro e w4 ⟨v4, rfl, hv4, hb⟩
      obtain ⟨aA, cA, rfl, g1, g2, g3⟩ := hv4
      have SA := hidE (show SliS w4 (.slice aA A.length cA) A from ⟨aA, cA, rfl, g1, g2, g3⟩)
      have HX := hidE (show Below w3.heap.size w3 w4 from hb)
      have HI := hidE (HI.out.past HX.out)
      clear hb HX b0 b1 b2 b3 b4 bz d0 d1 d2 d3 dz
      clear g1 g2 g3
      have b0 := HI.out.b1.cell 0; have b1 := HI.out.b1.cell 1; have b2 := HI.out.b1.cell 2; have b3 := HI.out.b1.cell 3; have b4 := HI.out.b1.cell 4; have bz := HI.out.b1.lt; have d0 := HI.out.b2.cell 0; have d1 := HI.out.b2.cell 1; have d2 := HI.out.b2.cell 2; have d3 := HI.out.b2.cell 3; have dz := HI.out.b2.lt
      simp at b0 b1 b2 b3 b4 d0 d1 d2 d3
      go_wp2_with fail
      (with_reducible refine (crange_f (F := O) ?v1 ?v2 HRB.out).mono ?_)
      case v1 => exact HI.out.s3
      case v2 => have := NL.out; omega
      rintro e w5 ⟨v5, rfl, hv5, hb⟩
      obtain ⟨aB, cB, rfl, g1, g2, g3⟩ := hv5
      have SB := hidE (show SliS w5 (.slice aB B.length cB) B from ⟨aB, cB, rfl, g1, g2, g3⟩)
      have HX := hidE (show Below w4.heap.size w4 w5 from hb)
      have HI := hidE (HI.out.past HX.out); have SA := hidE (SA.out.past HX.out)
      clear hb HX b0 b1 b2 b3 b4 bz d0 d1 d2 d3 dz
      clear g1 g2 g3
      have b0 := HI.out.b1.cell 0; have b1 := HI.out.b1.cell 1; have b2 := HI.out.b1.cell 2; have b3 := HI.out.b1.cell 3; have b4 := HI.out.b1.cell 4; have bz := HI.out.b1.lt; have d0 := HI.out.b2.cell 0; have d1 := HI.out.b2.cell 1; have d2 := HI.out.b2.cell 2; have d3 := HI.out.b2.cell 3; have dz := HI.out.b2.lt
      simp at b0 b1 b2 b3 b4 d0 d1 d2 d3
      by_cases hab : ha = 0 ∧ hbb = 0
      · obtain ⟨rfl, rfl⟩ := hab
        have HKS := hidE (show kpS P C A B x d (timesK C A B x) = bf from by
          have h1 := range_vals HRA.out; have h2 := range_vals HRB.out
          obtain ⟨q1, q2, q3, q4⟩ := fitE_zero HFE.out.1
          rw [HFE.out.2]
          exact used_is HFF.out HXX.out q2.1 q4 h1.2.2.2.2 h2.2.2.2.2)
        obtain ⟨ix, hix, hz0, hz1, hz2⟩ := info_parts Try.infoI64
        have IX := hidE hix; have IZ0 := hidE hz0; have IZ1 := hidE hz1; have IZ2 := hidE hz2
        clear hix hz0 hz1 hz2
        have HWA := hidE (fun w hA => rwhen_c A aA cA w (by have := NA.out; omega) hA)
        have HWB := hidE (fun w hA => rwhen_c B aB cB w (by have := NB.out; omega) hA)
        have HC1 := hidE HI.out.s1.len
        have HWC := hidE (fun w hA => rwhen_c C a1 c1 w (by have := NL.out; have := HC1.out.1; omega) hA)
        go_upto_region 12 with fail
        have HOK : ChOk (fun i => ([some (.pointer (some ⟨w.heap.size + 1, 0, none⟩)), some (.int .i64 x), none, some (.slice aA A.length cA), none, none, some (.slice aB B.length cB), none, none, some (.pointer (some ⟨w.heap.size, 0, none⟩)), some (.slice a1 n1 c1), none, none] : List (Option Value)).getD i none) (fun i => [2, 5, 8, 12].getD i 900) (fun j => [901, 4, 7, 11].getD j 903) 3 := by
          refine ⟨fun i hi => ?_, fun j => ?_, fun i k hi hk e => ?_, fun i j hi e => ?_⟩
          · match i, hi with
            | 0, _ => rfl
            | 1, _ => rfl
            | 2, _ => rfl
            | 3, _ => rfl
          · match j with
            | 0 => rfl
            | 1 => rfl
            | 2 => rfl
            | 3 => rfl
            | j + 4 => rfl
          · match i, k, hi, hk with
            | 0, 0, _, _ => first | rfl | (simp at e)
            | 0, 1, _, _ => first | rfl | (simp at e)
            | 0, 2, _, _ => first | rfl | (simp at e)
            | 0, 3, _, _ => first | rfl | (simp at e)
            | 1, 0, _, _ => first | rfl | (simp at e)
            | 1, 1, _, _ => first | rfl | (simp at e)
            | 1, 2, _, _ => first | rfl | (simp at e)
            | 1, 3, _, _ => first | rfl | (simp at e)
            | 2, 0, _, _ => first | rfl | (simp at e)
            | 2, 1, _, _ => first | rfl | (simp at e)
            | 2, 2, _, _ => first | rfl | (simp at e)
            | 2, 3, _, _ => first | rfl | (simp at e)
            | 3, 0, _, _ => first | rfl | (simp at e)
            | 3, 1, _, _ => first | rfl | (simp at e)
            | 3, 2, _, _ => first | rfl | (simp at e)
            | 3, 3, _, _ => first | rfl | (simp at e)
          · match i, j, hi with
            | 0, 0, _ => simp at e
            | 0, 1, _ => simp at e
            | 0, 2, _ => simp at e
            | 0, 3, _ => simp at e
            | 0, j + 4, _ => simp at e
            | 1, 0, _ => simp at e
            | 1, 1, _ => simp at e
            | 1, 2, _ => simp at e
            | 1, 3, _ => simp at e
            | 1, j + 4, _ => simp at e
            | 2, 0, _ => simp at e
            | 2, 1, _ => simp at e
            | 2, 2, _ => simp at e
            | 2, 3, _ => simp at e
            | 2, j + 4, _ => simp at e
            | 3, 0, _ => simp at e
            | 3, 1, _ => simp at e
            | 3, 2, _ => simp at e
            | 3, 3, _ => simp at e
            | 3, j + 4, _ => simp at e
        have HINJ1 : ∀ q, q ≤ 3 → (fun j => [901, 4, 7, 11].getD j 903) q = (fun j => [901, 4, 7, 11].getD j 903) 1 → q = 1 := fun q hq e => by
          match q, hq with
          | 0, _ => first | rfl | (simp at e)
          | 1, _ => first | rfl | (simp at e)
          | 2, _ => first | rfl | (simp at e)
          | 3, _ => first | rfl | (simp at e)
        have HINJ2 : ∀ q, q ≤ 3 → (fun j => [901, 4, 7, 11].getD j 903) q = (fun j => [901, 4, 7, 11].getD j 903) 2 → q = 2 := fun q hq e => by
          match q, hq with
          | 0, _ => first | rfl | (simp at e)
          | 1, _ => first | rfl | (simp at e)
          | 2, _ => first | rfl | (simp at e)
          | 3, _ => first | rfl | (simp at e)
        have HINJ3 : ∀ q, q ≤ 3 → (fun j => [901, 4, 7, 11].getD j 903) q = (fun j => [901, 4, 7, 11].getD j 903) 3 → q = 3 := fun q hq e => by
          match q, hq with
          | 0, _ => first | rfl | (simp at e)
          | 1, _ => first | rfl | (simp at e)
          | 2, _ => first | rfl | (simp at e)
          | 3, _ => first | rfl | (simp at e)
        refine wp_region_C 13 (ChI 2 1 w5 (fun i => ([some (.pointer (some ⟨w.heap.size + 1, 0, none⟩)), some (.int .i64 x), none, some (.slice aA A.length cA), none, none, some (.slice aB B.length cB), none, none, some (.pointer (some ⟨w.heap.size, 0, none⟩)), some (.slice a1 n1 c1), none, none] : List (Option Value)).getD i none) (fun i => [2, 5, 8, 12].getD i 900) (fun j => [901, 4, 7, 11].getD j 903) 3 (fun i => [1, 1 + A.length, 1 + A.length + B.length, 1 + A.length + B.length + C.length].getD i 0) (fun j => [0, A.length, B.length, C.length].getD j 0) (fun i => [cellsI [x], cellsI [x] ++ cellsI (A.map (·.1)), cellsI [x] ++ cellsI (A.map (·.1)) ++ cellsI (B.map (·.1)), cellsI [x] ++ cellsI (A.map (·.1)) ++ cellsI (B.map (·.1)) ++ cellsI (C.map (·.1))].getD i []) (fun j => [[], cellsI (A.map (·.1)), cellsI (B.map (·.1)), cellsI (C.map (·.1))].getD j [])) (by kernel_rfl) (by decide) (by kernel_rfl) (chI_start (Below.refl _ _).drew) ?_ ?_
        · intro i o hi ho
          match i, hi with
          | 0, _ =>
            have eo := Option.some.inj ho
            have hg : o.guard = none := by rw [← eo]
            refine cstep_evF hg ?_
            intro E L u w9 E1 E0 EC EF hl hw hI
            subst eo
            have a3 := (E0 3 (by kernel_rfl)).trans (show _ = Value.pointer (some ⟨w.heap.size + 1, 0, none⟩) from rfl)
            refine gives_ok (v := .pointer (some ⟨w.heap.size + 1, 0, none⟩)) (w' := w9) (by simp [execOp, go_sem, a3]) ?_
            exact hI.ndet HOK rfl (Below.refl _ _)
          | 1, _ =>
            have eo := Option.some.inj ho
            have hg : o.guard = none := by rw [← eo]
            refine cstep_evF hg ?_
            intro E L u w9 E1 E0 EC EF hl hw hI
            subst eo
            have a98 := (E1 98 0 (by kernel_rfl) (by simp)).trans (hI.det 0 _ rfl (hw 0 (by decide) (by kernel_rfl)))
            have hbx := (HI.out.b2.below hI.bel HI.out.b2.lt)
            have g0 := hbx.cell 0; have gz := hbx.lt
            simp at g0
            refine gives_ok (v := .int .i64 x) (w' := w9) (by simp [execOp, go_sem, a98, g0]) ?_
            exact hI.ndet HOK rfl (Below.refl _ _)
          | 2, _ =>
            have eo := Option.some.inj ho
            have hg : o.guard = none := by rw [← eo]
            refine cstep_evF hg ?_
            intro E L u w9 E1 E0 EC EF hl hw hI
            subst eo
            have a99 := (E1 99 1 (by kernel_rfl) (by simp)).trans (hI.det 1 _ rfl (hw 1 (by decide) (by kernel_rfl)))
            refine gives_ok (v := .slice (some ⟨w9.heap.size, 0, none⟩) 1 1) (w' := w9.alloc (.cells #[.int .i64 x] 2)) (by simp [execOp, go_sem, a99]) ?_
            exact hI.nbase HOK hl (show World.ownsRow _ w5.heap.size 2 1 (.slice (some ⟨w9.heap.size, 0, none⟩) 1 1) 1 (cellsI [x]) from World.ownsRow_lit (e := 2) (size := 1) (base := w5.heap.size) w9 #[.int .i64 x] 1 hI.bel.size (by unfold maxLen; omega) rfl) ((Below.refl _ w9).alloc (Nat.le_refl _) _) (fun b hb => by simp [Value.ownBlock] at hb; omega)
          | 3, _ =>
            have eo := Option.some.inj ho
            have hg : o.guard = none := by rw [← eo]
            refine cstep_evF hg ?_
            intro E L u w9 E1 E0 EC EF hl hw hI
            subst eo
            have a9 := (E0 9 (by kernel_rfl)).trans (show _ = Value.slice aA A.length cA from rfl)
            refine gives_ok (v := .slice aA A.length cA) (w' := w9) (by simp [execOp, go_sem, a9]) ?_
            exact hI.ndet HOK rfl (Below.refl _ _)
          | 4, _ =>
            have eo := Option.some.inj ho
            have hg : o.guard = none := by rw [← eo]
            refine cstep_evF hg ?_
            intro E L u w9 E1 E0 EC EF hl hw hI
            subst eo
            have a101 := (E1 101 3 (by kernel_rfl) (by simp)).trans (hI.det 3 _ rfl (hw 3 (by decide) (by kernel_rfl)))
            refine gives_call (f := 11) (args := #[.slice aA A.length cA]) (w' := w9) (by simp [execOp, go_sem, EF, a101]) (HWA.out w9 ((SA.out.past hI.bel).len.2.2.2)) (fun e w2 q => ?_)
            obtain ⟨v, rfl, ho, hb⟩ := q
            exact ⟨_, rfl, hI.nsrc (j := 1) HOK HINJ1 (srcV_own ho (cellsI_one _)) (fun k hk => ⟨own_block ho hk, own_lt ho hk⟩) hb⟩
          | 5, _ =>
            have eo := Option.some.inj ho
            have hg : o.guard = none := by rw [← eo]
            refine cstep_evF hg ?_
            intro E L u w9 E1 E0 EC EF hl hw hI
            subst eo
            have a100 := E1 100 2 (by kernel_rfl) (by simp)
            have a102 := E1 102 4 (by kernel_rfl) (by simp)
            have hpw := hw 2 (by decide) (by kernel_rfl)
            have hxw := hw 4 (by decide) (by kernel_rfl)
            refine gives_appC (.tmp 100) (.tmp 102) 38 rfl w5.heap.size 2 ix _ 1 8 Try.underlying38 IX.out IZ0.out IZ1.out IZ2.out rfl (by decide) _ _ (by rw [a100]; exact hI.row 0 (by decide) hpw (fun _ => hl)) A.length (cellsI (A.map (·.1))) (by rw [a102]; exact (hI.src 1 (by decide) hxw hl).1) (by have := NA.out; have := NB.out; have := NL.out; have := HC1.out.1; simp; omega) (by omega) hI.bel.size ?_
            intro v' w' ho hg hat
            rw [a100] at hg hat
            exact hI.napp (i := 0) HOK (by decide) hl hpw ho hg hat
          | 6, _ =>
            have eo := Option.some.inj ho
            have hg : o.guard = none := by rw [← eo]
            refine cstep_evF hg ?_
            intro E L u w9 E1 E0 EC EF hl hw hI
            subst eo
            have a11 := (E0 11 (by kernel_rfl)).trans (show _ = Value.slice aB B.length cB from rfl)
            refine gives_ok (v := .slice aB B.length cB) (w' := w9) (by simp [execOp, go_sem, a11]) ?_
            exact hI.ndet HOK rfl (Below.refl _ _)
          | 7, _ =>
            have eo := Option.some.inj ho
            have hg : o.guard = none := by rw [← eo]
            refine cstep_evF hg ?_
            intro E L u w9 E1 E0 EC EF hl hw hI
            subst eo
            have a104 := (E1 104 6 (by kernel_rfl) (by simp)).trans (hI.det 6 _ rfl (hw 6 (by decide) (by kernel_rfl)))
            refine gives_call (f := 11) (args := #[.slice aB B.length cB]) (w' := w9) (by simp [execOp, go_sem, EF, a104]) (HWB.out w9 ((SB.out.past hI.bel).len.2.2.2)) (fun e w2 q => ?_)
            obtain ⟨v, rfl, ho, hb⟩ := q
            exact ⟨_, rfl, hI.nsrc (j := 2) HOK HINJ2 (srcV_own ho (cellsI_one _)) (fun k hk => ⟨own_block ho hk, own_lt ho hk⟩) hb⟩
          | 8, _ =>
            have eo := Option.some.inj ho
            have hg : o.guard = none := by rw [← eo]
            refine cstep_evF hg ?_
            intro E L u w9 E1 E0 EC EF hl hw hI
            subst eo
            have a103 := E1 103 5 (by kernel_rfl) (by simp)
            have a105 := E1 105 7 (by kernel_rfl) (by simp)
            have hpw := hw 5 (by decide) (by kernel_rfl)
            have hxw := hw 7 (by decide) (by kernel_rfl)
            refine gives_appC (.tmp 103) (.tmp 105) 38 rfl w5.heap.size 2 ix _ 1 8 Try.underlying38 IX.out IZ0.out IZ1.out IZ2.out rfl (by decide) _ _ (by rw [a103]; exact hI.row 1 (by decide) hpw (fun _ => hl)) B.length (cellsI (B.map (·.1))) (by rw [a105]; exact (hI.src 2 (by decide) hxw hl).1) (by have := NA.out; have := NB.out; have := NL.out; have := HC1.out.1; simp; omega) (by omega) hI.bel.size ?_
            intro v' w' ho hg hat
            rw [a103] at hg hat
            exact hI.napp (i := 1) HOK (by decide) hl hpw ho hg hat
          | 9, _ =>
            have eo := Option.some.inj ho
            have hg : o.guard = none := by rw [← eo]
            refine cstep_evF hg ?_
            intro E L u w9 E1 E0 EC EF hl hw hI
            subst eo
            have a2 := (E0 2 (by kernel_rfl)).trans (show _ = Value.pointer (some ⟨w.heap.size, 0, none⟩) from rfl)
            refine gives_ok (v := .pointer (some ⟨w.heap.size, 0, none⟩)) (w' := w9) (by simp [execOp, go_sem, a2]) ?_
            exact hI.ndet HOK rfl (Below.refl _ _)
          | 10, _ =>
            have eo := Option.some.inj ho
            have hg : o.guard = none := by rw [← eo]
            refine cstep_evF hg ?_
            intro E L u w9 E1 E0 EC EF hl hw hI
            subst eo
            have a107 := (E1 107 9 (by kernel_rfl) (by simp)).trans (hI.det 9 _ rfl (hw 9 (by decide) (by kernel_rfl)))
            have hbx := (HI.out.b1.below hI.bel HI.out.b1.lt)
            have g0 := hbx.cell 0; have gz := hbx.lt
            simp at g0
            refine gives_ok (v := .slice a1 n1 c1) (w' := w9) (by simp [execOp, go_sem, a107, g0]) ?_
            exact hI.ndet HOK rfl (Below.refl _ _)
          | 11, _ =>
            have eo := Option.some.inj ho
            have hg : o.guard = none := by rw [← eo]
            refine cstep_evF hg ?_
            intro E L u w9 E1 E0 EC EF hl hw hI
            subst eo
            have a108 := (E1 108 10 (by kernel_rfl) (by simp)).trans (hI.det 10 _ rfl (hw 10 (by decide) (by kernel_rfl)))
            refine gives_call (f := 11) (args := #[.slice a1 C.length c1]) (w' := w9) (by simp [execOp, go_sem, EF, a108, HC1.out.1]) (HWC.out w9 ((HI.out.s1.past hI.bel).len.2.2.2)) (fun e w2 q => ?_)
            obtain ⟨v, rfl, ho, hb⟩ := q
            exact ⟨_, rfl, hI.nsrc (j := 3) HOK HINJ3 (srcV_own ho (cellsI_one _)) (fun k hk => ⟨own_block ho hk, own_lt ho hk⟩) hb⟩
          | 12, _ =>
            have eo := Option.some.inj ho
            have hg : o.guard = none := by rw [← eo]
            refine cstep_evF hg ?_
            intro E L u w9 E1 E0 EC EF hl hw hI
            subst eo
            have a106 := E1 106 8 (by kernel_rfl) (by simp)
            have a109 := E1 109 11 (by kernel_rfl) (by simp)
            have hpw := hw 8 (by decide) (by kernel_rfl)
            have hxw := hw 11 (by decide) (by kernel_rfl)
            refine gives_appC (.tmp 106) (.tmp 109) 38 rfl w5.heap.size 2 ix _ 1 8 Try.underlying38 IX.out IZ0.out IZ1.out IZ2.out rfl (by decide) _ _ (by rw [a106]; exact hI.row 2 (by decide) hpw (fun _ => hl)) C.length (cellsI (C.map (·.1))) (by rw [a109]; exact (hI.src 3 (by decide) hxw hl).1) (by have := NA.out; have := NB.out; have := NL.out; have := HC1.out.1; simp; omega) (by omega) hI.bel.size ?_
            intro v' w' ho hg hat
            rw [a106] at hg hat
            exact hI.napp (i := 2) HOK (by decide) hl hpw ho hg hat
          | i + 13, h => exact absurd h (by omega)
        · intro L u w9 hall hI
          have e12 : ∃ aT cT, u 12 = .slice aT (1 + A.length + B.length + C.length) cT := own_sli (hI.row 3 (by decide) (hall 12 (by decide)) (fun h => absurd h (by decide)))
          obtain ⟨aT, cT, e12⟩ := e12
          have hrow := hI.row 3 (by decide) (hall 12 (by decide)) (fun h => absurd h (by decide))
          rw [show u ((fun i => [2, 5, 8, 12].getD i 900) 3) = u 12 from rfl, e12] at hrow
          have ST := hidE (show (timesK C A B x).length = 1 + A.length + B.length + C.length ∧ ArgI w9 aT (timesK C A B x) from by
            refine ⟨timesK_len _ _ _ _, ?_⟩
            have h2 : w9.ownsRow w5.heap.size 2 1 (.slice aT (1 + A.length + B.length + C.length) cT) (timesK C A B x).length (cellsI (timesK C A B x)) := by
              rw [timesK_cells, timesK_len]; exact hrow
            obtain ⟨a', c', e', _, _, h3⟩ := sliI_own h2
            have e2 : aT = a' := by injection e'
            rw [e2]
            exact h3)
          simp only [frm, List.take, Act.put, e12]
          have hb := hI.bel
          have HX := hidE (show Below w5.heap.size w5 w9 from hb)
          have HI := hidE (HI.out.past HX.out); have SA := hidE (SA.out.past HX.out); have SB := hidE (SB.out.past HX.out)
          clear hb HX b0 b1 b2 b3 b4 bz d0 d1 d2 d3 dz
          clear hI hall hrow e12 HOK HINJ1 HINJ2 HINJ3 HWA HWB HWC
          generalize u 0 = z0 at *; generalize u 1 = z1 at *; generalize u 2 = z2 at *; generalize u 3 = z3 at *; generalize u 4 = z4 at *; generalize u 5 = z5 at *; generalize u 6 = z6 at *; generalize u 7 = z7 at *; generalize u 8 = z8 at *; generalize u 9 = z9 at *; generalize u 10 = z10 at *; generalize u 11 = z11 at *
          have b0 := HI.out.b1.cell 0; have b1 := HI.out.b1.cell 1; have b2 := HI.out.b1.cell 2; have b3 := HI.out.b1.cell 3; have b4 := HI.out.b1.cell 4; have bz := HI.out.b1.lt; have d0 := HI.out.b2.cell 0; have d1 := HI.out.b2.cell 1; have d2 := HI.out.b2.cell 2; have d3 := HI.out.b2.cell 3; have dz := HI.out.b2.lt
          simp at b0 b1 b2 b3 b4 d0 d1 d2 d3
          obtain ⟨N, hN⟩ : ∃ N, 1 + A.length + B.length + C.length = N := ⟨_, rfl⟩
          rw [hN] at ST
          rw [hN]
          have HN := hidE hN
          clear hN
          have HKS' := hidE HKS.out
          generalize timesK C A B x = ts at *
          clear HKS' SF NF HFF HFE HXX HRA HRB IX IZ0 IZ1 IZ2 HG
          go_wp2
          go_loopg [13, 15] N (fun g v13 v15 wr => ∃ k : Nat, v13 = .bool (kpS P C A B x d (ts.take k)) ∧ v15 = .int .i64 k ∧ k ≤ N ∧ N - k ≤ g ∧ Below w9.heap.size w9 wr)
          case atStart => exact ⟨0, rfl, rfl, Nat.zero_le _, Nat.le_refl _, Below.refl _ _⟩
          case round =>
            obtain ⟨k, rfl, rfl, hk, hg, hb⟩ := hrel
            have HGK := hidE hg; have HB := hidE hb
            have HI3 := hidE (HI.out.past hb); have SA3 := hidE (SA.out.past hb); have SB3 := hidE (SB.out.past hb)
            clear b0 b1 b2 b3 b4 bz d0 d1 d2 d3 dz hg
            by_cases hlt : k < N
            · obtain ⟨hl, hA⟩ := ST.out
              obtain ⟨b, off, rfl, hbz, hc⟩ := (hA.past hb) (by omega)
              have e0 := hc k (by omega)
              have HKT := hidE (kpS_step (P := P) (C := C) (A := A) (B := B) (x := x) (d := d) (ts := ts) (k := k) (by omega))
              generalize ts.getD k 0 = t at *
              generalize kpS P C A B x d (ts.take k) = kb at *
              clear hc hA hl hb
              have b0 := HI3.out.b1.cell 0; have b3 := HI3.out.b1.cell 3; have bz := HI3.out.b1.lt; have d0 := HI3.out.b2.cell 0; have d1 := HI3.out.b2.cell 1; have dz := HI3.out.b2.lt
              simp at b0 b3 d0 d1
              by_cases ht : inW x d t = true
              · have h1 : decide (t < x) = false := decide_eq_false (by have := inW_iff.1 ht; omega)
                have h2 : decide (x + d ≤ t) = false := decide_eq_false (by have := inW_iff.1 ht; omega)
                have HKU := hidE (show kpT P C A B x d t = P.all (keepP C A B t) by unfold kpT; rw [ht]; simp)
                clear ht
                obtain ⟨wo, hwo⟩ : ∃ wo : World, wo = wr := ⟨_, rfl⟩
                subst hwo
                go_wp2
                go_loopg [13, 17] n4 (fun gj v13 v17 ws => ∃ j : Nat, v13 = .bool (kb && (P.take j).all (keepP C A B t)) ∧ v17 = .int .i64 j ∧ j ≤ n4 ∧ n4 - j ≤ gj ∧ Below wo.heap.size wo ws)
                case atStart => exact ⟨0, by simp, rfl, Nat.zero_le _, Nat.le_refl _, Below.refl _ _⟩
                case round =>
                  obtain ⟨j, rfl, rfl, hj, hgj, hbj⟩ := hrel
                  have HGJ := hidE hgj
                  have HI4 := hidE (HI3.out.past hbj)
                  clear b0 b3 bz d0 d1 dz hgj e0 h1 h2
                  by_cases hjl : j < n4
                  · have HJL := hidE (show j + 1 ≤ n4 by omega)
                    have hj10 : j < 10 := by have := NL.out; omega
                    have hjp : j < P.length := by have := H4.out; omega
                    obtain ⟨bp, fp, rfl, hpz, hcp⟩ := HI4.out.sp (by omega)
                    obtain ⟨p0, p1, p2, p3⟩ := hcp j hjp
                    have HPJ := hidE (kpP_step (P := P) (C := C) (A := A) (B := B) (t := t) (j := j) hjp)
                    generalize P.getD j (0, (0, 0), 0) = s at *
                    obtain ⟨sk, ⟨sm, sc⟩, sn⟩ := s
                    simp only at p0 p1 p2 p3
                    generalize (P.take j).all (keepP C A B t) = jb at *
                    clear hcp hjp
                    have b0 := HI4.out.b1.cell 0; have b3 := HI4.out.b1.cell 3; have bz := HI4.out.b1.lt; have d0 := HI4.out.b2.cell 0; have d1 := HI4.out.b2.cell 1; have dz := HI4.out.b2.lt
                    simp at b0 b3 d0 d1
                    go_upto_region 22 with fail
                    have HBQ := hidE (show Below wo.heap.size wo (wr.alloc (Obj.cells #[.int .u8 sk, .int .i64 sm, .int .i64 sc, .int .i64 sn] 41)) by (repeat (first | exact Below.refl _ _ | assumption | refine balloc ?_ _ | refine below_drewN ?_ _ | refine bstep (by assumption) ?_ | refine bstep (Past.prop _) ?_ | refine Below.setCell ?_ (by first | exact Nat.le_refl _ | (simp; done) | (simp; omega)) _)))
                    have HBP := hidE (show Blk (wr.alloc (Obj.cells #[.int .u8 sk, .int .i64 sm, .int .i64 sc, .int .i64 sn] 41)) wr.heap.size #[.int .u8 sk, .int .i64 sm, .int .i64 sc, .int .i64 sn] 41 from Blk.made _ _ _)
                    have HBX := hidE (show Below wr.heap.size wr (wr.alloc (Obj.cells #[.int .u8 sk, .int .i64 sm, .int .i64 sc, .int .i64 sn] 41)) by (repeat (first | exact Below.refl _ _ | assumption | refine balloc ?_ _ | refine below_drewN ?_ _ | refine bstep (by assumption) ?_ | refine bstep (Past.prop _) ?_ | refine Below.setCell ?_ (by first | exact Nat.le_refl _ | (simp; done) | (simp; omega)) _)))
                    have HI4 := hidE (HI4.out.past HBX.out)
                    have T1 := hidE ((SA3.out.past hbj).past HBX.out); have T2 := hidE ((SB3.out.past hbj).past HBX.out); have T3 := hidE HI4.out.s1
                    clear b0 b3 bz d0 d1 dz p0 p1 p2 p3 hpz hbj HBX
                    generalize wr.heap.size = bx at *
                    generalize wr.alloc (Obj.cells #[.int .u8 sk, .int .i64 sm, .int .i64 sc, .int .i64 sn] 41) = wm at *
                    have b0 := HI4.out.b1.cell 0; have b3 := HI4.out.b1.cell 3; have bz := HI4.out.b1.lt; have d0 := HI4.out.b2.cell 0; have d1 := HI4.out.b2.cell 1; have dz := HI4.out.b2.lt
                    simp at b0 b3 d0 d1
                    have g0 := HBP.out.cell 0; have g1 := HBP.out.cell 1; have g2 := HBP.out.cell 2; have gz := HBP.out.lt
                    simp at g0 g1 g2
                    have HK0 := hidE (fun h : sk = 0 => show keepP C A B t (sk, (sm, sc), sn) = leB (vat A t).1 (vat A t).2 (vat C t).1 (vat C t).2 by rw [h]; exact keepP_0)
                    have HK1 := hidE (fun h : sk = 1 => show keepP C A B t (sk, (sm, sc), sn) = leB (vat B t).1 (vat B t).2 sm sc by rw [h]; exact keepP_1)
                    have HVA := hidE (fun w (h : SliS w (.slice aA A.length cA) A) => rat_f (t := t) h (by have := NA.out; omega) rfl)
                    have HVB := hidE (fun w (h : SliS w (.slice aB B.length cB) B) => rat_f (t := t) h (by have := NB.out; omega) rfl)
                    have HVC := hidE (fun w (h : SliS w (.slice a1 n1 c1) C) => rat_f (t := t) h (by have := NL.out; omega) rfl)
                    generalize vat A t = va at *; generalize vat B t = vb at *; generalize vat C t = vc at *
                    cases hkj : kb && jb
                    · have HKJ := hidE hkj
                      clear hkj
                      go_wp2_with fail
                      refine wp_region_past_lit (by kernel_rfl) (by kernel_rfl) ?_
                      have hcp := Past.cell (W := wm)
                      repeat (go_big_quiet_step (fail))
                      refine wpQuiet_nil ?_
                      rintro _ ⟨x', rfl⟩
                      have HY := hidE (show Below wm.heap.size wm x'.1 from x'.2)
                      have HI4 := hidE (HI4.out.past HY.out); have T1 := hidE (T1.out.past HY.out); have T2 := hidE (T2.out.past HY.out); have T3 := hidE (T3.out.past HY.out); have HBP := hidE (HBP.out.past HY.out); have HBQ := hidE (bstep HY.out HBQ.out)
                      clear hcp g0 g1 g2 gz b0 b3 bz d0 d1 dz HY
                      generalize x'.1 = wn at *
                      have b0 := HI4.out.b1.cell 0; have b3 := HI4.out.b1.cell 3; have bz := HI4.out.b1.lt; have d0 := HI4.out.b2.cell 0; have d1 := HI4.out.b2.cell 1; have dz := HI4.out.b2.lt
                      simp at b0 b3 d0 d1
                      have g0 := HBP.out.cell 0; have g1 := HBP.out.cell 1; have g2 := HBP.out.cell 2; have gz := HBP.out.lt
                      simp at g0 g1 g2
                      go_wp2_with fail
                      refine wp_region_past_lit (by kernel_rfl) (by kernel_rfl) ?_
                      have hcp := Past.cell (W := wn)
                      repeat (go_big_quiet_step (fail))
                      refine wpQuiet_nil ?_
                      rintro _ ⟨x', rfl⟩
                      have HBR := hidE (bstep x'.2 HBQ.out)
                      clear hcp g0 g1 g2 gz b0 b3 bz d0 d1 dz
                      generalize x'.1 = wl at *
                      go_wp2
                      go_roundg (n4 - (j + 1))
                      case measure => have := HGJ.out; have := HJL.out; omega
                      case rel => exact ⟨j + 1, by rw [HPJ.out]; rw [← Bool.and_assoc, HKJ.out]; rfl, by go_num, HJL.out, Nat.le_refl _, HBR.out⟩
                    · have HKJ := hidE hkj
                      clear hkj
                      by_cases hk0 : sk = 0
                      · have k0 : (sk != 0) = false := by rw [hk0]; rfl
                        have k1 : (sk != 1) = true := by rw [hk0]; rfl
                        have HK := hidE (HK0.out hk0)
                        obtain ⟨lb, hlb⟩ : ∃ lb, leB va.1 va.2 vc.1 vc.2 = lb := ⟨_, rfl⟩
                        have HLE := hidE (fun w => rle va.1 va.2 vc.1 vc.2 w)
                        rw [hlb] at HK HLE
                        clear hk0 hlb
                        cases lb
                        · go_wp2_with fail
                          refine wp_region_past_lit (by kernel_rfl) (by kernel_rfl) ?_
                          have hcp := Past.cell (W := wm)
                          repeat (go_big_quiet_step (first | (go_at_call 13; first | exact Past.call _ (HVA.out _ (T1.out.past (Past.prop _))) | exact Past.call _ (HVB.out _ (T2.out.past (Past.prop _))) | exact Past.call _ (HVC.out _ (T3.out.past (Past.prop _)))) | (go_at_call 12; exact Past.call _ (HLE.out _))))
                          refine wpQuiet_nil ?_
                          rintro _ ⟨x', rfl⟩
                          have HY := hidE (show Below wm.heap.size wm x'.1 from x'.2)
                          have HI4 := hidE (HI4.out.past HY.out); have T1 := hidE (T1.out.past HY.out); have T2 := hidE (T2.out.past HY.out); have T3 := hidE (T3.out.past HY.out); have HBP := hidE (HBP.out.past HY.out); have HBQ := hidE (bstep HY.out HBQ.out)
                          clear hcp g0 g1 g2 gz b0 b3 bz d0 d1 dz HY
                          generalize x'.1 = wn at *
                          have b0 := HI4.out.b1.cell 0; have b3 := HI4.out.b1.cell 3; have bz := HI4.out.b1.lt; have d0 := HI4.out.b2.cell 0; have d1 := HI4.out.b2.cell 1; have dz := HI4.out.b2.lt
                          simp at b0 b3 d0 d1
                          have g0 := HBP.out.cell 0; have g1 := HBP.out.cell 1; have g2 := HBP.out.cell 2; have gz := HBP.out.lt
                          simp at g0 g1 g2
                          go_wp2_with fail
                          refine wp_region_past_lit (by kernel_rfl) (by kernel_rfl) ?_
                          have hcp := Past.cell (W := wn)
                          repeat (go_big_quiet_step (fail))
                          refine wpQuiet_nil ?_
                          rintro _ ⟨x', rfl⟩
                          have HBR := hidE (bstep x'.2 HBQ.out)
                          clear hcp g0 g1 g2 gz b0 b3 bz d0 d1 dz
                          generalize x'.1 = wl at *
                          go_wp2
                          go_roundg (n4 - (j + 1))
                          case measure => have := HGJ.out; have := HJL.out; omega
                          case rel => exact ⟨j + 1, by rw [HPJ.out]; rw [← Bool.and_assoc, HKJ.out, HK.out]; rfl, by go_num, HJL.out, Nat.le_refl _, HBR.out⟩
                        · go_wp2_with fail
                          refine wp_region_past_lit (by kernel_rfl) (by kernel_rfl) ?_
                          have hcp := Past.cell (W := wm)
                          repeat (go_big_quiet_step (first | (go_at_call 13; first | exact Past.call _ (HVA.out _ (T1.out.past (Past.prop _))) | exact Past.call _ (HVB.out _ (T2.out.past (Past.prop _))) | exact Past.call _ (HVC.out _ (T3.out.past (Past.prop _)))) | (go_at_call 12; exact Past.call _ (HLE.out _))))
                          refine wpQuiet_nil ?_
                          rintro _ ⟨x', rfl⟩
                          have HY := hidE (show Below wm.heap.size wm x'.1 from x'.2)
                          have HI4 := hidE (HI4.out.past HY.out); have T1 := hidE (T1.out.past HY.out); have T2 := hidE (T2.out.past HY.out); have T3 := hidE (T3.out.past HY.out); have HBP := hidE (HBP.out.past HY.out); have HBQ := hidE (bstep HY.out HBQ.out)
                          clear hcp g0 g1 g2 gz b0 b3 bz d0 d1 dz HY
                          generalize x'.1 = wn at *
                          have b0 := HI4.out.b1.cell 0; have b3 := HI4.out.b1.cell 3; have bz := HI4.out.b1.lt; have d0 := HI4.out.b2.cell 0; have d1 := HI4.out.b2.cell 1; have dz := HI4.out.b2.lt
                          simp at b0 b3 d0 d1
                          have g0 := HBP.out.cell 0; have g1 := HBP.out.cell 1; have g2 := HBP.out.cell 2; have gz := HBP.out.lt
                          simp at g0 g1 g2
                          go_wp2_with fail
                          refine wp_region_past_lit (by kernel_rfl) (by kernel_rfl) ?_
                          have hcp := Past.cell (W := wn)
                          repeat (go_big_quiet_step (fail))
                          refine wpQuiet_nil ?_
                          rintro _ ⟨x', rfl⟩
                          have HBR := hidE (bstep x'.2 HBQ.out)
                          clear hcp g0 g1 g2 gz b0 b3 bz d0 d1 dz
                          generalize x'.1 = wl at *
                          go_wp2
                          go_roundg (n4 - (j + 1))
                          case measure => have := HGJ.out; have := HJL.out; omega
                          case rel => exact ⟨j + 1, by rw [HPJ.out]; rw [← Bool.and_assoc, HKJ.out, HK.out]; rfl, by go_num, HJL.out, Nat.le_refl _, HBR.out⟩
                      · by_cases hk1 : sk = 1
                        · have k0 : (sk != 0) = true := by rw [hk1]; rfl
                          have k1 : (sk != 1) = false := by rw [hk1]; rfl
                          have HK := hidE (HK1.out hk1)
                          obtain ⟨lb, hlb⟩ : ∃ lb, leB vb.1 vb.2 sm sc = lb := ⟨_, rfl⟩
                          have HLE := hidE (fun w => rle vb.1 vb.2 sm sc w)
                          rw [hlb] at HK HLE
                          clear hk0 hk1 hlb
                          cases lb
                          · go_wp2_with fail
                            refine wp_region_past_lit (by kernel_rfl) (by kernel_rfl) ?_
                            have hcp := Past.cell (W := wm)
                            repeat (go_big_quiet_step (fail))
                            refine wpQuiet_nil ?_
                            rintro _ ⟨x', rfl⟩
                            have HY := hidE (show Below wm.heap.size wm x'.1 from x'.2)
                            have HI4 := hidE (HI4.out.past HY.out); have T1 := hidE (T1.out.past HY.out); have T2 := hidE (T2.out.past HY.out); have T3 := hidE (T3.out.past HY.out); have HBP := hidE (HBP.out.past HY.out); have HBQ := hidE (bstep HY.out HBQ.out)
                            clear hcp g0 g1 g2 gz b0 b3 bz d0 d1 dz HY
                            generalize x'.1 = wn at *
                            have b0 := HI4.out.b1.cell 0; have b3 := HI4.out.b1.cell 3; have bz := HI4.out.b1.lt; have d0 := HI4.out.b2.cell 0; have d1 := HI4.out.b2.cell 1; have dz := HI4.out.b2.lt
                            simp at b0 b3 d0 d1
                            have g0 := HBP.out.cell 0; have g1 := HBP.out.cell 1; have g2 := HBP.out.cell 2; have gz := HBP.out.lt
                            simp at g0 g1 g2
                            go_wp2_with fail
                            refine wp_region_past_lit (by kernel_rfl) (by kernel_rfl) ?_
                            have hcp := Past.cell (W := wn)
                            repeat (go_big_quiet_step (first | (go_at_call 13; first | exact Past.call _ (HVA.out _ (T1.out.past (Past.prop _))) | exact Past.call _ (HVB.out _ (T2.out.past (Past.prop _))) | exact Past.call _ (HVC.out _ (T3.out.past (Past.prop _)))) | (go_at_call 12; exact Past.call _ (HLE.out _))))
                            refine wpQuiet_nil ?_
                            rintro _ ⟨x', rfl⟩
                            have HBR := hidE (bstep x'.2 HBQ.out)
                            clear hcp g0 g1 g2 gz b0 b3 bz d0 d1 dz
                            generalize x'.1 = wl at *
                            go_wp2
                            go_roundg (n4 - (j + 1))
                            case measure => have := HGJ.out; have := HJL.out; omega
                            case rel => exact ⟨j + 1, by rw [HPJ.out]; rw [← Bool.and_assoc, HKJ.out, HK.out]; rfl, by go_num, HJL.out, Nat.le_refl _, HBR.out⟩
                          · go_wp2_with fail
                            refine wp_region_past_lit (by kernel_rfl) (by kernel_rfl) ?_
                            have hcp := Past.cell (W := wm)
                            repeat (go_big_quiet_step (fail))
                            refine wpQuiet_nil ?_
                            rintro _ ⟨x', rfl⟩
                            have HY := hidE (show Below wm.heap.size wm x'.1 from x'.2)
                            have HI4 := hidE (HI4.out.past HY.out); have T1 := hidE (T1.out.past HY.out); have T2 := hidE (T2.out.past HY.out); have T3 := hidE (T3.out.past HY.out); have HBP := hidE (HBP.out.past HY.out); have HBQ := hidE (bstep HY.out HBQ.out)
                            clear hcp g0 g1 g2 gz b0 b3 bz d0 d1 dz HY
                            generalize x'.1 = wn at *
                            have b0 := HI4.out.b1.cell 0; have b3 := HI4.out.b1.cell 3; have bz := HI4.out.b1.lt; have d0 := HI4.out.b2.cell 0; have d1 := HI4.out.b2.cell 1; have dz := HI4.out.b2.lt
                            simp at b0 b3 d0 d1
                            have g0 := HBP.out.cell 0; have g1 := HBP.out.cell 1; have g2 := HBP.out.cell 2; have gz := HBP.out.lt
                            simp at g0 g1 g2
                            go_wp2_with fail
                            refine wp_region_past_lit (by kernel_rfl) (by kernel_rfl) ?_
                            have hcp := Past.cell (W := wn)
                            repeat (go_big_quiet_step (first | (go_at_call 13; first | exact Past.call _ (HVA.out _ (T1.out.past (Past.prop _))) | exact Past.call _ (HVB.out _ (T2.out.past (Past.prop _))) | exact Past.call _ (HVC.out _ (T3.out.past (Past.prop _)))) | (go_at_call 12; exact Past.call _ (HLE.out _))))
                            refine wpQuiet_nil ?_
                            rintro _ ⟨x', rfl⟩
                            have HBR := hidE (bstep x'.2 HBQ.out)
                            clear hcp g0 g1 g2 gz b0 b3 bz d0 d1 dz
                            generalize x'.1 = wl at *
                            go_wp2
                            go_roundg (n4 - (j + 1))
                            case measure => have := HGJ.out; have := HJL.out; omega
                            case rel => exact ⟨j + 1, by rw [HPJ.out]; rw [← Bool.and_assoc, HKJ.out, HK.out]; rfl, by go_num, HJL.out, Nat.le_refl _, HBR.out⟩
                        · have k0 : (sk != 0) = true := bne_iff_ne.2 hk0
                          have k1 : (sk != 1) = true := bne_iff_ne.2 hk1
                          have HK := hidE (keepP_2 (C := C) (A := A) (B := B) (t := t) (m := sm) (c := sc) (n := sn) hk0 hk1)
                          clear hk0 hk1
                          go_wp2_with fail
                          refine wp_region_past_lit (by kernel_rfl) (by kernel_rfl) ?_
                          have hcp := Past.cell (W := wm)
                          repeat (go_big_quiet_step (fail))
                          refine wpQuiet_nil ?_
                          rintro _ ⟨x', rfl⟩
                          have HY := hidE (show Below wm.heap.size wm x'.1 from x'.2)
                          have HI4 := hidE (HI4.out.past HY.out); have T1 := hidE (T1.out.past HY.out); have T2 := hidE (T2.out.past HY.out); have T3 := hidE (T3.out.past HY.out); have HBP := hidE (HBP.out.past HY.out); have HBQ := hidE (bstep HY.out HBQ.out)
                          clear hcp g0 g1 g2 gz b0 b3 bz d0 d1 dz HY
                          generalize x'.1 = wn at *
                          have b0 := HI4.out.b1.cell 0; have b3 := HI4.out.b1.cell 3; have bz := HI4.out.b1.lt; have d0 := HI4.out.b2.cell 0; have d1 := HI4.out.b2.cell 1; have dz := HI4.out.b2.lt
                          simp at b0 b3 d0 d1
                          have g0 := HBP.out.cell 0; have g1 := HBP.out.cell 1; have g2 := HBP.out.cell 2; have gz := HBP.out.lt
                          simp at g0 g1 g2
                          go_wp2_with fail
                          refine wp_region_past_lit (by kernel_rfl) (by kernel_rfl) ?_
                          have hcp := Past.cell (W := wn)
                          repeat (go_big_quiet_step (fail))
                          refine wpQuiet_nil ?_
                          rintro _ ⟨x', rfl⟩
                          have HBR := hidE (bstep x'.2 HBQ.out)
                          clear hcp g0 g1 g2 gz b0 b3 bz d0 d1 dz
                          generalize x'.1 = wl at *
                          go_wp2
                          go_roundg (n4 - (j + 1))
                          case measure => have := HGJ.out; have := HJL.out; omega
                          case rel => exact ⟨j + 1, by rw [HPJ.out]; rw [← Bool.and_assoc, HKJ.out, HK.out]; rfl, by go_num, HJL.out, Nat.le_refl _, HBR.out⟩
                  · have hjn : j = n4 := by omega
                    subst hjn
                    have HPA := hidE (show P.take j = P by rw [List.take_of_length_le]; exact Nat.le_of_eq H4.out.symm)
                    rw [HPA.out, ← HKU.out, ← HKT.out]
                    have hN : k + 1 ≤ N := hlt
                    have hN9 : N < 1000 := by have := HN.out; have := NA.out; have := NB.out; have := NL.out; have := HC1.out.1; omega
                    have HBE := hidE (bstep hbj HB.out)
                    have b0 := HI4.out.b1.cell 0; have b3 := HI4.out.b1.cell 3; have bz := HI4.out.b1.lt; have d0 := HI4.out.b2.cell 0; have d1 := HI4.out.b2.cell 1; have dz := HI4.out.b2.lt
                    simp at b0 b3 d0 d1
                    clear hbj HI4 hj
                    go_wp2
                    go_roundg (N - (k + 1))
                    case measure => have := HGK.out; omega
                    case rel => exact ⟨k + 1, rfl, by go_num, hN, Nat.le_refl _, HBE.out⟩
              · have HKU := hidE (show kpT P C A B x d t = true by unfold kpT; rw [Bool.not_eq_true] at ht; rw [ht]; rfl)
                have hN9 : N < 1000 := by have := HN.out; have := NA.out; have := NB.out; have := NL.out; have := HC1.out.1; omega
                by_cases h1 : t < x
                · have h1' : decide (t < x) = true := decide_eq_true h1
                  clear ht h1
                  go_wp2
                  go_roundg (N - (k + 1))
                  case measure => have := HGK.out; omega
                  case rel => exact ⟨k + 1, by rw [HKT.out, HKU.out, Bool.and_true], by go_num, by omega, Nat.le_refl _, HB.out⟩
                · have h1' : decide (t < x) = false := decide_eq_false h1
                  have h2 : decide (x + d ≤ t) = true := decide_eq_true (by rw [Bool.not_eq_true] at ht; have := inW_not.1 ht; omega)
                  clear ht h1
                  go_wp2
                  go_roundg (N - (k + 1))
                  case measure => have := HGK.out; omega
                  case rel => exact ⟨k + 1, by rw [HKT.out, HKU.out, Bool.and_true], by go_num, by omega, Nat.le_refl _, HB.out⟩
            · have hkn : k = N := by omega
              have HTA := hidE (show ts.take k = ts by rw [List.take_of_length_le]; have := ST.out.1; omega)
              rw [HTA.out, HKS.out]
              have qb : (bf == bf) = true := by simp
              have HBE := hidE (bstep hb HI.out.bel)
              clear hb hkn
              go_wp2_with fail
              ((with_reducible refine (HH.out _).mono ?_); rintro e wz ⟨rfl, hbz⟩)
              go_wp2
              go_ret
              exact ⟨rfl, bstep hbz HBE.out⟩
      · by_cases h1 : ha = 0
        · have e1 : (ha != 0) = false := by rw [h1]; rfl
          have e2 : (hbb != 0) = true := bne_iff_ne.2 (fun h2 => hab ⟨h1, h2⟩)
          clear h1 hab
          go_wp2_with fail
          ((with_reducible refine (HH.out _).mono ?_); rintro e wz ⟨rfl, hb⟩)
          go_wp2
          go_ret
          exact ⟨rfl, bstep hb HI.out.bel⟩
        · have e1 : (ha != 0) = true := bne_iff_ne.2 h1
          clear h1 hab
          go_wp2_with fail
          ((with_reducible refine (HH.out _).mono ?_); rintro e wz ⟨rfl, hb⟩)
          go_wp2
          go_ret
          exact ⟨rfl, bstep hb HI.out.bel⟩
    · by_cases h1 : er = 0
      · have e1 : (er != 0) = false := by rw [h1]; rfl
        by_cases h2 : gf = 0
        · have e2 : (gf != 0) = false := by rw [h2]; rfl
          have dx : decide (x < x0) = true := decide_eq_true (by omega)
          clear h1 h2 hall
          go_wp2_with fail
          ((with_reducible refine (HH.out _).mono ?_); rintro e wz ⟨rfl, hb⟩)
          go_wp2
          go_ret
          exact ⟨rfl, bstep hb HI.out.bel⟩
        · have e2 : (gf != 0) = true := bne_iff_ne.2 h2
          clear h1 h2 hall
          go_wp2_with fail
          ((with_reducible refine (HH.out _).mono ?_); rintro e wz ⟨rfl, hb⟩)
          go_wp2
          go_ret
          exact ⟨rfl, bstep hb HI.out.bel⟩
      · have e1 : (er != 0) = true := bne_iff_ne.2 h1
        clear h1 hall
        go_wp2_with fail
        ((with_reducible refine (HH.out _).mono ?_); rintro e wz ⟨rfl, hb⟩)
        go_wp2
        go_ret
        exact ⟨rfl, bstep hb HI.out.bel⟩
  · rw [hg] at HG
    clear hg
    go_enter Try.func3, Try.ntmps3
    go_upto_region 1 with fail
    rw [← hw0]
    clear hw0
    have b0 := HI.out.b1.cell 0; have b1 := HI.out.b1.cell 1; have b2 := HI.out.b1.cell 2; have b3 := HI.out.b1.cell 3; have b4 := HI.out.b1.cell 4; have bz := HI.out.b1.lt; have d0 := HI.out.b2.cell 0; have d1 := HI.out.b2.cell 1; have d2 := HI.out.b2.cell 2; have d3 := HI.out.b2.cell 3; have dz := HI.out.b2.lt
    simp at b0 b1 b2 b3 b4 d0 d1 d2 d3
    go_wp2_with fail
    ((with_reducible refine (HG.out _).mono ?_); rintro e w1 ⟨rfl, hb⟩)
    have HX := hidE (show Below w0.heap.size w0 w1 from hb)
    have HI := hidE (HI.out.past HX.out)
    clear hb HX b0 b1 b2 b3 b4 bz d0 d1 d2 d3 dz
    go_wp2_with fail
    ((with_reducible refine (HH.out _).mono ?_); rintro e w2 ⟨rfl, hb⟩)
    go_wp2
    go_ret
    exact ⟨rfl, bstep hb HI.out.bel⟩
end
end Go.Proofs.Ytjhhcljbmnomlaa

namespace Go.Proofs.Ytjhhcljbmnomlaa
open Go.ChangeShapes Go.WideShapes Go.ChangeAt Go.RowKit

set_option maxRecDepth 100000 in
theorem fitUsed_lifted (os : Os) (started : os.Started) (H : Type) (enc : TypeId × Value → H) :
    ReturnsInHanded {} Try.checked os 3 .any (Rows.fitUsedSpec.pre6 enc Try.prog Try.f3 Rows.fitUsedRow.domain false) (Rows.fitUsedSpec.post enc Try.prog Try.f3 false true false false) := by
  refine returnsInHanded_of_change (C := Try.checked) own started (by kernel_rfl) Try.func3
    (ChangeSpec.witness6 (enc := enc) (C := Try.checked) false ⟨#[], #[.agg #[.slice none 0 0, .slice none 0 0, .slice none 0 0, .slice none 0 0, .int .i64 0], .agg #[.int .i64 0, .int .i64 0, .int .i64 0, .int .i64 0]], []⟩ 8 (by kernel_rfl) (by kernel_rfl) (by kernel_rfl) (by kernel_rfl)) ?_
  intro W base args ds gs before hval0 hW _ _
  have hval : ∀ (j : Nat) t v, Try.f3.params[j]? = some t → args[j]? = some v → Value.okWide Try.prog W .any base t v := hval0
  have hW' := hW
  obtain ⟨p, q, hA0, hV, rfl, hfz, hnd⟩ := hW
  have hA : DataW.TrodAll enc Try.prog W 0 (fun _ => true) true Try.f3.params.toList args.toList ds p := hA0
  rw [Try.params3] at hA hval
  obtain ⟨v0, vs0, d0, ds0, p0, q0, hargs, rfl, rfl, h0, r0⟩ := trodAll_cons hA
  obtain ⟨v1, vs1, d1, ds1, p1, q1, rfl, rfl, rfl, h1, r1⟩ := trodAll_cons r0
  obtain ⟨rfl, rfl, rfl⟩ := trodAll_nil r1
  obtain rfl : args = #[v0, v1] := by cases args; simp_all
  obtain ⟨F0, G0, K0, l0, a0, b0, e0, o0, n0, m0, k0, j0, x0, rfl, SF0, SG0, SK0, SP0, hx0⟩ := open_fcaseP (hval 0 25 v0 rfl rfl) h0
  obtain ⟨x1, y1, z1, u1, rfl, hx1, hy1, hz1, hu1⟩ := open_askP (hval 1 29 v1 rfl rfl) h1
  clear hA0 hval0
  refine (fused_c (P := l0) (x0 := x0) (x := x1) (d := y1) (m := z1) (c := u1) W SF0 SG0 SK0 SP0.1 rfl).mono fun e W' ⟨he, hb⟩ => ?_
  subst he
  exact ⟨_, rfl, law_post laidOut (readOk_spec (by kernel_rfl)) rfl Try.underlying4 rfl ⟨rfl, rfl, rfl⟩ hW' hb⟩

theorem fitUsed_holds : Rows.FitUsedSaid :=
  OpenClaim.holds_of_wide 3 Try.f3 rfl rfl rfl rfl rfl rfl rfl ⟨rfl, rfl, rfl, rfl, rfl⟩ rfl rfl rfl rfl rfl (by kernel_rfl) Try.func3 (by kernel_rfl)
    (of_decide_eq_true (by kernel_rfl)) (by unfold Func.isWrapper; first | (rw [if_pos (by decide +kernel)]; kernel_rfl) | (rw [if_neg (by decide +kernel)]; exact ⟨rfl, rfl⟩))
    (fun os started H enc _ => fitUsed_lifted os started H enc)
end Go.Proofs.Ytjhhcljbmnomlaa
