/- The walk of the statement on least lengths. No conditions but sizes, and that the slices read as parts, as pieces. -/
import Derived.Test.YtlhokgcamcaonaaPYGK
import Derived.Test.YtlhokgcamcaonaaPYGL
namespace Go.Proofs.Ytlhokgcamcaonaa
open Go.ChangeShapes Go.WideShapes Go.ChangeAt Go.RowKit
attribute [local irreducible] Go.Calls

set_option maxRecDepth 100000 in
set_option maxHeartbeats 8000000 in
theorem satleast_walk (fr to' : Int) (l : List Prt) (W : List Pc) (a wa : Option Addr) (cap wcap : Nat) (by' : Int) (W0 : World) (hl : l.length ≤ 9223372036854775807) (hWl : W.length ≤ 9223372036854775807) (hA : ArgP W0 a l) (hP : ArgVs W0 wa W) (hf : -9223372036854775808 ≤ fr ∧ fr ≤ 9223372036854775807) (ht : -9223372036854775808 ≤ to' ∧ to' ≤ 9223372036854775807) (hby : -2147483648 ≤ by' ∧ by' ≤ 2147483647) :
    Calls Try.prog 5 #[def8 fr to' a l.length cap, .slice wa W.length wcap, .int .i32 by'] W0 fun e w' => e = .returned (.bool true) ∧ Below W0.heap.size W0 w' := by
  have HB0 := hidE (show Below W0.heap.size W0 (W0.alloc (.cells #[.int .i64 fr, .int .i64 to', .slice a l.length cap] 24)) from by (repeat (first | exact Below.refl _ _ | assumption | refine balloc ?_ _ | refine below_drewN ?_ _ | refine bstep (by assumption) ?_ | refine bstep (Past.prop _) ?_ | refine Below.setCell ?_ (by first | exact Nat.le_refl _ | (simp; done) | (simp; omega)) _)))
  have HT0 := hidE (show TL W0 fr to' a l cap wa W (W0.alloc (.cells #[.int .i64 fr, .int .i64 to', .slice a l.length cap] 24)) from ⟨HB0.out, Blk.made _ _ _, hA.past HB0.out, hP.past HB0.out⟩)
  have HH := hidE head10_c
  by_cases hg : 100 < l.length ∨ 100 < W.length
  · by_cases h1 : 100 < l.length
    · have d1 : decide ((100 : Int) < (l.length : Int)) = true := decide_eq_true (by omega)
      have d1' : decide (100 < l.length) = true := decide_eq_true (by omega)
      clear hg h1 hl hWl hA hP hf ht hby
      go_enter Try.func5, Try.ntmps5
      go_wp2_with (go_at_call 7; (with_reducible refine (HH.out _).mono ?_); rintro e w1 ⟨rfl, hb1⟩)
      go_ret
      exact ⟨rfl, HB0.out.trans (hb1.mono HB0.out.size)⟩
    · have d1 : decide ((100 : Int) < (l.length : Int)) = false := decide_eq_false (by omega)
      have d1' : decide (100 < l.length) = false := decide_eq_false (by omega)
      have d2 : decide ((100 : Int) < (W.length : Int)) = true := decide_eq_true (by omega)
      have d2' : decide (100 < W.length) = true := decide_eq_true (by omega)
      clear hg h1 hl hWl hA hP hf ht hby
      go_enter Try.func5, Try.ntmps5
      go_wp2_with (go_at_call 7; (with_reducible refine (HH.out _).mono ?_); rintro e w1 ⟨rfl, hb1⟩)
      go_ret
      exact ⟨rfl, HB0.out.trans (hb1.mono HB0.out.size)⟩
  have hl1 : l.length ≤ 100 := by omega
  have hW1 : W.length ≤ 100 := by omega
  have d1 : decide ((100 : Int) < (l.length : Int)) = false := decide_eq_false (by omega)
  have d1' : decide (100 < l.length) = false := decide_eq_false (by omega)
  have d2 : decide ((100 : Int) < (W.length : Int)) = false := decide_eq_false (by omega)
  have d2' : decide (100 < W.length) = false := decide_eq_false (by omega)
  obtain ⟨E, hE⟩ : ∃ E, wrongS fr to' l (decide ((0 : Int) ≤ 0 ∧ 0 < (l.length : Int))) W = E := ⟨_, rfl⟩
  have CK := hidE (fun (w : World) (h : TL W0 fr to' a l cap wa W w) => by
    have := rcheck_c fr to' l W a wa cap wcap 0 w hl hWl h.T h.P hf ht
    rw [hE] at this; exact this)
  by_cases hE0 : E ≠ 0
  · have d3 : (E != 0) = true := bne_iff_ne.2 hE0
    have p0 := HT0.out.d.cell 0; have p1 := HT0.out.d.cell 1; have p2 := HT0.out.d.cell 2; have pz := HT0.out.d.lt
    simp at p0 p1 p2
    clear hE hE0 hg hl1 hW1 hl hWl hA hP hf ht hby
    go_enter Try.func5, Try.ntmps5
    go_wp2_with fail
    ((with_reducible refine (CK.out _ HT0.out).mono ?_); rintro e w1 ⟨rfl, hb1⟩)
    replace HT0 := hidE (HT0.out.past hb1)
    clear hb1 p0 p1 p2 pz
    go_wp2_with fail
    ((with_reducible refine (HH.out _).mono ?_); rintro e w2 ⟨rfl, hb2⟩)
    replace HT0 := hidE (HT0.out.past hb2)
    clear hb2
    go_wp2
    go_ret
    exact ⟨rfl, HT0.out.bel⟩
  obtain rfl : E = 0 := by omega
  clear hE0
  have d3 : ((0 : Int) != 0) = false := rfl
  obtain ⟨q1, q2, q3, q4⟩ := wrong_zero hE
  have hck := chk_ok q1
  have hpos := of_decide_eq_true q2
  obtain ⟨t, y, K, deep, ink, o, hat, hfit, htt, hoz⟩ := here_of (z := 0) W hck.2.2.1 (by omega) (by omega)
  obtain rfl : o = 0 := by omega
  have hAt := pcs_atoms (by omega) q3
  have hpc := far_ok q4
  obtain ⟨n, hn⟩ : ∃ n, lenW y K = n := ⟨_, rfl⟩
  have hnb := lenW_pos hfit
  have hsz := at_size hat
  rw [hn] at hnb
  have hend : 0 + 1 + K.size = l.length := by
    have h1 := end_at hat
    obtain ⟨F, h2, h3, h4, h5⟩ := tree_at hck.2.2.1
    cases F with
    | nil => simp [Fst.len] at h2
    | cons x K2 N =>
      have h6 := end_at h3
      have hN : N.size = 0 := by
        cases N with
        | nil => rfl
        | cons a b c => simp [Fst.len] at h2
      simp only [Fst.size] at h5
      omega
  have wl := wrong_least (fm := by') (b := decide ((0 : Int) ≤ 0 ∧ 0 < (l.length : Int))) q1 hat hfit (by omega) q2
  obtain ⟨L, hL⟩ : ∃ L, leastI y K 0 by' = L := ⟨_, rfl⟩
  have hLok := leastI_ok (W := leastI y K 0 by') (o := 0) (fr := by') hfit (filter_all (leastI_in y K 0 by').1)
  rw [hL] at wl hLok
  have hLl : L.length ≤ 100 := by rw [← hL]; have := leastI_len y K 0 by'; omega
  -- the calls
  have SH := hidE (fun (w : World) (h : TL W0 fr to' a l cap wa W w) => show Calls Try.prog 13 #[def8 fr to' a l.length cap, .int .i64 0] w fun e w' => e = .returned (.tuple #[.int .i64 n, .int .i64 0]) ∧ Below w.heap.size w w' from by
    have := short_at fr to' l a cap hck.2.2.2.2 q1 hf ht hat hfit w h.T
    rw [hn] at this; exact this)
  have LE := hidE (fun (w : World) (h : TL W0 fr to' a l cap wa W w) => show Calls Try.prog 21 #[def8 fr to' a l.length cap, .int .i64 0, .int .i64 by'] w fun e w' => ∃ v, e = .returned v ∧ SliVs w' v L ∧ Below w.heap.size w w' from by
    have := least_c fr to' l a cap hck.2.2.2.2 q1 hf ht _ y K 0 deep ink by' w (Nat.lt_succ_self _) hat hfit (by omega) h.T
    rw [hL] at this; exact this)
  have TE1 := hidE (fun (w : World) (la : Option Addr) (lc : Nat) (h : TL W0 fr to' a l cap wa W w) (hLA : ArgVs w la L) => show Calls Try.prog 9 #[def8 fr to' a l.length cap, .slice la L.length lc, .int .i64 0] w fun e w' => e = .returned (.tuple #[.bool true, .int .i64 0]) ∧ Below w.heap.size w w' from by
    have := satTerm_c fr to' l L a la cap lc 0 0 (satI L y K 0) w hl (by omega) h.T hLA hf ht (by omega) wl (fun _ => ⟨y, K, deep, ink, 0, hat, hfit, rfl, rfl⟩)
    rw [lookT_zero, hLok.1] at this; exact this)
  have EN1 := hidE (fun (w : World) (la : Option Addr) (lc : Nat) (h : TL W0 fr to' a l cap wa W w) (hLA : ArgVs w la L) => show Calls Try.prog 10 #[def8 fr to' a l.length cap, .slice la L.length lc, .int .i64 0] w fun e w' => e = .returned (.tuple #[.int .i64 by', .int .i64 (by' + n), .bool true, .int .i64 0]) ∧ Below w.heap.size w w' from by
    have := satEnds_c fr to' l L a la cap lc 0 0 (satI L y K 0) w hl (by omega) h.T hLA hf ht (by omega) wl (fun _ => ⟨y, K, deep, ink, 0, hat, hfit, rfl, rfl⟩)
    rw [lookT_zero, hLok.2, hn] at this; exact this)
  have TE2 := hidE (fun (w : World) (h : TL W0 fr to' a l cap wa W w) => show Calls Try.prog 9 #[def8 fr to' a l.length cap, .slice wa W.length wcap, .int .i64 0] w fun e w' => e = .returned (.tuple #[.bool (satI W y K 0).ok, .int .i64 0]) ∧ Below w.heap.size w w' from by
    have := satTerm_c fr to' l W a wa cap wcap 0 0 (satI W y K 0) w hl (by omega) h.T h.P hf ht (by omega) hE (fun _ => ⟨y, K, deep, ink, 0, hat, hfit, rfl, rfl⟩)
    rw [lookT_zero] at this; exact this)
  have EN2 := hidE (fun (w : World) (h : TL W0 fr to' a l cap wa W w) => show Calls Try.prog 10 #[def8 fr to' a l.length cap, .slice wa W.length wcap, .int .i64 0] w fun e w' => e = .returned (.tuple #[.int .i64 (seB (satI W y K 0).se), .int .i64 (seE (satI W y K 0).se), .bool (satI W y K 0).se.isSome, .int .i64 0]) ∧ Below w.heap.size w w' from by
    have := satEnds_c fr to' l W a wa cap wcap 0 0 (satI W y K 0) w hl (by omega) h.T h.P hf ht (by omega) hE (fun _ => ⟨y, K, deep, ink, 0, hat, hfit, rfl, rfl⟩)
    rw [lookT_zero] at this; exact this)
  have TE3 := hidE (fun (hr : ∀ p ∈ W, -1099511627776 ≤ p.2 + by' ∧ p.2 + by' ≤ 1099511627776) (w : World) (la : Option Addr) (lc : Nat) (h : TL W0 fr to' a l cap wa W w) (hLA : ArgVs w la (W.map (shP by'))) => show Calls Try.prog 9 #[def8 fr to' a l.length cap, .slice la W.length lc, .int .i64 0] w fun e w' => e = .returned (.tuple #[.bool (satI W y K 0).ok, .int .i64 0]) ∧ Below w.heap.size w w' from by
    have := satTerm_c fr to' l (W.map (shP by')) a la cap lc 0 0 (satI (W.map (shP by')) y K 0) w hl (by simp; omega) h.T hLA hf ht (by omega) (wrong_moved hE hr) (fun _ => ⟨y, K, deep, ink, 0, hat, hfit, rfl, rfl⟩)
    rw [lookT_zero, (satI_sh by' W hfit).ok, List.length_map] at this; exact this)
  -- what the second ends say
  have hsome : (satI W y K 0).se.isSome = decide (0 < W.length) := by
    rw [se_R hAt hat hfit]
    cases W with
    | nil => rfl
    | cons p W' =>
      rw [decide_eq_true (by simp)]
      have hp := hAt p (by simp)
      exact jnP_some (p := p) (by simp) (by unfold inR; simp only [Bool.and_eq_true, decide_eq_true_eq]; omega)
  have hlong : (satI W y K 0).ok = true → (satI W y K 0).se.isSome = true ∧ n ≤ seE (satI W y K 0).se - seB (satI W y K 0).se := fun hok => by
    obtain ⟨s, e, h1, h2⟩ := ok_long W (.cons y K .nil) 0 deep ink hfit (satI W y K 0) (by rw [satF_cons]; simp) hok
    rw [satI_len, hn] at h2
    rw [h1]; exact ⟨rfl, h2⟩
  have hseb : -1099511627776 ≤ seB (satI W y K 0).se ∧ seB (satI W y K 0).se ≤ 1099511627776 ∧ -1099511627776 ≤ seE (satI W y K 0).se ∧ seE (satI W y K 0).se ≤ 1099511631872 := by
    rw [se_R hAt hat hfit]
    have : ∀ V : List Pc, (∀ p ∈ V, p ∈ W) → ∀ s e, endsR l V 0 (0 + 1 + K.size) = some (s, e) → -1099511627776 ≤ s ∧ s ≤ 1099511627776 ∧ -1099511627776 ≤ e ∧ e ≤ 1099511631872 := by
      intro V
      induction V with
      | nil => intro _ s e h; cases h
      | cons p V ih =>
        intro hV s e h
        have hp := hpc p (hV p (by simp))
        have ha := hAt p (hV p (by simp))
        have hd := dOk_tree hck.2.2.1 p.1.toNat (by omega)
        have ih := ih fun q hq => hV q (List.mem_cons_of_mem _ hq)
        unfold endsR at h ih
        rw [jnP_cons] at h
        cases hq : inR 0 (0 + 1 + K.size) p
        · rw [hq] at h
          simp at h
          exact ih s e (by simpa using h)
        · rw [hq, if_pos rfl] at h
          cases hj : jnP (lastP l) (inR 0 (0 + 1 + K.size)) V with
          | none =>
            rw [hj] at h
            simp only [jn_none', Option.some.injEq, lastP, Prod.mk.injEq] at h
            unfold pr0 at hd
            omega
          | some u =>
            have := ih u.1 u.2 hj
            rw [hj] at h
            simp only [jn, Option.some.injEq, lastP, Prod.mk.injEq] at h
            unfold pr0 at hd
            omega
    cases hs : endsR l W 0 (0 + 1 + K.size) with
    | none => simp [seB, seE]
    | some u => exact this W (fun _ h => h) u.1 u.2 hs
  have HPC := hidE hpc
  have HW1 := hidE hW1
  have HA0 := hidE hA
  have HP0 := hidE hP
  have hn64 : n ≤ 4096 * 64 := by have := hck.2.2.2.2; omega
  have hn1 := hnb.1
  clear hE q1 q2 q3 q4 hck hpos hat hfit htt hoz hAt hpc hn hnb hsz hend wl hL hLok hLl hg hl1 hW1 hA hP hf ht hl
  generalize (satI W y K 0).ok = ok2 at *
  generalize (satI W y K 0).se.isSome = some2 at *
  generalize seB (satI W y K 0).se = b2 at *
  generalize seE (satI W y K 0).se = e2 at *
  clear t y K deep ink
  obtain ⟨sm, hsm⟩ : ∃ sm, decide (0 < W.length) = sm := ⟨_, rfl⟩
  rw [hsm] at hsome
  subst hsome
  have hb1 : (by' != by') = false := bne_self_eq_false _
  have hb2 : ((by' + n) != (by' + n)) = false := bne_self_eq_false _
  have hb3 : (some2 != some2) = false := bne_self_eq_false _
  have hdi : decide ((0 : Int) < (W.length : Int)) = some2 := by rw [← hsm, decide_eq_decide]; omega
  have hw1 : -9223372036854775808 ≤ by' + n := by omega
  have hw2 : by' + n ≤ 9223372036854775807 := by omega
  have hw3 : -9223372036854775808 ≤ e2 - b2 := by omega
  have hw4 : e2 - b2 ≤ 9223372036854775807 := by omega
  have p0 := HT0.out.d.cell 0; have p1 := HT0.out.d.cell 1; have p2 := HT0.out.d.cell 2; have pz := HT0.out.d.lt
  simp at p0 p1 p2
  obtain ⟨ip, hip, hzp0, hzp1, hzp2⟩ := info_parts Try.infoPc
  have HIP := hidE hip; have HZ0 := hidE hzp0; have HZ1 := hidE hzp1; have HZ2 := hidE hzp2
  clear hip hzp0 hzp1 hzp2
  go_enter Try.func5, Try.ntmps5
  go_wp2_with fail
  ((with_reducible refine (CK.out _ HT0.out).mono ?_); rintro e w1 ⟨rfl, hb1⟩)
  replace HT0 := hidE (HT0.out.past hb1)
  clear p0 p1 p2 pz hb1
  have p0 := HT0.out.d.cell 0; have p1 := HT0.out.d.cell 1; have p2 := HT0.out.d.cell 2; have pz := HT0.out.d.lt
  simp at p0 p1 p2
  go_wp2_with fail
  ((with_reducible refine (SH.out _ HT0.out).mono ?_); rintro e w2 ⟨rfl, hb2⟩)
  replace HT0 := hidE (HT0.out.past hb2)
  clear p0 p1 p2 pz hb2
  have p0 := HT0.out.d.cell 0; have p1 := HT0.out.d.cell 1; have p2 := HT0.out.d.cell 2; have pz := HT0.out.d.lt
  simp at p0 p1 p2
  go_wp2_with fail
  ((with_reducible refine (LE.out _ HT0.out).mono ?_); rintro e w3 ⟨v3, rfl, hs3, hb3⟩)
  replace HT0 := hidE (HT0.out.past hb3)
  obtain ⟨la, lc, rfl, _, _, hLA⟩ := hs3
  have HLA := hidE hLA
  clear hLA
  clear p0 p1 p2 pz hb3
  have p0 := HT0.out.d.cell 0; have p1 := HT0.out.d.cell 1; have p2 := HT0.out.d.cell 2; have pz := HT0.out.d.lt
  simp at p0 p1 p2
  go_wp2_with fail
  ((with_reducible refine (TE1.out _ la lc HT0.out HLA.out).mono ?_); rintro e w4 ⟨rfl, hb4⟩)
  replace HT0 := hidE (HT0.out.past hb4)
  replace HLA := hidE (HLA.out.past hb4)
  clear p0 p1 p2 pz hb4
  have p0 := HT0.out.d.cell 0; have p1 := HT0.out.d.cell 1; have p2 := HT0.out.d.cell 2; have pz := HT0.out.d.lt
  simp at p0 p1 p2
  go_wp2_with fail
  ((with_reducible refine (EN1.out _ la lc HT0.out HLA.out).mono ?_); rintro e w5 ⟨rfl, hb5⟩)
  replace HT0 := hidE (HT0.out.past hb5)
  replace HLA := hidE (HLA.out.past hb5)
  clear p0 p1 p2 pz hb5
  have p0 := HT0.out.d.cell 0; have p1 := HT0.out.d.cell 1; have p2 := HT0.out.d.cell 2; have pz := HT0.out.d.lt
  simp at p0 p1 p2
  go_wp2_with fail
  ((with_reducible refine (TE2.out _ HT0.out).mono ?_); rintro e w6 ⟨rfl, hb6⟩)
  replace HT0 := hidE (HT0.out.past hb6)
  clear p0 p1 p2 pz hb6
  have p0 := HT0.out.d.cell 0; have p1 := HT0.out.d.cell 1; have p2 := HT0.out.d.cell 2; have pz := HT0.out.d.lt
  simp at p0 p1 p2
  go_wp2_with fail
  ((with_reducible refine (EN2.out _ HT0.out).mono ?_); rintro e w7 ⟨rfl, hb7⟩)
  replace HT0 := hidE (HT0.out.past hb7)
  clear p0 p1 p2 pz hb7
  have p0 := HT0.out.d.cell 0; have p1 := HT0.out.d.cell 1; have p2 := HT0.out.d.cell 2; have pz := HT0.out.d.lt
  simp at p0 p1 p2
  cases ok2
  · clear hlong
    go_wp2_with fail
    go_loopg [22, 23, 24] W.length (fun gh v22 v23 v24 wr => ∃ (k : Nat) (z1 z2 : Value), z1 = v22 ∧ z2 = v24 ∧ v23 = .int .i64 k ∧ k ≤ W.length ∧ W.length - k ≤ gh ∧ (∀ p ∈ W.take k, -1099511627776 ≤ p.2 + by' ∧ p.2 + by' ≤ 1099511627776) ∧ TL W0 fr to' a l cap wa W wr ∧ wr.ownsRow (W0.heap.size + 1) 54 2 z1 k (cellsOfV ((W.take k).map (shP by'))))
    case atStart => exact ⟨0, .slice none 0 0, undef, rfl, rfl, rfl, Nat.zero_le _, by omega, (fun p hp => by simp at hp), HT0.out, own_nil _ _ _⟩
    case round =>
      clear HT0 p0 p1 p2 pz
      obtain ⟨k, z1, z2, rfl, rfl, rfl, hk, hgh, hr, hT, hown⟩ := hrel
      have HT0 := hidE hT; have HO := hidE hown; have HR := hidE hr
      have p0 := HT0.out.d.cell 0; have p1 := HT0.out.d.cell 1; have p2 := HT0.out.d.cell 2; have pz := HT0.out.d.lt
      simp at p0 p1 p2
      clear hT hown hr
      by_cases hlt : k < W.length
      · obtain ⟨b, off, rfl, hbb, hc⟩ := HT0.out.P (by omega)
        obtain ⟨c0, c1⟩ := hc k hlt
        have hq : W.getD k (0, 0) ∈ W := by rw [List.getD_eq_getElem?_getD, List.getElem?_eq_getElem hlt]; exact List.getElem_mem hlt
        have hq2 := HPC.out _ hq
        have HST := hidE (show cellsOfV ((W.take (k + 1)).map (shP by')) = cellsOfV ((W.take k).map (shP by')) ++ [.int .i64 (W.getD k (0, 0)).1, .int .i64 ((W.getD k (0, 0)).2 + by')] by
          have e : W[k]? = some (W.getD k (0, 0)) := by rw [List.getD_eq_getElem?_getD, List.getElem?_eq_getElem hlt]; rfl
          rw [take_snoc e, List.map_append, cellsOfV_app]; rfl)
        have HRR := hidE (show ∀ p ∈ W.take (k + 1), -1099511627776 ≤ (W.getD k (0, 0)).2 + by' ∧ (W.getD k (0, 0)).2 + by' ≤ 1099511627776 → -1099511627776 ≤ p.2 + by' ∧ p.2 + by' ≤ 1099511627776 from fun p hp hh => by
          have e : W[k]? = some (W.getD k (0, 0)) := by rw [List.getD_eq_getElem?_getD, List.getElem?_eq_getElem hlt]; rfl
          rw [take_snoc e] at hp
          rcases List.mem_append.1 hp with hp | hp
          · exact HR.out p hp
          · simp at hp; subst hp; exact hh)
        generalize W.getD k (0, 0) = q at *
        have hw5 : -9223372036854775808 ≤ q.2 + by' := by omega
        have hw6 : q.2 + by' ≤ 9223372036854775807 := by omega
        have hwz : W0.heap.size + 1 ≤ wr.heap.size := HT0.out.d.lt
        clear hc hq
        by_cases hlow : q.2 + by' < -1099511627776
        · have s1 : decide (q.2 + by' < -1099511627776) = true := decide_eq_true hlow
          clear hlow
          go_wp2_with fail
          ((with_reducible refine (HH.out _).mono ?_); rintro e w8 ⟨rfl, hb8⟩)
          replace HT0 := hidE (HT0.out.past hb8)
          clear hb8
          go_wp2
          go_ret
          exact ⟨rfl, HT0.out.bel⟩
        have s1 : decide (q.2 + by' < -1099511627776) = false := decide_eq_false hlow
        by_cases hhigh : 1099511627776 < q.2 + by'
        · have s2 : decide (1099511627776 < q.2 + by') = true := decide_eq_true hhigh
          clear hlow hhigh
          go_wp2_with fail
          ((with_reducible refine (HH.out _).mono ?_); rintro e w8 ⟨rfl, hb8⟩)
          replace HT0 := hidE (HT0.out.past hb8)
          clear hb8
          go_wp2
          go_ret
          exact ⟨rfl, HT0.out.bel⟩
        have s2 : decide (1099511627776 < q.2 + by') = false := decide_eq_false hhigh
        have HIN := hidE (show -1099511627776 ≤ q.2 + by' ∧ q.2 + by' ≤ 1099511627776 by omega)
        clear hlow hhigh
        generalize cellsOfV ((W.take k).map (shP by')) = cs at *
        have hk100 : k + 1 ≤ 101 := by have := HW1.out; omega
        go_wp2_with (at_builtin; refine wpList_append_own _ rfl (.tmp 160) (.tmp 168) 25 rfl (W0.heap.size + 1) 54 ip (.agg #[.int .i64 0, .int .i64 0]) 2 16 Try.underlying25 HIP.out HZ0.out HZ1.out HZ2.out rfl (by decide) _ _ _ rfl (HO.out.alloc _) ⟨_, 0, none⟩ 1 1 [.int .i64 q.1, .int .i64 (q.2 + by')] rfl rfl (new_cells_at _ #[.int .i64 q.1, .int .i64 (q.2 + by')] 54 _ (by simp)) (by intro x hx; simp at hx; rcases hx with rfl | rfl <;> rfl) (by unfold maxLen; omega) (by omega) (by simp; omega) ?_; intro v' w6 hown6 hgrow6 _)
        have hb6 : Below W0.heap.size W0 w6 := Below.grown (HT0.out.bel.alloc (Nat.le_of_succ_le hwz) (.cells #[.int .i64 q.1, .int .i64 (q.2 + by')] 54)) hgrow6 (by simp; omega) (fun k hk => by have := own_block HO.out hk; omega)
        rw [← HST.out] at hown6
        have HT1 := hidE (show TL W0 fr to' a l cap (some ⟨b, off, none⟩) W w6 from ⟨hb6, (HT0.out.d.alloc _).grown hgrow6 (fun e => by have := own_block HO.out e.symm; omega), HA0.out.past hb6, HP0.out.past hb6⟩)
        have HO1 := hidE hown6
        clear hown6 hgrow6 hb6 HO p0 p1 p2 pz c0 c1 hbb
        go_wp2
        go_roundg (W.length - (k + 1))
        case measure => omega
        case rel => exact ⟨k + 1, _, _, rfl, rfl, by go_num, by omega, Nat.le_refl _, fun p hp => HRR.out p hp HIN.out, HT1.out, HO1.out⟩
      · have hk' : k = W.length := by omega
        subst hk'
        have d9 : decide ((W.length : Int) < (W.length : Int)) = false := decide_eq_false (by omega)
        have hr := HR.out
        rw [List.take_length] at hr
        have ho := HO.out
        rw [List.take_length] at ho
        obtain ⟨ma, mc, em, _, _, hMA⟩ := sliVs_own (l := W.map (shP by')) (by rw [List.length_map]; exact ho)
        rw [List.length_map] at em
        subst em
        have TE4 := hidE (TE3.out hr)
        have HMA := hidE hMA
        clear hr ho hMA HO HR hlt TE3
        go_wp2_with fail
        ((with_reducible refine (TE4.out _ ma mc HT0.out HMA.out).mono ?_); rintro e w8 ⟨rfl, hb8⟩)
        replace HT0 := hidE (HT0.out.past hb8)
        clear hb8 p0 p1 p2 pz
        go_wp2_with fail
        ((with_reducible refine (HH.out _).mono ?_); rintro e w9 ⟨rfl, hb9⟩)
        replace HT0 := hidE (HT0.out.past hb9)
        clear hb9
        go_wp2
        go_ret
        exact ⟨rfl, HT0.out.bel⟩
  · obtain ⟨rfl, hlg⟩ := hlong rfl
    have hl5 : decide (e2 - b2 < n) = false := decide_eq_false (by omega)
    clear hlong hlg
    go_wp2_with fail
    go_loopg [22, 23, 24] W.length (fun gh v22 v23 v24 wr => ∃ (k : Nat) (z1 z2 : Value), z1 = v22 ∧ z2 = v24 ∧ v23 = .int .i64 k ∧ k ≤ W.length ∧ W.length - k ≤ gh ∧ (∀ p ∈ W.take k, -1099511627776 ≤ p.2 + by' ∧ p.2 + by' ≤ 1099511627776) ∧ TL W0 fr to' a l cap wa W wr ∧ wr.ownsRow (W0.heap.size + 1) 54 2 z1 k (cellsOfV ((W.take k).map (shP by'))))
    case atStart => exact ⟨0, .slice none 0 0, undef, rfl, rfl, rfl, Nat.zero_le _, by omega, (fun p hp => by simp at hp), HT0.out, own_nil _ _ _⟩
    case round =>
      clear HT0 p0 p1 p2 pz
      obtain ⟨k, z1, z2, rfl, rfl, rfl, hk, hgh, hr, hT, hown⟩ := hrel
      have HT0 := hidE hT; have HO := hidE hown; have HR := hidE hr
      have p0 := HT0.out.d.cell 0; have p1 := HT0.out.d.cell 1; have p2 := HT0.out.d.cell 2; have pz := HT0.out.d.lt
      simp at p0 p1 p2
      clear hT hown hr
      by_cases hlt : k < W.length
      · obtain ⟨b, off, rfl, hbb, hc⟩ := HT0.out.P (by omega)
        obtain ⟨c0, c1⟩ := hc k hlt
        have hq : W.getD k (0, 0) ∈ W := by rw [List.getD_eq_getElem?_getD, List.getElem?_eq_getElem hlt]; exact List.getElem_mem hlt
        have hq2 := HPC.out _ hq
        have HST := hidE (show cellsOfV ((W.take (k + 1)).map (shP by')) = cellsOfV ((W.take k).map (shP by')) ++ [.int .i64 (W.getD k (0, 0)).1, .int .i64 ((W.getD k (0, 0)).2 + by')] by
          have e : W[k]? = some (W.getD k (0, 0)) := by rw [List.getD_eq_getElem?_getD, List.getElem?_eq_getElem hlt]; rfl
          rw [take_snoc e, List.map_append, cellsOfV_app]; rfl)
        have HRR := hidE (show ∀ p ∈ W.take (k + 1), -1099511627776 ≤ (W.getD k (0, 0)).2 + by' ∧ (W.getD k (0, 0)).2 + by' ≤ 1099511627776 → -1099511627776 ≤ p.2 + by' ∧ p.2 + by' ≤ 1099511627776 from fun p hp hh => by
          have e : W[k]? = some (W.getD k (0, 0)) := by rw [List.getD_eq_getElem?_getD, List.getElem?_eq_getElem hlt]; rfl
          rw [take_snoc e] at hp
          rcases List.mem_append.1 hp with hp | hp
          · exact HR.out p hp
          · simp at hp; subst hp; exact hh)
        generalize W.getD k (0, 0) = q at *
        have hw5 : -9223372036854775808 ≤ q.2 + by' := by omega
        have hw6 : q.2 + by' ≤ 9223372036854775807 := by omega
        have hwz : W0.heap.size + 1 ≤ wr.heap.size := HT0.out.d.lt
        clear hc hq
        by_cases hlow : q.2 + by' < -1099511627776
        · have s1 : decide (q.2 + by' < -1099511627776) = true := decide_eq_true hlow
          clear hlow
          go_wp2_with fail
          ((with_reducible refine (HH.out _).mono ?_); rintro e w8 ⟨rfl, hb8⟩)
          replace HT0 := hidE (HT0.out.past hb8)
          clear hb8
          go_wp2
          go_ret
          exact ⟨rfl, HT0.out.bel⟩
        have s1 : decide (q.2 + by' < -1099511627776) = false := decide_eq_false hlow
        by_cases hhigh : 1099511627776 < q.2 + by'
        · have s2 : decide (1099511627776 < q.2 + by') = true := decide_eq_true hhigh
          clear hlow hhigh
          go_wp2_with fail
          ((with_reducible refine (HH.out _).mono ?_); rintro e w8 ⟨rfl, hb8⟩)
          replace HT0 := hidE (HT0.out.past hb8)
          clear hb8
          go_wp2
          go_ret
          exact ⟨rfl, HT0.out.bel⟩
        have s2 : decide (1099511627776 < q.2 + by') = false := decide_eq_false hhigh
        have HIN := hidE (show -1099511627776 ≤ q.2 + by' ∧ q.2 + by' ≤ 1099511627776 by omega)
        clear hlow hhigh
        generalize cellsOfV ((W.take k).map (shP by')) = cs at *
        have hk100 : k + 1 ≤ 101 := by have := HW1.out; omega
        go_wp2_with (at_builtin; refine wpList_append_own _ rfl (.tmp 160) (.tmp 168) 25 rfl (W0.heap.size + 1) 54 ip (.agg #[.int .i64 0, .int .i64 0]) 2 16 Try.underlying25 HIP.out HZ0.out HZ1.out HZ2.out rfl (by decide) _ _ _ rfl (HO.out.alloc _) ⟨_, 0, none⟩ 1 1 [.int .i64 q.1, .int .i64 (q.2 + by')] rfl rfl (new_cells_at _ #[.int .i64 q.1, .int .i64 (q.2 + by')] 54 _ (by simp)) (by intro x hx; simp at hx; rcases hx with rfl | rfl <;> rfl) (by unfold maxLen; omega) (by omega) (by simp; omega) ?_; intro v' w6 hown6 hgrow6 _)
        have hb6 : Below W0.heap.size W0 w6 := Below.grown (HT0.out.bel.alloc (Nat.le_of_succ_le hwz) (.cells #[.int .i64 q.1, .int .i64 (q.2 + by')] 54)) hgrow6 (by simp; omega) (fun k hk => by have := own_block HO.out hk; omega)
        rw [← HST.out] at hown6
        have HT1 := hidE (show TL W0 fr to' a l cap (some ⟨b, off, none⟩) W w6 from ⟨hb6, (HT0.out.d.alloc _).grown hgrow6 (fun e => by have := own_block HO.out e.symm; omega), HA0.out.past hb6, HP0.out.past hb6⟩)
        have HO1 := hidE hown6
        clear hown6 hgrow6 hb6 HO p0 p1 p2 pz c0 c1 hbb
        go_wp2
        go_roundg (W.length - (k + 1))
        case measure => omega
        case rel => exact ⟨k + 1, _, _, rfl, rfl, by go_num, by omega, Nat.le_refl _, fun p hp => HRR.out p hp HIN.out, HT1.out, HO1.out⟩
      · have hk' : k = W.length := by omega
        subst hk'
        have d9 : decide ((W.length : Int) < (W.length : Int)) = false := decide_eq_false (by omega)
        have hr := HR.out
        rw [List.take_length] at hr
        have ho := HO.out
        rw [List.take_length] at ho
        obtain ⟨ma, mc, em, _, _, hMA⟩ := sliVs_own (l := W.map (shP by')) (by rw [List.length_map]; exact ho)
        rw [List.length_map] at em
        subst em
        have TE4 := hidE (TE3.out hr)
        have HMA := hidE hMA
        clear hr ho hMA HO HR hlt TE3
        go_wp2_with fail
        ((with_reducible refine (TE4.out _ ma mc HT0.out HMA.out).mono ?_); rintro e w8 ⟨rfl, hb8⟩)
        replace HT0 := hidE (HT0.out.past hb8)
        clear hb8 p0 p1 p2 pz
        go_wp2_with fail
        ((with_reducible refine (HH.out _).mono ?_); rintro e w9 ⟨rfl, hb9⟩)
        replace HT0 := hidE (HT0.out.past hb9)
        clear hb9
        go_wp2
        go_ret
        exact ⟨rfl, HT0.out.bel⟩
end Go.Proofs.Ytlhokgcamcaonaa
