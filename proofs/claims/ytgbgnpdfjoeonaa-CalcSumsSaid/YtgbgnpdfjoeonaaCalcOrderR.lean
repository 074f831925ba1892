/- CalcOrder answers true for every two lists of runs, and every time. No conditions but that the lists lie within their capacities, and that the time fits an int64. CalcOrder: for every two lists of runs, and every time, the statement's function answers true and leaves its arguments alone. No conditions. -/
import Derived.Test.YtgbgnpdfjoeonaaCalcTells
import Derived.Test.YtgbgnpdfjoeonaaJE
import Derived.Test.YtgbgnpdfjoeonaaJF
namespace Go.Proofs.Ytgbgnpdfjoeonaa
open Go.ChangeShapes Go.WideShapes Go.ChangeAt Go.RowKit
attribute [local irreducible] Go.Calls

theorem rmay_s {w : World} {n c : Nat} {a : Option Addr} {F : List Sg} {b : Bool} (h : SliS w (.slice a n c) F) (hl : n ≤ 100000) (he : mayB F = b) :
    Calls Try.prog 23 #[.slice a n c] w fun e w' => e = .returned (.bool b) ∧ Below w.heap.size w w' := by
  obtain ⟨e1, q1, q2, q3⟩ := h.len
  subst e1; subst he
  exact rmayf_c F a c w (by omega) q3
theorem rat_s {w : World} {n c : Nat} {a : Option Addr} {F : List Sg} {t : Int} {v : Int × Int} (h : SliS w (.slice a n c) F) (hl : n ≤ 100000) (he : vat F t = v) :
    Calls Try.prog 21 #[.slice a n c, .int .i64 t] w fun e w' => e = .returned (V v.1 v.2) ∧ Below w.heap.size w w' := by
  obtain ⟨e1, q1, q2, q3⟩ := h.len
  subst e1; subst he
  exact rat_c F a c t w (by omega) q3
theorem rle_b {a b c d : Int} {r : Bool} {w : World} (h : leB a b c d = r) : Calls Try.prog 24 #[V a b, V c d] w fun e w' => e = .returned (.bool r) ∧ Below w.heap.size w w' := h ▸ rle a b c d w

set_option maxRecDepth 100000 in
theorem order_many (n m : Nat) (x : Int) (a a' : Option Addr) (cap cap' : Nat) (w : World) (h : 60 < n ∨ 60 < m) :
    Calls Try.prog 6 #[.slice a n cap, .slice a' m cap', .int .i64 x] w fun e w' => e = .returned (.bool true) ∧ Below w.heap.size w w' := by
  have HG := hidE (fun w => great_yes (a := a) (a' := a') (cap := cap) (cap' := cap') (w := w) h)
  clear h
  go_enter Try.func6, Try.ntmps6
  go_wp2_with (first | (go_at_call 8; ((with_reducible refine (HG.out _).mono ?_); rintro e w1 ⟨rfl, hb⟩)) | (go_at_call 9; ((with_reducible refine (chead_c _).mono ?_); rintro e w2 ⟨rfl, hb2⟩)))
  go_ret
  exact ⟨rfl, by (repeat (first | exact Below.refl _ _ | assumption | refine balloc ?_ _ | refine below_drewN ?_ _ | refine bstep (by assumption) ?_ | refine bstep (Past.prop _) ?_ | refine Below.setCell ?_ (by first | exact Nat.le_refl _ | (simp; done) | (simp; omega)) _))⟩

set_option maxRecDepth 100000 in
set_option maxHeartbeats 4000000 in
theorem order_not (F G : List Sg) (n m : Nat) (x : Int) (a a' : Option Addr) (cap cap' : Nat) (w : World) (h : n ≤ 60) (h' : m ≤ 60) (S1 : SliS w (.slice a n cap) F) (S2 : SliS w (.slice a' m cap') G) (hm : (mayB F && mayB G) = false) :
    Calls Try.prog 6 #[.slice a n cap, .slice a' m cap', .int .i64 x] w fun e w' => e = .returned (.bool true) ∧ Below w.heap.size w w' := by
  have HG := hidE (fun w => great_no (a := a) (a' := a') (cap := cap) (cap' := cap') (w := w) h h')
  cases h1 : mayB F
  · have H1 := hidE h1
    clear hm h1
    go_enter Try.func6, Try.ntmps6
    go_wp2_with (first | (go_at_call 8; ((with_reducible refine (HG.out _).mono ?_); rintro e w1 ⟨rfl, hb⟩)) | (go_at_call 23; ((with_reducible refine (rmay_s (a := a) (F := F) (by (repeat (first | assumption | exact sliS_nil _ | (refine sliS_new (Blk.made _ _ _) rfl rfl (by decide); done) | refine SliS.past ?_ (by assumption) | refine sliS_alloc ?_ _))) (by omega) H1.out).mono ?_); rintro e w2 ⟨rfl, hb2⟩)) | (go_at_call 9; ((with_reducible refine (chead_c _).mono ?_); rintro e w3 ⟨rfl, hb3⟩)))
    go_ret
    exact ⟨rfl, by (repeat (first | exact Below.refl _ _ | assumption | refine balloc ?_ _ | refine below_drewN ?_ _ | refine bstep (by assumption) ?_ | refine bstep (Past.prop _) ?_ | refine Below.setCell ?_ (by first | exact Nat.le_refl _ | (simp; done) | (simp; omega)) _))⟩
  · have h2 : mayB G = false := by rw [h1] at hm; simpa using hm
    have H1 := hidE h1; have H2 := hidE h2
    clear hm h1 h2
    go_enter Try.func6, Try.ntmps6
    go_wp2_with (first | (go_at_call 8; ((with_reducible refine (HG.out _).mono ?_); rintro e w1 ⟨rfl, hb⟩)) | (go_at_call 23; ((with_reducible refine (rmay_s (a := a) (F := F) (by (repeat (first | assumption | exact sliS_nil _ | (refine sliS_new (Blk.made _ _ _) rfl rfl (by decide); done) | refine SliS.past ?_ (by assumption) | refine sliS_alloc ?_ _))) (by omega) H1.out).mono ?_); rintro e w2 ⟨rfl, hb2⟩)) | (go_at_call 23; ((with_reducible refine (rmay_s (a := a') (F := G) (by (repeat (first | assumption | exact sliS_nil _ | (refine sliS_new (Blk.made _ _ _) rfl rfl (by decide); done) | refine SliS.past ?_ (by assumption) | refine sliS_alloc ?_ _))) (by omega) H2.out).mono ?_); rintro e w2 ⟨rfl, hb2⟩)) | (go_at_call 9; ((with_reducible refine (chead_c _).mono ?_); rintro e w3 ⟨rfl, hb3⟩)))
    go_ret
    exact ⟨rfl, by (repeat (first | exact Below.refl _ _ | assumption | refine balloc ?_ _ | refine below_drewN ?_ _ | refine bstep (by assumption) ?_ | refine bstep (Past.prop _) ?_ | refine Below.setCell ?_ (by first | exact Nat.le_refl _ | (simp; done) | (simp; omega)) _))⟩

theorem mn_le (a b : Int) : mn a b ≤ a ∧ mn a b ≤ b := by unfold mn; split <;> omega
theorem le_mx (a b : Int) : a ≤ mx a b ∧ b ≤ mx a b := by unfold mx; split <;> omega
/-- What the statement asks of two canonical functions. -/
theorem order_facts {F G : List Sg} (x : Int) (hF : mayB F = true) (hG : mayB G = true) : ∃ L H, doS 2 F G = (L, 0) ∧ doS 3 F G = (H, 0) ∧ L.length ≤ F.length + G.length ∧ H.length ≤ F.length + G.length ∧
    leS L F x = (0, true, 0) ∧ leS L G x = (0, true, 0) ∧ leS F H x = (0, true, 0) ∧ leS G H x = (0, true, 0) ∧ leS L H x = (0, true, 0) ∧
    ((∀ t, x ≤ t → leB (vat F t).1 (vat F t).2 (vat G t).1 (vat G t).2 = true) → leS F L x = (0, true, 0)) := by
  obtain ⟨L, hL, hmL, vL⟩ := low_is hF hG
  obtain ⟨H, hH, hmH, vH⟩ := high_is hF hG
  have lL : L.length ≤ F.length + G.length := by have := doS_len 2 F G; rw [hL] at this; exact this
  have lH : H.length ≤ F.length + G.length := by have := doS_len 3 F G; rw [hH] at this; exact this
  refine ⟨L, H, hL, hH, lL, lH, ?_, ?_, ?_, ?_, ?_, fun hle => ?_⟩
  · exact leS_true hmL hF fun t _ => by rw [vL t]; exact leB_iff.2 ⟨(mn_le _ _).1, (mn_le _ _).1⟩
  · exact leS_true hmL hG fun t _ => by rw [vL t]; exact leB_iff.2 ⟨(mn_le _ _).2, (mn_le _ _).2⟩
  · exact leS_true hF hmH fun t _ => by rw [vH t]; exact leB_iff.2 ⟨(le_mx _ _).1, (le_mx _ _).1⟩
  · exact leS_true hG hmH fun t _ => by rw [vH t]; exact leB_iff.2 ⟨(le_mx _ _).2, (le_mx _ _).2⟩
  · exact leS_true hmL hmH fun t _ => by
      rw [vL t, vH t]
      have a1 := mn_le (vat F t).1 (vat G t).1; have a2 := mn_le (vat F t).2 (vat G t).2
      have b1 := le_mx (vat F t).1 (vat G t).1; have b2 := le_mx (vat F t).2 (vat G t).2
      exact leB_iff.2 ⟨by dsimp only; omega, by dsimp only; omega⟩
  · exact leS_true hF hmL fun t ht => by
      rw [vL t]
      have := leB_iff.1 (hle t ht)
      exact leB_iff.2 ⟨by dsimp only; unfold mn; split <;> omega, by dsimp only; unfold mn; split <;> omega⟩
theorem twoT_ok {F G : List Sg} (hF : mayB F = true) (hG : mayB G = true) {t : Int} (h : t ∈ twoT F G) : -1125899906842624 ≤ t ∧ t ≤ 1125899906842624 := by
  rcases twoT_mem.1 h with ⟨s, hs, rfl⟩ | ⟨s, hs, rfl⟩
  · have := CF.ok (mayB_iff.1 hF) s hs
    unfold okS at this; rw [Bool.and_eq_true] at this; exact okT_iff.1 this.1
  · have := CF.ok (mayB_iff.1 hG) s hs
    unfold okS at this; rw [Bool.and_eq_true] at this; exact okT_iff.1 this.1

set_option maxRecDepth 100000 in
set_option maxHeartbeats 8000000 in
theorem order_is (F G : List Sg) (n m : Nat) (x : Int) (a a' : Option Addr) (cap cap' : Nat) (w : World) (h : n ≤ 60) (h' : m ≤ 60) (S1 : SliS w (.slice a n cap) F) (S2 : SliS w (.slice a' m cap') G) (h1 : mayB F = true) (h2 : mayB G = true) (hle : leS F G x = (0, true, 0)) (hall : ∀ t, x ≤ t → leB (vat F t).1 (vat F t).2 (vat G t).1 (vat G t).2 = true) :
    Calls Try.prog 6 #[.slice a n cap, .slice a' m cap', .int .i64 x] w fun e w' => e = .returned (.bool true) ∧ Below w.heap.size w w' := by
  have HG := hidE (fun w => great_no (a := a) (a' := a') (cap := cap) (cap' := cap') (w := w) h h')
  obtain ⟨L, H, hL, hH, lL, lH, k1, k2, k3, k4, k5, k6⟩ := order_facts x h1 h2
  rw [← S1.len.1, ← S2.len.1] at lL lH
  have HH1 := hidE h1; have HH2 := hidE h2; have HL := hidE hL; have HH := hidE hH; have K1 := hidE k1; have K2 := hidE k2; have K3 := hidE k3; have K4 := hidE k4; have K5 := hidE k5; have K6 := hidE (k6 hall); have K7 := hidE hle
  have H1 := HH1; have H2 := HH2
  clear h1 h2 hL hH k1 k2 k3 k4 k5 k6 hall hle
  go_enter Try.func6, Try.ntmps6
  go_upto_if 48 with (first | (go_at_call 8; ((with_reducible refine (HG.out _).mono ?_); rintro e w1 ⟨rfl, hb⟩)) | (go_at_call 23; ((with_reducible refine (rmay_s (a := a) (F := F) (by (repeat (first | assumption | exact sliS_nil _ | (refine sliS_new (Blk.made _ _ _) rfl rfl (by decide); done) | refine SliS.past ?_ (by assumption) | refine sliS_alloc ?_ _))) (by omega) H1.out).mono ?_); rintro e w2 ⟨rfl, hb2⟩)) | (go_at_call 23; ((with_reducible refine (rmay_s (a := a') (F := G) (by (repeat (first | assumption | exact sliS_nil _ | (refine sliS_new (Blk.made _ _ _) rfl rfl (by decide); done) | refine SliS.past ?_ (by assumption) | refine sliS_alloc ?_ _))) (by omega) H2.out).mono ?_); rintro e w2 ⟨rfl, hb2⟩)))
  go_upto_region 10 with (first | (go_at_call 23; ((with_reducible refine (rmay_s (a := a) (F := F) (by (repeat (first | assumption | exact sliS_nil _ | (refine sliS_new (Blk.made _ _ _) rfl rfl (by decide); done) | refine SliS.past ?_ (by assumption) | refine sliS_alloc ?_ _))) (by omega) H1.out).mono ?_); rintro e w2 ⟨rfl, hb2⟩)) | (go_at_call 23; ((with_reducible refine (rmay_s (a := a') (F := G) (by (repeat (first | assumption | exact sliS_nil _ | (refine sliS_new (Blk.made _ _ _) rfl rfl (by decide); done) | refine SliS.past ?_ (by assumption) | refine sliS_alloc ?_ _))) (by omega) H2.out).mono ?_); rintro e w2 ⟨rfl, hb2⟩)) | (go_at_call 14; ((with_reducible refine (Calls.ofSl (cmn_s (F := F) (G := G) (a1 := a) (a2 := a') (by (repeat (first | assumption | exact sliS_nil _ | (refine sliS_new (Blk.made _ _ _) rfl rfl (by decide); done) | refine SliS.past ?_ (by assumption) | refine sliS_alloc ?_ _))) (by (repeat (first | assumption | exact sliS_nil _ | (refine sliS_new (Blk.made _ _ _) rfl rfl (by decide); done) | refine SliS.past ?_ (by assumption) | refine sliS_alloc ?_ _))) (by omega) HL.out) rfl).mono ?_); rintro e w7 ⟨a7, c7, rfl, S7, hb7⟩)) | (go_at_call 15; ((with_reducible refine (Calls.ofSl (cmx_s (F := F) (G := G) (a1 := a) (a2 := a') (by (repeat (first | assumption | exact sliS_nil _ | (refine sliS_new (Blk.made _ _ _) rfl rfl (by decide); done) | refine SliS.past ?_ (by assumption) | refine sliS_alloc ?_ _))) (by (repeat (first | assumption | exact sliS_nil _ | (refine sliS_new (Blk.made _ _ _) rfl rfl (by decide); done) | refine SliS.past ?_ (by assumption) | refine sliS_alloc ?_ _))) (by omega) HH.out) rfl).mono ?_); rintro e w9 ⟨a9, c9, rfl, S9, hb9⟩)) | (go_at_call 16; ((with_reducible refine (cle_s (F := L) (G := F) (a1 := a7) (a2 := a) (by (repeat (first | assumption | exact sliS_nil _ | (refine sliS_new (Blk.made _ _ _) rfl rfl (by decide); done) | refine SliS.past ?_ (by assumption) | refine sliS_alloc ?_ _))) (by (repeat (first | assumption | exact sliS_nil _ | (refine sliS_new (Blk.made _ _ _) rfl rfl (by decide); done) | refine SliS.past ?_ (by assumption) | refine sliS_alloc ?_ _))) (by omega) K1.out).mono ?_); rintro e w2 ⟨rfl, hb2⟩)) | (go_at_call 16; ((with_reducible refine (cle_s (F := L) (G := G) (a1 := a7) (a2 := a') (by (repeat (first | assumption | exact sliS_nil _ | (refine sliS_new (Blk.made _ _ _) rfl rfl (by decide); done) | refine SliS.past ?_ (by assumption) | refine sliS_alloc ?_ _))) (by (repeat (first | assumption | exact sliS_nil _ | (refine sliS_new (Blk.made _ _ _) rfl rfl (by decide); done) | refine SliS.past ?_ (by assumption) | refine sliS_alloc ?_ _))) (by omega) K2.out).mono ?_); rintro e w2 ⟨rfl, hb2⟩)) | (go_at_call 16; ((with_reducible refine (cle_s (F := F) (G := H) (a1 := a) (a2 := a9) (by (repeat (first | assumption | exact sliS_nil _ | (refine sliS_new (Blk.made _ _ _) rfl rfl (by decide); done) | refine SliS.past ?_ (by assumption) | refine sliS_alloc ?_ _))) (by (repeat (first | assumption | exact sliS_nil _ | (refine sliS_new (Blk.made _ _ _) rfl rfl (by decide); done) | refine SliS.past ?_ (by assumption) | refine sliS_alloc ?_ _))) (by omega) K3.out).mono ?_); rintro e w2 ⟨rfl, hb2⟩)) | (go_at_call 16; ((with_reducible refine (cle_s (F := G) (G := H) (a1 := a') (a2 := a9) (by (repeat (first | assumption | exact sliS_nil _ | (refine sliS_new (Blk.made _ _ _) rfl rfl (by decide); done) | refine SliS.past ?_ (by assumption) | refine sliS_alloc ?_ _))) (by (repeat (first | assumption | exact sliS_nil _ | (refine sliS_new (Blk.made _ _ _) rfl rfl (by decide); done) | refine SliS.past ?_ (by assumption) | refine sliS_alloc ?_ _))) (by omega) K4.out).mono ?_); rintro e w2 ⟨rfl, hb2⟩)) | (go_at_call 16; ((with_reducible refine (cle_s (F := L) (G := H) (a1 := a7) (a2 := a9) (by (repeat (first | assumption | exact sliS_nil _ | (refine sliS_new (Blk.made _ _ _) rfl rfl (by decide); done) | refine SliS.past ?_ (by assumption) | refine sliS_alloc ?_ _))) (by (repeat (first | assumption | exact sliS_nil _ | (refine sliS_new (Blk.made _ _ _) rfl rfl (by decide); done) | refine SliS.past ?_ (by assumption) | refine sliS_alloc ?_ _))) (by omega) K5.out).mono ?_); rintro e w2 ⟨rfl, hb2⟩)) | (go_at_call 16; ((with_reducible refine (cle_s (F := F) (G := G) (a1 := a) (a2 := a') (by (repeat (first | assumption | exact sliS_nil _ | (refine sliS_new (Blk.made _ _ _) rfl rfl (by decide); done) | refine SliS.past ?_ (by assumption) | refine sliS_alloc ?_ _))) (by (repeat (first | assumption | exact sliS_nil _ | (refine sliS_new (Blk.made _ _ _) rfl rfl (by decide); done) | refine SliS.past ?_ (by assumption) | refine sliS_alloc ?_ _))) (by omega) K7.out).mono ?_); rintro e w2 ⟨rfl, hb2⟩)))
  go_cut [26, 27, 28] (fun s26 s27 s28 wx => s26 = .int .i64 0 ∧ s27 = .bool true ∧ s28 = .int .i64 0 ∧ SliS wx (.slice a n cap) F ∧ SliS wx (.slice a' m cap') G ∧ SliS wx (.slice a7 L.length c7) L ∧ Below w.heap.size w wx)
  case first =>
    go_wp2_with (first | (go_at_call 14; ((with_reducible refine (Calls.ofSl (cmn_s (F := F) (G := G) (a1 := a) (a2 := a') (by (repeat (first | assumption | exact sliS_nil _ | (refine sliS_new (Blk.made _ _ _) rfl rfl (by decide); done) | refine SliS.past ?_ (by assumption) | refine sliS_alloc ?_ _))) (by (repeat (first | assumption | exact sliS_nil _ | (refine sliS_new (Blk.made _ _ _) rfl rfl (by decide); done) | refine SliS.past ?_ (by assumption) | refine sliS_alloc ?_ _))) (by omega) HL.out) rfl).mono ?_); rintro e w7 ⟨a7, c7, rfl, S7, hb7⟩)) | (go_at_call 15; ((with_reducible refine (Calls.ofSl (cmx_s (F := F) (G := G) (a1 := a) (a2 := a') (by (repeat (first | assumption | exact sliS_nil _ | (refine sliS_new (Blk.made _ _ _) rfl rfl (by decide); done) | refine SliS.past ?_ (by assumption) | refine sliS_alloc ?_ _))) (by (repeat (first | assumption | exact sliS_nil _ | (refine sliS_new (Blk.made _ _ _) rfl rfl (by decide); done) | refine SliS.past ?_ (by assumption) | refine sliS_alloc ?_ _))) (by omega) HH.out) rfl).mono ?_); rintro e w9 ⟨a9, c9, rfl, S9, hb9⟩)) | (go_at_call 16; ((with_reducible refine (cle_s (F := L) (G := F) (a1 := a7) (a2 := a) (by (repeat (first | assumption | exact sliS_nil _ | (refine sliS_new (Blk.made _ _ _) rfl rfl (by decide); done) | refine SliS.past ?_ (by assumption) | refine sliS_alloc ?_ _))) (by (repeat (first | assumption | exact sliS_nil _ | (refine sliS_new (Blk.made _ _ _) rfl rfl (by decide); done) | refine SliS.past ?_ (by assumption) | refine sliS_alloc ?_ _))) (by omega) K1.out).mono ?_); rintro e w2 ⟨rfl, hb2⟩)) | (go_at_call 16; ((with_reducible refine (cle_s (F := L) (G := G) (a1 := a7) (a2 := a') (by (repeat (first | assumption | exact sliS_nil _ | (refine sliS_new (Blk.made _ _ _) rfl rfl (by decide); done) | refine SliS.past ?_ (by assumption) | refine sliS_alloc ?_ _))) (by (repeat (first | assumption | exact sliS_nil _ | (refine sliS_new (Blk.made _ _ _) rfl rfl (by decide); done) | refine SliS.past ?_ (by assumption) | refine sliS_alloc ?_ _))) (by omega) K2.out).mono ?_); rintro e w2 ⟨rfl, hb2⟩)) | (go_at_call 16; ((with_reducible refine (cle_s (F := F) (G := H) (a1 := a) (a2 := a9) (by (repeat (first | assumption | exact sliS_nil _ | (refine sliS_new (Blk.made _ _ _) rfl rfl (by decide); done) | refine SliS.past ?_ (by assumption) | refine sliS_alloc ?_ _))) (by (repeat (first | assumption | exact sliS_nil _ | (refine sliS_new (Blk.made _ _ _) rfl rfl (by decide); done) | refine SliS.past ?_ (by assumption) | refine sliS_alloc ?_ _))) (by omega) K3.out).mono ?_); rintro e w2 ⟨rfl, hb2⟩)) | (go_at_call 16; ((with_reducible refine (cle_s (F := G) (G := H) (a1 := a') (a2 := a9) (by (repeat (first | assumption | exact sliS_nil _ | (refine sliS_new (Blk.made _ _ _) rfl rfl (by decide); done) | refine SliS.past ?_ (by assumption) | refine sliS_alloc ?_ _))) (by (repeat (first | assumption | exact sliS_nil _ | (refine sliS_new (Blk.made _ _ _) rfl rfl (by decide); done) | refine SliS.past ?_ (by assumption) | refine sliS_alloc ?_ _))) (by omega) K4.out).mono ?_); rintro e w2 ⟨rfl, hb2⟩)) | (go_at_call 16; ((with_reducible refine (cle_s (F := L) (G := H) (a1 := a7) (a2 := a9) (by (repeat (first | assumption | exact sliS_nil _ | (refine sliS_new (Blk.made _ _ _) rfl rfl (by decide); done) | refine SliS.past ?_ (by assumption) | refine sliS_alloc ?_ _))) (by (repeat (first | assumption | exact sliS_nil _ | (refine sliS_new (Blk.made _ _ _) rfl rfl (by decide); done) | refine SliS.past ?_ (by assumption) | refine sliS_alloc ?_ _))) (by omega) K5.out).mono ?_); rintro e w2 ⟨rfl, hb2⟩)) | (go_at_call 16; ((with_reducible refine (cle_s (F := F) (G := G) (a1 := a) (a2 := a') (by (repeat (first | assumption | exact sliS_nil _ | (refine sliS_new (Blk.made _ _ _) rfl rfl (by decide); done) | refine SliS.past ?_ (by assumption) | refine sliS_alloc ?_ _))) (by (repeat (first | assumption | exact sliS_nil _ | (refine sliS_new (Blk.made _ _ _) rfl rfl (by decide); done) | refine SliS.past ?_ (by assumption) | refine sliS_alloc ?_ _))) (by omega) K7.out).mono ?_); rintro e w2 ⟨rfl, hb2⟩)))
    go_meet
    case rel => exact ⟨rfl, rfl, rfl, (by (repeat (first | assumption | exact sliS_nil _ | (refine sliS_new (Blk.made _ _ _) rfl rfl (by decide); done) | refine SliS.past ?_ (by assumption) | refine sliS_alloc ?_ _))), (by (repeat (first | assumption | exact sliS_nil _ | (refine sliS_new (Blk.made _ _ _) rfl rfl (by decide); done) | refine SliS.past ?_ (by assumption) | refine sliS_alloc ?_ _))), (by (repeat (first | assumption | exact sliS_nil _ | (refine sliS_new (Blk.made _ _ _) rfl rfl (by decide); done) | refine SliS.past ?_ (by assumption) | refine sliS_alloc ?_ _))), by (repeat (first | exact Below.refl _ _ | assumption | refine balloc ?_ _ | refine below_drewN ?_ _ | refine bstep (by assumption) ?_ | refine bstep (Past.prop _) ?_ | refine Below.setCell ?_ (by first | exact Nat.le_refl _ | (simp; done) | (simp; omega)) _))⟩
  clear S1 S2 S7 S9
  obtain ⟨rfl, rfl, rfl, S1, S2, S7, hb⟩ := hcut
  go_wp2_with (first | (go_at_call 14; ((with_reducible refine (Calls.ofSl (cmn_s (F := F) (G := G) (a1 := a) (a2 := a') (by (repeat (first | assumption | exact sliS_nil _ | (refine sliS_new (Blk.made _ _ _) rfl rfl (by decide); done) | refine SliS.past ?_ (by assumption) | refine sliS_alloc ?_ _))) (by (repeat (first | assumption | exact sliS_nil _ | (refine sliS_new (Blk.made _ _ _) rfl rfl (by decide); done) | refine SliS.past ?_ (by assumption) | refine sliS_alloc ?_ _))) (by omega) HL.out) rfl).mono ?_); rintro e w29 ⟨a29, c29, rfl, S29, hb29⟩)) | (go_at_call 16; ((with_reducible refine (cle_s (F := F) (G := L) (a1 := a) (a2 := a29) (by (repeat (first | assumption | exact sliS_nil _ | (refine sliS_new (Blk.made _ _ _) rfl rfl (by decide); done) | refine SliS.past ?_ (by assumption) | refine sliS_alloc ?_ _))) (by (repeat (first | assumption | exact sliS_nil _ | (refine sliS_new (Blk.made _ _ _) rfl rfl (by decide); done) | refine SliS.past ?_ (by assumption) | refine sliS_alloc ?_ _))) (by omega) K6.out).mono ?_); rintro e w2 ⟨rfl, hb2⟩)) | (go_at_call 9; ((with_reducible refine (chead_c _).mono ?_); rintro e w2 ⟨rfl, hb2⟩)))
  go_ret
  exact ⟨rfl, by (repeat (first | exact Below.refl _ _ | assumption | refine balloc ?_ _ | refine below_drewN ?_ _ | refine bstep (by assumption) ?_ | refine bstep (Past.prop _) ?_ | refine Below.setCell ?_ (by first | exact Nat.le_refl _ | (simp; done) | (simp; omega)) _))⟩

set_option maxRecDepth 100000 in
set_option maxHeartbeats 8000000 in
theorem order_isnt (F G : List Sg) (n m : Nat) (x : Int) (a a' : Option Addr) (cap cap' : Nat) (w : World) (h : n ≤ 60) (h' : m ≤ 60) (S1 : SliS w (.slice a n cap) F) (S2 : SliS w (.slice a' m cap') G) (h1 : mayB F = true) (h2 : mayB G = true) (hx : -9223372036854775808 ≤ x ∧ x ≤ 9223372036854775807) (t : Int) (hle : leS F G x = (t, false, 0)) (hxt : x ≤ t) (hbad : leB (vat F t).1 (vat F t).2 (vat G t).1 (vat G t).2 = false) (ht : t = x ∨ t ∈ twoT F G) (hall : ∀ u, x ≤ u → u < t → leB (vat F u).1 (vat F u).2 (vat G u).1 (vat G u).2 = true) :
    Calls Try.prog 6 #[.slice a n cap, .slice a' m cap', .int .i64 x] w fun e w' => e = .returned (.bool true) ∧ Below w.heap.size w w' := by
  have HG := hidE (fun w => great_no (a := a) (a' := a') (cap := cap) (cap' := cap') (w := w) h h')
  obtain ⟨L, H, hL, hH, lL, lH, k1, k2, k3, k4, k5, k6⟩ := order_facts x h1 h2
  rw [← S1.len.1, ← S2.len.1] at lL lH
  have htb : t = x ∨ (-1125899906842624 ≤ t ∧ t ≤ 1125899906842624) := ht.imp id (twoT_ok h1 h2)
  have HTB := hidE htb; have HXT := hidE hxt; have HX := hidE hx
  have HH1 := hidE h1; have HH2 := hidE h2; have HL := hidE hL; have HH := hidE hH; have K1 := hidE k1; have K2 := hidE k2; have K3 := hidE k3; have K4 := hidE k4; have K5 := hidE k5; have K7 := hidE hle; have HBAD := hidE hbad; have HALL := hidE hall
  have H1 := HH1; have H2 := HH2
  clear h1 h2 hL hH k1 k2 k3 k4 k5 k6 hall hle hbad ht htb hxt hx
  go_enter Try.func6, Try.ntmps6
  go_upto_if 48 with (first | (go_at_call 8; ((with_reducible refine (HG.out _).mono ?_); rintro e w1 ⟨rfl, hb⟩)) | (go_at_call 23; ((with_reducible refine (rmay_s (a := a) (F := F) (by (repeat (first | assumption | exact sliS_nil _ | (refine sliS_new (Blk.made _ _ _) rfl rfl (by decide); done) | refine SliS.past ?_ (by assumption) | refine sliS_alloc ?_ _))) (by omega) H1.out).mono ?_); rintro e w2 ⟨rfl, hb2⟩)) | (go_at_call 23; ((with_reducible refine (rmay_s (a := a') (F := G) (by (repeat (first | assumption | exact sliS_nil _ | (refine sliS_new (Blk.made _ _ _) rfl rfl (by decide); done) | refine SliS.past ?_ (by assumption) | refine sliS_alloc ?_ _))) (by omega) H2.out).mono ?_); rintro e w2 ⟨rfl, hb2⟩)))
  go_upto_region 10 with (first | (go_at_call 23; ((with_reducible refine (rmay_s (a := a) (F := F) (by (repeat (first | assumption | exact sliS_nil _ | (refine sliS_new (Blk.made _ _ _) rfl rfl (by decide); done) | refine SliS.past ?_ (by assumption) | refine sliS_alloc ?_ _))) (by omega) H1.out).mono ?_); rintro e w2 ⟨rfl, hb2⟩)) | (go_at_call 23; ((with_reducible refine (rmay_s (a := a') (F := G) (by (repeat (first | assumption | exact sliS_nil _ | (refine sliS_new (Blk.made _ _ _) rfl rfl (by decide); done) | refine SliS.past ?_ (by assumption) | refine sliS_alloc ?_ _))) (by omega) H2.out).mono ?_); rintro e w2 ⟨rfl, hb2⟩)) | (go_at_call 14; ((with_reducible refine (Calls.ofSl (cmn_s (F := F) (G := G) (a1 := a) (a2 := a') (by (repeat (first | assumption | exact sliS_nil _ | (refine sliS_new (Blk.made _ _ _) rfl rfl (by decide); done) | refine SliS.past ?_ (by assumption) | refine sliS_alloc ?_ _))) (by (repeat (first | assumption | exact sliS_nil _ | (refine sliS_new (Blk.made _ _ _) rfl rfl (by decide); done) | refine SliS.past ?_ (by assumption) | refine sliS_alloc ?_ _))) (by omega) HL.out) rfl).mono ?_); rintro e w7 ⟨a7, c7, rfl, S7, hb7⟩)) | (go_at_call 15; ((with_reducible refine (Calls.ofSl (cmx_s (F := F) (G := G) (a1 := a) (a2 := a') (by (repeat (first | assumption | exact sliS_nil _ | (refine sliS_new (Blk.made _ _ _) rfl rfl (by decide); done) | refine SliS.past ?_ (by assumption) | refine sliS_alloc ?_ _))) (by (repeat (first | assumption | exact sliS_nil _ | (refine sliS_new (Blk.made _ _ _) rfl rfl (by decide); done) | refine SliS.past ?_ (by assumption) | refine sliS_alloc ?_ _))) (by omega) HH.out) rfl).mono ?_); rintro e w9 ⟨a9, c9, rfl, S9, hb9⟩)) | (go_at_call 16; ((with_reducible refine (cle_s (F := L) (G := F) (a1 := a7) (a2 := a) (by (repeat (first | assumption | exact sliS_nil _ | (refine sliS_new (Blk.made _ _ _) rfl rfl (by decide); done) | refine SliS.past ?_ (by assumption) | refine sliS_alloc ?_ _))) (by (repeat (first | assumption | exact sliS_nil _ | (refine sliS_new (Blk.made _ _ _) rfl rfl (by decide); done) | refine SliS.past ?_ (by assumption) | refine sliS_alloc ?_ _))) (by omega) K1.out).mono ?_); rintro e w2 ⟨rfl, hb2⟩)) | (go_at_call 16; ((with_reducible refine (cle_s (F := L) (G := G) (a1 := a7) (a2 := a') (by (repeat (first | assumption | exact sliS_nil _ | (refine sliS_new (Blk.made _ _ _) rfl rfl (by decide); done) | refine SliS.past ?_ (by assumption) | refine sliS_alloc ?_ _))) (by (repeat (first | assumption | exact sliS_nil _ | (refine sliS_new (Blk.made _ _ _) rfl rfl (by decide); done) | refine SliS.past ?_ (by assumption) | refine sliS_alloc ?_ _))) (by omega) K2.out).mono ?_); rintro e w2 ⟨rfl, hb2⟩)) | (go_at_call 16; ((with_reducible refine (cle_s (F := F) (G := H) (a1 := a) (a2 := a9) (by (repeat (first | assumption | exact sliS_nil _ | (refine sliS_new (Blk.made _ _ _) rfl rfl (by decide); done) | refine SliS.past ?_ (by assumption) | refine sliS_alloc ?_ _))) (by (repeat (first | assumption | exact sliS_nil _ | (refine sliS_new (Blk.made _ _ _) rfl rfl (by decide); done) | refine SliS.past ?_ (by assumption) | refine sliS_alloc ?_ _))) (by omega) K3.out).mono ?_); rintro e w2 ⟨rfl, hb2⟩)) | (go_at_call 16; ((with_reducible refine (cle_s (F := G) (G := H) (a1 := a') (a2 := a9) (by (repeat (first | assumption | exact sliS_nil _ | (refine sliS_new (Blk.made _ _ _) rfl rfl (by decide); done) | refine SliS.past ?_ (by assumption) | refine sliS_alloc ?_ _))) (by (repeat (first | assumption | exact sliS_nil _ | (refine sliS_new (Blk.made _ _ _) rfl rfl (by decide); done) | refine SliS.past ?_ (by assumption) | refine sliS_alloc ?_ _))) (by omega) K4.out).mono ?_); rintro e w2 ⟨rfl, hb2⟩)) | (go_at_call 16; ((with_reducible refine (cle_s (F := L) (G := H) (a1 := a7) (a2 := a9) (by (repeat (first | assumption | exact sliS_nil _ | (refine sliS_new (Blk.made _ _ _) rfl rfl (by decide); done) | refine SliS.past ?_ (by assumption) | refine sliS_alloc ?_ _))) (by (repeat (first | assumption | exact sliS_nil _ | (refine sliS_new (Blk.made _ _ _) rfl rfl (by decide); done) | refine SliS.past ?_ (by assumption) | refine sliS_alloc ?_ _))) (by omega) K5.out).mono ?_); rintro e w2 ⟨rfl, hb2⟩)) | (go_at_call 16; ((with_reducible refine (cle_s (F := F) (G := G) (a1 := a) (a2 := a') (by (repeat (first | assumption | exact sliS_nil _ | (refine sliS_new (Blk.made _ _ _) rfl rfl (by decide); done) | refine SliS.past ?_ (by assumption) | refine sliS_alloc ?_ _))) (by (repeat (first | assumption | exact sliS_nil _ | (refine sliS_new (Blk.made _ _ _) rfl rfl (by decide); done) | refine SliS.past ?_ (by assumption) | refine sliS_alloc ?_ _))) (by omega) K7.out).mono ?_); rintro e w2 ⟨rfl, hb2⟩)))
  go_cut [26, 27, 28] (fun s26 s27 s28 wx => s26 = .int .i64 t ∧ s27 = .bool false ∧ s28 = .int .i64 0 ∧ SliS wx (.slice a n cap) F ∧ SliS wx (.slice a' m cap') G ∧ SliS wx (.slice a7 L.length c7) L ∧ Below w.heap.size w wx)
  case first =>
    go_wp2_with (first | (go_at_call 14; ((with_reducible refine (Calls.ofSl (cmn_s (F := F) (G := G) (a1 := a) (a2 := a') (by (repeat (first | assumption | exact sliS_nil _ | (refine sliS_new (Blk.made _ _ _) rfl rfl (by decide); done) | refine SliS.past ?_ (by assumption) | refine sliS_alloc ?_ _))) (by (repeat (first | assumption | exact sliS_nil _ | (refine sliS_new (Blk.made _ _ _) rfl rfl (by decide); done) | refine SliS.past ?_ (by assumption) | refine sliS_alloc ?_ _))) (by omega) HL.out) rfl).mono ?_); rintro e w7 ⟨a7, c7, rfl, S7, hb7⟩)) | (go_at_call 15; ((with_reducible refine (Calls.ofSl (cmx_s (F := F) (G := G) (a1 := a) (a2 := a') (by (repeat (first | assumption | exact sliS_nil _ | (refine sliS_new (Blk.made _ _ _) rfl rfl (by decide); done) | refine SliS.past ?_ (by assumption) | refine sliS_alloc ?_ _))) (by (repeat (first | assumption | exact sliS_nil _ | (refine sliS_new (Blk.made _ _ _) rfl rfl (by decide); done) | refine SliS.past ?_ (by assumption) | refine sliS_alloc ?_ _))) (by omega) HH.out) rfl).mono ?_); rintro e w9 ⟨a9, c9, rfl, S9, hb9⟩)) | (go_at_call 16; ((with_reducible refine (cle_s (F := L) (G := F) (a1 := a7) (a2 := a) (by (repeat (first | assumption | exact sliS_nil _ | (refine sliS_new (Blk.made _ _ _) rfl rfl (by decide); done) | refine SliS.past ?_ (by assumption) | refine sliS_alloc ?_ _))) (by (repeat (first | assumption | exact sliS_nil _ | (refine sliS_new (Blk.made _ _ _) rfl rfl (by decide); done) | refine SliS.past ?_ (by assumption) | refine sliS_alloc ?_ _))) (by omega) K1.out).mono ?_); rintro e w2 ⟨rfl, hb2⟩)) | (go_at_call 16; ((with_reducible refine (cle_s (F := L) (G := G) (a1 := a7) (a2 := a') (by (repeat (first | assumption | exact sliS_nil _ | (refine sliS_new (Blk.made _ _ _) rfl rfl (by decide); done) | refine SliS.past ?_ (by assumption) | refine sliS_alloc ?_ _))) (by (repeat (first | assumption | exact sliS_nil _ | (refine sliS_new (Blk.made _ _ _) rfl rfl (by decide); done) | refine SliS.past ?_ (by assumption) | refine sliS_alloc ?_ _))) (by omega) K2.out).mono ?_); rintro e w2 ⟨rfl, hb2⟩)) | (go_at_call 16; ((with_reducible refine (cle_s (F := F) (G := H) (a1 := a) (a2 := a9) (by (repeat (first | assumption | exact sliS_nil _ | (refine sliS_new (Blk.made _ _ _) rfl rfl (by decide); done) | refine SliS.past ?_ (by assumption) | refine sliS_alloc ?_ _))) (by (repeat (first | assumption | exact sliS_nil _ | (refine sliS_new (Blk.made _ _ _) rfl rfl (by decide); done) | refine SliS.past ?_ (by assumption) | refine sliS_alloc ?_ _))) (by omega) K3.out).mono ?_); rintro e w2 ⟨rfl, hb2⟩)) | (go_at_call 16; ((with_reducible refine (cle_s (F := G) (G := H) (a1 := a') (a2 := a9) (by (repeat (first | assumption | exact sliS_nil _ | (refine sliS_new (Blk.made _ _ _) rfl rfl (by decide); done) | refine SliS.past ?_ (by assumption) | refine sliS_alloc ?_ _))) (by (repeat (first | assumption | exact sliS_nil _ | (refine sliS_new (Blk.made _ _ _) rfl rfl (by decide); done) | refine SliS.past ?_ (by assumption) | refine sliS_alloc ?_ _))) (by omega) K4.out).mono ?_); rintro e w2 ⟨rfl, hb2⟩)) | (go_at_call 16; ((with_reducible refine (cle_s (F := L) (G := H) (a1 := a7) (a2 := a9) (by (repeat (first | assumption | exact sliS_nil _ | (refine sliS_new (Blk.made _ _ _) rfl rfl (by decide); done) | refine SliS.past ?_ (by assumption) | refine sliS_alloc ?_ _))) (by (repeat (first | assumption | exact sliS_nil _ | (refine sliS_new (Blk.made _ _ _) rfl rfl (by decide); done) | refine SliS.past ?_ (by assumption) | refine sliS_alloc ?_ _))) (by omega) K5.out).mono ?_); rintro e w2 ⟨rfl, hb2⟩)) | (go_at_call 16; ((with_reducible refine (cle_s (F := F) (G := G) (a1 := a) (a2 := a') (by (repeat (first | assumption | exact sliS_nil _ | (refine sliS_new (Blk.made _ _ _) rfl rfl (by decide); done) | refine SliS.past ?_ (by assumption) | refine sliS_alloc ?_ _))) (by (repeat (first | assumption | exact sliS_nil _ | (refine sliS_new (Blk.made _ _ _) rfl rfl (by decide); done) | refine SliS.past ?_ (by assumption) | refine sliS_alloc ?_ _))) (by omega) K7.out).mono ?_); rintro e w2 ⟨rfl, hb2⟩)))
    go_meet
    case rel => exact ⟨rfl, rfl, rfl, (by (repeat (first | assumption | exact sliS_nil _ | (refine sliS_new (Blk.made _ _ _) rfl rfl (by decide); done) | refine SliS.past ?_ (by assumption) | refine sliS_alloc ?_ _))), (by (repeat (first | assumption | exact sliS_nil _ | (refine sliS_new (Blk.made _ _ _) rfl rfl (by decide); done) | refine SliS.past ?_ (by assumption) | refine sliS_alloc ?_ _))), (by (repeat (first | assumption | exact sliS_nil _ | (refine sliS_new (Blk.made _ _ _) rfl rfl (by decide); done) | refine SliS.past ?_ (by assumption) | refine sliS_alloc ?_ _))), by (repeat (first | exact Below.refl _ _ | assumption | refine balloc ?_ _ | refine below_drewN ?_ _ | refine bstep (by assumption) ?_ | refine bstep (Past.prop _) ?_ | refine Below.setCell ?_ (by first | exact Nat.le_refl _ | (simp; done) | (simp; omega)) _))⟩
  clear S1 S2 S7 S9
  obtain ⟨rfl, rfl, rfl, S1, S2, S7, hb⟩ := hcut
  have d0 : decide (t < x) = false := decide_eq_false (by have := HXT.out; omega)
  go_upto_region 19 with (first | (go_at_call 21; ((with_reducible refine (rat_s (a := a) (F := F) (t := t) (by (repeat (first | assumption | exact sliS_nil _ | (refine sliS_new (Blk.made _ _ _) rfl rfl (by decide); done) | refine SliS.past ?_ (by assumption) | refine sliS_alloc ?_ _))) (by omega) rfl).mono ?_); rintro e w2 ⟨rfl, hb2⟩)) | (go_at_call 21; ((with_reducible refine (rat_s (a := a') (F := G) (t := t) (by (repeat (first | assumption | exact sliS_nil _ | (refine sliS_new (Blk.made _ _ _) rfl rfl (by decide); done) | refine SliS.past ?_ (by assumption) | refine sliS_alloc ?_ _))) (by omega) rfl).mono ?_); rintro e w2 ⟨rfl, hb2⟩)) | (go_at_call 24; ((with_reducible refine (rle_b HBAD.out).mono ?_); rintro e w2 ⟨rfl, hb2⟩)))
  go_cut [34] (fun s34 wx => s34 = .int .i64 0 ∧ SliS wx (.slice a n cap) F ∧ SliS wx (.slice a' m cap') G ∧ Below w.heap.size w wx)
  case first =>
    go_wp2
    go_meet
    case rel => exact ⟨rfl, (by (repeat (first | assumption | exact sliS_nil _ | (refine sliS_new (Blk.made _ _ _) rfl rfl (by decide); done) | refine SliS.past ?_ (by assumption) | refine sliS_alloc ?_ _))), (by (repeat (first | assumption | exact sliS_nil _ | (refine sliS_new (Blk.made _ _ _) rfl rfl (by decide); done) | refine SliS.past ?_ (by assumption) | refine sliS_alloc ?_ _))), by (repeat (first | exact Below.refl _ _ | assumption | refine balloc ?_ _ | refine below_drewN ?_ _ | refine bstep (by assumption) ?_ | refine bstep (Past.prop _) ?_ | refine Below.setCell ?_ (by first | exact Nat.le_refl _ | (simp; done) | (simp; omega)) _))⟩
  obtain ⟨rfl, S1, S2, hb⟩ := hcut
  clear S7 HL HH K1 K2 K3 K4 K5 K7 HG HH1 HH2 H1 H2
  have HEN := hidE S1.len.1; have HEM := hidE S2.len.1
  go_wp2_with fail
  go_loopg [34, 35] (n + m) (fun gh vk _ wr => ∃ k : Nat, vk = .int .i64 k ∧ k ≤ n + m ∧ n + m - k ≤ gh ∧ SliS wr (.slice a n cap) F ∧ SliS wr (.slice a' m cap') G ∧ Below w.heap.size w wr)
  case atStart => exact ⟨0, rfl, by omega, by omega, S1, S2, hb⟩
  case round =>
    clear S1 S2 hb
    obtain ⟨k, rfl, hk, hg, S1, S2, hb⟩ := hrel
    by_cases hlt : k < n + m
    · by_cases hkn : k < n
      · have dk : decide ((k : Int) < (n : Int) + (m : Int)) = true := decide_eq_true (by omega)
        obtain ⟨b, off, rfl, hbz, hc⟩ := S1.len.2.2.2 (by have := HEN.out; omega)
        obtain ⟨c0, _, _⟩ := hc.get (i := k) (by have := HEN.out; omega)
        clear hc
        generalize ats F k = u at *
        by_cases g1 : x ≤ u
        · have d1 : decide (x ≤ u) = true := decide_eq_true g1
          by_cases g2 : u < t
          · have d2 : decide (u < t) = true := decide_eq_true g2
            have HB := hidE (HALL.out u g1 g2)
            clear g1 g2
            go_wp2_with (first | (go_at_call 21; ((with_reducible refine (rat_s (a := some ⟨b, off, none⟩) (F := F) (t := u) (by (repeat (first | assumption | exact sliS_nil _ | (refine sliS_new (Blk.made _ _ _) rfl rfl (by decide); done) | refine SliS.past ?_ (by assumption) | refine sliS_alloc ?_ _))) (by omega) rfl).mono ?_); rintro e w2 ⟨rfl, hb2⟩)) | (go_at_call 21; ((with_reducible refine (rat_s (a := a') (F := G) (t := u) (by (repeat (first | assumption | exact sliS_nil _ | (refine sliS_new (Blk.made _ _ _) rfl rfl (by decide); done) | refine SliS.past ?_ (by assumption) | refine sliS_alloc ?_ _))) (by omega) rfl).mono ?_); rintro e w2 ⟨rfl, hb2⟩)) | (go_at_call 24; ((with_reducible refine (rle_b HB.out).mono ?_); rintro e w2 ⟨rfl, hb2⟩)))
            go_roundg (n + m - (k + 1))
            case measure => omega
            case rel => exact ⟨k + 1, by go_num, by omega, Nat.le_refl _, (by (repeat (first | assumption | exact sliS_nil _ | (refine sliS_new (Blk.made _ _ _) rfl rfl (by decide); done) | refine SliS.past ?_ (by assumption) | refine sliS_alloc ?_ _))), (by (repeat (first | assumption | exact sliS_nil _ | (refine sliS_new (Blk.made _ _ _) rfl rfl (by decide); done) | refine SliS.past ?_ (by assumption) | refine sliS_alloc ?_ _))), by (repeat (first | exact Below.refl _ _ | assumption | refine balloc ?_ _ | refine below_drewN ?_ _ | refine bstep (by assumption) ?_ | refine bstep (Past.prop _) ?_ | refine Below.setCell ?_ (by first | exact Nat.le_refl _ | (simp; done) | (simp; omega)) _))⟩
          · have d2 : decide (u < t) = false := decide_eq_false g2
            clear g1 g2
            go_wp2
            go_roundg (n + m - (k + 1))
            case measure => omega
            case rel => exact ⟨k + 1, by go_num, by omega, Nat.le_refl _, S1, S2, hb⟩
        · have d1 : decide (x ≤ u) = false := decide_eq_false g1
          clear g1
          go_wp2
          go_roundg (n + m - (k + 1))
          case measure => omega
          case rel => exact ⟨k + 1, by go_num, by omega, Nat.le_refl _, S1, S2, hb⟩
      · obtain ⟨j, rfl⟩ : ∃ j, k = n + j := ⟨k - n, by omega⟩
        have dk : decide (((n : Int) + (j : Int)) < (n : Int) + (m : Int)) = true := decide_eq_true (by omega)
        have dn : decide (((n : Int) + (j : Int)) < (n : Int)) = false := decide_eq_false (by omega)
        have hj : j < m := by omega
        obtain ⟨b, off, rfl, hbz, hc⟩ := S2.len.2.2.2 (by have := HEM.out; omega)
        obtain ⟨c0, _, _⟩ := hc.get (i := j) (by have := HEM.out; omega)
        clear hc hkn
        generalize ats G j = u at *
        by_cases g1 : x ≤ u
        · have d1 : decide (x ≤ u) = true := decide_eq_true g1
          by_cases g2 : u < t
          · have d2 : decide (u < t) = true := decide_eq_true g2
            have HB := hidE (HALL.out u g1 g2)
            clear g1 g2
            go_wp2_with (first | (go_at_call 21; ((with_reducible refine (rat_s (a := a) (F := F) (t := u) (by (repeat (first | assumption | exact sliS_nil _ | (refine sliS_new (Blk.made _ _ _) rfl rfl (by decide); done) | refine SliS.past ?_ (by assumption) | refine sliS_alloc ?_ _))) (by omega) rfl).mono ?_); rintro e w2 ⟨rfl, hb2⟩)) | (go_at_call 21; ((with_reducible refine (rat_s (a := some ⟨b, off, none⟩) (F := G) (t := u) (by (repeat (first | assumption | exact sliS_nil _ | (refine sliS_new (Blk.made _ _ _) rfl rfl (by decide); done) | refine SliS.past ?_ (by assumption) | refine sliS_alloc ?_ _))) (by omega) rfl).mono ?_); rintro e w2 ⟨rfl, hb2⟩)) | (go_at_call 24; ((with_reducible refine (rle_b HB.out).mono ?_); rintro e w2 ⟨rfl, hb2⟩)))
            go_roundg (n + m - ((n + j) + 1))
            case measure => omega
            case rel => exact ⟨(n + j) + 1, by go_num, by omega, Nat.le_refl _, (by (repeat (first | assumption | exact sliS_nil _ | (refine sliS_new (Blk.made _ _ _) rfl rfl (by decide); done) | refine SliS.past ?_ (by assumption) | refine sliS_alloc ?_ _))), (by (repeat (first | assumption | exact sliS_nil _ | (refine sliS_new (Blk.made _ _ _) rfl rfl (by decide); done) | refine SliS.past ?_ (by assumption) | refine sliS_alloc ?_ _))), by (repeat (first | exact Below.refl _ _ | assumption | refine balloc ?_ _ | refine below_drewN ?_ _ | refine bstep (by assumption) ?_ | refine bstep (Past.prop _) ?_ | refine Below.setCell ?_ (by first | exact Nat.le_refl _ | (simp; done) | (simp; omega)) _))⟩
          · have d2 : decide (u < t) = false := decide_eq_false g2
            clear g1 g2
            go_wp2
            go_roundg (n + m - ((n + j) + 1))
            case measure => omega
            case rel => exact ⟨(n + j) + 1, by go_num, by omega, Nat.le_refl _, S1, S2, hb⟩
        · have d1 : decide (x ≤ u) = false := decide_eq_false g1
          clear g1
          go_wp2
          go_roundg (n + m - ((n + j) + 1))
          case measure => omega
          case rel => exact ⟨(n + j) + 1, by go_num, by omega, Nat.le_refl _, S1, S2, hb⟩
    · have hk' : k = n + m := by omega
      subst hk'
      by_cases ht : t = x
      · have dt : (t == x) = true := beq_iff_eq.2 ht
        clear ht
        go_wp2_with ((go_at_call 9; ((with_reducible refine (chead_c _).mono ?_); rintro e w2 ⟨rfl, hb2⟩)))
        go_ret
        exact ⟨rfl, by (repeat (first | exact Below.refl _ _ | assumption | refine balloc ?_ _ | refine below_drewN ?_ _ | refine bstep (by assumption) ?_ | refine bstep (Past.prop _) ?_ | refine Below.setCell ?_ (by first | exact Nat.le_refl _ | (simp; done) | (simp; omega)) _))⟩
      · have dt : (t == x) = false := beq_eq_false_iff_ne.2 ht
        have hxt := HXT.out; have htb := HTB.out.resolve_left ht
        have HB := hidE (HALL.out (t - 1) (by omega) (by omega))
        clear ht hxt
        go_wp2_with (first | (go_at_call 21; ((with_reducible refine (rat_s (a := a) (F := F) (t := (t - 1)) (by (repeat (first | assumption | exact sliS_nil _ | (refine sliS_new (Blk.made _ _ _) rfl rfl (by decide); done) | refine SliS.past ?_ (by assumption) | refine sliS_alloc ?_ _))) (by omega) rfl).mono ?_); rintro e w2 ⟨rfl, hb2⟩)) | (go_at_call 21; ((with_reducible refine (rat_s (a := a') (F := G) (t := (t - 1)) (by (repeat (first | assumption | exact sliS_nil _ | (refine sliS_new (Blk.made _ _ _) rfl rfl (by decide); done) | refine SliS.past ?_ (by assumption) | refine sliS_alloc ?_ _))) (by omega) rfl).mono ?_); rintro e w2 ⟨rfl, hb2⟩)) | (go_at_call 24; ((with_reducible refine (rle_b HB.out).mono ?_); rintro e w2 ⟨rfl, hb2⟩)) | (go_at_call 9; ((with_reducible refine (chead_c _).mono ?_); rintro e w2 ⟨rfl, hb2⟩)))
        go_ret
        exact ⟨rfl, by (repeat (first | exact Below.refl _ _ | assumption | refine balloc ?_ _ | refine below_drewN ?_ _ | refine bstep (by assumption) ?_ | refine bstep (Past.prop _) ?_ | refine Below.setCell ?_ (by first | exact Nat.le_refl _ | (simp; done) | (simp; omega)) _))⟩

theorem order_c (F G : List Sg) (x : Int) (hx : -9223372036854775808 ≤ x ∧ x ≤ 9223372036854775807) (a a' : Option Addr) (cap cap' : Nat) (w : World) (S1 : SliS w (.slice a F.length cap) F) (S2 : SliS w (.slice a' G.length cap') G) :
    Calls Try.prog 6 #[.slice a F.length cap, .slice a' G.length cap', .int .i64 x] w fun e w' => e = .returned (.bool true) ∧ Below w.heap.size w w' := by
  by_cases h : 60 < F.length ∨ 60 < G.length
  · exact order_many F.length G.length x a a' cap cap' w h
  · cases hm : (mayB F && mayB G)
    · exact order_not F G F.length G.length x a a' cap cap' w (by omega) (by omega) S1 S2 hm
    · obtain ⟨h1, h2⟩ : mayB F = true ∧ mayB G = true := by simpa using hm
      rcases leS_may x h1 h2 with ⟨e, hall⟩ | ⟨t, e, hxt, hbad, ht, hall⟩
      · exact order_is F G F.length G.length x a a' cap cap' w (by omega) (by omega) S1 S2 h1 h2 e hall
      · exact order_isnt F G F.length G.length x a a' cap cap' w (by omega) (by omega) S1 S2 h1 h2 hx t e hxt hbad ht hall
end Go.Proofs.Ytgbgnpdfjoeonaa

namespace Go.Proofs.Ytgbgnpdfjoeonaa
open Go.ChangeShapes Go.WideShapes Go.ChangeAt Go.RowKit

set_option maxRecDepth 100000 in
theorem calcOrder_lifted (os : Os) (started : os.Started) (H : Type) (enc : TypeId × Value → H) :
    ReturnsInHanded {} Try.checked os 6 .any (Rows.calcOrderSpec.pre6 enc Try.prog Try.f6 Rows.calcOrderRow.domain false) (Rows.calcOrderSpec.post enc Try.prog Try.f6 false true false false) := by
  refine returnsInHanded_of_change (C := Try.checked) own started (by kernel_rfl) Try.func6
    (ChangeSpec.witness6 (enc := enc) (C := Try.checked) false ⟨#[], #[.slice none 0 0, .slice none 0 0, .int .i64 0], []⟩ 8 (by kernel_rfl) (by kernel_rfl) (by kernel_rfl) (by kernel_rfl)) ?_
  intro W base args ds gs before hval0 hW _ _
  have hval : ∀ (j : Nat) t v, Try.f6.params[j]? = some t → args[j]? = some v → Value.okWide Try.prog W .any base t v := hval0
  have hW' := hW
  obtain ⟨p, q, hA0, hV, rfl, hfz, hnd⟩ := hW
  have hA : DataW.TrodAll enc Try.prog W 0 (fun _ => true) true Try.f6.params.toList args.toList ds p := hA0
  rw [Try.params6] at hA hval
  obtain ⟨v0, vs0, d0, ds0, p0, q0, hargs, rfl, rfl, h0, r0⟩ := trodAll_cons hA
  obtain ⟨v1, vs1, d1, ds1, p1, q1, rfl, rfl, rfl, h1, r1⟩ := trodAll_cons r0
  obtain ⟨v2, vs2, d2, ds2, p2, q2, rfl, rfl, rfl, h2, r2⟩ := trodAll_cons r1
  obtain ⟨rfl, rfl, rfl⟩ := trodAll_nil r2
  obtain rfl : args = #[v0, v1, v2] := by cases args; simp_all
  obtain ⟨l0, o0, c0, rfl, hl0, hA0', hS0⟩ := open_slisP (hval 0 22 v0 rfl rfl) h0
  obtain ⟨l1, o1, c1, rfl, hl1, hA1', hS1⟩ := open_slisP (hval 1 22 v1 rfl rfl) h1
  obtain ⟨a2, rfl, rfl, rfl, wa2⟩ := open_int Try.underlying2 (hval 2 2 v2 rfl rfl) h2
  have ha2 : -9223372036854775808 ≤ a2 ∧ a2 ≤ 9223372036854775807 := by simpa [Lit.wf, IntKind.min, IntKind.max, IntKind.signed, IntKind.bits] using wa2
  clear hA0 hval0
  refine (order_c l0 l1 a2 ha2 o0 o1 c0 c1 W hA0' hA1').mono fun e W' ⟨he, hb⟩ => ?_
  subst he
  exact ⟨_, rfl, law_post laidOut (readOk_spec (by kernel_rfl)) rfl Try.underlying4 rfl ⟨rfl, rfl, rfl⟩ hW' hb⟩

theorem calcOrder_holds : Rows.CalcOrderSaid :=
  OpenClaim.holds_of_wide 6 Try.f6 rfl rfl rfl rfl rfl rfl rfl ⟨rfl, rfl, rfl, rfl, rfl⟩ rfl rfl rfl rfl rfl (by kernel_rfl) Try.func6 (by kernel_rfl)
    (of_decide_eq_true (by kernel_rfl)) (by unfold Func.isWrapper; first | (rw [if_pos (by decide +kernel)]; kernel_rfl) | (rw [if_neg (by decide +kernel)]; exact ⟨rfl, rfl⟩))
    (fun os started H enc _ => calcOrder_lifted os started H enc)
end Go.Proofs.Ytgbgnpdfjoeonaa
