/- The walk of the statement on atoms. No conditions but that the arguments are of their kinds. ShapeAtoms: for all numbers the statement's function answers true and leaves its arguments alone. No conditions. -/
import Derived.Test.YtnifmdeojgfgcaaP8GB
import Derived.Test.YtnifmdeojgfgcaaP8MA
import Derived.Test.YtnifmdeojgfgcaaP8GA
namespace Go.Proofs.Ytnifmdeojgfgcaa
open Go.ChangeShapes Go.WideShapes Go.ChangeAt Go.RowKit
attribute [local irreducible] Go.Calls

theorem atom_c (n g : Nat) (d : Int) (er : Int) (h : (if badP ⟨0, n, g, d, 0⟩ = true then (81 : Int) else 0) = er) (b : Nat) (w : World) (hA : ArgP w (some ⟨b, 0, none⟩) [⟨0, n, g, d, 0⟩]) : Calls Try.prog 8 #[def8 0 4096 (some ⟨b, 0, none⟩) 1 1] w fun e w' => e = .returned (.tuple #[.int .i64 0, .int .i64 er]) ∧ Below w.heap.size w w' :=
  h8_chk 0 4096 [⟨0, n, g, d, 0⟩] 0 er (by rw [atom_chk, h]) 1 rfl _ _ _ (by simp) hA (by decide) (by decide)
set_option maxRecDepth 100000 in
set_option maxHeartbeats 2000000 in
theorem shatoms_no (n g : Nat) (d : Int) (W : World) (hn : n ≤ 4294967295) (hg : g ≤ 4294967295) (hd : -9223372036854775808 ≤ d ∧ d ≤ 9223372036854775807) (h : n = 0 ∨ 4096 < n ∨ g = 0 ∨ n < g ∨ d < 1 ∨ 4096 < d) :
    Calls Try.prog 6 #[.int .u32 n, .int .u32 g, .int .i64 d] W fun e w' => e = .returned (.bool true) ∧ Below W.heap.size W w' := by
  have HC := hidE (fun b w hA => atom_c n g d 81 (by rw [badP_atom, if_pos (decide_eq_true (by omega))]) b w hA)
  have HB : Blk (W.alloc (.cells #[.int .u8 0, .int .u32 n, .int .u32 g, .int .i64 d, .int .i64 0] 42)) W.heap.size (cellsOfP [⟨0, n, g, d, 0⟩]).toArray 42 := Blk.made _ _ _
  have HBB := hidE HB; clear HB
  have hh : (decide ((n : Int) ≥ 1) = false ∧ decide (1 ≤ n) = false) ∨ ((decide ((n : Int) ≥ 1) = true ∧ decide (1 ≤ n) = true) ∧ ((decide ((n : Int) ≤ 4096) = false ∧ decide (n ≤ 4096) = false) ∨ ((decide ((n : Int) ≤ 4096) = true ∧ decide (n ≤ 4096) = true) ∧ ((decide ((g : Int) ≥ 1) = false ∧ decide (1 ≤ g) = false) ∨ ((decide ((g : Int) ≥ 1) = true ∧ decide (1 ≤ g) = true) ∧ ((decide ((g : Int) ≤ (n : Int)) = false ∧ decide (g ≤ n) = false) ∨ ((decide ((g : Int) ≤ (n : Int)) = true ∧ decide (g ≤ n) = true) ∧ (decide (d ≥ 1) = false ∧ decide (1 ≤ d) = false) ∨ ((decide ((g : Int) ≤ (n : Int)) = true ∧ decide (g ≤ n) = true) ∧ (decide (d ≥ 1) = true ∧ decide (1 ≤ d) = true) ∧ decide (d ≤ 4096) = false)))))))) := by
    simp only [decide_eq_false_iff_not, decide_eq_true_eq]
    omega
  clear h hn hg hd
  rcases hh with ⟨q1, q1'⟩ | ⟨⟨q1, q1'⟩, ⟨q2, q2'⟩ | ⟨⟨q2, q2'⟩, ⟨q3, q3'⟩ | ⟨⟨q3, q3'⟩, ⟨q4, q4'⟩ | ⟨⟨q4, q4'⟩, ⟨q5, q5'⟩⟩ | ⟨⟨q4, q4'⟩, ⟨q5, q5'⟩, q6⟩⟩⟩⟩
  all_goals
    go_enter Try.func6, Try.ntmps6
    go_wp2_with fail
    ((with_reducible refine (HC.out _ _ ?hA).mono ?_))
    case hA => exact argP_blk HBB.out
    rintro e w1 ⟨rfl, hb1⟩
    have HB1 := hidE (show Below W.heap.size W w1 by (repeat (first | exact Below.refl _ _ | assumption | refine balloc ?_ _ | refine below_drewN ?_ _ | refine bstep (by assumption) ?_ | refine bstep (Past.prop _) ?_ | refine Below.setCell ?_ (by first | exact Nat.le_refl _ | (simp; done) | (simp; omega)) _)))
    clear hb1
    go_wp2_with fail
    ((with_reducible refine (head8_c _).mono ?_); rintro e w2 ⟨rfl, hb2⟩)
    have HB2 := hidE (HB1.out.trans (hb2.mono HB1.out.size))
    clear hb2
    go_wp2
    go_ret
    exact ⟨rfl, HB2.out⟩
set_option maxRecDepth 100000 in
set_option maxHeartbeats 2000000 in
theorem shatoms_yes (n g : Nat) (d : Int) (W : World) (hn : 1 ≤ n ∧ n ≤ 4096) (hg : 1 ≤ g ∧ g ≤ n) (hd : 1 ≤ d ∧ d ≤ 4096) :
    Calls Try.prog 6 #[.int .u32 n, .int .u32 g, .int .i64 d] W fun e w' => e = .returned (.bool true) ∧ Below W.heap.size W w' := by
  obtain ⟨er, her⟩ : ∃ er : Int, (if n % g = 0 then (0 : Int) else 81) = er := ⟨_, rfl⟩
  have HC := hidE (fun b w hA => atom_c n g d er (by
    rw [badP_atom, ← her]
    by_cases c : n % g = 0
    · rw [if_pos c, if_neg (by rw [decide_eq_true_eq]; omega)]
    · rw [if_neg c, if_pos (decide_eq_true (by omega))]) b w hA)
  have HER := hidE her; clear her
  have HB : Blk (W.alloc (.cells #[.int .u8 0, .int .u32 n, .int .u32 g, .int .i64 d, .int .i64 0] 42)) W.heap.size (cellsOfP [⟨0, n, g, d, 0⟩]).toArray 42 := Blk.made _ _ _
  have HBB := hidE HB; clear HB
  have q1 : decide ((n : Int) ≥ 1) = true ∧ decide (1 ≤ n) = true := ⟨decide_eq_true (by omega), decide_eq_true (by omega)⟩
  have q2 : decide ((n : Int) ≤ 4096) = true ∧ decide (n ≤ 4096) = true := ⟨decide_eq_true (by omega), decide_eq_true (by omega)⟩
  have q3 : decide ((g : Int) ≥ 1) = true ∧ decide (1 ≤ g) = true := ⟨decide_eq_true (by omega), decide_eq_true (by omega)⟩
  have q4 : decide ((g : Int) ≤ (n : Int)) = true ∧ decide (g ≤ n) = true := ⟨decide_eq_true (by omega), decide_eq_true (by omega)⟩
  have q5 : decide (d ≥ 1) = true ∧ decide (1 ≤ d) = true := ⟨decide_eq_true (by omega), decide_eq_true (by omega)⟩
  have q6 : decide (d ≤ 4096) = true := decide_eq_true (by omega)
  obtain ⟨q1, q1'⟩ := q1; obtain ⟨q2, q2'⟩ := q2; obtain ⟨q3, q3'⟩ := q3; obtain ⟨q4, q4'⟩ := q4; obtain ⟨q5, q5'⟩ := q5
  have HN := hidE (And.intro hn hg)
  clear hn hg hd
  go_enter Try.func6, Try.ntmps6
  go_wp2_with fail
  ((with_reducible refine (HC.out _ _ ?hA).mono ?_))
  case hA => exact argP_blk HBB.out
  rintro e w1 ⟨rfl, hb1⟩
  have HB1 := hidE (show Below W.heap.size W w1 by (repeat (first | exact Below.refl _ _ | assumption | refine balloc ?_ _ | refine below_drewN ?_ _ | refine bstep (by assumption) ?_ | refine bstep (Past.prop _) ?_ | refine Below.setCell ?_ (by first | exact Nat.le_refl _ | (simp; done) | (simp; omega)) _)))
  clear hb1
  go_wp2_with fail
  go_loopg [10] n (fun gh v10 wr => ∃ j : Nat, j * g < n + g ∧ n - j * g ≤ gh ∧ v10 = .int .u32 (j * g : Nat) ∧ wr = w1)
  case atStart => exact ⟨0, by have := HN.out; omega, by omega, by simp, rfl⟩
  case round =>
    obtain ⟨j, hj, hgh, rfl, rfl⟩ := hrel
    have HG := hidE hgh; clear hgh
    by_cases hlt : j * g < n
    · have r1 : decide (((j * g : Nat) : Int) < (n : Int)) = true := decide_eq_true (by omega)
      have r2 : decide (j * g < n) = true := decide_eq_true hlt
      have HNX := hidE (show (j + 1) * g = j * g + g from Nat.succ_mul j g)
      have hb : j * g + g ≤ 10000 := by have := HN.out; omega
      generalize j * g = k at *
      go_wp2
      go_roundg (n - (k + g))
      case measure => have := HN.out; have := HG.out; omega
      case rel => exact ⟨j + 1, by rw [HNX.out]; omega, by rw [HNX.out]; omega, by rw [HNX.out]; go_num, rfl⟩
    · have r1 : decide (((j * g : Nat) : Int) < (n : Int)) = false := decide_eq_false (by omega)
      have r2 : decide (j * g < n) = false := decide_eq_false hlt
      have hme := gangs_meet (n := n) (g := g) (j := j) (by have := HN.out; omega) (by omega) hj
      generalize j * g = k at *
      by_cases c : n % g = 0
      · have hk : ((k : Int) == (n : Int)) = true := beq_iff_eq.2 (by rw [hme.2 c])
        have he : er = 0 := by rw [← HER.out, if_pos c]
        subst he
        clear hme c hj
        go_wp2_with fail
        ((with_reducible refine (head8_c _).mono ?_); rintro e w2 ⟨rfl, hb2⟩)
        have HB2 := hidE (HB1.out.trans (hb2.mono HB1.out.size))
        clear hb2
        go_wp2
        go_ret
        exact ⟨rfl, HB2.out⟩
      · have hk : ((k : Int) == (n : Int)) = false := beq_eq_false_iff_ne.2 (by have := mt hme.1 c; omega)
        have he : er = 81 := by rw [← HER.out, if_neg c]
        subst he
        clear hme c hj
        go_wp2_with fail
        ((with_reducible refine (head8_c _).mono ?_); rintro e w2 ⟨rfl, hb2⟩)
        have HB2 := hidE (HB1.out.trans (hb2.mono HB1.out.size))
        clear hb2
        go_wp2
        go_ret
        exact ⟨rfl, HB2.out⟩
end Go.Proofs.Ytnifmdeojgfgcaa

namespace Go.Proofs.Ytnifmdeojgfgcaa
open Go.ChangeShapes Go.WideShapes Go.ChangeAt Go.RowKit
theorem shatoms_walk (n g d : Int) (W : World) (hn : 0 ≤ n ∧ n ≤ 4294967295) (hg : 0 ≤ g ∧ g ≤ 4294967295) (hd : -9223372036854775808 ≤ d ∧ d ≤ 9223372036854775807) :
    Calls Try.prog 6 #[.int .u32 n, .int .u32 g, .int .i64 d] W fun e w' => e = .returned (.bool true) ∧ Below W.heap.size W w' := by
  obtain ⟨n', rfl⟩ : ∃ k : Nat, n = (k : Int) := ⟨n.toNat, by omega⟩
  obtain ⟨g', rfl⟩ : ∃ k : Nat, g = (k : Int) := ⟨g.toNat, by omega⟩
  by_cases h : (1 ≤ n' ∧ n' ≤ 4096) ∧ (1 ≤ g' ∧ g' ≤ n') ∧ (1 ≤ d ∧ d ≤ 4096)
  · exact shatoms_yes n' g' d W h.1 h.2.1 h.2.2
  · exact shatoms_no n' g' d W (by omega) (by omega) hd (by omega)
set_option maxRecDepth 100000 in
theorem shapeAtoms_lifted (os : Os) (started : os.Started) (H : Type) (enc : TypeId × Value → H) :
    ReturnsInHanded {} Try.checked os 6 .any (Rows.shapeAtomsSpec.pre6 enc Try.prog Try.f6 Rows.shapeAtomsRow.domain false) (Rows.shapeAtomsSpec.post enc Try.prog Try.f6 false true false false) := by
  refine returnsInHanded_of_change (C := Try.checked) own started (by kernel_rfl) Try.func6
    (ChangeSpec.witness6 (enc := enc) (C := Try.checked) false ⟨#[], #[.int .u32 0, .int .u32 0, .int .i64 0], []⟩ 8 (by kernel_rfl) (by kernel_rfl) (by kernel_rfl) (by kernel_rfl)) ?_
  intro W base args ds gs before hval0 hW _ _
  have hval : ∀ (j : Nat) t v, Try.f6.params[j]? = some t → args[j]? = some v → Value.okWide Try.prog W .any base t v := hval0
  have hW' := hW
  obtain ⟨p, q, hA0, hV, rfl, hfz, hnd⟩ := hW
  have hA : DataW.TrodAll enc Try.prog W 0 (fun _ => true) true Try.f6.params.toList args.toList ds p := hA0
  rw [Try.params6] at hA hval
  obtain ⟨v0, vs0, d0, ds0, p0, q0, hargs, rfl, rfl, h0, r0⟩ := trodAll_cons hA
  obtain ⟨v1, vs1, d1, ds1, p1, q1, rfl, rfl, rfl, h1, r1⟩ := trodAll_cons r0
  obtain ⟨v2, vs2, d2, ds2, p2, q2, rfl, rfl, rfl, h2, r2⟩ := trodAll_cons r1
  obtain ⟨rfl, rfl, rfl⟩ := trodAll_nil r2
  obtain rfl : args = #[v0, v1, v2] := by cases args; simp_all
  obtain ⟨a0, rfl, rfl, rfl, wa0⟩ := open_int Try.underlying40 (hval 0 40 v0 rfl rfl) h0
  have ha0 : 0 ≤ a0 ∧ a0 ≤ 4294967295 := by simpa [Lit.wf, IntKind.min, IntKind.max, IntKind.signed, IntKind.bits] using wa0
  obtain ⟨a1, rfl, rfl, rfl, wa1⟩ := open_int Try.underlying40 (hval 1 40 v1 rfl rfl) h1
  have ha1 : 0 ≤ a1 ∧ a1 ≤ 4294967295 := by simpa [Lit.wf, IntKind.min, IntKind.max, IntKind.signed, IntKind.bits] using wa1
  obtain ⟨a2, rfl, rfl, rfl, wa2⟩ := open_int Try.underlying2 (hval 2 2 v2 rfl rfl) h2
  have ha2 : -9223372036854775808 ≤ a2 ∧ a2 ≤ 9223372036854775807 := by simpa [Lit.wf, IntKind.min, IntKind.max, IntKind.signed, IntKind.bits] using wa2
  clear hA0 hval0
  refine (shatoms_walk a0 a1 a2 W ha0 ha1 ha2).mono fun e W' ⟨he, hb⟩ => ?_
  subst he
  exact ⟨_, rfl, law_post laidOut (readOk_spec (by kernel_rfl)) rfl Try.underlying4 rfl ⟨rfl, rfl, rfl⟩ hW' hb⟩

theorem shapeAtoms_holds : Rows.ShapeAtomsSaid :=
  OpenClaim.holds_of_wide 6 Try.f6 rfl rfl rfl rfl rfl rfl rfl ⟨rfl, rfl, rfl, rfl, rfl⟩ rfl rfl rfl rfl rfl (by kernel_rfl) Try.func6 (by kernel_rfl)
    (of_decide_eq_true (by kernel_rfl)) (by unfold Func.isWrapper; first | (rw [if_pos (by decide +kernel)]; kernel_rfl) | (rw [if_neg (by decide +kernel)]; exact ⟨rfl, rfl⟩))
    (fun os started H enc _ => shapeAtoms_lifted os started H enc)
end Go.Proofs.Ytnifmdeojgfgcaa
