/- Slices that read as lists of numbers. No function of the program. No conditions. The contracts of the document's own lists of times, and of its canonical function. No conditions but the lists' sizes. The contract of the document's own list of times. No conditions but the list's size. The document's own answer of layer 10: Use. Conditions: the slices read as parts, as pieces; sizes. The walk of the statement on what satisfies a definition. No conditions but sizes, and that the slices read as parts, as pieces. -/
import Derived.Test.YtlhokgcamcaonaaPZGA
import Derived.Test.YtlhokgcamcaonaaPZGJ
import Derived.Test.YtlhokgcamcaonaaPZMA
import Derived.Laws.AppendOwnNone
import Derived.Deep.RegionLaw
import Derived.Deep.DeepCutAuto
import Derived.Test.YtlhokgcamcaonaaPZGI
import Derived.Test.YtlhokgcamcaonaaPZGG
import Derived.Test.YtlhokgcamcaonaaPZGE
namespace Go.Proofs.Ytlhokgcamcaonaa
open Go.ChangeShapes Go.WideShapes Go.ChangeAt Go.RowKit
attribute [local irreducible] Go.Calls

end Go.Proofs.Ytlhokgcamcaonaa

namespace Go.Proofs.Ytlhokgcamcaonaa
open Go.ChangeShapes Go.WideShapes Go.ChangeAt Go.RowKit
attribute [local irreducible] Go.Calls

end Go.Proofs.Ytlhokgcamcaonaa

namespace Go.Proofs.Ytlhokgcamcaonaa
open Go.ChangeShapes Go.WideShapes Go.ChangeAt Go.RowKit
attribute [local irreducible] Go.Calls

end Go.Proofs.Ytlhokgcamcaonaa

namespace Go.Proofs.Ytlhokgcamcaonaa
open Go.ChangeShapes Go.WideShapes Go.ChangeAt Go.RowKit
attribute [local irreducible] Go.Calls
end Go.Proofs.Ytlhokgcamcaonaa

namespace Go.Proofs.Ytlhokgcamcaonaa
open Go.ChangeShapes Go.WideShapes Go.ChangeAt Go.RowKit
attribute [local irreducible] Go.Calls

/-- What the walk keeps: the definition in its block, its parts, the pieces. -/
structure TL (W0 : World) (fr to' : Int) (a : Option Addr) (l : List Prt) (cap : Nat) (wa : Option Addr) (W : List Pc) (w : World) : Prop where
  bel : Below W0.heap.size W0 w
  d : Blk w W0.heap.size #[.int .i64 fr, .int .i64 to', .slice a l.length cap] 24
  T : ArgP w a l
  P : ArgVs w wa W
theorem TL.past {W0 : World} {fr to' : Int} {a : Option Addr} {l : List Prt} {cap : Nat} {wa : Option Addr} {W : List Pc} {w w' : World} (h : TL W0 fr to' a l cap wa W w) (hb : Below w.heap.size w w') : TL W0 fr to' a l cap wa W w' := ⟨h.bel.trans (hb.mono h.bel.size), h.d.past hb, h.T.past hb, h.P.past hb⟩
theorem lookT_zero (t : TI) : lookT 0 t = t := by unfold lookT; exact if_pos rfl
theorem lookT_err {er : Int} (h : er ≠ 0) (t : TI) : lookT er t = tiZ := by unfold lookT; exact if_neg h
/-- The program's answer and the document's on a whole definition. -/
theorem sat_both {fr to' : Int} {l : List Prt} {W : List Pc} {z : Int} {t : TI} (hz : wrongS fr to' l (decide ((0 : Int) ≤ 0 ∧ 0 < (l.length : Int))) W = z) (hh : z = 0 → Here l W 0 t) :
    ((lookT z t).ok && (decide (fr ≤ seB (lookT z t).se) && decide (seE (lookT z t).se ≤ to'))) = (decide (z = 0) && (winB fr to' l W && t.ok)) := by
  by_cases c : z = 0
  · subst c
    rw [lookT_zero, decide_eq_true rfl, Bool.true_and]
    obtain ⟨h1, _, h3, _⟩ := wrong_zero hz
    cases ho : t.ok
    · rw [Bool.false_and, Bool.and_false]
    · rw [win_se (chk_ok h1).2.2.1 (pcs_atoms (by omega) h3) (hh rfl) ho, Bool.true_and, Bool.and_true]
  · rw [lookT_err c, decide_eq_false c]; rfl
theorem here_if {fr to' : Int} {l : List Prt} {W V : List Pc} {z : Int} : ∃ t, wrongS fr to' l (decide (0 ≤ z ∧ z < (l.length : Int))) W = 0 → Here l V z t := by
  by_cases c : wrongS fr to' l (decide (0 ≤ z ∧ z < (l.length : Int))) W = 0
  · obtain ⟨h1, h2, _, _⟩ := wrong_zero c
    have h2 := of_decide_eq_true h2
    obtain ⟨t, ht⟩ := here_of V (chk_ok h1).2.2.1 h2.1 h2.2
    exact ⟨t, fun _ => ht⟩
  · exact ⟨tiZ, fun h => absurd h c⟩
end Go.Proofs.Ytlhokgcamcaonaa
