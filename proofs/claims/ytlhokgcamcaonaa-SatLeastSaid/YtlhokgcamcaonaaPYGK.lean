/- Slices that read as lists of numbers. No function of the program. No conditions. The contracts of the document's own lists of times, and of its canonical function. No conditions but the lists' sizes. The contract of the document's own list of times. No conditions but the list's size. The document's own answer of layer 10: Use. Conditions: the slices read as parts, as pieces; sizes. The walk of the statement on what satisfies a definition. No conditions but sizes, and that the slices read as parts, as pieces. -/
import Derived.Test.YtlhokgcamcaonaaPYGA
import Derived.Test.YtlhokgcamcaonaaPYGJ
import Derived.Test.YtlhokgcamcaonaaPYMA
import Derived.Laws.AppendOwnNone
import Derived.Deep.RegionLaw
import Derived.Deep.DeepCutAuto
import Derived.Test.YtlhokgcamcaonaaPYGI
import Derived.Test.YtlhokgcamcaonaaPYGG
import Derived.Test.YtlhokgcamcaonaaPYGE
namespace Go.Proofs.Ytlhokgcamcaonaa
open Go.ChangeShapes Go.WideShapes Go.ChangeAt Go.RowKit
attribute [local irreducible] Go.Calls

end Go.Proofs.Ytlhokgcamcaonaa

namespace Go.Proofs.Ytlhokgcamcaonaa
open Go.ChangeShapes Go.WideShapes Go.ChangeAt Go.RowKit
attribute [local irreducible] Go.Calls

theorem new_cells_at (w : World) (cs : Array Value) (t : TypeId) (k : Nat) (h : k = w.heap.size) : ∀ j u, cs.toList[j]? = some u → (w.alloc (.cells cs t)).cell? ((⟨k, 0, none⟩ : Addr).add j) = some u := by
  subst h; exact new_cells w cs t
end Go.Proofs.Ytlhokgcamcaonaa

namespace Go.Proofs.Ytlhokgcamcaonaa
open Go.ChangeShapes Go.WideShapes Go.ChangeAt Go.RowKit
attribute [local irreducible] Go.Calls

end Go.Proofs.Ytlhokgcamcaonaa

namespace Go.Proofs.Ytlhokgcamcaonaa
open Go.ChangeShapes Go.WideShapes Go.ChangeAt Go.RowKit
attribute [local irreducible] Go.Calls
end Go.Proofs.Ytlhokgcamcaonaa

namespace Go.Proofs.Ytlhokgcamcaonaa
open Go.ChangeShapes Go.WideShapes Go.ChangeAt Go.RowKit
attribute [local irreducible] Go.Calls

/-- What the walk keeps: the definition in its block, its parts, the pieces. -/
structure TL (W0 : World) (fr to' : Int) (a : Option Addr) (l : List Prt) (cap : Nat) (wa : Option Addr) (W : List Pc) (w : World) : Prop where
  bel : Below W0.heap.size W0 w
  d : Blk w W0.heap.size #[.int .i64 fr, .int .i64 to', .slice a l.length cap] 24
  T : ArgP w a l
  P : ArgVs w wa W
theorem TL.past {W0 : World} {fr to' : Int} {a : Option Addr} {l : List Prt} {cap : Nat} {wa : Option Addr} {W : List Pc} {w w' : World} (h : TL W0 fr to' a l cap wa W w) (hb : Below w.heap.size w w') : TL W0 fr to' a l cap wa W w' := ⟨h.bel.trans (hb.mono h.bel.size), h.d.past hb, h.T.past hb, h.P.past hb⟩
theorem lookT_zero (t : TI) : lookT 0 t = t := by unfold lookT; exact if_pos rfl
end Go.Proofs.Ytlhokgcamcaonaa
