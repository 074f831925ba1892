/-
  No cell of these rows narrows 'for every input' (looked for: loops, veiled, ifaces, maps, wideKeys, modest, calm, conditions, laid).
  DERIVED. THE GIVEN ROWS OF THIS SEAT. 3 by the template 'for every input the law returns true; each argument reads behind the call as it read before'; 0 by the template 'total and deterministic' (their statements: YtibmldgbimjgfaaTotals.lean).
  GIVEN WITH THE SEED: the statements are not yours to turn. If you find one false, say at which input.
  Laid BY PROGRAM, IN A SANDBOX (cutbox-rows.mjs): the forced cells as the released guide's own fill.sh prints them over the translation 64f5796d4c35b597… (all of the seat's roots in one cut). By AI agents, Wed Nov 11 2026. No macro, syntax, notation, axiom, sorry.
-/
import Derived.Test.YtibmldgbimjgfaaChecked
import GoSem.Claim
import GoSem.ClaimJoined
import GoSem.ClaimMapViews
import Derived.JoinedTies
import Derived.KernelRfl
namespace Go.Proofs.Ytibmldgbimjgfaa
/- THE CELL 'sum', in the pinned program and in every row, IS THE sha256 OF THE DUMP (.gsa) THAT YtibmldgbimjgfaaProg.lean LOADS. Nothing in Lean hashes anything: it is a label: what it is worth is what the hold of that sum in a sandbox is worth. -/
noncomputable def Try.pinned : Pinned := { name := "ytibmldgbimjgfaa", sum := "64f5796d4c35b597e5129d8741d0b299368453989ab9e6f3f327f4cae37106ca", checked := Try.checked }
namespace Rows
def none {H : Type} : Left H := { results := [], args := [] }

/-- 'liverylaw02.RleValues': WHATEVER THE INPUT: true; the input reads as it did. -/
def rleValuesSpec : ChangeSpec := { name := "rleValues", fn := fun _ => fun
  | [d] => { results := [.lit (.bool true)], args := [d] }
  | _ => none }
def rleValuesRow : OpenClaim := { program := "ytibmldgbimjgfaa", sum := "64f5796d4c35b597e5129d8741d0b299368453989ab9e6f3f327f4cae37106ca", func := "livery/liverylaw02.RleValues", spec := "rleValues", unfollowed := true, recurses := true, apart := false }
def RleValuesSaid : Prop := rleValuesRow.holds Try.pinned (OpenSpec.ofChange rleValuesSpec)

/-- ITS FALSE NEIGHBOUR: 'it returns false'. Refute it at one input. -/
def rleValuesWrong : ChangeSpec := { name := "rleValues", fn := fun _ => fun
  | [d] => { results := [.lit (.bool false)], args := [d] }
  | _ => none }
def RleValuesWrongFalsely : Prop := rleValuesRow.holds Try.pinned (OpenSpec.ofChange rleValuesWrong)

/-- 'liverylaw02.RleOne': WHATEVER THE INPUT: true; the input reads as it did. -/
def rleOneSpec : ChangeSpec := { name := "rleOne", fn := fun _ => fun
  | [d1, d2] => { results := [.lit (.bool true)], args := [d1, d2] }
  | _ => none }
def rleOneRow : OpenClaim := { program := "ytibmldgbimjgfaa", sum := "64f5796d4c35b597e5129d8741d0b299368453989ab9e6f3f327f4cae37106ca", func := "livery/liverylaw02.RleOne", spec := "rleOne", unfollowed := true, recurses := true, apart := false }
def RleOneSaid : Prop := rleOneRow.holds Try.pinned (OpenSpec.ofChange rleOneSpec)

/-- ITS FALSE NEIGHBOUR: 'it returns false'. Refute it at one input. -/
def rleOneWrong : ChangeSpec := { name := "rleOne", fn := fun _ => fun
  | [d1, d2] => { results := [.lit (.bool false)], args := [d1, d2] }
  | _ => none }
def RleOneWrongFalsely : Prop := rleOneRow.holds Try.pinned (OpenSpec.ofChange rleOneWrong)

/-- 'liverylaw02.RleBox': WHATEVER THE INPUT: true; the input reads as it did. -/
def rleBoxSpec : ChangeSpec := { name := "rleBox", fn := fun _ => fun
  | [d1, d2, d3] => { results := [.lit (.bool true)], args := [d1, d2, d3] }
  | _ => none }
def rleBoxRow : OpenClaim := { program := "ytibmldgbimjgfaa", sum := "64f5796d4c35b597e5129d8741d0b299368453989ab9e6f3f327f4cae37106ca", func := "livery/liverylaw02.RleBox", spec := "rleBox", unfollowed := true, recurses := true, apart := false }
def RleBoxSaid : Prop := rleBoxRow.holds Try.pinned (OpenSpec.ofChange rleBoxSpec)

/-- ITS FALSE NEIGHBOUR: 'it returns false'. Refute it at one input. -/
def rleBoxWrong : ChangeSpec := { name := "rleBox", fn := fun _ => fun
  | [d1, d2, d3] => { results := [.lit (.bool false)], args := [d1, d2, d3] }
  | _ => none }
def RleBoxWrongFalsely : Prop := rleBoxRow.holds Try.pinned (OpenSpec.ofChange rleBoxWrong)

/- THE SECOND FORM. 'bulk': how many values and letters a reading holds, each counted each time it is reached (what is shared counts as often as it is met; a slice's spare places count too). A statement '..UptoSaid' is the law's where the arguments, and the package variables that the reading takes, are together of bulk at most 1048576: NARROWER than '..Said'. Prove '..Said' where nothing that the law and all that it calls make is longer than what came in: it says more and counts as full. Else prove '..UptoSaid'. A law counts once. -/
mutual
def uptoBulk {H : Type} : DataW H → Nat
  | .lit (.string bytes) => bytes.length + 1
  | .lit _ => 1
  | .nil => 1
  | .ptr d => uptoBulk d + 1
  | .slice elems spare => uptoBulkAll elems + uptoBulkAll spare + 1
  | .agg parts => uptoBulkAll parts + 1
  | .iface _ d => uptoBulk d + 1
  | .map entries => uptoBulkEntries entries + 1
  | .held _ => 1
def uptoBulkAll {H : Type} : List (DataW H) → Nat
  | [] => 0
  | d :: r => uptoBulk d + uptoBulkAll r
def uptoBulkEntries {H : Type} : List (Lit × DataW H) → Nat
  | [] => 0
  | x :: r => uptoBulkEntry x + uptoBulkEntries r
def uptoBulkEntry {H : Type} : Lit × DataW H → Nat
  | (.string bytes, d) => bytes.length + uptoBulk d + 1
  | (_, d) => uptoBulk d + 1
 end
def uptoSmall : (H : Type) → List (DataW H) → Bool := fun _ ds => decide (uptoBulkAll ds ≤ 1048576)
def OpenSpec.upto (s : _root_.Go.ChangeSpec) : _root_.Go.OpenSpec := { _root_.Go.OpenSpec.ofChange s with cond := some uptoSmall }

/-- 'liverylaw02.RleValues', WHERE WHAT IT READS IS OF BULK AT MOST 1048576: true; the input reads as it did. -/
def rleValuesUptoRow : OpenClaim := { program := "ytibmldgbimjgfaa", sum := "64f5796d4c35b597e5129d8741d0b299368453989ab9e6f3f327f4cae37106ca", func := "livery/liverylaw02.RleValues", spec := "rleValues", unfollowed := true, recurses := true, apart := false, narrowed := true }
def RleValuesUptoSaid : Prop := rleValuesUptoRow.holds Try.pinned (OpenSpec.upto rleValuesSpec)

/-- 'liverylaw02.RleOne', WHERE WHAT IT READS IS OF BULK AT MOST 1048576: true; the input reads as it did. -/
def rleOneUptoRow : OpenClaim := { program := "ytibmldgbimjgfaa", sum := "64f5796d4c35b597e5129d8741d0b299368453989ab9e6f3f327f4cae37106ca", func := "livery/liverylaw02.RleOne", spec := "rleOne", unfollowed := true, recurses := true, apart := false, narrowed := true }
def RleOneUptoSaid : Prop := rleOneUptoRow.holds Try.pinned (OpenSpec.upto rleOneSpec)

/-- 'liverylaw02.RleBox', WHERE WHAT IT READS IS OF BULK AT MOST 1048576: true; the input reads as it did. -/
def rleBoxUptoRow : OpenClaim := { program := "ytibmldgbimjgfaa", sum := "64f5796d4c35b597e5129d8741d0b299368453989ab9e6f3f327f4cae37106ca", func := "livery/liverylaw02.RleBox", spec := "rleBox", unfollowed := true, recurses := true, apart := false, narrowed := true }
def RleBoxUptoSaid : Prop := rleBoxUptoRow.holds Try.pinned (OpenSpec.upto rleBoxSpec)

end Rows
end Go.Proofs.Ytibmldgbimjgfaa
