/-
  No cell of these rows narrows 'for every input' (looked for: loops, veiled, ifaces, maps, wideKeys, modest, calm, conditions, laid).
  DERIVED. THE GIVEN ROWS OF THIS SEAT. 4 by the template 'for every input the law returns true; each argument reads behind the call as it read before'; 0 by the template 'total and deterministic' (their statements: YtlhokgcamcaonaaTotals.lean).
  GIVEN WITH THE SEED: the statements are not yours to turn. If you find one false, say at which input.
  Laid BY PROGRAM, IN A SANDBOX (cutbox-rows.mjs): the forced cells as the released guide's own fill.sh prints them over the translation 2e08885d8b4aba67… (all of the seat's roots in one cut). By AI agents, Wed Nov 11 2026. No macro, syntax, notation, axiom, sorry.
-/
import Derived.Test.YtlhokgcamcaonaaChecked
import GoSem.Claim
import GoSem.ClaimJoined
import GoSem.ClaimMapViews
import Derived.JoinedTies
import Derived.KernelRfl
namespace Go.Proofs.Ytlhokgcamcaonaa
/- THE CELL 'sum', in the pinned program and in every row, IS THE sha256 OF THE DUMP (.gsa) THAT YtlhokgcamcaonaaProg.lean LOADS. Nothing in Lean hashes anything: it is a label: what it is worth is what the hold of that sum in a sandbox is worth. -/
noncomputable def Try.pinned : Pinned := { name := "ytlhokgcamcaonaa", sum := "2e08885d8b4aba67cfa6cc4ab8c06861f20c57a32a065bbd0908cf0a9deb7c0a", checked := Try.checked }
namespace Rows
def none {H : Type} : Left H := { results := [], args := [] }

/-- 'liverylaw10.SatTells': WHATEVER THE INPUT: true; the input reads as it did. -/
def satTellsSpec : ChangeSpec := { name := "satTells", fn := fun _ => fun
  | [d1, d2, d3] => { results := [.lit (.bool true)], args := [d1, d2, d3] }
  | _ => none }
def satTellsRow : OpenClaim := { program := "ytlhokgcamcaonaa", sum := "2e08885d8b4aba67cfa6cc4ab8c06861f20c57a32a065bbd0908cf0a9deb7c0a", func := "livery/liverylaw10.SatTells", spec := "satTells", unfollowed := true, recurses := true, apart := false }
def SatTellsSaid : Prop := satTellsRow.holds Try.pinned (OpenSpec.ofChange satTellsSpec)

/-- ITS FALSE NEIGHBOUR: 'it returns false'. Refute it at one input. -/
def satTellsWrong : ChangeSpec := { name := "satTells", fn := fun _ => fun
  | [d1, d2, d3] => { results := [.lit (.bool false)], args := [d1, d2, d3] }
  | _ => none }
def SatTellsWrongFalsely : Prop := satTellsRow.holds Try.pinned (OpenSpec.ofChange satTellsWrong)

/-- 'liverylaw10.SatUses': WHATEVER THE INPUT: true; the input reads as it did. -/
def satUsesSpec : ChangeSpec := { name := "satUses", fn := fun _ => fun
  | [d1, d2, d3] => { results := [.lit (.bool true)], args := [d1, d2, d3] }
  | _ => none }
def satUsesRow : OpenClaim := { program := "ytlhokgcamcaonaa", sum := "2e08885d8b4aba67cfa6cc4ab8c06861f20c57a32a065bbd0908cf0a9deb7c0a", func := "livery/liverylaw10.SatUses", spec := "satUses", unfollowed := true, recurses := true, apart := false }
def SatUsesSaid : Prop := satUsesRow.holds Try.pinned (OpenSpec.ofChange satUsesSpec)

/-- ITS FALSE NEIGHBOUR: 'it returns false'. Refute it at one input. -/
def satUsesWrong : ChangeSpec := { name := "satUses", fn := fun _ => fun
  | [d1, d2, d3] => { results := [.lit (.bool false)], args := [d1, d2, d3] }
  | _ => none }
def SatUsesWrongFalsely : Prop := satUsesRow.holds Try.pinned (OpenSpec.ofChange satUsesWrong)

/-- 'liverylaw10.SatLeast': WHATEVER THE INPUT: true; the input reads as it did. -/
def satLeastSpec : ChangeSpec := { name := "satLeast", fn := fun _ => fun
  | [d1, d2, d3] => { results := [.lit (.bool true)], args := [d1, d2, d3] }
  | _ => none }
def satLeastRow : OpenClaim := { program := "ytlhokgcamcaonaa", sum := "2e08885d8b4aba67cfa6cc4ab8c06861f20c57a32a065bbd0908cf0a9deb7c0a", func := "livery/liverylaw10.SatLeast", spec := "satLeast", unfollowed := true, recurses := true, apart := false }
def SatLeastSaid : Prop := satLeastRow.holds Try.pinned (OpenSpec.ofChange satLeastSpec)

/-- ITS FALSE NEIGHBOUR: 'it returns false'. Refute it at one input. -/
def satLeastWrong : ChangeSpec := { name := "satLeast", fn := fun _ => fun
  | [d1, d2, d3] => { results := [.lit (.bool false)], args := [d1, d2, d3] }
  | _ => none }
def SatLeastWrongFalsely : Prop := satLeastRow.holds Try.pinned (OpenSpec.ofChange satLeastWrong)

/-- 'liverylaw10.SatPieces': WHATEVER THE INPUT: true; the input reads as it did. -/
def satPiecesSpec : ChangeSpec := { name := "satPieces", fn := fun _ => fun
  | [d1, d2] => { results := [.lit (.bool true)], args := [d1, d2] }
  | _ => none }
def satPiecesRow : OpenClaim := { program := "ytlhokgcamcaonaa", sum := "2e08885d8b4aba67cfa6cc4ab8c06861f20c57a32a065bbd0908cf0a9deb7c0a", func := "livery/liverylaw10.SatPieces", spec := "satPieces", unfollowed := true, recurses := true, apart := false }
def SatPiecesSaid : Prop := satPiecesRow.holds Try.pinned (OpenSpec.ofChange satPiecesSpec)

/-- ITS FALSE NEIGHBOUR: 'it returns false'. Refute it at one input. -/
def satPiecesWrong : ChangeSpec := { name := "satPieces", fn := fun _ => fun
  | [d1, d2] => { results := [.lit (.bool false)], args := [d1, d2] }
  | _ => none }
def SatPiecesWrongFalsely : Prop := satPiecesRow.holds Try.pinned (OpenSpec.ofChange satPiecesWrong)

/- THE SECOND FORM. 'bulk': how many values and letters a reading holds, each counted each time it is reached (what is shared counts as often as it is met; a slice's spare places count too). A statement '..UptoSaid' is the law's where the arguments, and the package variables that the reading takes, are together of bulk at most 1048576: NARROWER than '..Said'. Prove '..Said' where nothing that the law and all that it calls make is longer than what came in: it says more and counts as full. Else prove '..UptoSaid'. A law counts once. -/
mutual
def uptoBulk {H : Type} : DataW H → Nat
  | .lit (.string bytes) => bytes.length + 1
  | .lit _ => 1
  | .nil => 1
  | .ptr d => uptoBulk d + 1
  | .slice elems spare => uptoBulkAll elems + uptoBulkAll spare + 1
  | .agg parts => uptoBulkAll parts + 1
  | .iface _ d => uptoBulk d + 1
  | .map entries => uptoBulkEntries entries + 1
  | .held _ => 1
def uptoBulkAll {H : Type} : List (DataW H) → Nat
  | [] => 0
  | d :: r => uptoBulk d + uptoBulkAll r
def uptoBulkEntries {H : Type} : List (Lit × DataW H) → Nat
  | [] => 0
  | x :: r => uptoBulkEntry x + uptoBulkEntries r
def uptoBulkEntry {H : Type} : Lit × DataW H → Nat
  | (.string bytes, d) => bytes.length + uptoBulk d + 1
  | (_, d) => uptoBulk d + 1
 end
def uptoSmall : (H : Type) → List (DataW H) → Bool := fun _ ds => decide (uptoBulkAll ds ≤ 1048576)
def OpenSpec.upto (s : _root_.Go.ChangeSpec) : _root_.Go.OpenSpec := { _root_.Go.OpenSpec.ofChange s with cond := some uptoSmall }

/-- 'liverylaw10.SatTells', WHERE WHAT IT READS IS OF BULK AT MOST 1048576: true; the input reads as it did. -/
def satTellsUptoRow : OpenClaim := { program := "ytlhokgcamcaonaa", sum := "2e08885d8b4aba67cfa6cc4ab8c06861f20c57a32a065bbd0908cf0a9deb7c0a", func := "livery/liverylaw10.SatTells", spec := "satTells", unfollowed := true, recurses := true, apart := false, narrowed := true }
def SatTellsUptoSaid : Prop := satTellsUptoRow.holds Try.pinned (OpenSpec.upto satTellsSpec)

/-- 'liverylaw10.SatUses', WHERE WHAT IT READS IS OF BULK AT MOST 1048576: true; the input reads as it did. -/
def satUsesUptoRow : OpenClaim := { program := "ytlhokgcamcaonaa", sum := "2e08885d8b4aba67cfa6cc4ab8c06861f20c57a32a065bbd0908cf0a9deb7c0a", func := "livery/liverylaw10.SatUses", spec := "satUses", unfollowed := true, recurses := true, apart := false, narrowed := true }
def SatUsesUptoSaid : Prop := satUsesUptoRow.holds Try.pinned (OpenSpec.upto satUsesSpec)

/-- 'liverylaw10.SatLeast', WHERE WHAT IT READS IS OF BULK AT MOST 1048576: true; the input reads as it did. -/
def satLeastUptoRow : OpenClaim := { program := "ytlhokgcamcaonaa", sum := "2e08885d8b4aba67cfa6cc4ab8c06861f20c57a32a065bbd0908cf0a9deb7c0a", func := "livery/liverylaw10.SatLeast", spec := "satLeast", unfollowed := true, recurses := true, apart := false, narrowed := true }
def SatLeastUptoSaid : Prop := satLeastUptoRow.holds Try.pinned (OpenSpec.upto satLeastSpec)

/-- 'liverylaw10.SatPieces', WHERE WHAT IT READS IS OF BULK AT MOST 1048576: true; the input reads as it did. -/
def satPiecesUptoRow : OpenClaim := { program := "ytlhokgcamcaonaa", sum := "2e08885d8b4aba67cfa6cc4ab8c06861f20c57a32a065bbd0908cf0a9deb7c0a", func := "livery/liverylaw10.SatPieces", spec := "satPieces", unfollowed := true, recurses := true, apart := false, narrowed := true }
def SatPiecesUptoSaid : Prop := satPiecesUptoRow.holds Try.pinned (OpenSpec.upto satPiecesSpec)

end Rows
end Go.Proofs.Ytlhokgcamcaonaa
