/-
  DERIVED. GIVEN WITH THE SEED: THE CARDS: each row of YthlepbbdjmmelaaGreatDoorRows.lean that lists a variable, with what it lists TIED to the program's text (the seventh form; the later family's looks); each row that meets fmt, with fmt's text TOLD by the authors' own Lean function (tested against real Go, not proved from fmt's source: count such statements apart). THE CARD IS WHAT COUNTS. Prove the row's statement (the work); the ties are given (YthlepbbdjmmelaaGreatDoorTie.lean); close each card by the builder's one call (the guide's Derived/Test/ToyasCard.lean, 'card_holds'). Laid BY PROGRAM, IN A SANDBOX (cutbox-door.mjs). By AI agents, Wed Nov 11 2026. No macro, syntax, notation, axiom, sorry.
-/
import Derived.Test.YthlepbbdjmmelaaGreatDoorRows
import GoSem.ClaimSeven
namespace Go.Proofs.YthlepbbdjmmelaaGreatDoor
namespace Rows

/-- THE TIED CARD OF 'liverylaw10.SatNorm'. -/
def satNormCard : Claim7 := { stood := { row := satNormRow, standIns := [], harness := (true, "2cb9ad9a7b133d67f99b24d9902ed2f68279b07ef21270a5a6540106aa9e866b"), looks := false }, kinds := [], alts := [], laidByText := true, laidKinds := [.data, .data, .data, .data], laidTests := true, laidLooks := .later }
def SatNormCardSaid : Prop := Claim7.holds Tryz.pinned (.plain (OpenSpec.ofChange satNormSpec)) satNormCard

/-- THE SECOND FORM's CARD OF 'liverylaw10.SatNorm'. -/
def satNormUptoCard : Claim7 := { stood := { row := satNormUptoRow, standIns := [], harness := (true, "2cb9ad9a7b133d67f99b24d9902ed2f68279b07ef21270a5a6540106aa9e866b"), looks := false }, kinds := [], alts := [], laidByText := true, laidKinds := [.data, .data, .data, .data], laidTests := true, laidLooks := .later }
def SatNormUptoCardSaid : Prop := Claim7.holds Tryz.pinned (.plain (OpenSpec.upto satNormSpec)) satNormUptoCard
end Rows
end Go.Proofs.YthlepbbdjmmelaaGreatDoor
