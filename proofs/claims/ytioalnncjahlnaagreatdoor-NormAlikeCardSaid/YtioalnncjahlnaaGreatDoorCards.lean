/-
  DERIVED. GIVEN WITH THE SEED: THE CARDS: each row of YtioalnncjahlnaaGreatDoorRows.lean that lists a variable, with what it lists TIED to the program's text (the seventh form; the later family's looks); each row that meets fmt, with fmt's text TOLD by the authors' own Lean function (tested against real Go, not proved from fmt's source: count such statements apart). THE CARD IS WHAT COUNTS. Prove the row's statement (the work); the ties are given (YtioalnncjahlnaaGreatDoorTie.lean); close each card by the builder's one call (the guide's Derived/Test/ToyasCard.lean, 'card_holds'). Laid BY PROGRAM, IN A SANDBOX (cutbox-door.mjs). By AI agents, Wed Nov 11 2026. No macro, syntax, notation, axiom, sorry.
-/
import Derived.Test.YtioalnncjahlnaaGreatDoorRows
import GoSem.ClaimSeven
namespace Go.Proofs.YtioalnncjahlnaaGreatDoor
namespace Rows

/-- THE TIED CARD OF 'liverylaw09.NormAlike'. -/
def normAlikeCard : Claim7 := { stood := { row := normAlikeRow, standIns := [], harness := (true, "3dd7796ed54a5efca693f0eab5b49e3c1b21aee99ef19cd943d1c294c9516232"), looks := false }, kinds := [], alts := [], laidByText := true, laidKinds := [.data, .data, .data, .data], laidTests := true, laidLooks := .later }
def NormAlikeCardSaid : Prop := Claim7.holds Tryz.pinned (.plain (OpenSpec.ofChange normAlikeSpec)) normAlikeCard

/-- THE TIED CARD OF 'liverylaw10.SatNorm'. -/
def satNormCard : Claim7 := { stood := { row := satNormRow, standIns := [], harness := (true, "3dd7796ed54a5efca693f0eab5b49e3c1b21aee99ef19cd943d1c294c9516232"), looks := false }, kinds := [], alts := [], laidByText := true, laidKinds := [.data, .data, .data, .data], laidTests := true, laidLooks := .later }
def SatNormCardSaid : Prop := Claim7.holds Tryz.pinned (.plain (OpenSpec.ofChange satNormSpec)) satNormCard

/-- THE SECOND FORM's CARD OF 'liverylaw09.NormAlike'. -/
def normAlikeUptoCard : Claim7 := { stood := { row := normAlikeUptoRow, standIns := [], harness := (true, "3dd7796ed54a5efca693f0eab5b49e3c1b21aee99ef19cd943d1c294c9516232"), looks := false }, kinds := [], alts := [], laidByText := true, laidKinds := [.data, .data, .data, .data], laidTests := true, laidLooks := .later }
def NormAlikeUptoCardSaid : Prop := Claim7.holds Tryz.pinned (.plain (OpenSpec.upto normAlikeSpec)) normAlikeUptoCard

/-- THE SECOND FORM's CARD OF 'liverylaw10.SatNorm'. -/
def satNormUptoCard : Claim7 := { stood := { row := satNormUptoRow, standIns := [], harness := (true, "3dd7796ed54a5efca693f0eab5b49e3c1b21aee99ef19cd943d1c294c9516232"), looks := false }, kinds := [], alts := [], laidByText := true, laidKinds := [.data, .data, .data, .data], laidTests := true, laidLooks := .later }
def SatNormUptoCardSaid : Prop := Claim7.holds Tryz.pinned (.plain (OpenSpec.upto satNormSpec)) satNormUptoCard
end Rows
end Go.Proofs.YtioalnncjahlnaaGreatDoor
