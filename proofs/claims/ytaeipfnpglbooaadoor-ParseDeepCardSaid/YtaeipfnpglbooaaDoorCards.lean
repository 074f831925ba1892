/-
  DERIVED. GIVEN WITH THE SEED: THE CARDS: each row of YtaeipfnpglbooaaDoorRows.lean that lists a variable, with what it lists TIED to the program's text (the seventh form; the later family's looks); each row that meets fmt, with fmt's text TOLD by the authors' own Lean function (tested against real Go, not proved from fmt's source: count such statements apart). THE CARD IS WHAT COUNTS. Prove the row's statement (the work); the ties are given (YtaeipfnpglbooaaDoorTie.lean); close each card by the builder's one call (the guide's Derived/Test/ToyasCard.lean, 'card_holds'). Laid BY PROGRAM, IN A SANDBOX (cutbox-door.mjs). By AI agents, Wed Nov 11 2026. No macro, syntax, notation, axiom, sorry.
-/
import Derived.Test.YtaeipfnpglbooaaDoorRows
import GoSem.ClaimSeven
namespace Go.Proofs.YtaeipfnpglbooaaDoor
namespace Rows

/-- THE TIED CARD OF 'liverylaw07.ParseBack'. -/
def parseBackCard : Claim7 := { stood := { row := parseBackRow, standIns := [], harness := (true, "2ef7e7388e02eb914236aa005a078e7a0a5f24b732900d437e54b97c03e5d287"), looks := true }, kinds := [], alts := [], laidByText := true, laidKinds := [.data, .data, .data, .data], laidTests := true, laidLooks := .later }
def ParseBackCardSaid : Prop := Claim7.holds Tryd.pinned (.plain (OpenSpec.ofChange parseBackSpec)) parseBackCard

/-- THE TIED CARD OF 'liverylaw07.ParseSwaps'. -/
def parseSwapsCard : Claim7 := { stood := { row := parseSwapsRow, standIns := [], harness := (true, "2ef7e7388e02eb914236aa005a078e7a0a5f24b732900d437e54b97c03e5d287"), looks := true }, kinds := [], alts := [], laidByText := true, laidKinds := [.data, .data, .data, .data], laidTests := true, laidLooks := .later }
def ParseSwapsCardSaid : Prop := Claim7.holds Tryd.pinned (.plain (OpenSpec.ofChange parseSwapsSpec)) parseSwapsCard

/-- THE TIED CARD OF 'liverylaw07.ParseDeep'. -/
def parseDeepCard : Claim7 := { stood := { row := parseDeepRow, standIns := [], harness := (true, "2ef7e7388e02eb914236aa005a078e7a0a5f24b732900d437e54b97c03e5d287"), looks := true }, kinds := [], alts := [], laidByText := true, laidKinds := [.data, .data, .data, .data], laidTests := true, laidLooks := .later }
def ParseDeepCardSaid : Prop := Claim7.holds Tryd.pinned (.plain (OpenSpec.ofChange parseDeepSpec)) parseDeepCard

/-- THE SECOND FORM's CARD OF 'liverylaw07.ParseBack'. -/
def parseBackUptoCard : Claim7 := { stood := { row := parseBackUptoRow, standIns := [], harness := (true, "2ef7e7388e02eb914236aa005a078e7a0a5f24b732900d437e54b97c03e5d287"), looks := true }, kinds := [], alts := [], laidByText := true, laidKinds := [.data, .data, .data, .data], laidTests := true, laidLooks := .later }
def ParseBackUptoCardSaid : Prop := Claim7.holds Tryd.pinned (.plain (OpenSpec.upto parseBackSpec)) parseBackUptoCard

/-- THE SECOND FORM's CARD OF 'liverylaw07.ParseSwaps'. -/
def parseSwapsUptoCard : Claim7 := { stood := { row := parseSwapsUptoRow, standIns := [], harness := (true, "2ef7e7388e02eb914236aa005a078e7a0a5f24b732900d437e54b97c03e5d287"), looks := true }, kinds := [], alts := [], laidByText := true, laidKinds := [.data, .data, .data, .data], laidTests := true, laidLooks := .later }
def ParseSwapsUptoCardSaid : Prop := Claim7.holds Tryd.pinned (.plain (OpenSpec.upto parseSwapsSpec)) parseSwapsUptoCard

/-- THE SECOND FORM's CARD OF 'liverylaw07.ParseDeep'. -/
def parseDeepUptoCard : Claim7 := { stood := { row := parseDeepUptoRow, standIns := [], harness := (true, "2ef7e7388e02eb914236aa005a078e7a0a5f24b732900d437e54b97c03e5d287"), looks := true }, kinds := [], alts := [], laidByText := true, laidKinds := [.data, .data, .data, .data], laidTests := true, laidLooks := .later }
def ParseDeepUptoCardSaid : Prop := Claim7.holds Tryd.pinned (.plain (OpenSpec.upto parseDeepSpec)) parseDeepUptoCard
end Rows
end Go.Proofs.YtaeipfnpglbooaaDoor
