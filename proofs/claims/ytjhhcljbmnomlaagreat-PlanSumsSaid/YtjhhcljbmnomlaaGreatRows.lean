/-
  No cell of these rows narrows 'for every input' (looked for: loops, veiled, ifaces, maps, wideKeys, modest, calm, conditions, laid).
  DERIVED. THE GIVEN ROWS OF THIS SEAT. 6 by the template 'for every input the law returns true; each argument reads behind the call as it read before'; 0 by the template 'total and deterministic' (their statements: YtjhhcljbmnomlaaGreatTotals.lean).
  GIVEN WITH THE SEED: the statements are not yours to turn. If you find one false, say at which input.
  Laid BY PROGRAM, IN A SANDBOX (cutbox-rows.mjs): the forced cells as the released guide's own fill.sh prints them over the translation 6c2dd6e094cb7b64… (all of the seat's roots in one cut). By AI agents, Wed Nov 11 2026. No macro, syntax, notation, axiom, sorry.
-/
import Derived.Test.YtjhhcljbmnomlaaGreatChecked
import GoSem.Claim
import GoSem.ClaimJoined
import GoSem.ClaimMapViews
import Derived.JoinedTies
import Derived.KernelRfl
namespace Go.Proofs.YtjhhcljbmnomlaaGreat
/- THE CELL 'sum', in the pinned program and in every row, IS THE sha256 OF THE DUMP (.gsa) THAT YtjhhcljbmnomlaaGreatProg.lean LOADS. Nothing in Lean hashes anything: it is a label: what it is worth is what the hold of that sum in a sandbox is worth. -/
noncomputable def Tryz.pinned : Pinned := { name := "ytjhhcljbmnomlaagreat", sum := "6c2dd6e094cb7b64c3b3b4c47867afed7bb0ecb0260cf48d1b2daa8606632e74", checked := Tryz.checked }
namespace Rows
def none {H : Type} : Left H := { results := [], args := [] }

/-- 'liverylaw11.PlanPlays': WHATEVER THE INPUT: true; the input reads as it did. -/
def planPlaysSpec : ChangeSpec := { name := "planPlays", fn := fun _ => fun
  | [d1, d2, d3] => { results := [.lit (.bool true)], args := [d1, d2, d3] }
  | _ => none }
def planPlaysRow : OpenClaim := { program := "ytjhhcljbmnomlaagreat", sum := "6c2dd6e094cb7b64c3b3b4c47867afed7bb0ecb0260cf48d1b2daa8606632e74", func := "livery/liverylaw11.PlanPlays", spec := "planPlays", inPlace := ["maps.clone"], unfollowed := true, recurses := true, apart := false }
def PlanPlaysSaid : Prop := planPlaysRow.holds Tryz.pinned (OpenSpec.ofChange planPlaysSpec)

/-- ITS FALSE NEIGHBOUR: 'it returns false'. Refute it at one input. -/
def planPlaysWrong : ChangeSpec := { name := "planPlays", fn := fun _ => fun
  | [d1, d2, d3] => { results := [.lit (.bool false)], args := [d1, d2, d3] }
  | _ => none }
def PlanPlaysWrongFalsely : Prop := planPlaysRow.holds Tryz.pinned (OpenSpec.ofChange planPlaysWrong)

/-- 'liverylaw11.PlanGets': WHATEVER THE INPUT: true; the input reads as it did. -/
def planGetsSpec : ChangeSpec := { name := "planGets", fn := fun _ => fun
  | [d1, d2, d3] => { results := [.lit (.bool true)], args := [d1, d2, d3] }
  | _ => none }
def planGetsRow : OpenClaim := { program := "ytjhhcljbmnomlaagreat", sum := "6c2dd6e094cb7b64c3b3b4c47867afed7bb0ecb0260cf48d1b2daa8606632e74", func := "livery/liverylaw11.PlanGets", spec := "planGets", inPlace := ["maps.clone"], unfollowed := true, recurses := true, apart := false }
def PlanGetsSaid : Prop := planGetsRow.holds Tryz.pinned (OpenSpec.ofChange planGetsSpec)

/-- ITS FALSE NEIGHBOUR: 'it returns false'. Refute it at one input. -/
def planGetsWrong : ChangeSpec := { name := "planGets", fn := fun _ => fun
  | [d1, d2, d3] => { results := [.lit (.bool false)], args := [d1, d2, d3] }
  | _ => none }
def PlanGetsWrongFalsely : Prop := planGetsRow.holds Tryz.pinned (OpenSpec.ofChange planGetsWrong)

/-- 'liverylaw11.PlanSums': WHATEVER THE INPUT: true; the input reads as it did. -/
def planSumsSpec : ChangeSpec := { name := "planSums", fn := fun _ => fun
  | [d1, d2, d3] => { results := [.lit (.bool true)], args := [d1, d2, d3] }
  | _ => none }
def planSumsRow : OpenClaim := { program := "ytjhhcljbmnomlaagreat", sum := "6c2dd6e094cb7b64c3b3b4c47867afed7bb0ecb0260cf48d1b2daa8606632e74", func := "livery/liverylaw11.PlanSums", spec := "planSums", inPlace := ["maps.clone"], unfollowed := true, recurses := true, apart := false }
def PlanSumsSaid : Prop := planSumsRow.holds Tryz.pinned (OpenSpec.ofChange planSumsSpec)

/-- ITS FALSE NEIGHBOUR: 'it returns false'. Refute it at one input. -/
def planSumsWrong : ChangeSpec := { name := "planSums", fn := fun _ => fun
  | [d1, d2, d3] => { results := [.lit (.bool false)], args := [d1, d2, d3] }
  | _ => none }
def PlanSumsWrongFalsely : Prop := planSumsRow.holds Tryz.pinned (OpenSpec.ofChange planSumsWrong)

/-- 'liverylaw11.PlanOnce': WHATEVER THE INPUT: true; the input reads as it did. -/
def planOnceSpec : ChangeSpec := { name := "planOnce", fn := fun _ => fun
  | [d1, d2] => { results := [.lit (.bool true)], args := [d1, d2] }
  | _ => none }
def planOnceRow : OpenClaim := { program := "ytjhhcljbmnomlaagreat", sum := "6c2dd6e094cb7b64c3b3b4c47867afed7bb0ecb0260cf48d1b2daa8606632e74", func := "livery/liverylaw11.PlanOnce", spec := "planOnce", inPlace := ["maps.clone"], unfollowed := true, recurses := true, apart := false }
def PlanOnceSaid : Prop := planOnceRow.holds Tryz.pinned (OpenSpec.ofChange planOnceSpec)

/-- ITS FALSE NEIGHBOUR: 'it returns false'. Refute it at one input. -/
def planOnceWrong : ChangeSpec := { name := "planOnce", fn := fun _ => fun
  | [d1, d2] => { results := [.lit (.bool false)], args := [d1, d2] }
  | _ => none }
def PlanOnceWrongFalsely : Prop := planOnceRow.holds Tryz.pinned (OpenSpec.ofChange planOnceWrong)

/-- 'liverylaw13.PolicyPlans': WHATEVER THE INPUT: true; the input reads as it did. -/
def policyPlansSpec : ChangeSpec := { name := "policyPlans", fn := fun _ => fun
  | [d1, d2] => { results := [.lit (.bool true)], args := [d1, d2] }
  | _ => none }
def policyPlansRow : OpenClaim := { program := "ytjhhcljbmnomlaagreat", sum := "6c2dd6e094cb7b64c3b3b4c47867afed7bb0ecb0260cf48d1b2daa8606632e74", func := "livery/liverylaw13.PolicyPlans", spec := "policyPlans", inPlace := ["maps.clone"], unfollowed := true, recurses := true, apart := false }
def PolicyPlansSaid : Prop := policyPlansRow.holds Tryz.pinned (OpenSpec.ofChange policyPlansSpec)

/-- ITS FALSE NEIGHBOUR: 'it returns false'. Refute it at one input. -/
def policyPlansWrong : ChangeSpec := { name := "policyPlans", fn := fun _ => fun
  | [d1, d2] => { results := [.lit (.bool false)], args := [d1, d2] }
  | _ => none }
def PolicyPlansWrongFalsely : Prop := policyPlansRow.holds Tryz.pinned (OpenSpec.ofChange policyPlansWrong)

/-- 'liverylaw15.FitTells': WHATEVER THE INPUT: true; the input reads as it did. -/
def fitTellsSpec : ChangeSpec := { name := "fitTells", fn := fun _ => fun
  | [d1, d2] => { results := [.lit (.bool true)], args := [d1, d2] }
  | _ => none }
def fitTellsRow : OpenClaim := { program := "ytjhhcljbmnomlaagreat", sum := "6c2dd6e094cb7b64c3b3b4c47867afed7bb0ecb0260cf48d1b2daa8606632e74", func := "livery/liverylaw15.FitTells", spec := "fitTells", unfollowed := true, recurses := true, apart := false }
def FitTellsSaid : Prop := fitTellsRow.holds Tryz.pinned (OpenSpec.ofChange fitTellsSpec)

/-- ITS FALSE NEIGHBOUR: 'it returns false'. Refute it at one input. -/
def fitTellsWrong : ChangeSpec := { name := "fitTells", fn := fun _ => fun
  | [d1, d2] => { results := [.lit (.bool false)], args := [d1, d2] }
  | _ => none }
def FitTellsWrongFalsely : Prop := fitTellsRow.holds Tryz.pinned (OpenSpec.ofChange fitTellsWrong)

/- THE SECOND FORM. 'bulk': how many values and letters a reading holds, each counted each time it is reached (what is shared counts as often as it is met; a slice's spare places count too). A statement '..UptoSaid' is the law's where the arguments, and the package variables that the reading takes, are together of bulk at most 1048576: NARROWER than '..Said'. Prove '..Said' where nothing that the law and all that it calls make is longer than what came in: it says more and counts as full. Else prove '..UptoSaid'. A law counts once. -/
mutual
def uptoBulk {H : Type} : DataW H → Nat
  | .lit (.string bytes) => bytes.length + 1
  | .lit _ => 1
  | .nil => 1
  | .ptr d => uptoBulk d + 1
  | .slice elems spare => uptoBulkAll elems + uptoBulkAll spare + 1
  | .agg parts => uptoBulkAll parts + 1
  | .iface _ d => uptoBulk d + 1
  | .map entries => uptoBulkEntries entries + 1
  | .held _ => 1
def uptoBulkAll {H : Type} : List (DataW H) → Nat
  | [] => 0
  | d :: r => uptoBulk d + uptoBulkAll r
def uptoBulkEntries {H : Type} : List (Lit × DataW H) → Nat
  | [] => 0
  | x :: r => uptoBulkEntry x + uptoBulkEntries r
def uptoBulkEntry {H : Type} : Lit × DataW H → Nat
  | (.string bytes, d) => bytes.length + uptoBulk d + 1
  | (_, d) => uptoBulk d + 1
 end
def uptoSmall : (H : Type) → List (DataW H) → Bool := fun _ ds => decide (uptoBulkAll ds ≤ 1048576)
def OpenSpec.upto (s : _root_.Go.ChangeSpec) : _root_.Go.OpenSpec := { _root_.Go.OpenSpec.ofChange s with cond := some uptoSmall }

/-- 'liverylaw11.PlanPlays', WHERE WHAT IT READS IS OF BULK AT MOST 1048576: true; the input reads as it did. -/
def planPlaysUptoRow : OpenClaim := { program := "ytjhhcljbmnomlaagreat", sum := "6c2dd6e094cb7b64c3b3b4c47867afed7bb0ecb0260cf48d1b2daa8606632e74", func := "livery/liverylaw11.PlanPlays", spec := "planPlays", inPlace := ["maps.clone"], unfollowed := true, recurses := true, apart := false, narrowed := true }
def PlanPlaysUptoSaid : Prop := planPlaysUptoRow.holds Tryz.pinned (OpenSpec.upto planPlaysSpec)

/-- 'liverylaw11.PlanGets', WHERE WHAT IT READS IS OF BULK AT MOST 1048576: true; the input reads as it did. -/
def planGetsUptoRow : OpenClaim := { program := "ytjhhcljbmnomlaagreat", sum := "6c2dd6e094cb7b64c3b3b4c47867afed7bb0ecb0260cf48d1b2daa8606632e74", func := "livery/liverylaw11.PlanGets", spec := "planGets", inPlace := ["maps.clone"], unfollowed := true, recurses := true, apart := false, narrowed := true }
def PlanGetsUptoSaid : Prop := planGetsUptoRow.holds Tryz.pinned (OpenSpec.upto planGetsSpec)

/-- 'liverylaw11.PlanSums', WHERE WHAT IT READS IS OF BULK AT MOST 1048576: true; the input reads as it did. -/
def planSumsUptoRow : OpenClaim := { program := "ytjhhcljbmnomlaagreat", sum := "6c2dd6e094cb7b64c3b3b4c47867afed7bb0ecb0260cf48d1b2daa8606632e74", func := "livery/liverylaw11.PlanSums", spec := "planSums", inPlace := ["maps.clone"], unfollowed := true, recurses := true, apart := false, narrowed := true }
def PlanSumsUptoSaid : Prop := planSumsUptoRow.holds Tryz.pinned (OpenSpec.upto planSumsSpec)

/-- 'liverylaw11.PlanOnce', WHERE WHAT IT READS IS OF BULK AT MOST 1048576: true; the input reads as it did. -/
def planOnceUptoRow : OpenClaim := { program := "ytjhhcljbmnomlaagreat", sum := "6c2dd6e094cb7b64c3b3b4c47867afed7bb0ecb0260cf48d1b2daa8606632e74", func := "livery/liverylaw11.PlanOnce", spec := "planOnce", inPlace := ["maps.clone"], unfollowed := true, recurses := true, apart := false, narrowed := true }
def PlanOnceUptoSaid : Prop := planOnceUptoRow.holds Tryz.pinned (OpenSpec.upto planOnceSpec)

/-- 'liverylaw13.PolicyPlans', WHERE WHAT IT READS IS OF BULK AT MOST 1048576: true; the input reads as it did. -/
def policyPlansUptoRow : OpenClaim := { program := "ytjhhcljbmnomlaagreat", sum := "6c2dd6e094cb7b64c3b3b4c47867afed7bb0ecb0260cf48d1b2daa8606632e74", func := "livery/liverylaw13.PolicyPlans", spec := "policyPlans", inPlace := ["maps.clone"], unfollowed := true, recurses := true, apart := false, narrowed := true }
def PolicyPlansUptoSaid : Prop := policyPlansUptoRow.holds Tryz.pinned (OpenSpec.upto policyPlansSpec)

/-- 'liverylaw15.FitTells', WHERE WHAT IT READS IS OF BULK AT MOST 1048576: true; the input reads as it did. -/
def fitTellsUptoRow : OpenClaim := { program := "ytjhhcljbmnomlaagreat", sum := "6c2dd6e094cb7b64c3b3b4c47867afed7bb0ecb0260cf48d1b2daa8606632e74", func := "livery/liverylaw15.FitTells", spec := "fitTells", unfollowed := true, recurses := true, apart := false, narrowed := true }
def FitTellsUptoSaid : Prop := fitTellsUptoRow.holds Tryz.pinned (OpenSpec.upto fitTellsSpec)

end Rows
end Go.Proofs.YtjhhcljbmnomlaaGreat
