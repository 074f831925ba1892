/-
  No cell of these rows narrows 'for every input' (looked for: loops, veiled, ifaces, maps, wideKeys, modest, calm, conditions, laid).
  DERIVED. THE GIVEN ROWS OF THIS SEAT. 7 by the template 'for every input the law returns true; each argument reads behind the call as it read before'; 0 by the template 'total and deterministic' (their statements: YtcmponckjkalaaaGreatTotals.lean).
  GIVEN WITH THE SEED: the statements are not yours to turn. If you find one false, say at which input.
  Laid BY PROGRAM, IN A SANDBOX (cutbox-rows.mjs): the forced cells as the released guide's own fill.sh prints them over the translation 9d4a9b05747a1fe6… (all of the seat's roots in one cut). By AI agents, Wed Nov 11 2026. No macro, syntax, notation, axiom, sorry.
-/
import Derived.Test.YtcmponckjkalaaaGreatChecked
import GoSem.Claim
import GoSem.ClaimJoined
import GoSem.ClaimMapViews
import Derived.JoinedTies
import Derived.KernelRfl
namespace Go.Proofs.YtcmponckjkalaaaGreat
/- THE CELL 'sum', in the pinned program and in every row, IS THE sha256 OF THE DUMP (.gsa) THAT YtcmponckjkalaaaGreatProg.lean LOADS. Nothing in Lean hashes anything: it is a label: what it is worth is what the hold of that sum in a sandbox is worth. -/
noncomputable def Tryz.pinned : Pinned := { name := "ytcmponckjkalaaagreat", sum := "9d4a9b05747a1fe6fda0eb10d8dfd902a979bb7346576ebfebbc26a498111c8f", checked := Tryz.checked }
namespace Rows
def none {H : Type} : Left H := { results := [], args := [] }

/-- 'liverylaw11.PlanPlays': WHATEVER THE INPUT: true; the input reads as it did. -/
def planPlaysSpec : ChangeSpec := { name := "planPlays", fn := fun _ => fun
  | [d1, d2, d3] => { results := [.lit (.bool true)], args := [d1, d2, d3] }
  | _ => none }
def planPlaysRow : OpenClaim := { program := "ytcmponckjkalaaagreat", sum := "9d4a9b05747a1fe6fda0eb10d8dfd902a979bb7346576ebfebbc26a498111c8f", func := "livery/liverylaw11.PlanPlays", spec := "planPlays", inPlace := ["maps.clone"], unfollowed := true, recurses := true, apart := false }
def PlanPlaysSaid : Prop := planPlaysRow.holds Tryz.pinned (OpenSpec.ofChange planPlaysSpec)

/-- ITS FALSE NEIGHBOUR: 'it returns false'. Refute it at one input. -/
def planPlaysWrong : ChangeSpec := { name := "planPlays", fn := fun _ => fun
  | [d1, d2, d3] => { results := [.lit (.bool false)], args := [d1, d2, d3] }
  | _ => none }
def PlanPlaysWrongFalsely : Prop := planPlaysRow.holds Tryz.pinned (OpenSpec.ofChange planPlaysWrong)

/-- 'liverylaw11.PlanGets': WHATEVER THE INPUT: true; the input reads as it did. -/
def planGetsSpec : ChangeSpec := { name := "planGets", fn := fun _ => fun
  | [d1, d2, d3] => { results := [.lit (.bool true)], args := [d1, d2, d3] }
  | _ => none }
def planGetsRow : OpenClaim := { program := "ytcmponckjkalaaagreat", sum := "9d4a9b05747a1fe6fda0eb10d8dfd902a979bb7346576ebfebbc26a498111c8f", func := "livery/liverylaw11.PlanGets", spec := "planGets", inPlace := ["maps.clone"], unfollowed := true, recurses := true, apart := false }
def PlanGetsSaid : Prop := planGetsRow.holds Tryz.pinned (OpenSpec.ofChange planGetsSpec)

/-- ITS FALSE NEIGHBOUR: 'it returns false'. Refute it at one input. -/
def planGetsWrong : ChangeSpec := { name := "planGets", fn := fun _ => fun
  | [d1, d2, d3] => { results := [.lit (.bool false)], args := [d1, d2, d3] }
  | _ => none }
def PlanGetsWrongFalsely : Prop := planGetsRow.holds Tryz.pinned (OpenSpec.ofChange planGetsWrong)

/-- 'liverylaw13.PolicyPlans': WHATEVER THE INPUT: true; the input reads as it did. -/
def policyPlansSpec : ChangeSpec := { name := "policyPlans", fn := fun _ => fun
  | [d1, d2] => { results := [.lit (.bool true)], args := [d1, d2] }
  | _ => none }
def policyPlansRow : OpenClaim := { program := "ytcmponckjkalaaagreat", sum := "9d4a9b05747a1fe6fda0eb10d8dfd902a979bb7346576ebfebbc26a498111c8f", func := "livery/liverylaw13.PolicyPlans", spec := "policyPlans", inPlace := ["maps.clone"], unfollowed := true, recurses := true, apart := false }
def PolicyPlansSaid : Prop := policyPlansRow.holds Tryz.pinned (OpenSpec.ofChange policyPlansSpec)

/-- ITS FALSE NEIGHBOUR: 'it returns false'. Refute it at one input. -/
def policyPlansWrong : ChangeSpec := { name := "policyPlans", fn := fun _ => fun
  | [d1, d2] => { results := [.lit (.bool false)], args := [d1, d2] }
  | _ => none }
def PolicyPlansWrongFalsely : Prop := policyPlansRow.holds Tryz.pinned (OpenSpec.ofChange policyPlansWrong)

/-- 'liverylaw14.AdmitPlays': WHATEVER THE INPUT: true; the input reads as it did. -/
def admitPlaysSpec : ChangeSpec := { name := "admitPlays", fn := fun _ => fun
  | [d1, d2] => { results := [.lit (.bool true)], args := [d1, d2] }
  | _ => none }
def admitPlaysRow : OpenClaim := { program := "ytcmponckjkalaaagreat", sum := "9d4a9b05747a1fe6fda0eb10d8dfd902a979bb7346576ebfebbc26a498111c8f", func := "livery/liverylaw14.AdmitPlays", spec := "admitPlays", inPlace := ["maps.clone"], unfollowed := true, recurses := true, apart := false }
def AdmitPlaysSaid : Prop := admitPlaysRow.holds Tryz.pinned (OpenSpec.ofChange admitPlaysSpec)

/-- ITS FALSE NEIGHBOUR: 'it returns false'. Refute it at one input. -/
def admitPlaysWrong : ChangeSpec := { name := "admitPlays", fn := fun _ => fun
  | [d1, d2] => { results := [.lit (.bool false)], args := [d1, d2] }
  | _ => none }
def AdmitPlaysWrongFalsely : Prop := admitPlaysRow.holds Tryz.pinned (OpenSpec.ofChange admitPlaysWrong)

/-- 'liverylaw14.AdmitHolds': WHATEVER THE INPUT: true; the input reads as it did. -/
def admitHoldsSpec : ChangeSpec := { name := "admitHolds", fn := fun _ => fun
  | [d1, d2] => { results := [.lit (.bool true)], args := [d1, d2] }
  | _ => none }
def admitHoldsRow : OpenClaim := { program := "ytcmponckjkalaaagreat", sum := "9d4a9b05747a1fe6fda0eb10d8dfd902a979bb7346576ebfebbc26a498111c8f", func := "livery/liverylaw14.AdmitHolds", spec := "admitHolds", inPlace := ["maps.clone"], unfollowed := true, recurses := true, apart := false }
def AdmitHoldsSaid : Prop := admitHoldsRow.holds Tryz.pinned (OpenSpec.ofChange admitHoldsSpec)

/-- ITS FALSE NEIGHBOUR: 'it returns false'. Refute it at one input. -/
def admitHoldsWrong : ChangeSpec := { name := "admitHolds", fn := fun _ => fun
  | [d1, d2] => { results := [.lit (.bool false)], args := [d1, d2] }
  | _ => none }
def AdmitHoldsWrongFalsely : Prop := admitHoldsRow.holds Tryz.pinned (OpenSpec.ofChange admitHoldsWrong)

/-- 'liverylaw14.AdmitFewer': WHATEVER THE INPUT: true; the input reads as it did. -/
def admitFewerSpec : ChangeSpec := { name := "admitFewer", fn := fun _ => fun
  | [d1, d2, d3] => { results := [.lit (.bool true)], args := [d1, d2, d3] }
  | _ => none }
def admitFewerRow : OpenClaim := { program := "ytcmponckjkalaaagreat", sum := "9d4a9b05747a1fe6fda0eb10d8dfd902a979bb7346576ebfebbc26a498111c8f", func := "livery/liverylaw14.AdmitFewer", spec := "admitFewer", inPlace := ["maps.clone"], unfollowed := true, recurses := true, apart := false }
def AdmitFewerSaid : Prop := admitFewerRow.holds Tryz.pinned (OpenSpec.ofChange admitFewerSpec)

/-- ITS FALSE NEIGHBOUR: 'it returns false'. Refute it at one input. -/
def admitFewerWrong : ChangeSpec := { name := "admitFewer", fn := fun _ => fun
  | [d1, d2, d3] => { results := [.lit (.bool false)], args := [d1, d2, d3] }
  | _ => none }
def AdmitFewerWrongFalsely : Prop := admitFewerRow.holds Tryz.pinned (OpenSpec.ofChange admitFewerWrong)

/-- 'liverylaw14.AdmitWith': WHATEVER THE INPUT: true; the input reads as it did. -/
def admitWithSpec : ChangeSpec := { name := "admitWith", fn := fun _ => fun
  | [d1, d2, d3] => { results := [.lit (.bool true)], args := [d1, d2, d3] }
  | _ => none }
def admitWithRow : OpenClaim := { program := "ytcmponckjkalaaagreat", sum := "9d4a9b05747a1fe6fda0eb10d8dfd902a979bb7346576ebfebbc26a498111c8f", func := "livery/liverylaw14.AdmitWith", spec := "admitWith", inPlace := ["maps.clone"], unfollowed := true, recurses := true, apart := false }
def AdmitWithSaid : Prop := admitWithRow.holds Tryz.pinned (OpenSpec.ofChange admitWithSpec)

/-- ITS FALSE NEIGHBOUR: 'it returns false'. Refute it at one input. -/
def admitWithWrong : ChangeSpec := { name := "admitWith", fn := fun _ => fun
  | [d1, d2, d3] => { results := [.lit (.bool false)], args := [d1, d2, d3] }
  | _ => none }
def AdmitWithWrongFalsely : Prop := admitWithRow.holds Tryz.pinned (OpenSpec.ofChange admitWithWrong)

/- THE SECOND FORM. 'bulk': how many values and letters a reading holds, each counted each time it is reached (what is shared counts as often as it is met; a slice's spare places count too). A statement '..UptoSaid' is the law's where the arguments, and the package variables that the reading takes, are together of bulk at most 1048576: NARROWER than '..Said'. Prove '..Said' where nothing that the law and all that it calls make is longer than what came in: it says more and counts as full. Else prove '..UptoSaid'. A law counts once. -/
mutual
def uptoBulk {H : Type} : DataW H → Nat
  | .lit (.string bytes) => bytes.length + 1
  | .lit _ => 1
  | .nil => 1
  | .ptr d => uptoBulk d + 1
  | .slice elems spare => uptoBulkAll elems + uptoBulkAll spare + 1
  | .agg parts => uptoBulkAll parts + 1
  | .iface _ d => uptoBulk d + 1
  | .map entries => uptoBulkEntries entries + 1
  | .held _ => 1
def uptoBulkAll {H : Type} : List (DataW H) → Nat
  | [] => 0
  | d :: r => uptoBulk d + uptoBulkAll r
def uptoBulkEntries {H : Type} : List (Lit × DataW H) → Nat
  | [] => 0
  | x :: r => uptoBulkEntry x + uptoBulkEntries r
def uptoBulkEntry {H : Type} : Lit × DataW H → Nat
  | (.string bytes, d) => bytes.length + uptoBulk d + 1
  | (_, d) => uptoBulk d + 1
 end
def uptoSmall : (H : Type) → List (DataW H) → Bool := fun _ ds => decide (uptoBulkAll ds ≤ 1048576)
def OpenSpec.upto (s : _root_.Go.ChangeSpec) : _root_.Go.OpenSpec := { _root_.Go.OpenSpec.ofChange s with cond := some uptoSmall }

/-- 'liverylaw11.PlanPlays', WHERE WHAT IT READS IS OF BULK AT MOST 1048576: true; the input reads as it did. -/
def planPlaysUptoRow : OpenClaim := { program := "ytcmponckjkalaaagreat", sum := "9d4a9b05747a1fe6fda0eb10d8dfd902a979bb7346576ebfebbc26a498111c8f", func := "livery/liverylaw11.PlanPlays", spec := "planPlays", inPlace := ["maps.clone"], unfollowed := true, recurses := true, apart := false, narrowed := true }
def PlanPlaysUptoSaid : Prop := planPlaysUptoRow.holds Tryz.pinned (OpenSpec.upto planPlaysSpec)

/-- 'liverylaw11.PlanGets', WHERE WHAT IT READS IS OF BULK AT MOST 1048576: true; the input reads as it did. -/
def planGetsUptoRow : OpenClaim := { program := "ytcmponckjkalaaagreat", sum := "9d4a9b05747a1fe6fda0eb10d8dfd902a979bb7346576ebfebbc26a498111c8f", func := "livery/liverylaw11.PlanGets", spec := "planGets", inPlace := ["maps.clone"], unfollowed := true, recurses := true, apart := false, narrowed := true }
def PlanGetsUptoSaid : Prop := planGetsUptoRow.holds Tryz.pinned (OpenSpec.upto planGetsSpec)

/-- 'liverylaw13.PolicyPlans', WHERE WHAT IT READS IS OF BULK AT MOST 1048576: true; the input reads as it did. -/
def policyPlansUptoRow : OpenClaim := { program := "ytcmponckjkalaaagreat", sum := "9d4a9b05747a1fe6fda0eb10d8dfd902a979bb7346576ebfebbc26a498111c8f", func := "livery/liverylaw13.PolicyPlans", spec := "policyPlans", inPlace := ["maps.clone"], unfollowed := true, recurses := true, apart := false, narrowed := true }
def PolicyPlansUptoSaid : Prop := policyPlansUptoRow.holds Tryz.pinned (OpenSpec.upto policyPlansSpec)

/-- 'liverylaw14.AdmitPlays', WHERE WHAT IT READS IS OF BULK AT MOST 1048576: true; the input reads as it did. -/
def admitPlaysUptoRow : OpenClaim := { program := "ytcmponckjkalaaagreat", sum := "9d4a9b05747a1fe6fda0eb10d8dfd902a979bb7346576ebfebbc26a498111c8f", func := "livery/liverylaw14.AdmitPlays", spec := "admitPlays", inPlace := ["maps.clone"], unfollowed := true, recurses := true, apart := false, narrowed := true }
def AdmitPlaysUptoSaid : Prop := admitPlaysUptoRow.holds Tryz.pinned (OpenSpec.upto admitPlaysSpec)

/-- 'liverylaw14.AdmitHolds', WHERE WHAT IT READS IS OF BULK AT MOST 1048576: true; the input reads as it did. -/
def admitHoldsUptoRow : OpenClaim := { program := "ytcmponckjkalaaagreat", sum := "9d4a9b05747a1fe6fda0eb10d8dfd902a979bb7346576ebfebbc26a498111c8f", func := "livery/liverylaw14.AdmitHolds", spec := "admitHolds", inPlace := ["maps.clone"], unfollowed := true, recurses := true, apart := false, narrowed := true }
def AdmitHoldsUptoSaid : Prop := admitHoldsUptoRow.holds Tryz.pinned (OpenSpec.upto admitHoldsSpec)

/-- 'liverylaw14.AdmitFewer', WHERE WHAT IT READS IS OF BULK AT MOST 1048576: true; the input reads as it did. -/
def admitFewerUptoRow : OpenClaim := { program := "ytcmponckjkalaaagreat", sum := "9d4a9b05747a1fe6fda0eb10d8dfd902a979bb7346576ebfebbc26a498111c8f", func := "livery/liverylaw14.AdmitFewer", spec := "admitFewer", inPlace := ["maps.clone"], unfollowed := true, recurses := true, apart := false, narrowed := true }
def AdmitFewerUptoSaid : Prop := admitFewerUptoRow.holds Tryz.pinned (OpenSpec.upto admitFewerSpec)

/-- 'liverylaw14.AdmitWith', WHERE WHAT IT READS IS OF BULK AT MOST 1048576: true; the input reads as it did. -/
def admitWithUptoRow : OpenClaim := { program := "ytcmponckjkalaaagreat", sum := "9d4a9b05747a1fe6fda0eb10d8dfd902a979bb7346576ebfebbc26a498111c8f", func := "livery/liverylaw14.AdmitWith", spec := "admitWith", inPlace := ["maps.clone"], unfollowed := true, recurses := true, apart := false, narrowed := true }
def AdmitWithUptoSaid : Prop := admitWithUptoRow.holds Tryz.pinned (OpenSpec.upto admitWithSpec)

end Rows
end Go.Proofs.YtcmponckjkalaaaGreat
