/- The contract of rle.At and what it calls. No conditions but that the list's cells read as integers. The contract of rle.At. No conditions but that the list's cells read as integers. The contract of calc.LE. No conditions but the lists' sizes, and that the slices' cells read as integers. The contract of the document's own LE of functions. No conditions but the lists' sizes. .. -/
import Derived.Test.YtcmponckjkalaaaGreatPUGC
import Derived.LoopTactic
import Derived.Deep.LoopGhost
import Derived.WalkMore
import Derived.ScopeJumps
import Derived.Deep.DeepCutAuto
import Derived.Outline
import Derived.Test.YtcmponckjkalaaaGreatPUGI
import Derived.Test.YtcmponckjkalaaaGreatPUMB
import Derived.Test.YtcmponckjkalaaaGreatPUGG
import Derived.Test.YtcmponckjkalaaaGreatPUGH
import Derived.Test.YtcmponckjkalaaaGreatPUGB
namespace Go.Proofs.YtcmponckjkalaaaGreat
section
open Go.ChangeShapes Go.WideShapes Go.ChangeAt Go.RowKit
attribute [local irreducible] Go.Calls
end
section
open Go.ChangeShapes Go.WideShapes Go.ChangeAt Go.RowKit Go.Shelf
attribute [local irreducible] Go.Calls
attribute [local go_sem] Oper.semAt_some
end
section
open Go.ChangeShapes Go.WideShapes Go.ChangeAt Go.RowKit
attribute [local irreducible] Go.Calls
end
section
open Go.RowKit
end
end Go.Proofs.YtcmponckjkalaaaGreat
