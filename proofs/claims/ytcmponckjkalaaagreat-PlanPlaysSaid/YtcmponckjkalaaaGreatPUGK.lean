/- The contract of the iterator (span.window).stretches: it hands on the stretches of the window, one after the other. No conditions but that the slice's cells read as integers, and sizes. The contract of (span.window).evaluate: an error, or each of the window's stretches is handed on. No conditions but that the slice's cells read as integers, sizes, and what the function that .. -/
import Derived.Test.YtcmponckjkalaaaGreatPUGA
import Derived.Test.YtcmponckjkalaaaGreatPUMC
import Derived.Test.YtcmponckjkalaaaGreatPUGJ
import Derived.OwnWalkIn
import Derived.Test.YtcmponckjkalaaaGreatPUGI
import Derived.RangeFuncCalls
import Derived.Shelf.Abstract
import Derived.Test.YtcmponckjkalaaaGreatPUGB
import Derived.BigRegion
namespace Go.Proofs.YtcmponckjkalaaaGreat
section
open Go.ChangeShapes Go.WideShapes Go.ChangeAt Go.RowKit
attribute [local irreducible] Go.Calls
end
section
open Go.ChangeShapes Go.WideShapes Go.ChangeAt Go.RowKit Go.Shelf
attribute [local irreducible] Go.Calls
attribute [local go_sem] Oper.semAt_some
end
section
open Go.ChangeShapes Go.WideShapes Go.ChangeAt Go.RowKit Go.Shelf
attribute [local irreducible] Go.Calls
end
section
open Go.ChangeShapes Go.WideShapes Go.ChangeAt Go.RowKit
attribute [local irreducible] Go.Calls
end
end Go.Proofs.YtcmponckjkalaaaGreat
