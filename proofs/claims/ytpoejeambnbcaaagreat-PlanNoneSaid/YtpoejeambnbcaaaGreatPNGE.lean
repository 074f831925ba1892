/- The contract of calc.LE. No conditions but the lists' sizes, and that the slices' cells read as integers. The contract of the document's own LE of functions. No conditions but the lists' sizes. A range over a function whose body keeps a block of its own, made in an earlier round (a slice that it appends to): an iterator's contract with that block named, and the law for its caller. Program-free. No conditions. The contract of the iterator (span.window).stretches: it hands on the stretches of the window, one after the other. No conditions but that the slice's cells read as integers, and sizes. The contract of (span.window).evaluate: an error, or each of the window's stretches is handed on. No conditions but that the slice's cells read as integers, sizes, and what the function that is handed the stretches keeps. The contracts of span.along, Sum, Low and High. No conditions but the lists' sizes, and that the slices' cells read as integers. The contracts of span.above, (slide).straight and (cursor).move. No conditions but sizes, and that the slices' cells read as integers. The contract of (slide).over. No conditions but sizes, and that the slices' cells read as integers. -/
import Derived.Test.YtpoejeambnbcaaaGreatPNGD
import Derived.Test.YtpoejeambnbcaaaGreatPNMA
import Derived.Test.YtpoejeambnbcaaaGreatPNGC
import Derived.Test.YtpoejeambnbcaaaGreatPNGA
import Derived.Test.YtpoejeambnbcaaaGreatPNMB
import Derived.OwnWalkIn
import Derived.RangeFuncCalls
import Derived.Shelf.Abstract
import Derived.BigRegion
namespace Go.Proofs.YtpoejeambnbcaaaGreat
open Go.ChangeShapes Go.WideShapes Go.ChangeAt Go.RowKit Go.Shelf
attribute [local irreducible] Go.Calls
attribute [local go_sem] Oper.semAt_some

end Go.Proofs.YtpoejeambnbcaaaGreat

namespace Go.Proofs.YtpoejeambnbcaaaGreat
open Go.ChangeShapes Go.WideShapes Go.ChangeAt Go.RowKit
attribute [local irreducible] Go.Calls

end Go.Proofs.YtpoejeambnbcaaaGreat

namespace Go.Proofs.YtpoejeambnbcaaaGreat
open Go.RowKit

end Go.Proofs.YtpoejeambnbcaaaGreat

namespace Go.Proofs.YtpoejeambnbcaaaGreat
open Go.ChangeShapes Go.WideShapes Go.ChangeAt Go.RowKit
attribute [local irreducible] Go.Calls

end Go.Proofs.YtpoejeambnbcaaaGreat

namespace Go.Proofs.YtpoejeambnbcaaaGreat
open Go.ChangeShapes Go.WideShapes Go.ChangeAt Go.RowKit Go.Shelf
attribute [local irreducible] Go.Calls
attribute [local go_sem] Oper.semAt_some

end Go.Proofs.YtpoejeambnbcaaaGreat

namespace Go.Proofs.YtpoejeambnbcaaaGreat
open Go.ChangeShapes Go.WideShapes Go.ChangeAt Go.RowKit Go.Shelf
attribute [local irreducible] Go.Calls

end Go.Proofs.YtpoejeambnbcaaaGreat

namespace Go.Proofs.YtpoejeambnbcaaaGreat
open Go.ChangeShapes Go.WideShapes Go.ChangeAt Go.RowKit
attribute [local irreducible] Go.Calls

end Go.Proofs.YtpoejeambnbcaaaGreat

namespace Go.Proofs.YtpoejeambnbcaaaGreat
open Go.ChangeShapes Go.WideShapes Go.ChangeAt Go.RowKit Go.Shelf
attribute [local irreducible] Go.Calls

end Go.Proofs.YtpoejeambnbcaaaGreat
