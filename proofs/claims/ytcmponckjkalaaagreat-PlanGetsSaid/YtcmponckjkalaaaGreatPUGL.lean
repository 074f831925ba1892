/- The contract of (slide).over. No conditions but sizes, and that the slices' cells read as integers. The contract of span.Over. No conditions but the list's size, and that the slice's cells read as integers. The contracts of the document's own windows: may, bad, Low, High, Total, Sum. No conditions but the list's size. The contracts of the document's own sum of a window. No .. -/
import Derived.Test.YtcmponckjkalaaaGreatPUGK
import Derived.Test.YtcmponckjkalaaaGreatPUGH
import Derived.Test.YtcmponckjkalaaaGreatPUGG
import Derived.Test.YtcmponckjkalaaaGreatPUMB
import Derived.Test.YtcmponckjkalaaaGreatPUGA
import Derived.Test.YtcmponckjkalaaaGreatPUGJ
import Derived.Test.YtcmponckjkalaaaGreatPUGE
import Derived.Deep.DeepCutAuto
namespace Go.Proofs.YtcmponckjkalaaaGreat
section
open Go.ChangeShapes Go.WideShapes Go.ChangeAt Go.RowKit Go.Shelf
attribute [local irreducible] Go.Calls
end
section
open Go.ChangeShapes Go.WideShapes Go.ChangeAt Go.RowKit
attribute [local irreducible] Go.Calls
theorem rsame_s {w:World} {n m c1 c2:Nat} {a1 a2:Option Addr} {F G:List Sg} {b:Bool} (h1:SliS w (.slice a1 n c1) F) (h2:SliS w (.slice a2 m c2) G) (he:sameB F G=b) :
  Calls Tryz.prog 47 #[.slice a1 n c1,.slice a2 m c2] w fun e w'=>e = .returned (.bool b)∧Below w.heap.size w w':=by
 obtain ⟨e1,q1,q2,q3⟩:=h1.len;obtain ⟨e2,s1,s2,s3⟩:=h2.len
 subst e1;subst e2;subst he
 exact rsame_c F G a1 a2 c1 c2 w (by omega) (by omega) q3 s3
end
end Go.Proofs.YtcmponckjkalaaaGreat
