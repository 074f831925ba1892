/- Raw runs at a time; lists of runs with one vector more. No program. No conditions. -/
import Derived.Test.YtibmldgbimjgfaaRleMath
namespace Go.Proofs.Ytibmldgbimjgfaa

/-- The vector of the last run of a list at just the time t. -/
def rawS (t : Int) (acc : Int × Int) (s : Sg) : Int × Int := if s.1 = t then s.2 else acc
def rawAt (l : List Sg) (t : Int) : Int × Int := l.foldl (rawS t) (0, 0)
theorem rawAt_step {l : List Sg} {k : Nat} {t : Int} (h : k < l.length) : rawAt (l.take (k + 1)) t = if ats l k = t then vls l k else rawAt (l.take k) t := by
  unfold rawAt ats vls
  rw [List.take_succ_eq_append_getElem h, List.foldl_append, getD_get _ _ _ h]
  rfl

/-- The vector that a list of runs ends with. -/
def lastV (f : List Sg) : Int × Int := if f.length = 0 then (0, 0) else vls f (f.length - 1)
/-- A list of runs with one vector more. -/
def withL (f : List Sg) (t : Int) (v : Int × Int) : List Sg := if v = lastV f then f else f ++ [(t, v)]
end Go.Proofs.Ytibmldgbimjgfaa
