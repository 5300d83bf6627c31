/- The program's difference and quotient. -/
import Derived.Test.YtgeankdimknmiaaRatPm
import Derived.Test.YtgeankdimknmiaaRatSh
namespace Go.Proofs.Ytgeankdimknmiaa
open Go.RowKit

def subT (x d y e : Int) : Int × Int × Int := RM.plusR x d (-y) e
def divT (x d y e : Int) : Int × Int × Int := if y = 0 then (0, 0, 2) else if y < 0 then RM.timesR x d (-e) (-y) else RM.timesR x d e y
theorem subT_clean (x d y e : Int) : Clean (subT x d y e) := fracN_clean _ _ _
theorem divT_clean (x d y e : Int) : Clean (divT x d y e) := by
  unfold divT
  split
  · simp [Clean]
  · split <;> exact fracN_clean _ _ _
def subR (x d y e : Int) : Int × Int × Int := if rightB x d && rightB y e then subT x d y e else (0, 0, 2)
def divR (x d y e : Int) : Int × Int × Int := if rightB x d && rightB y e then divT x d y e else (0, 0, 2)
end Go.Proofs.Ytgeankdimknmiaa
