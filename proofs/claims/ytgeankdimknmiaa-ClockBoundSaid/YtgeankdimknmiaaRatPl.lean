/- The faces of rounding. -/
import Derived.Test.YtgeankdimknmiaaRatPk
namespace Go.Proofs.Ytgeankdimknmiaa
open Go.RowKit

theorem right_bounds (n d : Int) (h0 : -9223372036854775808 ≤ n) (h : rightB n d = true) : 1 ≤ d ∧ -9223372036854775807 ≤ n := by
  have := of_decide_eq_true h
  exact ⟨this.1, by omega⟩

def floorR (n d : Int) : Int × Int := if rightB n d then (n / d, 0) else (0, 2)
def ceilR (n d : Int) : Int × Int := if rightB n d then (-(-n / d), 0) else (0, 2)

end Go.Proofs.Ytgeankdimknmiaa
