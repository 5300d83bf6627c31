/- The program's sum and product, of any two fractions. -/
import Derived.Test.YtohkkebiilaniaaRatPf
import Derived.Test.YtohkkebiilaniaaRatPg
import Derived.Test.YtohkkebiilaniaaRatMm
namespace Go.Proofs.Ytohkkebiilaniaa
open Go.RowKit

theorem tog_same (p : Bool) (x : Nat) (q : Bool) (y : Nat) : tog p x q y = RM.tog2 p x q y := rfl
theorem ratEnd_same (r : Int × Int × Int) : ratEnd r = endOf r := rfl
theorem right_parts (n d : Int) (h0 : -9223372036854775808 ≤ n) (h1 : n ≤ 9223372036854775807) (h3 : d ≤ 9223372036854775807) (h : rightB n d = true) :
    Parts2 n n.natAbs d.natAbs ∧ d = (d.natAbs : Int) := by
  have := of_decide_eq_true h
  exact ⟨⟨rfl, by omega, by omega, by omega, this.2.2⟩, by omega⟩

def addR (x d y e : Int) : Int × Int × Int := if rightB x d && rightB y e then RM.plusR x d y e else (0, 0, 2)
def mulR (x d y e : Int) : Int × Int × Int := if rightB x d && rightB y e then RM.timesR x d y e else (0, 0, 2)
theorem plusR_clean (x d y e : Int) : Clean (RM.plusR x d y e) := fracN_clean _ _ _
theorem timesR_clean (x d y e : Int) : Clean (RM.timesR x d y e) := fracN_clean _ _ _
end Go.Proofs.Ytohkkebiilaniaa
