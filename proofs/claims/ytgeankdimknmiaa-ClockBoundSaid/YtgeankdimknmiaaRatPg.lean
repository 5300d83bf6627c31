/- The program's product of two fractions. -/
import Derived.Test.YtgeankdimknmiaaRatPk
import Derived.Deep.DeepCutAuto
import Derived.Deep.RegionHeld3
namespace Go.Proofs.Ytgeankdimknmiaa
open Go.RowKit

theorem endOf_fits (b : Bool) (n d : Nat) (h : n < 9223372036854775808 ∧ d < 9223372036854775808) :
    endOf (RM.fracP b n d) = .returned (.agg #[.int .i64 (RM.sgn b n), .int .i64 d]) := by
  simp [endOf, RM.fracP, h]
theorem endOf_not (b : Bool) (n d : Nat) (h : ¬ (n < 9223372036854775808 ∧ d < 9223372036854775808)) :
    endOf (RM.fracP b n d) = errPanic 110 := by
  simp only [endOf, RM.fracP, if_neg h]; rfl
/-- what a fraction's parts are, as numbers without a sign. -/
def Parts2 (n : Int) (N D : Nat) : Prop :=
  n.natAbs = N ∧ N < 9223372036854775808 ∧ 0 < D ∧ D < 9223372036854775808 ∧ Nat.gcd N D = 1

end Go.Proofs.Ytgeankdimknmiaa
