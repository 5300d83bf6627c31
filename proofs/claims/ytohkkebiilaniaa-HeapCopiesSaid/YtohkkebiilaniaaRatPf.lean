/- The program's sum of two fractions. -/
import Derived.Test.YtohkkebiilaniaaRatPe
import Derived.Deep.DeepCutAuto
import Derived.Deep.RegionHeld3
namespace Go.Proofs.Ytohkkebiilaniaa
open Go.RowKit

/-- what a fraction's parts are, as numbers without a sign. -/
def Parts (n d : Int) (N D : Nat) : Prop :=
  n.natAbs = N ∧ d = (D : Int) ∧ N < 9223372036854775808 ∧ 0 < D ∧ D < 9223372036854775808 ∧ Nat.gcd N D = 1
theorem small_mul {a b : Nat} (ha : a < 9223372036854775808) (hb : b < 9223372036854775808) : a * b < 85070591730234615865843651857942052864 := by
  have h1 : a * b ≤ 9223372036854775807 * 9223372036854775807 := Nat.mul_le_mul (by omega) (by omega)
  have h2 : 9223372036854775807 * 9223372036854775807 < 85070591730234615865843651857942052864 := by decide
  omega

/-- how a call ends that tells (N, D) where nothing was wrong, and gives up by a number elsewhere. -/
def ratEnd (r : Int × Int × Int) : Ending :=
  if r.2.2 = 0 then .returned (.agg #[.int .i64 r.1, .int .i64 r.2.1]) else errPanic r.2.2
theorem ratEnd_fits (b : Bool) (n d : Nat) (h : n < 9223372036854775808 ∧ d < 9223372036854775808) :
    ratEnd (RM.fracP b n d) = .returned (.agg #[.int .i64 (RM.sgn b n), .int .i64 d]) := by
  simp [ratEnd, RM.fracP, h]
theorem ratEnd_not (b : Bool) (n d : Nat) (h : ¬ (n < 9223372036854775808 ∧ d < 9223372036854775808)) :
    ratEnd (RM.fracP b n d) = errPanic 110 := by
  simp only [ratEnd, RM.fracP, if_neg h]; rfl

end Go.Proofs.Ytohkkebiilaniaa
