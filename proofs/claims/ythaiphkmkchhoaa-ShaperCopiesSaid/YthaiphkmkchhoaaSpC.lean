/- Specs: how many bytes are allowed. -/
import Derived.Test.YthaiphkmkchhoaaSpB
namespace Go.Proofs.Ythaiphkmkchhoaa
open Go.RowKit

/-- is it a tick. -/
def tickB (n : Int) : Bool := decide (0 ≤ n ∧ n ≤ 2147483647)
theorem rate_bounds {b t : Int} (h0 : 0 ≤ b) (h1 : b ≤ 1000000) (k0 : 0 ≤ t) (k1 : t ≤ 2147483647) : 0 ≤ b * t ∧ b * t ≤ 2200000000000000 := by
  refine ⟨Int.mul_nonneg h0 k0, ?_⟩
  have : b * t ≤ 1000000 * 2147483647 := Int.mul_le_mul h1 k1 k0 (by decide)
  omega
/-- how many bytes a spec allows. -/
def allowsV (p r u m t : Int) : Int := if u + r * t < m + p * t then u + r * t else m + p * t
end Go.Proofs.Ythaiphkmkchhoaa
