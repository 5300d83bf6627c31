/- Specs: what is told of how many bytes are allowed. -/
import Derived.Test.YthaiphkmkchhoaaSpC
namespace Go.Proofs.Ythaiphkmkchhoaa
open Go.RowKit

/-- what Allows answers. -/
def allowsR (p r u m l t : Int) : Int × Int := if rightB p r u m l = true ∧ tickB t = true then (allowsV p r u m t, 0) else (0, 2)
end Go.Proofs.Ythaiphkmkchhoaa
