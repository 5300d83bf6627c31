/- What every law of the layer looks at besides: a half and a third, and two more. -/
import Derived.Test.YtokcalmmmfakcaaGreatRatPm
import Derived.Test.YtokcalmmmfakcaaGreatRatPl
namespace Go.Proofs.YtokcalmmmfakcaaGreat
open Go.RowKit

end Go.Proofs.YtokcalmmmfakcaaGreat
