/- What every law of the layer looks at besides: a half and a third, and two more. -/
import Derived.Test.YtgeankdimknmiaaGreatRatPm
import Derived.Test.YtgeankdimknmiaaGreatRatPl
namespace Go.Proofs.YtgeankdimknmiaaGreat
open Go.RowKit

end Go.Proofs.YtgeankdimknmiaaGreat
