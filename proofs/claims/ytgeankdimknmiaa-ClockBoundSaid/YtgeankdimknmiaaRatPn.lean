/- What every law of the layer looks at besides: a half and a third, and two more. -/
import Derived.Test.YtgeankdimknmiaaRatPm
import Derived.Test.YtgeankdimknmiaaRatPl
namespace Go.Proofs.Ytgeankdimknmiaa
open Go.RowKit

end Go.Proofs.Ytgeankdimknmiaa
