/- What every law of the layer looks at besides: a half and a third, and two more. -/
import Derived.Test.YtohkkebiilaniaaRatPm
import Derived.Test.YtohkkebiilaniaaRatPl
namespace Go.Proofs.Ytohkkebiilaniaa
open Go.RowKit

end Go.Proofs.Ytohkkebiilaniaa
