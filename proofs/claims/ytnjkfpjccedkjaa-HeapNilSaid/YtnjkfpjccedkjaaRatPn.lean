/- What every law of the layer looks at besides: a half and a third, and two more. -/
import Derived.Test.YtnjkfpjccedkjaaRatPm
import Derived.Test.YtnjkfpjccedkjaaRatPl
namespace Go.Proofs.Ytnjkfpjccedkjaa
open Go.RowKit

end Go.Proofs.Ytnjkfpjccedkjaa
