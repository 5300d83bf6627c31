/- What every law of the layer looks at besides: a half and a third, and two more. -/
import Derived.Test.YtianceglbkcmpaaRatPm
import Derived.Test.YtianceglbkcmpaaRatPl
namespace Go.Proofs.Ytianceglbkcmpaa
open Go.RowKit

end Go.Proofs.Ytianceglbkcmpaa
