/- Is a spec one: the look over the musts. -/
import Derived.Test.YtpgaklfgbioocaaSpA
namespace Go.Proofs.Ytpgaklfgbioocaa
open Go.RowKit

end Go.Proofs.Ytpgaklfgbioocaa
