/- Is a spec one: the look over the musts. -/
import Derived.Test.YtjnceoklnmmhjaaGreatZpA
namespace Go.Proofs.YtjnceoklnmmhjaaGreat.Zp
open Go.RowKit

end Go.Proofs.YtjnceoklnmmhjaaGreat.Zp
