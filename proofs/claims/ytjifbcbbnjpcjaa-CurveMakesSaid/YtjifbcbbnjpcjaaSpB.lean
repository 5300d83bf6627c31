/- Is a spec one: the look over the musts. -/
import Derived.Test.YtjifbcbbnjpcjaaSpA
namespace Go.Proofs.Ytjifbcbbnjpcjaa
open Go.RowKit

end Go.Proofs.Ytjifbcbbnjpcjaa
