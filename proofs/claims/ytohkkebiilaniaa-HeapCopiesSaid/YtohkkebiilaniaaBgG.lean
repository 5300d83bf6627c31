/- The document's fraction of two numbers; is a pair one. -/
import Derived.Test.YtohkkebiilaniaaBgF
namespace Go.Proofs.Ytohkkebiilaniaa
set_option linter.unusedVariables false
open Go.RowKit

theorem nat15 {n : Nat} (h : n < 18446744073709551616) : n < 65536 ^ 15 := by omega
end Go.Proofs.Ytohkkebiilaniaa
