/- A fraction out of two words each, or the panic that tells that it does not fit. -/
import Derived.Test.YtohkkebiilaniaaRatPa
namespace Go.Proofs.Ytohkkebiilaniaa
open Go.RowKit

theorem zs4 {a b : Nat} (h : a + 3 < b) : a < b ∧ a + 1 < b ∧ a + 1 + 1 < b ∧ a + 1 + 1 + 1 < b := by omega

end Go.Proofs.Ytohkkebiilaniaa
