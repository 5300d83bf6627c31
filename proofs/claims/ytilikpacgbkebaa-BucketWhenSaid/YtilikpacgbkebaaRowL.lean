/- The row's frame for curves: lists of lines are opened. -/
import Derived.Test.YtilikpacgbkebaaRowK
namespace Go.Proofs.Ytilikpacgbkebaa
namespace RowK
open Go.ChangeShapes Go.WideShapes Go.ChangeAt Go.RowKit Go.Joins Go.Deep

section
variable {H : Type} {enc : TypeId × Value → H} {w : World} {base : Nat} {spare : Nat → Bool} {held : Bool}
end
end RowK
end Go.Proofs.Ytilikpacgbkebaa
