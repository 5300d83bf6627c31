/- Objects: what an object says (int64). -/
import Derived.Test.YtnneolkedekfbaaObH
namespace Go.Proofs.Ytnneolkedekfbaa
set_option linter.unusedVariables false
open Go.RowKit


def HeardI (g : Bool) (x : Int) (w : World) (e : Ending) (w' : World) : Prop := Below w.heap.size w w' ∧ ((g = true ∧ e = .returned (.tuple #[.int .i64 x, .int .i64 0])) ∨ (g = false ∧ e = .returned (.tuple #[.int .i64 0, .int .i64 171])))
def HeardOneI (g : Bool) (x : Int) (w : World) (e : Ending) (w' : World) : Prop := Below w.heap.size w w' ∧ ((g = true ∧ e = .returned (.int .i64 x)) ∨ (g = false ∧ e = errPanic 171))
end Go.Proofs.Ytnneolkedekfbaa
