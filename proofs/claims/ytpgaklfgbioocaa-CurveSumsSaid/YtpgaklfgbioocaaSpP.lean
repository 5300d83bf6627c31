/- Sum and Within: what they answer. -/
import Derived.Test.YtpgaklfgbioocaaSpO
namespace Go.Proofs.Ytpgaklfgbioocaa
open Go.RowKit RowK

theorem HasSpec.new' {w : World} {b : Nat} (hb : w.heap.size = b) (t : TypeId) (p r u m l : Int) : HasSpec (w.alloc (.cells #[.int .i64 p, .int .i64 r, .int .i64 u, .int .i64 m, .int .i64 l] t)) b p r u m l := by
  subst hb; exact HasSpec.new w t p r u m l
/-- are two specs the same. -/
def sameB (a b : Spc) : Bool := a.1 == b.1 && a.2.1 == b.2.1 && a.2.2.1 == b.2.2.1 && a.2.2.2.1 == b.2.2.2.1 && a.2.2.2.2 == b.2.2.2.2
/-- what Within answers. -/
def withinR (a b : Spc) : Bool × Int := if rightS a = true ∧ rightS b = true then (sameB (jointV a b) b, 0) else (false, 2)
end Go.Proofs.Ytpgaklfgbioocaa
