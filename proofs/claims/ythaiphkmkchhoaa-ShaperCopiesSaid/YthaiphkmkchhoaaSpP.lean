/- Sum and Within: what they answer. -/
import Derived.Test.YthaiphkmkchhoaaSpO
namespace Go.Proofs.Ythaiphkmkchhoaa
open Go.RowKit RowK

theorem HasSpec.new' {w : World} {b : Nat} (hb : w.heap.size = b) (t : TypeId) (p r u m l : Int) : HasSpec (w.alloc (.cells #[.int .i64 p, .int .i64 r, .int .i64 u, .int .i64 m, .int .i64 l] t)) b p r u m l := by
  subst hb; exact HasSpec.new w t p r u m l
/-- are two specs the same. -/
def sameB (a b : Spc) : Bool := a.1 == b.1 && a.2.1 == b.2.1 && a.2.2.1 == b.2.2.1 && a.2.2.2.1 == b.2.2.2.1 && a.2.2.2.2 == b.2.2.2.2
theorem same_run (a0 a1 a2 a3 a4 b0 b1 b2 b3 b4 : Int) (w : World) :
    (Op.equalIn 10000 23 (.agg #[.int .i64 a0, .int .i64 a1, .int .i64 a2, .int .i64 a3, .int .i64 a4]) (.agg #[.int .i64 b0, .int .i64 b1, .int .i64 b2, .int .i64 b3, .int .i64 b4])).run Try.prog w = .ok (sameB (a0, a1, a2, a3, a4) (b0, b1, b2, b3, b4)) w := by
  unfold sameB
  by_cases h0 : a0 = b0 <;> by_cases h1 : a1 = b1 <;> by_cases h2 : a2 = b2 <;> by_cases h3 : a3 = b3 <;> by_cases h4 : a4 = b4 <;> simp [go_sem, Op.eqFields, *]
theorem same_bin (a0 a1 a2 a3 a4 b0 b1 b2 b3 b4 : Int) (w : World) :
    (binOp .eql 23 (.agg #[.int .i64 a0, .int .i64 a1, .int .i64 a2, .int .i64 a3, .int .i64 a4]) (.agg #[.int .i64 b0, .int .i64 b1, .int .i64 b2, .int .i64 b3, .int .i64 b4])).run Try.prog w = .ok (.bool (sameB (a0, a1, a2, a3, a4) (b0, b1, b2, b3, b4))) w := by
  rw [run_eql_struct, same_run]; rfl
/-- what Within answers. -/
def withinR (a b : Spc) : Bool × Int := if rightS a = true ∧ rightS b = true then (sameB (jointV a b) b, 0) else (false, 2)
end Go.Proofs.Ythaiphkmkchhoaa
