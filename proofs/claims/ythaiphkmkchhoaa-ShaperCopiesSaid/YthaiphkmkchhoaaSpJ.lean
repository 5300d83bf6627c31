/- The joint spec of two, and the sum of two. -/
import Derived.Test.YthaiphkmkchhoaaSpH
import Derived.Test.YthaiphkmkchhoaaRowK
import Derived.BigRegion
namespace Go.Proofs.Ythaiphkmkchhoaa
open Go.RowKit RowK

def mx (x y : Int) : Int := if y > x then y else x
def mn (x y : Int) : Int := if y < x then y else x
def specA (a : Spc) : Value := .agg #[.int .i64 a.1, .int .i64 a.2.1, .int .i64 a.2.2.1, .int .i64 a.2.2.2.1, .int .i64 a.2.2.2.2]
def jointV (a b : Spc) : Spc := (mx a.1 b.1, mx a.2.1 b.2.1, mx a.2.2.1 b.2.2.1, mx a.2.2.2.1 b.2.2.2.1, mn a.2.2.2.2 b.2.2.2.2)
def sumV (a b : Spc) : Spc := (wrap64 (a.1 + b.1), wrap64 (a.2.1 + b.2.1), wrap64 (a.2.2.1 + b.2.2.1), mx a.2.2.2.1 b.2.2.2.1, mn a.2.2.2.2 b.2.2.2.2)
end Go.Proofs.Ythaiphkmkchhoaa
