/- Joint, Sum and Within: what they answer. -/
import Derived.Test.YthaiphkmkchhoaaSpL
namespace Go.Proofs.Ythaiphkmkchhoaa
open Go.RowKit RowK

def z5 : Spc := (0, 0, 0, 0, 0)
def pairS (r : Spc × Int) : Value := .tuple #[specA r.1, .int .i64 r.2]
def jointR (L : List Spc) : Spc × Int := if noneB L = true then (z5, 2) else (acc jointV L (L.length - 1), 0)
def sumR (L : List Spc) : Spc × Int :=
  if noneB L = true then (z5, 2) else if (acc sumV L (L.length - 1)).1 > 1000000 ∨ (acc sumV L (L.length - 1)).2.2.1 > 10000000 then (z5, 3) else (acc sumV L (L.length - 1), 0)
end Go.Proofs.Ythaiphkmkchhoaa
