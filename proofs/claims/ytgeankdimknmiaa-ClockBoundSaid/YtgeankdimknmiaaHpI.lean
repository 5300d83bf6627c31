/- Heaps: Set. -/
import Derived.Test.YtgeankdimknmiaaHpH
namespace Go.Proofs.Ytgeankdimknmiaa.Hp
set_option linter.unusedVariables false
open Go.RowKit Go.Maps Go.Sort Go.Proofs.Ytgeankdimknmiaa.Tp

theorem keyed_ok {x : It} (hx : OkI x) {n d : Int} (h0 : -9223372036854775808 ≤ n) (h1 : n ≤ 9223372036854775807) (h2 : -9223372036854775808 ≤ d) (h3 : d ≤ 9223372036854775807) (hr : rightB n d = true) : OkI (keyed x n d) := ⟨h0, h1, h2, h3, hr, hx.i0, hx.i1, hx.t0, hx.t1⟩
end Go.Proofs.Ytgeankdimknmiaa.Hp
