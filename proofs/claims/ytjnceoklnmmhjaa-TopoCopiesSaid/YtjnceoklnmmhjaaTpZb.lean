/- Maps: TopoCopies. -/
import Derived.Test.YtjnceoklnmmhjaaTpZa
namespace Go.Proofs.Ytjnceoklnmmhjaa.Tp
set_option linter.unusedVariables false
open Go.RowKit
theorem topoCopies_walk (n : Int) (A : Option Addr) (L : List Lk) (c : Nat) (many : Int) (hn : I64 n) (hc : L.length ≤ c) (hc2 : c ≤ maxLen) (hI : WideL L) (hm : I64 many) (w : World) (hA : Lie linkV 8 w w.heap.size A L) :
    Calls Try.prog 4 #[.int .i64 n, .slice A L.length c, .int .i64 many] w fun e w' => e = .returned (.bool true) ∧ Below w.heap.size w w' := by
  by_cases h1 : 60 < L.length
  · exact copies_x0 n A L c many hc hc2 h1 w
  · by_cases h2 : many < 1
    · exact copies_x1 n A L c many hc hc2 h1 h2 w
    · by_cases h3 : 20 < many
      · exact copies_x2 n A L c many hc hc2 h1 h2 h3 w
      · by_cases hE : errN n L = 0
        · exact copies_yes n A L c many h1 h2 h3 hI hE w hA
        · exact copies_no n A L c many h1 h2 h3 hI hE w hA
end Go.Proofs.Ytjnceoklnmmhjaa.Tp
