/- The ticks of two senders, one behind the other; how many bytes one sends from a tick to a tick. -/
import Derived.Test.YthaiphkmkchhoaaSpR
import Derived.Test.YthaiphkmkchhoaaSmA
namespace Go.Proofs.Ythaiphkmkchhoaa
set_option linter.unusedVariables false
open Go.RowKit RowK

theorem av_at {L : List (Int × Int)} {i : Nat} (h : i < L.length) : L[i].1 = SM.av L i ∧ L[i].2 = SM.sv L i := by
  simp [SM.av, SM.sv, List.getD_eq_getElem?_getD, List.getElem?_eq_getElem h]
def tickV (X Y : List (Int × Int)) (i : Nat) : Int := if i < X.length then SM.av X i else SM.av Y (i - X.length)
def sentV (L : List (Int × Int)) (f t : Int) (k : Nat) : Int := SM.sentN (SM.av L) (SM.sv L) f t k
end Go.Proofs.Ythaiphkmkchhoaa
