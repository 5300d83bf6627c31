/- Buckets: packets one behind the other. -/
import Derived.Test.YthaiphkmkchhoaaBkL
import Derived.Test.YthaiphkmkchhoaaSpE
namespace Go.Proofs.Ythaiphkmkchhoaa
open Go.RowKit
set_option linter.unusedVariables false
namespace BM
/-- behind many packets. -/
def run (p r u m l : Int) (s : St) : List (Int × Int) → St
  | [] => s
  | x :: L => run p r u m l (step p r u m l s x.1 x.2).1 L
theorem run_snoc (p r u m l : Int) : ∀ (L : List (Int × Int)) (s : St) (x : Int × Int), run p r u m l s (L ++ [x]) = (step p r u m l (run p r u m l s L) x.1 x.2).1
  | [], s, x => rfl
  | y :: L, s, x => run_snoc p r u m l L _ x
theorem run_take (p r u m l : Int) (s : St) (L : List (Int × Int)) {i : Nat} (hi : i < L.length) : run p r u m l s (L.take (i + 1)) = (step p r u m l (run p r u m l s (L.take i)) L[i].1 L[i].2).1 := by
  rw [List.take_succ_eq_append_getElem hi, run_snoc]
theorem run_ok {p r u m l : Int} (hl : 1 ≤ l) : ∀ {L : List (Int × Int)} {s : St}, Ok u m s → Ok u m (run p r u m l s L)
  | [], s, h => h
  | x :: L, s, h => run_ok hl (L := L) (step_ok h hl x.1 x.2)
theorem ok_first {p r u m l : Int} (h : rightB p r u m l = true) : Ok u m (0, u, m) := by
  have := rightB_iff h
  refine ⟨?_, ?_, ?_, ?_, ?_, ?_⟩ <;> dsimp only <;> omega
end BM
end Go.Proofs.Ythaiphkmkchhoaa
