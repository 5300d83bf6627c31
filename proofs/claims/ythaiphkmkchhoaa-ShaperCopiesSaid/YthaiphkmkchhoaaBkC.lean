/- Buckets: both kinds. -/
import Derived.Test.YthaiphkmkchhoaaBkB
import Derived.BigRegion
namespace Go.Proofs.Ythaiphkmkchhoaa
open Go.RowKit
set_option linter.unusedVariables false
/-- the two kinds in memory. -/
def KindsAt (w : World) (k : Nat) (p r u m : Int) (s : BM.St) : Prop :=
  w.heap[k]? = some (.cells #[.int .i64 s.2.1, .int .i64 u, .int .i64 r, .int .i64 s.2.2, .int .i64 m, .int .i64 p] 112 (0, 0))
set_option maxHeartbeats 2000000 in
theorem both_any {b : Nat} {p r u m l : Int} {s : BM.St} {w : World} (hB : BktAt w b p r u m l s) : Calls Try.prog 49 #[.pointer (some ⟨b, 0, none⟩)] w fun e w' =>
    e = .returned (.func (.func 56) #[] #[.pointer (some ⟨w.heap.size, 0, none⟩)]) ∧ ∃ q, w' = (w.alloc (.cells #[.int .i64 s.2.1, .int .i64 u, .int .i64 r, .int .i64 s.2.2, .int .i64 m, .int .i64 p] 112)).drewN q := by
  obtain ⟨lt, c0, c1, c2, c3, c4, c5, c6, c7, f5, f6, f7⟩ := hB
  generalize s.2.1 = x at *
  generalize s.2.2 = y at *
  clear c4 c5 f5 f6 f7
  go_enter Try.func49, Try.ntmps49
  go_wp2_with fail
  go_region
  all_goals go_wp2_with fail
  all_goals go_ret
  all_goals exact ⟨rfl, 1, rfl⟩
end Go.Proofs.Ythaiphkmkchhoaa
