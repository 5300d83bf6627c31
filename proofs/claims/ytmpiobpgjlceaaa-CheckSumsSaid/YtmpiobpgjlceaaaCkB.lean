/- Sums under way: the program's small functions. -/
import Derived.RangeFuncNested
import Derived.RangeFuncBound
import Derived.RangeFuncCalls
import Derived.RangeFuncLeaves
import Derived.RangeFuncBox
import Derived.Shelf.Abstract
import Derived.Shelf.RegionOpen
import Derived.OwnWalkIn
import Derived.TacticsInMore
import Derived.LoopNIn
import Derived.LoopIn
import Derived.Test.YtmpiobpgjlceaaaCkM
namespace Go.Proofs.Ytmpiobpgjlceaaa
set_option linter.unusedVariables false
open Go.RowKit Go.Shelf
attribute [local go_sem] Oper.semAt_some

set_option maxHeartbeats 1000000 in
theorem together_any (a b : Int) (ha : W16 a) (hb : W16 b) (w : World) : Calls Try.prog 28 #[.int .u16 a, .int .u16 b] w fun e w' => e = .returned (.int .u16 (put a b)) ∧ w = w' := by
  obtain ⟨a0, a1⟩ := ha
  obtain ⟨b0, b1⟩ := hb
  by_cases h : a + b > 65535
  · have e1 : IntKind.u16.wrap (a + b) = a + b - 65536 := by rw [IntKind.wrap_u16]; omega
    have e2 : IntKind.u16.wrap (a + b - 65536 + 1) = put a b := by rw [IntKind.wrap_u16]; unfold put; rw [if_pos h]; omega
    have e3 : a + b - 65536 < b := by omega
    go_enter Try.func28, Try.ntmps28
    go_wp2_with fail
    go_ret
    exact ⟨rfl, rfl⟩
  · have e1 : IntKind.u16.wrap (a + b) = a + b := by rw [IntKind.wrap_u16]; omega
    have e2 : put a b = a + b := by unfold put; rw [if_neg h]
    have e3 : ¬ (a + b < b) := by omega
    rw [e2]
    clear e2
    go_enter Try.func28, Try.ntmps28
    go_wp2_with fail
    go_ret
    exact ⟨rfl, rfl⟩
theorem hi_shl {h : Int} (h0 : 0 ≤ h) (h1 : h ≤ 255) : IntKind.u16.wrap (h * 256) = 256 * h := by rw [IntKind.wrap_u16]; omega
set_option maxHeartbeats 1000000 in
theorem filled_any (ad : Addr) (h : Int) (h0 : 0 ≤ h) (h1 : h ≤ 255) (w : World) (hc : w.cell? ad = some (.int .u8 h)) : Calls Try.prog 29 #[.pointer (some ad)] w fun e w' => e = .returned (.int .u16 (256 * h)) ∧ w = w' := by
  go_enter Try.func29, Try.ntmps29
  go_wp2_with fail
  go_ret
  exact ⟨ret_int (by omega), rfl⟩
theorem isNone_nil (w : World) : Calls Try.prog 25 #[.pointer none] w fun e w' => e = .returned (.bool true) ∧ w = w' := by
  go_enter Try.func25, Try.ntmps25
  go_wp2_with fail
  go_ret
  exact ⟨rfl, rfl⟩
theorem isNone_any (b : Nat) (m : Bool) (w : World) (hc : w.cell? ⟨b, 3, none⟩ = some (.bool m)) : Calls Try.prog 25 #[.pointer (some ⟨b, 0, none⟩)] w fun e w' => e = .returned (.bool (!m)) ∧ w = w' := by
  go_enter Try.func25, Try.ntmps25
  go_wp2_with fail
  go_ret
  exact ⟨rfl, rfl⟩
theorem pairs_in (F : Fence) (n : Nat) (hf : F.fn 31) (hro : F.round = none) (p : Option Addr) (A : Option Addr) (m c : Nat) (w : World) :
    CallsIn F n Try.prog 31 #[.pointer p, .slice A m c] w fun e w' => e = .returned (.func (.func 33) #[] #[.pointer (some ⟨w.heap.size + 1, 0, none⟩), .pointer (some ⟨w.heap.size, 0, none⟩)]) ∧ w' = (w.alloc (.cells #[.pointer p] 59)).alloc (.cells #[.slice A m c] 22) := by
  refine callsIn_of_wp Try.func31 rfl hf ?_ hro
  simp only [Try.ntmps31, List.size_toArray, List.length_cons, List.length_nil, Nat.reduceAdd, Nat.reduceSub, Array.replicate_succ, Array.replicate_zero, List.push_toArray, List.append_toArray, List.nil_append, List.cons_append]
  gi_wp2
  go_ret
  exact ⟨rfl, rfl⟩
end Go.Proofs.Ytmpiobpgjlceaaa
