/- The program's making of one, rounding, turning over. -/
import Derived.Test.YtohkkebiilaniaaRatPb
import Derived.Test.YtohkkebiilaniaaRatPd
import Derived.Deep.RegionWith
namespace Go.Proofs.Ytohkkebiilaniaa
open Go.RowKit

/-- a call that leaves the world alone, among draws; and behind draws of an earlier statement. -/
theorem still_quiet {P : Program} {f : FuncId} {args : Array Value} {w : World} {n : Nat} {v : Value}
    (h : Calls P f args (w.drewN n) fun e w' => e = .returned v ∧ w.drewN n = w') : Calls P f args (w.drewN n) fun e w' => e = .returned v ∧ ∃ m, w' = w.drewN m :=
  h.mono fun _ _ ⟨he, hw⟩ => ⟨he, n, hw.symm⟩
theorem still_quiet2 {P : Program} {f : FuncId} {args : Array Value} {w : World} {k n : Nat} {v : Value}
    (h : Calls P f args (w.drewN (k + n)) fun e w' => e = .returned v ∧ w.drewN (k + n) = w') : Calls P f args (w.drewN (k + n)) fun e w' => e = .returned v ∧ ∃ m, w' = w.drewN (k + m) :=
  h.mono fun _ _ ⟨he, hw⟩ => ⟨he, n, hw.symm⟩
theorem quiet_quiet2 {P : Program} {f : FuncId} {args : Array Value} {w : World} {k n : Nat} {v : Value}
    (h : Calls P f args (w.drewN (k + n)) fun e w' => e = .returned v ∧ ∃ m, w' = (w.drewN (k + n)).drewN m) : Calls P f args (w.drewN (k + n)) fun e w' => e = .returned v ∧ ∃ m, w' = w.drewN (k + m) :=
  h.mono fun _ _ ⟨he, m, hw⟩ => ⟨he, n + m, by rw [hw, World.drewN_drewN, Nat.add_assoc]⟩

theorem size_nat (n : Nat) (h1 : n < 9223372036854775808) (w : World) :
    Calls Try.prog 71 #[.int .i64 n] w fun e w' => e = .returned (.int .u64 n) ∧ w = w' :=
  (size_any n (by omega) (by omega) w).mono fun _ _ ⟨he, hw⟩ => ⟨by rw [he, Int.natAbs_natCast], hw⟩

def sgnOf (b : Bool) : Int := if b then -1 else 1
theorem sign_any (b : Bool) (w : World) :
    Calls Try.prog 69 #[.bool b] w fun e w' => e = .returned (.int .i64 (sgnOf b)) ∧ w = w' := by
  cases b
  · go_enter Try.func69, Try.ntmps69
    go_wp2
    go_ret
    exact ⟨rfl, rfl⟩
  · go_enter Try.func69, Try.ntmps69
    go_wp2
    go_ret
    exact ⟨rfl, rfl⟩

theorem floor_parts (n d : Int) (hd : 1 ≤ d) :
    (n.tmod d < 0 ∧ n.tdiv d - 1 = n / d) ∨ (¬ n.tmod d < 0 ∧ n.tdiv d = n / d) := by
  have h1 : d * n.tdiv d + n.tmod d = n := Int.mul_tdiv_add_tmod n d
  have h2 : (n.tmod d).natAbs < d.natAbs := by
    rw [Int.natAbs_tmod]; exact Nat.mod_lt _ (by omega)
  by_cases h : n.tmod d < 0
  · left
    refine ⟨h, ?_⟩
    exact ((Int.ediv_emod_unique (a := n) (b := d) (q := n.tdiv d - 1) (r := n.tmod d + d) (by omega)).2 ⟨by rw [Int.mul_sub]; omega, by omega, by omega⟩).1.symm
  · right
    refine ⟨h, ?_⟩
    exact ((Int.ediv_emod_unique (a := n) (b := d) (q := n.tdiv d) (r := n.tmod d) (by omega)).2 ⟨by omega, by omega, by omega⟩).1.symm
theorem ediv_bounds (n d : Int) (hd : 1 ≤ d) (h0 : -9223372036854775808 ≤ n) (h1 : n ≤ 9223372036854775807) : -9223372036854775808 ≤ n / d ∧ n / d ≤ 9223372036854775807 := by
  constructor
  · refine (Int.le_ediv_iff_mul_le (by omega)).2 ?_
    omega
  · have h2 := Int.ediv_mul_le n (b := d) (by omega)
    by_cases h : 0 ≤ n
    · have := Int.ediv_le_self d h; omega
    · have := Int.ediv_neg_of_neg_of_pos (by omega : n < 0) (by omega : 0 < d); omega

theorem two_lo (n : Nat) (h : n < 18446744073709551616) : Two n 0 n := ⟨by omega, by omega, h⟩
end Go.Proofs.Ytohkkebiilaniaa
