/- The program's making of one, rounding, turning over. -/
import Derived.Test.YtgeankdimknmiaaRatPb
import Derived.Test.YtgeankdimknmiaaRatPd
import Derived.Deep.RegionWith
namespace Go.Proofs.Ytgeankdimknmiaa
open Go.RowKit

/-- a call that leaves the world alone, among draws; and behind draws of an earlier statement. -/
theorem still_quiet {P : Program} {f : FuncId} {args : Array Value} {w : World} {n : Nat} {v : Value}
    (h : Calls P f args (w.drewN n) fun e w' => e = .returned v ∧ w.drewN n = w') : Calls P f args (w.drewN n) fun e w' => e = .returned v ∧ ∃ m, w' = w.drewN m :=
  h.mono fun _ _ ⟨he, hw⟩ => ⟨he, n, hw.symm⟩
theorem still_quiet2 {P : Program} {f : FuncId} {args : Array Value} {w : World} {k n : Nat} {v : Value}
    (h : Calls P f args (w.drewN (k + n)) fun e w' => e = .returned v ∧ w.drewN (k + n) = w') : Calls P f args (w.drewN (k + n)) fun e w' => e = .returned v ∧ ∃ m, w' = w.drewN (k + m) :=
  h.mono fun _ _ ⟨he, hw⟩ => ⟨he, n, hw.symm⟩
theorem quiet_quiet2 {P : Program} {f : FuncId} {args : Array Value} {w : World} {k n : Nat} {v : Value}
    (h : Calls P f args (w.drewN (k + n)) fun e w' => e = .returned v ∧ ∃ m, w' = (w.drewN (k + n)).drewN m) : Calls P f args (w.drewN (k + n)) fun e w' => e = .returned v ∧ ∃ m, w' = w.drewN (k + m) :=
  h.mono fun _ _ ⟨he, m, hw⟩ => ⟨he, n + m, by rw [hw, World.drewN_drewN, Nat.add_assoc]⟩

theorem size_nat (n : Nat) (h1 : n < 9223372036854775808) (w : World) :
    Calls Try.prog 74 #[.int .i64 n] w fun e w' => e = .returned (.int .u64 n) ∧ w = w' :=
  (size_any n (by omega) (by omega) w).mono fun _ _ ⟨he, hw⟩ => ⟨by rw [he, Int.natAbs_natCast], hw⟩

def sgnOf (b : Bool) : Int := if b then -1 else 1
theorem sign_any (b : Bool) (w : World) :
    Calls Try.prog 72 #[.bool b] w fun e w' => e = .returned (.int .i64 (sgnOf b)) ∧ w = w' := by
  cases b
  · go_enter Try.func72, Try.ntmps72
    go_wp2
    go_ret
    exact ⟨rfl, rfl⟩
  · go_enter Try.func72, Try.ntmps72
    go_wp2
    go_ret
    exact ⟨rfl, rfl⟩

theorem floor_parts (n d : Int) (hd : 1 ≤ d) :
    (n.tmod d < 0 ∧ n.tdiv d - 1 = n / d) ∨ (¬ n.tmod d < 0 ∧ n.tdiv d = n / d) := by
  have h1 : d * n.tdiv d + n.tmod d = n := Int.mul_tdiv_add_tmod n d
  have h2 : (n.tmod d).natAbs < d.natAbs := by
    rw [Int.natAbs_tmod]; exact Nat.mod_lt _ (by omega)
  by_cases h : n.tmod d < 0
  · left
    refine ⟨h, ?_⟩
    exact ((Int.ediv_emod_unique (a := n) (b := d) (q := n.tdiv d - 1) (r := n.tmod d + d) (by omega)).2 ⟨by rw [Int.mul_sub]; omega, by omega, by omega⟩).1.symm
  · right
    refine ⟨h, ?_⟩
    exact ((Int.ediv_emod_unique (a := n) (b := d) (q := n.tdiv d) (r := n.tmod d) (by omega)).2 ⟨by omega, by omega, by omega⟩).1.symm
theorem ediv_bounds (n d : Int) (hd : 1 ≤ d) (h0 : -9223372036854775808 ≤ n) (h1 : n ≤ 9223372036854775807) : -9223372036854775808 ≤ n / d ∧ n / d ≤ 9223372036854775807 := by
  constructor
  · refine (Int.le_ediv_iff_mul_le (by omega)).2 ?_
    omega
  · have h2 := Int.ediv_mul_le n (b := d) (by omega)
    by_cases h : 0 ≤ n
    · have := Int.ediv_le_self d h; omega
    · have := Int.ediv_neg_of_neg_of_pos (by omega : n < 0) (by omega : 0 < d); omega

theorem two_lo (n : Nat) (h : n < 18446744073709551616) : Two n 0 n := ⟨by omega, by omega, h⟩
theorem by_zero (n d : Int) (h : d = 0) (w : World) :
    Calls Try.prog 53 #[.int .i64 n, .int .i64 d] w fun e w' => e = errPanic 2 ∧ Below w.heap.size w w' := by
  subst h
  go_enter Try.func53, Try.ntmps53
  go_wp2
  exact ⟨rfl, rfl, by (repeat' (first | (with_reducible exact Below.refl _ _) | (with_reducible assumption) | (with_reducible apply Below.setCell) | (with_reducible apply Below.alloc) | (with_reducible apply Below.drew) | (with_reducible apply below_drewN) | (with_reducible refine Below.trans ?_ (Below.mono (by assumption) ?_)) | omega | (simp; done) | (simp; omega)))⟩

set_option maxHeartbeats 1000000 in
theorem by_ok (n d : Int) (h : ¬ d = 0) (h0 : -9223372036854775808 ≤ n) (h1 : n ≤ 9223372036854775807) (h2 : -9223372036854775808 ≤ d) (h3 : d ≤ 9223372036854775807)
    (f1 : n.natAbs / Nat.gcd n.natAbs d.natAbs < 9223372036854775808) (f2 : d.natAbs / Nat.gcd n.natAbs d.natAbs < 9223372036854775808) (w : World) :
    Calls Try.prog 53 #[.int .i64 n, .int .i64 d] w fun e w' => e = .returned (.agg #[.int .i64 (RM.sgn (decide (n < 0) != decide (d < 0)) (n.natAbs / Nat.gcd n.natAbs d.natAbs)), .int .i64 (d.natAbs / Nat.gcd n.natAbs d.natAbs : Nat)]) ∧ Below w.heap.size w w' := by
  have hg : 0 < Nat.gcd n.natAbs d.natAbs := Nat.gcd_pos_of_pos_right _ (by omega)
  have hg2 : Nat.gcd n.natAbs d.natAbs ≤ d.natAbs := Nat.gcd_le_right _ (by omega)
  have hN : n.natAbs < 18446744073709551616 := by omega
  have hD : d.natAbs < 18446744073709551616 := by omega
  have cs1 := fun w => size_any n h0 h1 w
  have cs2 := fun w => size_any d h2 h3 w
  have cg := fun w => divisor_any n.natAbs d.natAbs hN hD w
  have cf := fun w => fraction_ok (decide (n < 0) != decide (d < 0)) _ _ 0 _ 0 _ (two_lo _ (by omega)) (two_lo _ (by omega)) f1 f2 w
  have hd0 : (d == 0) = false := beq_eq_false_iff_ne.2 h
  generalize n.natAbs = N at *
  generalize d.natAbs = D at *
  generalize Nat.gcd N D = G at *
  have e1 : (N : Int) / (G : Int) = ((N / G : Nat) : Int) := rfl
  have e2 : (D : Int) / (G : Int) = ((D / G : Nat) : Int) := rfl
  have e3 : IntKind.u64.wrap ((N / G : Nat) : Int) = ((N / G : Nat) : Int) := wrap_lt _ (by omega)
  have e4 : IntKind.u64.wrap ((D / G : Nat) : Int) = ((D / G : Nat) : Int) := wrap_lt _ (by omega)
  generalize N / G = A at *
  generalize D / G = B at *
  have hG1 : (1 : Int) ≤ (G : Int) := by omega
  have hG2 : ¬ G = 0 := by omega
  go_enter Try.func53, Try.ntmps53
  go_wp2_with fail
  refine (cs1 _).mono ?_
  rintro e w1 ⟨rfl, rfl⟩
  go_wp2_with fail
  refine (cs2 _).mono ?_
  rintro e w1 ⟨rfl, rfl⟩
  go_wp2_with fail
  refine (cg _).mono ?_
  rintro e w1 ⟨rfl, k, rfl⟩
  go_wp2_with fail
  go_region_with (first | (go_at_call_of 74 (Value.int IntKind.i64 n); refine (cs1 _).mono ?_; rintro e w1 ⟨rfl, rfl⟩) | (go_at_call_of 74 (Value.int IntKind.i64 d); refine (cs2 _).mono ?_; rintro e w1 ⟨rfl, rfl⟩) | (go_at_call 77; refine (cf _).mono ?_; rintro e w2 ⟨rfl, hb⟩; obtain ⟨hc, hf⟩ := bcell hb; have z0 : w.heap.size < w2.heap.size := Nat.lt_of_lt_of_le (by simp) hb.size))
  go_wp2_with fail
  exact bodyPost_ret (v := .agg #[.int .i64 (RM.sgn (decide (n < 0) != decide (d < 0)) A), .int .i64 B]) (by simp [results, Try.results53, go_sem, *]) rfl ⟨rfl, by (repeat' (first | (with_reducible exact Below.refl _ _) | (with_reducible assumption) | (with_reducible apply Below.setCell) | (with_reducible apply Below.alloc) | (with_reducible apply Below.drew) | (with_reducible apply below_drewN) | (with_reducible refine Below.trans ?_ (Below.mono (by assumption) ?_)) | omega | (simp; done) | (simp; omega)))⟩
set_option maxHeartbeats 1000000 in
theorem by_no (n d : Int) (h : ¬ d = 0) (h0 : -9223372036854775808 ≤ n) (h1 : n ≤ 9223372036854775807) (h2 : -9223372036854775808 ≤ d) (h3 : d ≤ 9223372036854775807)
    (f1 : ¬ (n.natAbs / Nat.gcd n.natAbs d.natAbs < 9223372036854775808 ∧ d.natAbs / Nat.gcd n.natAbs d.natAbs < 9223372036854775808)) (w : World) :
    Calls Try.prog 53 #[.int .i64 n, .int .i64 d] w fun e w' => e = errPanic 110 ∧ Below w.heap.size w w' := by
  have hg : 0 < Nat.gcd n.natAbs d.natAbs := Nat.gcd_pos_of_pos_right _ (by omega)
  have hg2 : Nat.gcd n.natAbs d.natAbs ≤ d.natAbs := Nat.gcd_le_right _ (by omega)
  have hN : n.natAbs < 18446744073709551616 := by omega
  have hD : d.natAbs < 18446744073709551616 := by omega
  have q1 : n.natAbs / Nat.gcd n.natAbs d.natAbs < 18446744073709551616 := Nat.lt_of_le_of_lt (Nat.div_le_self _ _) hN
  have q2 : d.natAbs / Nat.gcd n.natAbs d.natAbs < 18446744073709551616 := Nat.lt_of_le_of_lt (Nat.div_le_self _ _) hD
  have cs1 := fun w => size_any n h0 h1 w
  have cs2 := fun w => size_any d h2 h3 w
  have cg := fun w => divisor_any n.natAbs d.natAbs hN hD w
  have cf := fun w => fraction_no (decide (n < 0) != decide (d < 0)) _ _ 0 _ 0 _ (two_lo _ q1) (two_lo _ q2) f1 w
  have hd0 : (d == 0) = false := beq_eq_false_iff_ne.2 h
  generalize n.natAbs = N at *
  generalize d.natAbs = D at *
  generalize Nat.gcd N D = G at *
  have e1 : (N : Int) / (G : Int) = ((N / G : Nat) : Int) := rfl
  have e2 : (D : Int) / (G : Int) = ((D / G : Nat) : Int) := rfl
  have e3 : IntKind.u64.wrap ((N / G : Nat) : Int) = ((N / G : Nat) : Int) := wrap_lt _ (by assumption)
  have e4 : IntKind.u64.wrap ((D / G : Nat) : Int) = ((D / G : Nat) : Int) := wrap_lt _ (by assumption)
  generalize N / G = A at *
  generalize D / G = B at *
  have hG1 : (1 : Int) ≤ (G : Int) := by omega
  have hG2 : ¬ G = 0 := by omega
  go_enter Try.func53, Try.ntmps53
  go_wp2_with fail
  refine (cs1 _).mono ?_
  rintro e w1 ⟨rfl, rfl⟩
  go_wp2_with fail
  refine (cs2 _).mono ?_
  rintro e w1 ⟨rfl, rfl⟩
  go_wp2_with fail
  refine (cg _).mono ?_
  rintro e w1 ⟨rfl, k, rfl⟩
  go_wp2_with fail
  go_region_with (first | (go_at_call_of 74 (Value.int IntKind.i64 n); refine (cs1 _).mono ?_; rintro e w1 ⟨rfl, rfl⟩) | (go_at_call_of 74 (Value.int IntKind.i64 d); refine (cs2 _).mono ?_; rintro e w1 ⟨rfl, rfl⟩) | (go_at_call 77; suffices _hdm : wpAny Try.prog .any #[] (fun _ _ _ => True) 0 #[] { tmps := #[], defers := [] } w by (refine (cf _).mono ?_; rintro e w2 ⟨rfl, hb⟩; exact ⟨rfl, rfl, by (repeat' (first | (with_reducible exact Below.refl _ _) | (with_reducible assumption) | (with_reducible apply Below.setCell) | (with_reducible apply Below.alloc) | (with_reducible apply Below.drew) | (with_reducible apply below_drewN) | (with_reducible refine Below.trans ?_ (Below.mono (by assumption) ?_)) | omega | (simp; done) | (simp; omega)))⟩)))
  trivial
end Go.Proofs.Ytgeankdimknmiaa
