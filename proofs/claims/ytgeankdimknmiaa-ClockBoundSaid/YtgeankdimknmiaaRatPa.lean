/- The program's small functions: what each call answers. -/
import Derived.Test.YtgeankdimknmiaaRows
import Derived.Test.YtgeankdimknmiaaRatM
import Derived.WalkKit
import Derived.WalkSpells
import Derived.WalkLawsBesides
import Derived.BigQuiet
import Derived.Deep.QuietTactic
import Derived.Lib.Mul64
import Derived.Laws.Bits64b
namespace Go.Proofs.Ytgeankdimknmiaa
open Go.RowKit

theorem hidd {p : Prop} (h : p) : Hid p := h
theorem quiet_below {w w' : World} (h : ∃ n, w' = w.drewN n) : Below w.heap.size w w' := by
  obtain ⟨n, rfl⟩ := h
  exact below_drewN (Below.refl _ _) n
theorem ret_int {k : IntKind} {a b : Int} (h : a = b) : Ending.returned (.int k a) = .returned (.int k b) := by rw [h]
theorem u64_neg (n : Int) (h0 : -9223372036854775808 ≤ n) (h : n < 0) : IntKind.u64.wrap (-IntKind.u64.wrap n) = (n.natAbs : Int) := by
  rw [IntKind.wrap_u64, IntKind.wrap_u64]; omega

theorem size_any (n : Int) (h0 : -9223372036854775808 ≤ n) (h1 : n ≤ 9223372036854775807) (w : World) :
    Calls Try.prog 74 #[.int .i64 n] w fun e w' => e = .returned (.int .u64 (n.natAbs : Int)) ∧ w = w' := by
  by_cases h : n < 0
  · go_enter Try.func74, Try.ntmps74
    go_wp2
    go_ret
    exact ⟨ret_int (u64_neg n h0 h), rfl⟩
  · go_enter Try.func74, Try.ntmps74
    go_wp2
    go_ret
    exact ⟨ret_int (by omega), rfl⟩

theorem divisor_any (a b : Nat) (ha : a < 18446744073709551616) (hb : b < 18446744073709551616) (w : World) :
    Calls Try.prog 76 #[.int .u64 a, .int .u64 b] w fun e w' => e = .returned (.int .u64 (Nat.gcd a b : Nat)) ∧ ∃ n, w' = w.drewN n := by
  go_enter Try.func76, Try.ntmps76
  go_wp2
  go_loopw [0, 1] (fun s t wr => ∃ x y : Nat, x < 18446744073709551616 ∧ y < 18446744073709551616 ∧ Nat.gcd x y = Nat.gcd a b ∧ s = .int .u64 x ∧ t = .int .u64 y ∧ ∃ n, wr = w.drewN n) (fun _ t _ => (intOf t).toNat)
  case atStart => exact ⟨a, b, ha, hb, rfl, rfl, rfl, 0, rfl⟩
  case round =>
    obtain ⟨x, y, hx, hy, hg, rfl, rfl, n, rfl⟩ := hrel
    have Hg := hidd hg
    clear hg
    by_cases h0 : y = 0
    · subst h0
      go_wp2
      go_ret
      exact ⟨ret_int (by rw [← Hg.out, Nat.gcd_zero_right]), n, rfl⟩
    · go_wp2
      go_quiet (fail)
      go_wp2
      go_roundw
      case rel => exact ⟨y, x % y, hy, by have := Nat.mod_lt x (Nat.pos_of_ne_zero h0); omega, by rw [Nat.gcd_comm, ← Nat.gcd_rec, Nat.gcd_comm]; exact Hg.out, rfl, by simp, n + nq, by rw [World.drewN_drewN]⟩
      case measure => have := Nat.mod_lt x (Nat.pos_of_ne_zero h0); simp [intOf]; omega

theorem lo32 (a : Nat) (ha : a < 18446744073709551616) : bits .and .u64 (a : Int) 4294967295 = ((a % 4294967296 : Nat) : Int) := by
  rw [show (4294967295 : Int) = ((4294967295 : Nat) : Int) from rfl, bits_and_u64_nat a 4294967295 ha (by omega)]
  exact congrArg (fun n : Nat => (n : Int)) (Nat.and_two_pow_sub_one_eq_mod a 32)
theorem up_div32 (a : Nat) : (a : Int) / 4294967296 = ((a / 4294967296 : Nat) : Int) := by omega
theorem up_mulN (a b : Nat) : (a : Int) * (b : Int) = ((a * b : Nat) : Int) := (Int.natCast_mul a b).symm
theorem up_addN (a b : Nat) : (a : Int) + (b : Int) = ((a + b : Nat) : Int) := (Int.natCast_add a b).symm
theorem wrap_lt (a : Nat) (ha : a < 18446744073709551616) : IntKind.u64.wrap (a : Int) = (a : Int) := by rw [IntKind.wrap_u64]; omega
theorem wrap_any (a : Nat) : IntKind.u64.wrap (a : Int) = ((a % 18446744073709551616 : Nat) : Int) := by rw [IntKind.wrap_u64]; omega

set_option maxHeartbeats 1000000 in
theorem mul64_any (x y : Nat) (hx : x < 18446744073709551616) (hy : y < 18446744073709551616) (w : World) :
    Calls Try.prog 87 #[.int .u64 x, .int .u64 y] w fun e w' => e = .returned (.tuple #[.int .u64 ((x * y / 18446744073709551616 : Nat) : Int), .int .u64 ((x * y % 18446744073709551616 : Nat) : Int)]) ∧ w = w' := by
  obtain ⟨f0, f1, f2, f3⟩ := Lib.mul64_hi x y hx hy
  have g0 := Lib.half_mul_le (a := x / 4294967296) (b := y / 4294967296) (by omega) (by omega)
  have g1 := Lib.half_mul_le (a := x / 4294967296) (b := y % 4294967296) (by omega) (by omega)
  have g2 := Lib.half_mul_le (a := x % 4294967296) (b := y / 4294967296) (by omega) (by omega)
  have k0 : x / 4294967296 * (y / 4294967296) < 18446744073709551616 := by omega
  have k1 : x / 4294967296 * (y % 4294967296) < 18446744073709551616 := by omega
  have k2 : x % 4294967296 * (y / 4294967296) < 18446744073709551616 := by omega
  have k3 : x / 4294967296 * (y / 4294967296) + (x / 4294967296 * (y % 4294967296) + x % 4294967296 * (y % 4294967296) / 4294967296) / 4294967296 < 18446744073709551616 := by omega
  have k4 : x / 4294967296 * (y / 4294967296) + (x / 4294967296 * (y % 4294967296) + x % 4294967296 * (y % 4294967296) / 4294967296) / 4294967296 + ((x / 4294967296 * (y % 4294967296) + x % 4294967296 * (y % 4294967296) / 4294967296) % 4294967296 + x % 4294967296 * (y / 4294967296)) / 4294967296 < 18446744073709551616 := by omega
  go_enter Try.func87, Try.ntmps87
  go_wp2
  simp only [lo32 x hx, lo32 y hy, up_div32, up_mulN, up_addN, wrap_lt _ f0, wrap_lt _ k1, wrap_lt _ f1, lo32 _ f1, wrap_lt _ k2, wrap_lt _ f2, wrap_lt _ k0, wrap_lt _ k3, wrap_lt _ k4, wrap_any (x * y)]
  rw [f3]
  go_ret2
  exact ⟨rfl, rfl⟩

/-- two words of a number. -/
def Two (n h l : Nat) : Prop := h * 18446744073709551616 + l = n ∧ h < 18446744073709551616 ∧ l < 18446744073709551616
def IsTwo (n : Nat) (w : World) (e : Ending) (w' : World) : Prop :=
  ∃ h l : Nat, Two n h l ∧ e = .returned (.tuple #[.int .u64 h, .int .u64 l]) ∧ w = w'
def IsWide (n : Nat) (w : World) (e : Ending) (w' : World) : Prop :=
  ∃ h l : Nat, Two n h l ∧ e = .returned (.agg #[.int .u64 h, .int .u64 l]) ∧ Below w.heap.size w w'

theorem mul64_two (x y : Nat) (hx : x < 18446744073709551616) (hy : y < 18446744073709551616) (w : World) :
    Calls Try.prog 87 #[.int .u64 x, .int .u64 y] w (IsTwo (x * y) w) :=
  (mul64_any x y hx hy w).mono fun _ _ ⟨he, hw⟩ => ⟨_, _, ⟨Nat.div_add_mod' _ _, (Nat.div_lt_iff_lt_mul (by decide)).2 (Nat.lt_of_le_of_lt (Nat.mul_le_mul_right y (Nat.le_of_lt hx)) (Nat.mul_lt_mul_of_pos_left hy (by decide))), Nat.mod_lt _ (by decide)⟩, he, hw⟩

theorem product_any (x y : Nat) (hx : x < 18446744073709551616) (hy : y < 18446744073709551616) (w : World) :
    Calls Try.prog 73 #[.int .u64 x, .int .u64 y] w (IsWide (x * y) w) := by
  go_enter Try.func73, Try.ntmps73
  go_wp2_with (go_at_call 87; refine (mul64_two _ _ hx hy _).mono ?_; rintro e w' ⟨h, l, hd, rfl, rfl⟩)
  exact bodyPost_ret (v := .agg #[.int .u64 h, .int .u64 l]) (by simp [results, Try.results73, go_sem]) rfl ⟨h, l, hd, rfl, (Below.refl _ _).alloc (Nat.le_refl _) _⟩

/-- the lesser of two of two words. -/
theorem less_any (a b c d : Int) (w : World) :
    Calls Try.prog 75 #[.agg #[.int .u64 a, .int .u64 b], .agg #[.int .u64 c, .int .u64 d]] w fun e w' => e = .returned (.bool (decide (a < c ∨ a = c ∧ b < d))) ∧ Below w.heap.size w w' := by
  rcases Int.lt_trichotomy a c with h | h | h
  · go_enter Try.func75, Try.ntmps75
    go_wp2
    go_ret
    exact ⟨by simp [h], ((Below.refl _ _).alloc (Nat.le_refl _) _).alloc (by simp) _⟩
  · subst h
    go_enter Try.func75, Try.ntmps75
    go_wp2
    go_ret
    exact ⟨by simp, ((Below.refl _ _).alloc (Nat.le_refl _) _).alloc (by simp) _⟩
  · have h1 : ¬ a < c := by omega
    have h2 : ¬ a = c := by omega
    have h3 : decide (a < c) = false := decide_eq_false h1
    have h4 : (a == c) = false := beq_eq_false_iff_ne.2 h2
    go_enter Try.func75, Try.ntmps75
    go_wp2
    go_ret
    exact ⟨by simp, ((Below.refl _ _).alloc (Nat.le_refl _) _).alloc (by simp) _⟩

theorem two_small (n h l : Nat) (hd : Two n h l) (hn : n < 9223372036854775808) : h = 0 ∧ l = n := by
  obtain ⟨h1, h2, h3⟩ := hd; omega
theorem two_big (n h l : Nat) (hd : Two n h l) (hn : ¬ n < 9223372036854775808) : (0 : Int) < h ∨ (0 : Int) = h ∧ (9223372036854775807 : Int) < l := by
  obtain ⟨h1, h2, h3⟩ := hd; omega
@[reducible] def errPanic (k : Int) : Ending := .panicked [{ v := .iface 28 (.int .i64 k), recovered := false }]

theorem minus_any (n d : Int) (h0 : -9223372036854775807 ≤ n) (h1 : n ≤ 9223372036854775807) (w : World) :
    Calls Try.prog 88 #[.agg #[.int .i64 n, .int .i64 d]] w fun e w' => e = .returned (.agg #[.int .i64 (-n), .int .i64 d]) ∧ Below w.heap.size w w' := by
  go_enter Try.func88, Try.ntmps88
  go_wp2
  exact bodyPost_ret (v := .agg #[.int .i64 (-n), .int .i64 d]) (by simp [results, Try.results88, go_sem]) rfl ⟨rfl, ((Below.refl _ _).alloc (Nat.le_refl _) _).alloc (by simp) _⟩

theorem less_yes (a b c d : Int) (h : a < c ∨ a = c ∧ b < d) (w : World) :
    Calls Try.prog 75 #[.agg #[.int .u64 a, .int .u64 b], .agg #[.int .u64 c, .int .u64 d]] w fun e w' => e = .returned (.bool true) ∧ Below w.heap.size w w' :=
  (less_any a b c d w).mono fun _ _ ⟨he, hw⟩ => ⟨by rw [he, decide_eq_true h], hw⟩
theorem less_no (a b c d : Int) (h : ¬ (a < c ∨ a = c ∧ b < d)) (w : World) :
    Calls Try.prog 75 #[.agg #[.int .u64 a, .int .u64 b], .agg #[.int .u64 c, .int .u64 d]] w fun e w' => e = .returned (.bool false) ∧ Below w.heap.size w w' :=
  (less_any a b c d w).mono fun _ _ ⟨he, hw⟩ => ⟨by rw [he, decide_eq_false h], hw⟩
theorem bcell {W w1 : World} (hb : Below W.heap.size W w1) : (∀ b o, b < W.heap.size → w1.cell? ⟨b, o, none⟩ = W.cell? ⟨b, o, none⟩) ∧ (∀ b o, b < W.heap.size → w1.frozen? ⟨b, o, none⟩ = W.frozen? ⟨b, o, none⟩) :=
  ⟨fun b o h => hb.cell (p := ⟨b, o, none⟩) h, fun b o h => hb.frozen (p := ⟨b, o, none⟩) h⟩

end Go.Proofs.Ytgeankdimknmiaa
