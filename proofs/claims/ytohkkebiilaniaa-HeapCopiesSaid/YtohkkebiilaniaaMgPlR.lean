/- Texts that the claim hangs on, in one. -/
import Derived.Test.YtohkkebiilaniaaRows
import Derived.WalkKit
import Derived.BigQuiet
import Derived.Test.YtohkkebiilaniaaRatPa
import Derived.Test.YtohkkebiilaniaaRatM
import Derived.WalkSpells
import Derived.WalkLawsBesides
import Derived.Deep.QuietTactic
import Derived.Lib.Mul64
import Derived.Laws.Bits64b
import Derived.Test.YtohkkebiilaniaaRatPd
import Derived.Test.YtohkkebiilaniaaRatPc
import Derived.Shelf.Spec.BitsCarry
import Derived.Test.YtohkkebiilaniaaRatPh
import Derived.Test.YtohkkebiilaniaaRatPe
import Derived.Test.YtohkkebiilaniaaRatPi
import Derived.Deep.LoopGhost
import Derived.Test.YtohkkebiilaniaaRatPj
import Derived.Defers
import Derived.Recover
import Derived.Test.YtohkkebiilaniaaRatPk
import Derived.Test.YtohkkebiilaniaaRatPq
import Derived.Test.YtohkkebiilaniaaRatPm
import Derived.Test.YtohkkebiilaniaaRatPl
import Derived.Deep.DeepCutAuto
import Derived.Deep.RegionHeld3
import Derived.Test.YtohkkebiilaniaaRatPr
/- Below, with the count of draws. -/
namespace Go.Proofs.Ytohkkebiilaniaa.Dr
set_option linter.unusedVariables false
open Go.RowKit
/-- RowKit's Below, and no draw is taken back. -/
structure Below (B : Nat) (w w' : World) : Prop where
  os : w'.os = w.os
  tape : w'.tape = w.tape
  output : w'.output = w.output
  size : w.heap.size ≤ w'.heap.size
  block : ∀ k, k < B → w'.heap[k]? = w.heap[k]?
  drawn : w.drawn ≤ w'.drawn
theorem Below.toB {B : Nat} {w w' : World} (h : Below B w w') : Go.RowKit.Below B w w' := ⟨h.os, h.tape, h.output, h.size, h.block⟩
theorem Below.refl (B : Nat) (w : World) : Below B w w := ⟨rfl, rfl, rfl, Nat.le_refl _, fun _ _ => rfl, Nat.le_refl _⟩
theorem Below.trans {B : Nat} {a b c : World} (h : Below B a b) (k : Below B b c) : Below B a c :=
  ⟨k.os.trans h.os, k.tape.trans h.tape, k.output.trans h.output, Nat.le_trans h.size k.size, fun i hi => (k.block i hi).trans (h.block i hi), Nat.le_trans h.drawn k.drawn⟩
theorem Below.mono {B B' : Nat} {w w' : World} (h : Below B w w') (hB : B' ≤ B) : Below B' w w' := ⟨h.os, h.tape, h.output, h.size, fun k hk => h.block k (Nat.lt_of_lt_of_le hk hB), h.drawn⟩
theorem Below.drew {B : Nat} {a w : World} (h : Below B a w) : Below B a w.drew := ⟨h.os, h.tape, h.output, h.size, h.block, Nat.le_trans h.drawn (Nat.le_succ _)⟩
theorem Below.alloc {B : Nat} {a w : World} (h : Below B a w) (hB : B ≤ w.heap.size) (o : Obj) : Below B a (w.alloc o) :=
  h.trans ⟨rfl, rfl, rfl, by simp, fun k hk => Go.RowKit.Below.heap_alloc _ _ _ (by omega), Nat.le_refl _⟩
theorem Below.setCell {B : Nat} {a w : World} (h : Below B a w) {p : Addr} (hp : B ≤ p.block) (u : Value) : Below B a (w.setCell p u) :=
  h.trans ⟨rfl, rfl, rfl, by simp [World.setCell], fun k hk => Go.RowKit.Below.heap_setCell _ _ _ _ (by omega), Nat.le_refl _⟩
theorem Below.cell {B : Nat} {w w' : World} (h : Below B w w') {p : Addr} (hp : p.block < B) : w'.cell? p = w.cell? p := h.toB.cell hp
theorem Below.frozen {B : Nat} {w w' : World} (h : Below B w w') {p : Addr} (hp : p.block < B) : w'.frozen? p = w.frozen? p := h.toB.frozen hp
theorem below_drewN {B : Nat} {a w : World} (h : Below B a w) (n : Nat) : Below B a (w.drewN n) := h.trans ⟨rfl, rfl, rfl, Nat.le_refl _, fun _ _ => rfl, Nat.le_add_right _ _⟩
end Go.Proofs.Ytohkkebiilaniaa.Dr

/- The program's small functions: what each call answers. -/
namespace Go.Proofs.Ytohkkebiilaniaa.Dr
open Go.RowKit

theorem hidd {p : Prop} (h : p) : Hid p := h
theorem quiet_below {w w' : World} (h : ∃ n, w' = w.drewN n) : Below w.heap.size w w' := by
  obtain ⟨n, rfl⟩ := h
  exact below_drewN (Below.refl _ _) n
theorem ret_int {k : IntKind} {a b : Int} (h : a = b) : Ending.returned (.int k a) = .returned (.int k b) := by rw [h]
theorem u64_neg (n : Int) (h0 : -9223372036854775808 ≤ n) (h : n < 0) : IntKind.u64.wrap (-IntKind.u64.wrap n) = (n.natAbs : Int) := by
  rw [IntKind.wrap_u64, IntKind.wrap_u64]; omega

theorem size_any (n : Int) (h0 : -9223372036854775808 ≤ n) (h1 : n ≤ 9223372036854775807) (w : World) :
    Calls Try.prog 71 #[.int .i64 n] w fun e w' => e = .returned (.int .u64 (n.natAbs : Int)) ∧ w = w' := by
  by_cases h : n < 0
  · go_enter Try.func71, Try.ntmps71
    go_wp2
    go_ret
    exact ⟨ret_int (u64_neg n h0 h), rfl⟩
  · go_enter Try.func71, Try.ntmps71
    go_wp2
    go_ret
    exact ⟨ret_int (by omega), rfl⟩

theorem divisor_any (a b : Nat) (ha : a < 18446744073709551616) (hb : b < 18446744073709551616) (w : World) :
    Calls Try.prog 88 #[.int .u64 a, .int .u64 b] w fun e w' => e = .returned (.int .u64 (Nat.gcd a b : Nat)) ∧ ∃ n, w' = w.drewN n := by
  go_enter Try.func88, Try.ntmps88
  go_wp2
  go_loopw [0, 1] (fun s t wr => ∃ x y : Nat, x < 18446744073709551616 ∧ y < 18446744073709551616 ∧ Nat.gcd x y = Nat.gcd a b ∧ s = .int .u64 x ∧ t = .int .u64 y ∧ ∃ n, wr = w.drewN n) (fun _ t _ => (intOf t).toNat)
  case atStart => exact ⟨a, b, ha, hb, rfl, rfl, rfl, 0, rfl⟩
  case round =>
    obtain ⟨x, y, hx, hy, hg, rfl, rfl, n, rfl⟩ := hrel
    have Hg := hidd hg
    clear hg
    by_cases h0 : y = 0
    · subst h0
      go_wp2
      go_ret
      exact ⟨ret_int (by rw [← Hg.out, Nat.gcd_zero_right]), n, rfl⟩
    · go_wp2
      go_quiet (fail)
      go_wp2
      go_roundw
      case rel => exact ⟨y, x % y, hy, by have := Nat.mod_lt x (Nat.pos_of_ne_zero h0); omega, by rw [Nat.gcd_comm, ← Nat.gcd_rec, Nat.gcd_comm]; exact Hg.out, rfl, by simp, n + nq, by rw [World.drewN_drewN]⟩
      case measure => have := Nat.mod_lt x (Nat.pos_of_ne_zero h0); simp [intOf]; omega

theorem lo32 (a : Nat) (ha : a < 18446744073709551616) : bits .and .u64 (a : Int) 4294967295 = ((a % 4294967296 : Nat) : Int) := by
  rw [show (4294967295 : Int) = ((4294967295 : Nat) : Int) from rfl, bits_and_u64_nat a 4294967295 ha (by omega)]
  exact congrArg (fun n : Nat => (n : Int)) (Nat.and_two_pow_sub_one_eq_mod a 32)
theorem up_div32 (a : Nat) : (a : Int) / 4294967296 = ((a / 4294967296 : Nat) : Int) := by omega
theorem up_mulN (a b : Nat) : (a : Int) * (b : Int) = ((a * b : Nat) : Int) := (Int.natCast_mul a b).symm
theorem up_addN (a b : Nat) : (a : Int) + (b : Int) = ((a + b : Nat) : Int) := (Int.natCast_add a b).symm
theorem wrap_lt (a : Nat) (ha : a < 18446744073709551616) : IntKind.u64.wrap (a : Int) = (a : Int) := by rw [IntKind.wrap_u64]; omega
theorem wrap_any (a : Nat) : IntKind.u64.wrap (a : Int) = ((a % 18446744073709551616 : Nat) : Int) := by rw [IntKind.wrap_u64]; omega

set_option maxHeartbeats 1000000 in
theorem mul64_any (x y : Nat) (hx : x < 18446744073709551616) (hy : y < 18446744073709551616) (w : World) :
    Calls Try.prog 90 #[.int .u64 x, .int .u64 y] w fun e w' => e = .returned (.tuple #[.int .u64 ((x * y / 18446744073709551616 : Nat) : Int), .int .u64 ((x * y % 18446744073709551616 : Nat) : Int)]) ∧ w = w' := by
  obtain ⟨f0, f1, f2, f3⟩ := Lib.mul64_hi x y hx hy
  have g0 := Lib.half_mul_le (a := x / 4294967296) (b := y / 4294967296) (by omega) (by omega)
  have g1 := Lib.half_mul_le (a := x / 4294967296) (b := y % 4294967296) (by omega) (by omega)
  have g2 := Lib.half_mul_le (a := x % 4294967296) (b := y / 4294967296) (by omega) (by omega)
  have k0 : x / 4294967296 * (y / 4294967296) < 18446744073709551616 := by omega
  have k1 : x / 4294967296 * (y % 4294967296) < 18446744073709551616 := by omega
  have k2 : x % 4294967296 * (y / 4294967296) < 18446744073709551616 := by omega
  have k3 : x / 4294967296 * (y / 4294967296) + (x / 4294967296 * (y % 4294967296) + x % 4294967296 * (y % 4294967296) / 4294967296) / 4294967296 < 18446744073709551616 := by omega
  have k4 : x / 4294967296 * (y / 4294967296) + (x / 4294967296 * (y % 4294967296) + x % 4294967296 * (y % 4294967296) / 4294967296) / 4294967296 + ((x / 4294967296 * (y % 4294967296) + x % 4294967296 * (y % 4294967296) / 4294967296) % 4294967296 + x % 4294967296 * (y / 4294967296)) / 4294967296 < 18446744073709551616 := by omega
  go_enter Try.func90, Try.ntmps90
  go_wp2
  simp only [lo32 x hx, lo32 y hy, up_div32, up_mulN, up_addN, wrap_lt _ f0, wrap_lt _ k1, wrap_lt _ f1, lo32 _ f1, wrap_lt _ k2, wrap_lt _ f2, wrap_lt _ k0, wrap_lt _ k3, wrap_lt _ k4, wrap_any (x * y)]
  rw [f3]
  go_ret2
  exact ⟨rfl, rfl⟩

/-- two words of a number. -/
def Two (n h l : Nat) : Prop := h * 18446744073709551616 + l = n ∧ h < 18446744073709551616 ∧ l < 18446744073709551616
def IsTwo (n : Nat) (w : World) (e : Ending) (w' : World) : Prop :=
  ∃ h l : Nat, Two n h l ∧ e = .returned (.tuple #[.int .u64 h, .int .u64 l]) ∧ w = w'
def IsWide (n : Nat) (w : World) (e : Ending) (w' : World) : Prop :=
  ∃ h l : Nat, Two n h l ∧ e = .returned (.agg #[.int .u64 h, .int .u64 l]) ∧ Below w.heap.size w w'

theorem mul64_two (x y : Nat) (hx : x < 18446744073709551616) (hy : y < 18446744073709551616) (w : World) :
    Calls Try.prog 90 #[.int .u64 x, .int .u64 y] w (IsTwo (x * y) w) :=
  (mul64_any x y hx hy w).mono fun _ _ ⟨he, hw⟩ => ⟨_, _, ⟨Nat.div_add_mod' _ _, (Nat.div_lt_iff_lt_mul (by decide)).2 (Nat.lt_of_le_of_lt (Nat.mul_le_mul_right y (Nat.le_of_lt hx)) (Nat.mul_lt_mul_of_pos_left hy (by decide))), Nat.mod_lt _ (by decide)⟩, he, hw⟩

theorem product_any (x y : Nat) (hx : x < 18446744073709551616) (hy : y < 18446744073709551616) (w : World) :
    Calls Try.prog 70 #[.int .u64 x, .int .u64 y] w (IsWide (x * y) w) := by
  go_enter Try.func70, Try.ntmps70
  go_wp2_with (go_at_call 90; refine (mul64_two _ _ hx hy _).mono ?_; rintro e w' ⟨h, l, hd, rfl, rfl⟩)
  exact bodyPost_ret (v := .agg #[.int .u64 h, .int .u64 l]) (by simp [results, Try.results70, go_sem]) rfl ⟨h, l, hd, rfl, (Below.refl _ _).alloc (Nat.le_refl _) _⟩

/-- the lesser of two of two words. -/
theorem less_any (a b c d : Int) (w : World) :
    Calls Try.prog 72 #[.agg #[.int .u64 a, .int .u64 b], .agg #[.int .u64 c, .int .u64 d]] w fun e w' => e = .returned (.bool (decide (a < c ∨ a = c ∧ b < d))) ∧ Below w.heap.size w w' := by
  rcases Int.lt_trichotomy a c with h | h | h
  · go_enter Try.func72, Try.ntmps72
    go_wp2
    go_ret
    exact ⟨by simp [h], ((Below.refl _ _).alloc (Nat.le_refl _) _).alloc (by simp) _⟩
  · subst h
    go_enter Try.func72, Try.ntmps72
    go_wp2
    go_ret
    exact ⟨by simp, ((Below.refl _ _).alloc (Nat.le_refl _) _).alloc (by simp) _⟩
  · have h1 : ¬ a < c := by omega
    have h2 : ¬ a = c := by omega
    have h3 : decide (a < c) = false := decide_eq_false h1
    have h4 : (a == c) = false := beq_eq_false_iff_ne.2 h2
    go_enter Try.func72, Try.ntmps72
    go_wp2
    go_ret
    exact ⟨by simp, ((Below.refl _ _).alloc (Nat.le_refl _) _).alloc (by simp) _⟩

theorem two_small (n h l : Nat) (hd : Two n h l) (hn : n < 9223372036854775808) : h = 0 ∧ l = n := by
  obtain ⟨h1, h2, h3⟩ := hd; omega
theorem two_big (n h l : Nat) (hd : Two n h l) (hn : ¬ n < 9223372036854775808) : (0 : Int) < h ∨ (0 : Int) = h ∧ (9223372036854775807 : Int) < l := by
  obtain ⟨h1, h2, h3⟩ := hd; omega
@[reducible] def errPanic (k : Int) : Ending := .panicked [{ v := .iface 48 (.int .i64 k), recovered := false }]

theorem less_yes (a b c d : Int) (h : a < c ∨ a = c ∧ b < d) (w : World) :
    Calls Try.prog 72 #[.agg #[.int .u64 a, .int .u64 b], .agg #[.int .u64 c, .int .u64 d]] w fun e w' => e = .returned (.bool true) ∧ Below w.heap.size w w' :=
  (less_any a b c d w).mono fun _ _ ⟨he, hw⟩ => ⟨by rw [he, decide_eq_true h], hw⟩
theorem less_no (a b c d : Int) (h : ¬ (a < c ∨ a = c ∧ b < d)) (w : World) :
    Calls Try.prog 72 #[.agg #[.int .u64 a, .int .u64 b], .agg #[.int .u64 c, .int .u64 d]] w fun e w' => e = .returned (.bool false) ∧ Below w.heap.size w w' :=
  (less_any a b c d w).mono fun _ _ ⟨he, hw⟩ => ⟨by rw [he, decide_eq_false h], hw⟩
theorem bcell {W w1 : World} (hb : Below W.heap.size W w1) : (∀ b o, b < W.heap.size → w1.cell? ⟨b, o, none⟩ = W.cell? ⟨b, o, none⟩) ∧ (∀ b o, b < W.heap.size → w1.frozen? ⟨b, o, none⟩ = W.frozen? ⟨b, o, none⟩) :=
  ⟨fun b o h => hb.cell (p := ⟨b, o, none⟩) h, fun b o h => hb.frozen (p := ⟨b, o, none⟩) h⟩

end Go.Proofs.Ytohkkebiilaniaa.Dr

/- Parts of two words; sums and differences of them. -/
namespace Go.Proofs.Ytohkkebiilaniaa.Dr
open Go.RowKit

/-- the sum of two numbers with whether each is below nought. -/
def tog (p : Bool) (x : Nat) (q : Bool) (y : Nat) : Bool × Nat :=
  if p = q then (p, x + y) else if x < y then (q, y - x) else (p, x - y)
def IsTog (b : Bool) (n : Nat) (w : World) (e : Ending) (w' : World) : Prop :=
  ∃ h l : Nat, Two n h l ∧ e = .returned (.tuple #[.bool b, .agg #[.int .u64 h, .int .u64 l]]) ∧ Below w.heap.size w w'

theorem zs3 {a b : Nat} (h : a + 2 < b) : a < b ∧ a + 1 < b ∧ a + 1 + 1 < b := by omega
set_option maxRecDepth 100000 in
theorem two_add (x y a b c d s1 k1 s2 k2 : Nat) (hx : Two x a b) (hy : Two y c d) (hs : x + y < 340282366920938463463374607431768211456)
    (a1 : k1 * 18446744073709551616 + s1 = b + d + 0) (a2 : s1 < 18446744073709551616) (b1 : k2 * 18446744073709551616 + s2 = a + c + k1) (b2 : s2 < 18446744073709551616) :
    Two (x + y) s2 s1 := by
  obtain ⟨h1, h2, h3⟩ := hx
  obtain ⟨h4, h5, h6⟩ := hy
  refine ⟨?_, b2, a2⟩
  generalize hM : 18446744073709551616 = M at *
  have e : 340282366920938463463374607431768211456 = M * M := by rw [← hM]
  rw [e] at hs
  have h7 : x + y = k2 * M * M + (s2 * M + s1) := by
    have e2 : (a + c + k1) * M = k2 * M * M + s2 * M := by rw [← b1, Nat.add_mul]
    have e3 : (a + c + k1) * M = a * M + c * M + k1 * M := by rw [Nat.add_mul, Nat.add_mul]
    omega
  have h8 : k2 = 0 := by
    rcases Nat.eq_zero_or_pos k2 with h | h
    · exact h
    · have h9 : M ≤ k2 * M := by have := Nat.mul_le_mul_right M h; omega
      have h10 : M * M ≤ k2 * M * M := Nat.mul_le_mul_right M h9
      omega
  subst h8
  omega
theorem two_sub (x y a b c d s1 k1 s2 k2 : Nat) (hx : Two x a b) (hy : Two y c d) (hs : y ≤ x)
    (a1 : s1 + d + 0 = b + k1 * 18446744073709551616) (a2 : s1 < 18446744073709551616) (b1 : s2 + c + k1 = a + k2 * 18446744073709551616) (b2 : s2 < 18446744073709551616) (b3 : k2 ≤ 1) :
    Two (x - y) s2 s1 := by
  obtain ⟨h1, h2, h3⟩ := hx
  obtain ⟨h4, h5, h6⟩ := hy
  refine ⟨?_, b2, a2⟩
  generalize hM : 18446744073709551616 = M at *
  have e1 : (s2 + c + k1) * M = (a + k2 * M) * M := by rw [b1]
  rw [Nat.add_mul, Nat.add_mul, Nat.add_mul] at e1
  have h7 : k2 = 0 := by
    rcases Nat.eq_zero_or_pos k2 with h | h
    · exact h
    · have h8 : (s2 + 1) * M ≤ M * M := Nat.mul_le_mul_right M b2
      have h9 : M ≤ k2 * M := by have := Nat.mul_le_mul_right M h; omega
      have h10 : M * M ≤ k2 * M * M := Nat.mul_le_mul_right M h9
      rw [Nat.add_mul] at h8
      omega
  subst h7
  omega
theorem two_lt (x y a b c d : Nat) (hx : Two x a b) (hy : Two y c d) (h : x < y) : (a : Int) < c ∨ (a : Int) = c ∧ (b : Int) < d := by
  obtain ⟨h1, h2, h3⟩ := hx
  obtain ⟨h4, h5, h6⟩ := hy
  omega
theorem two_nlt (x y a b c d : Nat) (hx : Two x a b) (hy : Two y c d) (h : ¬ x < y) : ¬ ((a : Int) < c ∨ (a : Int) = c ∧ (b : Int) < d) := by
  obtain ⟨h1, h2, h3⟩ := hx
  obtain ⟨h4, h5, h6⟩ := hy
  omega

end Go.Proofs.Ytohkkebiilaniaa.Dr

/- Which are fractions; is one among many none. -/
namespace Go.Proofs.Ytohkkebiilaniaa.Dr
open Go.RowKit

/-- is it a fraction? -/
def rightB (n d : Int) : Bool := decide (1 ≤ d ∧ n ≠ -9223372036854775808 ∧ Nat.gcd n.natAbs d.natAbs = 1)

set_option maxHeartbeats 1000000 in
theorem is_any (n d : Int) (h0 : -9223372036854775808 ≤ n) (h1 : n ≤ 9223372036854775807) (h2 : -9223372036854775808 ≤ d) (h3 : d ≤ 9223372036854775807) (w : World) :
    Calls Try.prog 62 #[.agg #[.int .i64 n, .int .i64 d]] w fun e w' => e = .returned (.bool (rightB n d)) ∧ Below w.heap.size w w' := by
  by_cases hd : 1 ≤ d
  · by_cases hn : n = -9223372036854775808
    · have hr : rightB n d = false := decide_eq_false (fun h => h.2.1 hn)
      rw [hr]
      have g1 : decide (0 < d) = true := decide_eq_true (by omega)
      have g2 : (n != -9223372036854775808) = false := by simp [hn]
      clear hr hn
      go_enter Try.func62, Try.ntmps62
      go_wp2_with fail
      go_quiet (fail)
      go_wp2_with fail
      go_ret
      exact ⟨by simp, by (repeat' (first | (with_reducible exact Below.refl _ _) | (with_reducible assumption) | (with_reducible apply Below.setCell) | (with_reducible apply Below.alloc) | (with_reducible apply Below.drew) | (with_reducible apply below_drewN) | (with_reducible refine Below.trans ?_ (Below.mono (by assumption) ?_)) | omega | (simp; done) | (simp; omega)))⟩
    · have g1 : decide (0 < d) = true := decide_eq_true (by omega)
      have g2 : (n != -9223372036854775808) = true := by simp [hn]
      have cn := fun W => size_any n h0 h1 W
      have cd := fun W => size_any d h2 h3 W
      have cg := fun W => divisor_any n.natAbs d.natAbs (by omega) (by omega) W
      have hr : rightB n d = (Nat.gcd n.natAbs d.natAbs == 1) := by
        unfold rightB
        by_cases hg : Nat.gcd n.natAbs d.natAbs = 1
        · simp [hd, hn, hg]
        · simp [hg]
      rw [hr]
      generalize Nat.gcd n.natAbs d.natAbs = G at *
      generalize n.natAbs = N at *
      generalize d.natAbs = D at *
      clear hr hn
      by_cases hG : G = 1
      · subst hG
        go_enter Try.func62, Try.ntmps62
        go_wp2_with fail
        go_quiet (first | (go_at_call_of 71 (Value.int IntKind.i64 n); exact still_quiet (cn _)) | (go_at_call_of 71 (Value.int IntKind.i64 d); exact still_quiet (cd _)) | (go_at_call 88; exact Calls.quiet_of (cg _)))
        go_wp2_with fail
        go_ret
        exact ⟨by simp, by (repeat' (first | (with_reducible exact Below.refl _ _) | (with_reducible assumption) | (with_reducible apply Below.setCell) | (with_reducible apply Below.alloc) | (with_reducible apply Below.drew) | (with_reducible apply below_drewN) | (with_reducible refine Below.trans ?_ (Below.mono (by assumption) ?_)) | omega | (simp; done) | (simp; omega)))⟩
      · have hG2 : ((G : Int) == 1) = false := beq_eq_false_iff_ne.2 (by omega)
        have hG3 : (G == 1) = false := beq_eq_false_iff_ne.2 hG
        rw [hG3]
        go_enter Try.func62, Try.ntmps62
        go_wp2_with fail
        go_quiet (first | (go_at_call_of 71 (Value.int IntKind.i64 n); exact still_quiet (cn _)) | (go_at_call_of 71 (Value.int IntKind.i64 d); exact still_quiet (cd _)) | (go_at_call 88; exact Calls.quiet_of (cg _)))
        go_wp2_with fail
        go_ret
        exact ⟨by simp, by (repeat' (first | (with_reducible exact Below.refl _ _) | (with_reducible assumption) | (with_reducible apply Below.setCell) | (with_reducible apply Below.alloc) | (with_reducible apply Below.drew) | (with_reducible apply below_drewN) | (with_reducible refine Below.trans ?_ (Below.mono (by assumption) ?_)) | omega | (simp; done) | (simp; omega)))⟩
  · have hr : rightB n d = false := decide_eq_false (fun h => hd h.1)
    rw [hr]
    have g1 : decide (0 < d) = false := decide_eq_false (by omega)
    clear hr
    go_enter Try.func62, Try.ntmps62
    go_wp2_with fail
    go_quiet (fail)
    go_wp2_with fail
    go_ret
    exact ⟨by simp, by (repeat' (first | (with_reducible exact Below.refl _ _) | (with_reducible assumption) | (with_reducible apply Below.setCell) | (with_reducible apply Below.alloc) | (with_reducible apply Below.drew) | (with_reducible apply below_drewN) | (with_reducible refine Below.trans ?_ (Below.mono (by assumption) ?_)) | omega | (simp; done) | (simp; omega)))⟩

theorem isNone_any (n d : Int) (h0 : -9223372036854775808 ≤ n) (h1 : n ≤ 9223372036854775807) (h2 : -9223372036854775808 ≤ d) (h3 : d ≤ 9223372036854775807) (w : World) :
    Calls Try.prog 68 #[.agg #[.int .i64 n, .int .i64 d]] w fun e w' => e = .returned (.bool (!rightB n d)) ∧ Below w.heap.size w w' := by
  have c := fun W => is_any n d h0 h1 h2 h3 W
  generalize rightB n d = R at *
  have hnot : ∀ (x : Bool) (w : World), (Op.unary .not (.bool x)).run Try.prog w = .ok (.bool (!x)) w := fun _ _ => rfl
  go_enter Try.func68, Try.ntmps68
  go_wp2_with fail
  refine (c _).mono ?_
  rintro e w1 ⟨rfl, hb⟩
  go_wp2_with fail
  go_ret
  exact ⟨by simp, by (repeat' (first | (with_reducible exact Below.refl _ _) | (with_reducible assumption) | (with_reducible apply Below.setCell) | (with_reducible apply Below.alloc) | (with_reducible apply Below.drew) | (with_reducible apply below_drewN) | (with_reducible refine Below.trans ?_ (Below.mono (by assumption) ?_)) | omega | (simp; done) | (simp; omega)))⟩
end Go.Proofs.Ytohkkebiilaniaa.Dr

/- Going over a list: is one among many none. -/
namespace Go.Proofs.Ytohkkebiilaniaa.Dr
open Go.RowKit

/-- a list of fractions' parts lies in memory: at block b from off on. -/
def Lies (w : World) (b off : Nat) (l : List (Int × Int)) : Prop :=
  ∀ i (h : i < l.length), w.cell? ⟨b, off + i * 2, none⟩ = some (.int .i64 (l[i]'h).1) ∧ w.cell? ⟨b, off + i * 2 + 1, none⟩ = some (.int .i64 (l[i]'h).2)
def Words (l : List (Int × Int)) : Prop :=
  ∀ x ∈ l, -9223372036854775808 ≤ x.1 ∧ x.1 ≤ 9223372036854775807 ∧ -9223372036854775808 ≤ x.2 ∧ x.2 ≤ 9223372036854775807
def allRight (l : List (Int × Int)) : Bool := l.all fun x => rightB x.1 x.2

theorem Lies.below {w w' : World} {b off : Nat} {l : List (Int × Int)} (h : Lies w b off l) (hb : Below w.heap.size w w') (hs : b < w.heap.size) : Lies w' b off l :=
  fun i hi => ⟨(hb.cell (p := ⟨b, _, none⟩) hs).trans (h i hi).1, (hb.cell (p := ⟨b, _, none⟩) hs).trans (h i hi).2⟩

/-- where the search ends. -/
def FoundEnd (l : List (Int × Int)) (w : World) (e : Ending) (w' : World) : Prop :=
  ∃ k : Int, e = .returned (.int .i64 k) ∧ decide (0 ≤ k) = !allRight l ∧ Below w.heap.size w w'

set_option maxHeartbeats 1000000 in
theorem index_any (l : List (Int × Int)) (hw : Words l) (b off c : Nat) (w : World) (hb : b < w.heap.size) (hl : Lies w b off l) (hm : l.length ≤ 1000000) :
    Calls Try.prog 89 #[.slice (some ⟨b, off, none⟩) l.length c, .func (Fn.func 68) #[] #[]] w (FoundEnd l w) := by
  go_enter Try.func89, Try.ntmps89
  go_wp2_with fail
  go_loopg [8] (l.length + 1) (fun k s wr => ∃ i : Nat, i ≤ l.length ∧ i + k = l.length + 1 ∧ allRight (l.take i) = true ∧ s = .int .i64 (i : Int) ∧ Below w.heap.size w wr)
  case atStart => exact ⟨0, by omega, by omega, rfl, rfl, Below.refl _ _⟩
  case round =>
    obtain ⟨i, hi, hk, ha, rfl, hbl⟩ := hrel
    have HK := hidd hk
    have HA := hidd ha
    clear hk ha
    by_cases hlt : i < l.length
    · have hq := (hl.below hbl hb) i hlt
      have hww := hw _ (List.getElem_mem hlt)
      have htk : allRight (l.take (i + 1)) = (allRight (l.take i) && rightB (l[i]'hlt).1 (l[i]'hlt).2) := by
        unfold allRight
        rw [List.take_succ_eq_append_getElem hlt, List.all_append]; simp
      have hal : rightB (l[i]'hlt).1 (l[i]'hlt).2 = false → allRight l = false := by
        intro h
        unfold allRight
        exact List.all_eq_false.2 ⟨_, List.getElem_mem hlt, by simp [h]⟩
      generalize (l[i]'hlt).1 = N at *
      generalize (l[i]'hlt).2 = D at *
      obtain ⟨c0, c1⟩ := hq
      have cn := hidd (fun W => isNone_any N D hww.1 hww.2.1 hww.2.2.1 hww.2.2.2 W)
      have HTK := hidd htk
      have HAL := hidd hal
      clear htk hal hl hww
      generalize rightB N D = R at *
      cases R
      · go_wp2_with fail
        refine (cn.out _).mono ?_
        rintro e w1 ⟨rfl, hb1⟩
        go_wp2_with fail
        go_ret
        exact ⟨i, rfl, by rw [HAL.out (by trivial)]; exact decide_eq_true (by omega), hbl.trans (hb1.mono hbl.size)⟩
      · go_wp2_with fail
        refine (cn.out _).mono ?_
        rintro e w1 ⟨rfl, hb1⟩
        go_wp2_with fail
        have hk := HK.out
        go_roundg (gk - 1)
        case measure => omega
        case rel => exact ⟨i + 1, by omega, by omega, by rw [HTK.out, HA.out]; rfl, by go_num, hbl.trans (hb1.mono hbl.size)⟩
    · go_wp2_with fail
      go_ret
      have hi2 : i = l.length := by omega
      have ha := HA.out
      rw [hi2, List.take_length] at ha
      exact ⟨-1, rfl, by rw [ha]; decide, hbl⟩

theorem index_nil (w : World) :
    Calls Try.prog 89 #[.slice none 0 0, .func (Fn.func 68) #[] #[]] w fun e w' => e = .returned (.int .i64 (-1)) ∧ w = w' := by
  go_enter Try.func89, Try.ntmps89
  go_wp2_with fail
  refine wp_loop_rounds 1 ?_
  rw [rounds_succ]
  go_wp2_with fail
  go_ret
  exact ⟨rfl, rfl⟩

theorem contains_any (l : List (Int × Int)) (hw : Words l) (b off c : Nat) (w : World) (hb : b < w.heap.size) (hl : Lies w b off l) (hm : l.length ≤ 1000000) :
    Calls Try.prog 67 #[.slice (some ⟨b, off, none⟩) l.length c, .func (Fn.func 68) #[] #[]] w fun e w' => e = .returned (.bool (!allRight l)) ∧ Below w.heap.size w w' := by
  have ci := hidd (index_any l hw b off c w hb hl hm)
  clear hl
  go_enter Try.func67, Try.ntmps67
  go_wp2_with fail
  refine ci.out.mono ?_
  rintro e w1 ⟨k, rfl, hk, hb1⟩
  have HK := hidd hk
  clear hk
  go_wp2_with fail
  go_ret
  exact ⟨by rw [← HK.out]; rfl, hb1⟩
theorem contains_nil (w : World) :
    Calls Try.prog 67 #[.slice none 0 0, .func (Fn.func 68) #[] #[]] w fun e w' => e = .returned (.bool false) ∧ w = w' := by
  go_enter Try.func67, Try.ntmps67
  go_wp2_with fail
  refine (index_nil _).mono ?_
  rintro e w1 ⟨rfl, rfl⟩
  go_wp2_with fail
  go_ret
  exact ⟨rfl, rfl⟩
end Go.Proofs.Ytohkkebiilaniaa.Dr

/- The face of a step: what it answers, and what a step that gives up makes of it. -/
namespace Go.Proofs.Ytohkkebiilaniaa.Dr
open Go.RowKit

/-- a call of the look over a list: bad, whatever the world behind w. -/
def Looks (sv : Value) (bad : Bool) (w : World) : Prop :=
  ∀ W, Below w.heap.size w W → Calls Try.prog 67 #[sv, .func (Fn.func 68) #[] #[]] W fun e w' => e = .returned (.bool bad) ∧ Below W.heap.size W w'
/-- a step: it answers v, or gives up by a number, whatever the world behind w. -/
def StepsTo (K : Nat) (cap : Array Value) (r : Ending) (w : World) : Prop :=
  ∀ W, Below w.heap.size w W → Calls Try.prog K cap W fun e w' => e = r ∧ Below W.heap.size W w'

theorem catchI_panicking (p : Addr) (x k : Int) (older : List PanicEntry) (w : World) (hc : w.cell? p = some (.int .i64 x)) (hz : w.frozen? p = false) :
    CallsD Try.prog 66 #[.pointer (some p)] (.panicking ({ v := .iface 48 (.int .i64 k), recovered := false } :: older)) w fun e u' w' =>
      e = .returned (.tuple #[]) ∧ u' = .panicking ({ v := .iface 48 (.int .i64 k), recovered := true } :: older) ∧ w' = w.setCell p (.int .i64 k) := by
  refine callsD_of_wpS Try.func66 rfl fun c₀ cs hu => ?_
  apply wpS_seq
  apply wpS_region
  simp [wpOpsS, go_sem, recoverD, hu, Try.ntmps66, Exit.thenS]
  apply wpS_seq
  apply wpS_region
  simp [wpOpsS, go_sem, Exit.thenS]
  refine wpS_cond (t := true) (by simp [Act.eval, Array.replicate]) ?_
  simp only [if_true]
  apply wpS_region
  have hta : ∀ w, (Instr.typeAssert (.iface 48 (.int .i64 k)) 20 48 false).run Try.prog w = .ok (.int .i64 k) w := fun _ => by kernel_rfl
  simp [wpOpsS, go_sem, hc, hz, hta, bodyPostS, results, Try.results66]

theorem catchI_idle (p : Addr) (w : World) :
    CallsD Try.prog 66 #[.pointer (some p)] .returning w fun e u' w' => e = .returned (.tuple #[]) ∧ u' = .returning ∧ w' = w := by
  refine callsD_of_wpS Try.func66 rfl fun c₀ cs hu => ?_
  apply wpS_seq
  apply wpS_region
  simp [wpOpsS, go_sem, recoverD, hu, Try.ntmps66, Exit.thenS]
  apply wpS_seq
  apply wpS_region
  simp [wpOpsS, go_sem, Exit.thenS]
  refine wpS_cond (t := false) (by simp [Act.eval, Array.replicate]) ?_
  simp only [Bool.false_eq_true, if_false]
  refine wpS_of_wp (wp_skip ?_)
  cases c₀
  simp_all [bodyPostS, results, Try.results66]

theorem toldI_bad (K : Nat) (cap : Array Value) (sv : Value) (w : World) (cf : Looks sv true w) :
    Calls Try.prog 53 #[.func (Fn.func K) #[] cap, sv] w fun e w' => e = .returned (.tuple #[.int .i64 0, .int .i64 2]) ∧ Below w.heap.size w w' := by
  have CF := hidd cf
  clear cf
  have hmf : ∀ (fn : Fn) (first cap : Array Value) (w : World), (Instr.makeFunc fn first cap).run Try.prog w = .ok (.func fn first cap) w := fun _ _ _ _ => rfl
  go_enter_defers Try.func53, Try.ntmps53
  go_wp2_with fail
  refine (CF.out _ (by (repeat' (first | (with_reducible exact Below.refl _ _) | (with_reducible assumption) | (with_reducible apply Below.setCell) | (with_reducible apply Below.alloc) | (with_reducible apply Below.drew) | (with_reducible apply below_drewN) | (with_reducible refine Below.trans ?_ (Below.mono (by assumption) ?_)) | omega | (simp; done) | (simp; omega))))).mono ?_
  rintro e w1 ⟨rfl, hb1⟩
  obtain ⟨hc, hf⟩ := bcell hb1
  have z1 : w.heap.size < w1.heap.size := by have := hb1.size; simp at this; omega
  go_wp2_with fail
  refine leaves_cons (f := 66) (args := #[.pointer (some ⟨w.heap.size, 0, none⟩)]) (by simp) (by simp [go_sem]) ?_
  refine (catchI_panicking ⟨w.heap.size, 0, none⟩ 0 2 [] _ ?_ ?_).mono ?_
  · simp [go_sem, *]
  · simp [go_sem, *]
  rintro e u' w2 ⟨rfl, rfl, rfl⟩
  simp [Leaves, settle, results, Try.results53, go_sem, *]
  (repeat' (first | (with_reducible exact Below.refl _ _) | (with_reducible assumption) | (with_reducible apply Below.setCell) | (with_reducible apply Below.alloc) | (with_reducible apply Below.drew) | (with_reducible apply below_drewN) | (with_reducible refine Below.trans ?_ (Below.mono (by assumption) ?_)) | omega | (simp; done) | (simp; omega)))

theorem toldI_ok (K : Nat) (he : ∀ args w, (callFunc K args).run Try.prog w = .ok (.enter K args) w) (cap : Array Value) (sv : Value) (w : World) (N : Int) (cf : Looks sv false w) (cs : StepsTo K cap (.returned (.int .i64 N)) w) :
    Calls Try.prog 53 #[.func (Fn.func K) #[] cap, sv] w fun e w' => e = .returned (.tuple #[.int .i64 N, .int .i64 0]) ∧ Below w.heap.size w w' := by
  have CF := hidd cf
  have CS := hidd cs
  clear cf cs
  have hmf : ∀ (fn : Fn) (first cap : Array Value) (w : World), (Instr.makeFunc fn first cap).run Try.prog w = .ok (.func fn first cap) w := fun _ _ _ _ => rfl
  go_enter_defers Try.func53, Try.ntmps53
  go_wp2_with fail
  refine (CF.out _ (by (repeat' (first | (with_reducible exact Below.refl _ _) | (with_reducible assumption) | (with_reducible apply Below.setCell) | (with_reducible apply Below.alloc) | (with_reducible apply Below.drew) | (with_reducible apply below_drewN) | (with_reducible refine Below.trans ?_ (Below.mono (by assumption) ?_)) | omega | (simp; done) | (simp; omega))))).mono ?_
  rintro e w1 ⟨rfl, hb1⟩
  have y1 : w.heap.size < w1.heap.size := by have := hb1.size; simp at this; omega
  go_wp2_with fail
  refine (CS.out _ (by (repeat' (first | (with_reducible exact Below.refl _ _) | (with_reducible assumption) | (with_reducible apply Below.setCell) | (with_reducible apply Below.alloc) | (with_reducible apply Below.drew) | (with_reducible apply below_drewN) | (with_reducible refine Below.trans ?_ (Below.mono (by assumption) ?_)) | omega | (simp; done) | (simp; omega))))).mono ?_
  rintro e w2 ⟨rfl, hb2⟩
  have z1 : w.heap.size < w2.heap.size := Nat.lt_of_lt_of_le y1 hb2.size
  obtain ⟨hc, hf⟩ := bcell (hb1.trans (hb2.mono hb1.size))
  go_wp2_with fail
  refine leaves_cons (f := 66) (args := #[.pointer (some ⟨w.heap.size, 0, none⟩)]) (by simp) (by simp [go_sem]) ?_
  refine (catchI_idle ⟨w.heap.size, 0, none⟩ _).mono ?_
  rintro e u' w3 ⟨rfl, rfl, rfl⟩
  simp [Leaves, settle, results, Try.results53, go_sem, *]
  (repeat' (first | (with_reducible exact Below.refl _ _) | (with_reducible assumption) | (with_reducible apply Below.setCell) | (with_reducible apply Below.alloc) | (with_reducible apply Below.drew) | (with_reducible apply below_drewN) | (with_reducible refine Below.trans ?_ (Below.mono (by assumption) ?_)) | omega | (simp; done) | (simp; omega)))

theorem toldI_no (K : Nat) (he : ∀ args w, (callFunc K args).run Try.prog w = .ok (.enter K args) w) (cap : Array Value) (sv : Value) (w : World) (k : Int) (cf : Looks sv false w) (cs : StepsTo K cap (errPanic k) w) :
    Calls Try.prog 53 #[.func (Fn.func K) #[] cap, sv] w fun e w' => e = .returned (.tuple #[.int .i64 0, .int .i64 k]) ∧ Below w.heap.size w w' := by
  have CF := hidd cf
  have CS := hidd cs
  clear cf cs
  have hmf : ∀ (fn : Fn) (first cap : Array Value) (w : World), (Instr.makeFunc fn first cap).run Try.prog w = .ok (.func fn first cap) w := fun _ _ _ _ => rfl
  go_enter_defers Try.func53, Try.ntmps53
  go_wp2_with fail
  refine (CF.out _ (by (repeat' (first | (with_reducible exact Below.refl _ _) | (with_reducible assumption) | (with_reducible apply Below.setCell) | (with_reducible apply Below.alloc) | (with_reducible apply Below.drew) | (with_reducible apply below_drewN) | (with_reducible refine Below.trans ?_ (Below.mono (by assumption) ?_)) | omega | (simp; done) | (simp; omega))))).mono ?_
  rintro e w1 ⟨rfl, hb1⟩
  have y1 : w.heap.size < w1.heap.size := by have := hb1.size; simp at this; omega
  go_wp2_with fail
  refine (CS.out _ (by (repeat' (first | (with_reducible exact Below.refl _ _) | (with_reducible assumption) | (with_reducible apply Below.setCell) | (with_reducible apply Below.alloc) | (with_reducible apply Below.drew) | (with_reducible apply below_drewN) | (with_reducible refine Below.trans ?_ (Below.mono (by assumption) ?_)) | omega | (simp; done) | (simp; omega))))).mono ?_
  rintro e w2 ⟨rfl, hb2⟩
  have z1 : w.heap.size < w2.heap.size := Nat.lt_of_lt_of_le y1 hb2.size
  obtain ⟨hc, hf⟩ := bcell (hb1.trans (hb2.mono hb1.size))
  go_wp2_with fail
  refine leaves_cons (f := 66) (args := #[.pointer (some ⟨w.heap.size, 0, none⟩)]) (by simp) (by simp [go_sem]) ?_
  refine (catchI_panicking ⟨w.heap.size, 0, none⟩ 0 k [] _ ?_ ?_).mono ?_
  · simp [go_sem, *]
  · simp [go_sem, *]
  rintro e u' w3 ⟨rfl, rfl, rfl⟩
  simp [Leaves, settle, results, Try.results53, go_sem, *]
  (repeat' (first | (with_reducible exact Below.refl _ _) | (with_reducible assumption) | (with_reducible apply Below.setCell) | (with_reducible apply Below.alloc) | (with_reducible apply Below.drew) | (with_reducible apply below_drewN) | (with_reducible refine Below.trans ?_ (Below.mono (by assumption) ?_)) | omega | (simp; done) | (simp; omega)))
end Go.Proofs.Ytohkkebiilaniaa.Dr

/- The faces of making one and of rounding. -/
namespace Go.Proofs.Ytohkkebiilaniaa.Dr
open Go.RowKit

/-- how a step ends that tells (N, D) where nothing was wrong, and gives up by a number elsewhere. -/
def endOf (r : Int × Int × Int) : Ending :=
  if r.2.2 = 0 then .returned (.agg #[.int .i64 r.1, .int .i64 r.2.1]) else errPanic r.2.2
theorem endOf_ok (r : Int × Int × Int) (h : r.2.2 = 0) : endOf r = .returned (.agg #[.int .i64 r.1, .int .i64 r.2.1]) := by simp [endOf, h]
theorem endOf_no (r : Int × Int × Int) (h : ¬ r.2.2 = 0) : endOf r = errPanic r.2.2 := by simp only [endOf, if_neg h]
/-- beside an error all else is nought. -/
def Clean (r : Int × Int × Int) : Prop := ¬ r.2.2 = 0 → r.1 = 0 ∧ r.2.1 = 0
def pairOf (r : Int × Int × Int) : Value := .tuple #[.agg #[.int .i64 r.1, .int .i64 r.2.1], .int .i64 r.2.2]

theorem fracP_clean (b : Bool) (n d : Nat) : Clean (RM.fracP b n d) := by
  unfold Clean RM.fracP
  split <;> simp
theorem fracN_clean (b : Bool) (n d : Nat) : Clean (RM.fracN b n d) := by
  unfold RM.fracN
  split
  · simp [Clean]
  · exact fracP_clean _ _ _

def makeR (n d : Int) : Int × Int × Int := RM.fracN (decide (n < 0) != decide (d < 0)) n.natAbs d.natAbs

theorem looks_nil (w : World) : Looks (.slice none 0 0) false w :=
  fun W _ => (contains_nil W).mono fun _ _ ⟨he, hw⟩ => ⟨he, by rw [← hw]; exact Below.refl _ _⟩

/-- a list of one fraction in memory of the call's own. -/
theorem looks_one (n d : Int) (h0 : -9223372036854775808 ≤ n) (h1 : n ≤ 9223372036854775807) (h2 : -9223372036854775808 ≤ d) (h3 : d ≤ 9223372036854775807) (b : Nat) (w : World)
    (hb : b < w.heap.size) (hc : w.cell? ⟨b, 0, none⟩ = some (.int .i64 n)) (hd : w.cell? ⟨b, 1, none⟩ = some (.int .i64 d)) (c : Nat) :
    Looks (.slice (some ⟨b, 0, none⟩) 1 c) (!rightB n d) w := by
  intro W hW
  have hl : Lies w b 0 [(n, d)] := by
    intro i hi
    have : i = 0 := by simpa using hi
    subst this
    exact ⟨hc, hd⟩
  have h := contains_any [(n, d)] (by intro x hx; simp at hx; subst hx; exact ⟨h0, h1, h2, h3⟩) b 0 c W (Nat.lt_of_lt_of_le hb hW.size) (hl.below hW hb) (by simp)
  simpa [allRight] using h
theorem looks_two (n d m e : Int) (h0 : -9223372036854775808 ≤ n) (h1 : n ≤ 9223372036854775807) (h2 : -9223372036854775808 ≤ d) (h3 : d ≤ 9223372036854775807)
    (k0 : -9223372036854775808 ≤ m) (k1 : m ≤ 9223372036854775807) (k2 : -9223372036854775808 ≤ e) (k3 : e ≤ 9223372036854775807) (b : Nat) (w : World)
    (hb : b < w.heap.size) (hc : w.cell? ⟨b, 0, none⟩ = some (.int .i64 n)) (hd : w.cell? ⟨b, 1, none⟩ = some (.int .i64 d)) (hm : w.cell? ⟨b, 2, none⟩ = some (.int .i64 m)) (he : w.cell? ⟨b, 3, none⟩ = some (.int .i64 e)) (c : Nat) :
    Looks (.slice (some ⟨b, 0, none⟩) 2 c) (!(rightB n d && rightB m e)) w := by
  intro W hW
  have hl : Lies w b 0 [(n, d), (m, e)] := by
    intro i hi
    have : i = 0 ∨ i = 1 := by simp at hi; omega
    rcases this with rfl | rfl
    · exact ⟨hc, hd⟩
    · exact ⟨hm, he⟩
  have h := contains_any [(n, d), (m, e)] (by intro x hx; simp at hx; rcases hx with rfl | rfl; exact ⟨h0, h1, h2, h3⟩; exact ⟨k0, k1, k2, k3⟩) b 0 c W (Nat.lt_of_lt_of_le hb hW.size) (hl.below hW hb) (by simp)
  simpa [allRight] using h
end Go.Proofs.Ytohkkebiilaniaa.Dr

/- Which of two fractions is less. -/
namespace Go.Proofs.Ytohkkebiilaniaa.Dr
open Go.RowKit

/-- less, the same, greater, of what the cross products tell. -/
def ordZ (p q : Int) : Int := if p < q then -1 else if p = q then 0 else 1
theorem ord_signs (x y : Int) (d e : Nat) (hd : 0 < d) (he : 0 < e) (h : decide (x < 0) ≠ decide (y < 0)) :
    ordZ (x * e) (y * d) = sgnOf (decide (x < 0)) := by
  by_cases hx : x < 0
  · have hy : ¬ y < 0 := fun hh => h (by simp [hx, hh])
    have h1 : x * (e : Int) < 0 := Int.mul_neg_of_neg_of_pos hx (by omega)
    have h2 : 0 ≤ y * (d : Int) := Int.mul_nonneg (by omega) (by omega)
    unfold ordZ sgnOf
    rw [if_pos (by omega)]; simp [hx]
  · have hy : y < 0 := by
      by_cases hh : y < 0
      · exact hh
      · exact absurd (by simp [hx, hh]) h
    have h1 : y * (d : Int) < 0 := Int.mul_neg_of_neg_of_pos hy (by omega)
    have h2 : 0 ≤ x * (e : Int) := Int.mul_nonneg (by omega) (by omega)
    unfold ordZ sgnOf
    rw [if_neg (by omega), if_neg (by omega)]; simp [hx]
theorem ord_same (x y : Int) (d e : Nat) (h : decide (x < 0) = decide (y < 0)) (P Q : Nat) (hP : P = x.natAbs * e) (hQ : Q = y.natAbs * d) :
    ordZ (x * e) (y * d) = if P = Q then 0 else sgnOf (decide (P < Q) != decide (x < 0)) := by
  have e1 : x * (e : Int) = RM.sgn (decide (x < 0)) P := by rw [hP, RM.sgn_mul, RM.sgn_self]
  have e2 : y * (d : Int) = RM.sgn (decide (x < 0)) Q := by rw [hQ, RM.sgn_mul, h, RM.sgn_self]
  rw [e1, e2]
  clear hP hQ e1 e2 h
  unfold ordZ sgnOf RM.sgn
  by_cases hx : x < 0 <;> by_cases h1 : P = Q <;> by_cases h2 : P < Q <;> simp [hx, h1, h2] <;> omega
theorem wide_run (a b c d : Int) (w : World) :
    (Op.equalIn 10000 103 (.agg #[.int .u64 a, .int .u64 b]) (.agg #[.int .u64 c, .int .u64 d])).run Try.prog w = .ok (decide (a = c ∧ b = d)) w := by
  have u3 := Try.underlying101
  have a3 := Try.isAgg101
  have z3 := Try.sizeOf101
  rw [show (10000 : Nat) = 9999 + 1 from rfl, Op.equalIn]
  simp only [Sem.run_bind, run_underlying Try.underlying103, Result.andThen_ok]
  simp only [Std.Legacy.Range.forIn_eq_forIn_range', Std.Legacy.Range.size, Nat.sub_zero, Nat.add_sub_cancel, Nat.div_one, List.range'_succ, List.range'_zero, List.forIn_cons, List.forIn_nil]
  go_simp
  by_cases h1 : a = c <;> by_cases h2 : b = d <;> simp [h1, h2]
theorem wide_bin (a b c d : Int) (w : World) :
    (binOp .eql 103 (.agg #[.int .u64 a, .int .u64 b]) (.agg #[.int .u64 c, .int .u64 d])).run Try.prog w = .ok (.bool (decide (a = c ∧ b = d))) w := by
  rw [run_eql_struct, wide_run]; rfl
theorem two_unique {n h l h2 l2 : Nat} (a : Two n h l) (b : Two n h2 l2) : h = h2 ∧ l = l2 := by
  obtain ⟨a1, a2, a3⟩ := a
  obtain ⟨b1, b2, b3⟩ := b
  omega
theorem two_ne {n m h l h2 l2 : Nat} (a : Two n h l) (b : Two m h2 l2) (hne : ¬ n = m) : ¬ (h = h2 ∧ l = l2) := by
  rintro ⟨rfl, rfl⟩
  exact hne (a.1.symm.trans b.1)

set_option maxHeartbeats 8000000 in
theorem order_parts (x y : Int) (X d Y e : Nat) (hx : Parts2 x X d) (hy : Parts2 y Y e) (w : World) :
    Calls Try.prog 55 #[.agg #[.int .i64 x, .int .i64 d], .agg #[.int .i64 y, .int .i64 e]] w fun E w' =>
      E = .returned (.int .i64 (ordZ (x * e) (y * d))) ∧ Below w.heap.size w w' := by
  obtain ⟨hx1, hx3, hx4, hx5, _⟩ := hx
  obtain ⟨hy1, hy3, hy4, hy5, _⟩ := hy
  by_cases hs : decide (x < 0) = decide (y < 0)
  · have ho := ord_same x y d e hs (X * e) (Y * d) (by rw [hx1]) (by rw [hy1])
    have hsb : (!decide (x < 0) == decide (y < 0)) = false := by rw [hs]; cases decide (y < 0) <;> rfl
    have cd := hidd (fun w => size_nat d hx5 w)
    have ce := hidd (fun w => size_nat e hy5 w)
    have cX := hidd (fun w => size_any x (by omega) (by omega) w)
    have cY := hidd (fun w => size_any y (by omega) (by omega) w)
    rw [hx1] at cX
    rw [hy1] at cY
    have cP := hidd (fun w => product_any X e (by omega) (by omega) w)
    have cQ := hidd (fun w => product_any Y d (by omega) (by omega) w)
    rw [ho]
    clear ho hx1 hy1 hs
    generalize X * e = P at *
    generalize Y * d = Q at *
    obtain ⟨r, hr⟩ : ∃ r, (if P = Q then 0 else sgnOf (decide (P < Q) != decide (x < 0))) = r := ⟨_, rfl⟩
    rw [hr]
    have HR := hidd hr
    clear hr
    clear hx3 hx4 hx5 hy3 hy4 hy5
    go_enter Try.func55, Try.ntmps55
    go_wp2_with fail
    clear hsb
    go_cut [5, 6] (fun s t wx => Below w.heap.size w wx ∧ w.heap.size < wx.heap.size ∧ wx.cell? ⟨w.heap.size, 0, none⟩ = some (.int .i64 x) ∧ ∃ h l k h2 l2 k2 : Nat, Two P h l ∧ Two Q h2 l2 ∧ s = .pointer (some ⟨k, 0, none⟩) ∧ t = .pointer (some ⟨k2, 0, none⟩) ∧ k < wx.heap.size ∧ k2 < wx.heap.size ∧ wx.cell? ⟨k, 0, none⟩ = some (.int .u64 (h : Int)) ∧ wx.cell? ⟨k, 1, none⟩ = some (.int .u64 (l : Int)) ∧ wx.cell? ⟨k2, 0, none⟩ = some (.int .u64 (h2 : Int)) ∧ wx.cell? ⟨k2, 1, none⟩ = some (.int .u64 (l2 : Int)))
    case first =>
      go_region_held3 (fun w' => w'.cell? ⟨w.heap.size, 0, none⟩ = some (.int .i64 x) ∧ w'.cell? ⟨w.heap.size + 1, 0, none⟩ = some (.int .i64 y) ∧ w'.cell? ⟨w.heap.size, 1, none⟩ = some (.int .i64 (d : Int)) ∧ w'.cell? ⟨w.heap.size + 1, 1, none⟩ = some (.int .i64 (e : Int))) ((simp [*, go_sem]; done)) (first | (go_at_call_of 71 (Value.int IntKind.i64 x); refine (cX.out _).mono ?_; rintro e w1 ⟨rfl, rfl⟩) | (go_at_call_of 71 (Value.int IntKind.i64 y); refine (cY.out _).mono ?_; rintro e w1 ⟨rfl, rfl⟩) | (go_at_call_of 71 (Value.int IntKind.i64 (d:Int)); refine (cd.out _).mono ?_; rintro e w1 ⟨rfl, rfl⟩) | (go_at_call_of 71 (Value.int IntKind.i64 (e:Int)); refine (ce.out _).mono ?_; rintro e w1 ⟨rfl, rfl⟩) | (go_at_call_of 70 (Value.int IntKind.u64 (X : Int)); refine (cP.out _).mono ?_; rintro E wp ⟨h1, l1, k1, rfl, hbp⟩; (first | (have bcwp : ∀ b o, b < (wq).heap.size → (wp).cell? ⟨b, o, none⟩ = (wq).cell? ⟨b, o, none⟩ := fun b o h => (by have q := Below.cell (p := ⟨b, o, none⟩) hbp h; exact q); have bfwp : ∀ b o, b < (wq).heap.size → (wp).frozen? ⟨b, o, none⟩ = (wq).frozen? ⟨b, o, none⟩ := fun b o h => (by have q := Below.frozen (p := ⟨b, o, none⟩) hbp h; exact q); have bswp : (wq).heap.size ≤ (wp).heap.size := (by have q := Below.size hbp; exact q)) | (obtain ⟨bcwp, bfwp⟩ := bcell hbp)); have qp := Below.size hbp; (try simp at qp); (try have u0wp : w.heap.size < (wp).heap.size := (by omega)); (try have u1wp : w.heap.size + 1 < (wp).heap.size := (by omega)); (try have u2wp : w.heap.size + 1 + 1 < (wp).heap.size := (by omega)); (try have u3wp : w.heap.size + 1 + 1 + 1 < (wp).heap.size := (by omega)); (try have u4wp : ¬ (wp).heap.size = w.heap.size := (by omega)); (try have u5wp : ¬ (wp).heap.size = w.heap.size + 1 := (by omega)); (try have u6wp : w.heap.size < (wp).heap.size + 1 := (by omega)); (try have u7wp : w.heap.size < (wp).heap.size + 1 + 1 := (by omega)); (try have u8wp : w.heap.size + 1 < (wp).heap.size + 1 + 1 := (by omega)); (try have ux1 : wq.heap.size < wp.heap.size := (by omega)); (try have ux5 : ¬ wq.heap.size = wp.heap.size := (by omega)); (try have ux6 : ¬ wp.heap.size = wq.heap.size := (by omega)); (try have ux7 : ¬ wq.heap.size + 1 = wp.heap.size := (by omega)); (try have ux8 : ¬ wp.heap.size = wq.heap.size + 1 := (by omega)); (try have ux9 : ¬ w.heap.size + 1 + 1 = wp.heap.size := (by omega)); (try have ux10 : ¬ wp.heap.size = w.heap.size + 1 + 1 := (by omega)); (try have ux11 : ¬ w.heap.size + 1 + 1 + 1 = wp.heap.size := (by omega)); (try have ux2 : wq.heap.size + 1 < wp.heap.size := (by omega)); (try have uc0wp : wp.cell? ⟨wq.heap.size, 0, none⟩ = some (.int .u64 0) := (by rw [bcwp _ _ (by first | omega | (simp; done) | (simp; omega))]; simp [go_sem])); (try have uc1wp : wp.cell? ⟨wq.heap.size, 1, none⟩ = some (.int .u64 0) := (by rw [bcwp _ _ (by first | omega | (simp; done) | (simp; omega))]; simp [go_sem])); (try have uc2wp : wp.cell? ⟨wq.heap.size + 1, 0, none⟩ = some (.int .u64 0) := (by rw [bcwp _ _ (by first | omega | (simp; done) | (simp; omega))]; simp [go_sem])); (try have uc3wp : wp.cell? ⟨wq.heap.size + 1, 1, none⟩ = some (.int .u64 0) := (by rw [bcwp _ _ (by first | omega | (simp; done) | (simp; omega))]; simp [go_sem]))) | (go_at_call_of 70 (Value.int IntKind.u64 (Y : Int)); refine (cQ.out _).mono ?_; rintro E wq ⟨h2, l2, k2, rfl, hbq⟩; (first | (have bcwq : ∀ b o, b < (wp).heap.size → (wq).cell? ⟨b, o, none⟩ = (wp).cell? ⟨b, o, none⟩ := fun b o h => (by have q := Below.cell (p := ⟨b, o, none⟩) hbq h; exact q); have bfwq : ∀ b o, b < (wp).heap.size → (wq).frozen? ⟨b, o, none⟩ = (wp).frozen? ⟨b, o, none⟩ := fun b o h => (by have q := Below.frozen (p := ⟨b, o, none⟩) hbq h; exact q); have bswq : (wp).heap.size ≤ (wq).heap.size := (by have q := Below.size hbq; exact q)) | (obtain ⟨bcwq, bfwq⟩ := bcell hbq)); have qq := Below.size hbq; (try simp at qq); (try have u0wq : w.heap.size < (wq).heap.size := (by omega)); (try have u1wq : w.heap.size + 1 < (wq).heap.size := (by omega)); (try have u2wq : w.heap.size + 1 + 1 < (wq).heap.size := (by omega)); (try have u3wq : w.heap.size + 1 + 1 + 1 < (wq).heap.size := (by omega)); (try have u4wq : ¬ (wq).heap.size = w.heap.size := (by omega)); (try have u5wq : ¬ (wq).heap.size = w.heap.size + 1 := (by omega)); (try have u6wq : w.heap.size < (wq).heap.size + 1 := (by omega)); (try have u7wq : w.heap.size < (wq).heap.size + 1 + 1 := (by omega)); (try have u8wq : w.heap.size + 1 < (wq).heap.size + 1 + 1 := (by omega)); (try have ux3 : wp.heap.size < wq.heap.size := (by omega)); (try have uy5 : ¬ wp.heap.size = wq.heap.size := (by omega)); (try have uy6 : ¬ wq.heap.size = wp.heap.size := (by omega)); (try have uy7 : ¬ wp.heap.size + 1 = wq.heap.size := (by omega)); (try have uy8 : ¬ wq.heap.size = wp.heap.size + 1 := (by omega)); (try have uy9 : ¬ w.heap.size + 1 + 1 = wq.heap.size := (by omega)); (try have uy10 : ¬ wq.heap.size = w.heap.size + 1 + 1 := (by omega)); (try have uy11 : ¬ w.heap.size + 1 + 1 + 1 = wq.heap.size := (by omega)); (try have ux4 : wp.heap.size + 1 < wq.heap.size := (by omega)); (try have uc0wq : wq.cell? ⟨wp.heap.size, 0, none⟩ = some (.int .u64 0) := (by rw [bcwq _ _ (by first | omega | (simp; done) | (simp; omega))]; simp [go_sem])); (try have uc1wq : wq.cell? ⟨wp.heap.size, 1, none⟩ = some (.int .u64 0) := (by rw [bcwq _ _ (by first | omega | (simp; done) | (simp; omega))]; simp [go_sem])); (try have uc2wq : wq.cell? ⟨wp.heap.size + 1, 0, none⟩ = some (.int .u64 0) := (by rw [bcwq _ _ (by first | omega | (simp; done) | (simp; omega))]; simp [go_sem])); (try have uc3wq : wq.cell? ⟨wp.heap.size + 1, 1, none⟩ = some (.int .u64 0) := (by rw [bcwq _ _ (by first | omega | (simp; done) | (simp; omega))]; simp [go_sem]))))
      all_goals go_wp2_with fail
      all_goals go_meet
      all_goals (refine ⟨?_, ?_, ?_, h1, l1, _, h2, l2, _, k1, k2, rfl, rfl, ?_, ?_, ?_, ?_, ?_, ?_⟩)
      all_goals (first | ((repeat' (first | (with_reducible exact Below.refl _ _) | (with_reducible assumption) | (with_reducible apply Below.setCell) | (with_reducible apply Below.alloc) | (with_reducible apply Below.drew) | (with_reducible apply below_drewN) | (with_reducible refine Below.trans ?_ (Below.mono (by assumption) ?_)) | omega | (simp; done) | (simp; omega))); done) | (simp [*, go_sem]; done) | (simp [*, go_sem]; omega))
    case rest =>
      obtain ⟨hB, hsz, c0, h, l, k, h2, l2, k2, T1, T2, rfl, rfl, kz, k2z, q0, q1, p0, p1⟩ := hcut
      have HB := hidd hB
      clear hB
      by_cases hPQ : P = Q
      · subst hPQ
        obtain ⟨rfl, rfl⟩ := two_unique T1 T2
        have HE := hidd (show r = 0 by rw [← HR.out, if_pos rfl])
        have wr1 := fun w => wide_run h l h l w
        have wr2 := fun w => wide_bin h l h l w
        simp only [and_self, decide_true] at wr1 wr2
        clear T1 T2
        go_wp2_with fail
        go_ret
        exact ⟨by rw [HE.out]; first | rfl | simp, HB.out⟩
      · have hne := two_ne T1 T2 hPQ
        have hne2 : decide ((h : Int) = h2 ∧ (l : Int) = l2) = false := decide_eq_false (fun g => hne ⟨by omega, by omega⟩)
        have wr1 := fun w => wide_run h l h2 l2 w
        have wr2 := fun w => wide_bin h l h2 l2 w
        rw [hne2] at wr1 wr2
        clear hne2
        have hlt : P < Q ↔ ((h : Int) < h2 ∨ (h : Int) = h2 ∧ (l : Int) < l2) := by
          obtain ⟨a1, a2, a3⟩ := T1
          obtain ⟨b1, b2, b3⟩ := T2
          omega
        by_cases hPlt : P < Q
        · have cl := hidd (fun W => less_yes h l h2 l2 (hlt.1 hPlt) W)
          by_cases hx : x < 0
          · have HE := hidd (show r = sgnOf false by rw [← HR.out, if_neg hPQ]; simp [hPlt, hx])
            have cs := hidd (fun W => sign_any false W)
            try have hxd : decide (x < 0) = false := decide_eq_false hx
            have KEEP := hidd (fun W' (hb : Below wc.heap.size wc W') => (⟨(hb.cell (p := ⟨k, 0, none⟩) kz).trans q0, (hb.cell (p := ⟨k, 1, none⟩) kz).trans q1, (hb.cell (p := ⟨k2, 0, none⟩) k2z).trans p0, (hb.cell (p := ⟨k2, 1, none⟩) k2z).trans p1, (hb.cell (p := ⟨w.heap.size, 0, none⟩) hsz).trans c0⟩ : W'.cell? ⟨k, 0, none⟩ = some (.int .u64 (h : Int)) ∧ W'.cell? ⟨k, 1, none⟩ = some (.int .u64 (l : Int)) ∧ W'.cell? ⟨k2, 0, none⟩ = some (.int .u64 (h2 : Int)) ∧ W'.cell? ⟨k2, 1, none⟩ = some (.int .u64 (l2 : Int)) ∧ W'.cell? ⟨w.heap.size, 0, none⟩ = some (.int .i64 x)))
            clear hne hlt T1 T2 hPlt hPQ
            go_wp2_with fail
            go_region_held3 (fun w' => w'.cell? ⟨k, 0, none⟩ = some (.int .u64 (h : Int)) ∧ w'.cell? ⟨k, 1, none⟩ = some (.int .u64 (l : Int)) ∧ w'.cell? ⟨k2, 0, none⟩ = some (.int .u64 (h2 : Int)) ∧ w'.cell? ⟨k2, 1, none⟩ = some (.int .u64 (l2 : Int)) ∧ w'.cell? ⟨w.heap.size, 0, none⟩ = some (.int .i64 x)) ((first | exact KEEP.out _ hb1 | exact KEEP.out _ (by (repeat' (first | (with_reducible exact Below.refl _ _) | (with_reducible assumption) | (with_reducible apply Below.setCell) | (with_reducible apply Below.alloc) | (with_reducible apply Below.drew) | (with_reducible apply below_drewN) | (with_reducible refine Below.trans ?_ (Below.mono (by assumption) ?_)) | omega | (simp; done) | (simp; omega)))))) ((first | (go_at_call 72; refine (cl.out _).mono ?_; rintro E w1 ⟨rfl, hb1⟩; obtain ⟨bc1, bf1⟩ := bcell hb1) | (go_at_call 69; refine (cs.out _).mono ?_; rintro E w3 ⟨rfl, rfl⟩)))
            all_goals go_wp2_with fail
            all_goals go_ret
            all_goals exact ⟨by rw [HE.out]; first | rfl | simp, by have := HB.out; (repeat' (first | (with_reducible exact Below.refl _ _) | (with_reducible assumption) | (with_reducible apply Below.setCell) | (with_reducible apply Below.alloc) | (with_reducible apply Below.drew) | (with_reducible apply below_drewN) | (with_reducible refine Below.trans ?_ (Below.mono (by assumption) ?_)) | omega | (simp; done) | (simp; omega)))⟩
          · have HE := hidd (show r = sgnOf true by rw [← HR.out, if_neg hPQ]; simp [hPlt, hx])
            have cs := hidd (fun W => sign_any true W)
            try have hxd : decide (x < 0) = false := decide_eq_false hx
            have KEEP := hidd (fun W' (hb : Below wc.heap.size wc W') => (⟨(hb.cell (p := ⟨k, 0, none⟩) kz).trans q0, (hb.cell (p := ⟨k, 1, none⟩) kz).trans q1, (hb.cell (p := ⟨k2, 0, none⟩) k2z).trans p0, (hb.cell (p := ⟨k2, 1, none⟩) k2z).trans p1, (hb.cell (p := ⟨w.heap.size, 0, none⟩) hsz).trans c0⟩ : W'.cell? ⟨k, 0, none⟩ = some (.int .u64 (h : Int)) ∧ W'.cell? ⟨k, 1, none⟩ = some (.int .u64 (l : Int)) ∧ W'.cell? ⟨k2, 0, none⟩ = some (.int .u64 (h2 : Int)) ∧ W'.cell? ⟨k2, 1, none⟩ = some (.int .u64 (l2 : Int)) ∧ W'.cell? ⟨w.heap.size, 0, none⟩ = some (.int .i64 x)))
            clear hne hlt T1 T2 hPlt hPQ
            go_wp2_with fail
            go_region_held3 (fun w' => w'.cell? ⟨k, 0, none⟩ = some (.int .u64 (h : Int)) ∧ w'.cell? ⟨k, 1, none⟩ = some (.int .u64 (l : Int)) ∧ w'.cell? ⟨k2, 0, none⟩ = some (.int .u64 (h2 : Int)) ∧ w'.cell? ⟨k2, 1, none⟩ = some (.int .u64 (l2 : Int)) ∧ w'.cell? ⟨w.heap.size, 0, none⟩ = some (.int .i64 x)) ((first | exact KEEP.out _ hb1 | exact KEEP.out _ (by (repeat' (first | (with_reducible exact Below.refl _ _) | (with_reducible assumption) | (with_reducible apply Below.setCell) | (with_reducible apply Below.alloc) | (with_reducible apply Below.drew) | (with_reducible apply below_drewN) | (with_reducible refine Below.trans ?_ (Below.mono (by assumption) ?_)) | omega | (simp; done) | (simp; omega)))))) ((first | (go_at_call 72; refine (cl.out _).mono ?_; rintro E w1 ⟨rfl, hb1⟩; obtain ⟨bc1, bf1⟩ := bcell hb1) | (go_at_call 69; refine (cs.out _).mono ?_; rintro E w3 ⟨rfl, rfl⟩)))
            all_goals go_wp2_with fail
            all_goals go_ret
            all_goals exact ⟨by rw [HE.out]; first | rfl | simp, by have := HB.out; (repeat' (first | (with_reducible exact Below.refl _ _) | (with_reducible assumption) | (with_reducible apply Below.setCell) | (with_reducible apply Below.alloc) | (with_reducible apply Below.drew) | (with_reducible apply below_drewN) | (with_reducible refine Below.trans ?_ (Below.mono (by assumption) ?_)) | omega | (simp; done) | (simp; omega)))⟩
        · have cl := hidd (fun W => less_no h l h2 l2 (fun g => hPlt (hlt.2 g)) W)
          by_cases hx : x < 0
          · have HE := hidd (show r = sgnOf true by rw [← HR.out, if_neg hPQ]; simp [hPlt, hx])
            have cs := hidd (fun W => sign_any true W)
            try have hxd : decide (x < 0) = false := decide_eq_false hx
            have KEEP := hidd (fun W' (hb : Below wc.heap.size wc W') => (⟨(hb.cell (p := ⟨k, 0, none⟩) kz).trans q0, (hb.cell (p := ⟨k, 1, none⟩) kz).trans q1, (hb.cell (p := ⟨k2, 0, none⟩) k2z).trans p0, (hb.cell (p := ⟨k2, 1, none⟩) k2z).trans p1, (hb.cell (p := ⟨w.heap.size, 0, none⟩) hsz).trans c0⟩ : W'.cell? ⟨k, 0, none⟩ = some (.int .u64 (h : Int)) ∧ W'.cell? ⟨k, 1, none⟩ = some (.int .u64 (l : Int)) ∧ W'.cell? ⟨k2, 0, none⟩ = some (.int .u64 (h2 : Int)) ∧ W'.cell? ⟨k2, 1, none⟩ = some (.int .u64 (l2 : Int)) ∧ W'.cell? ⟨w.heap.size, 0, none⟩ = some (.int .i64 x)))
            clear hne hlt T1 T2 hPlt hPQ
            go_wp2_with fail
            go_region_held3 (fun w' => w'.cell? ⟨k, 0, none⟩ = some (.int .u64 (h : Int)) ∧ w'.cell? ⟨k, 1, none⟩ = some (.int .u64 (l : Int)) ∧ w'.cell? ⟨k2, 0, none⟩ = some (.int .u64 (h2 : Int)) ∧ w'.cell? ⟨k2, 1, none⟩ = some (.int .u64 (l2 : Int)) ∧ w'.cell? ⟨w.heap.size, 0, none⟩ = some (.int .i64 x)) ((first | exact KEEP.out _ hb1 | exact KEEP.out _ (by (repeat' (first | (with_reducible exact Below.refl _ _) | (with_reducible assumption) | (with_reducible apply Below.setCell) | (with_reducible apply Below.alloc) | (with_reducible apply Below.drew) | (with_reducible apply below_drewN) | (with_reducible refine Below.trans ?_ (Below.mono (by assumption) ?_)) | omega | (simp; done) | (simp; omega)))))) ((first | (go_at_call 72; refine (cl.out _).mono ?_; rintro E w1 ⟨rfl, hb1⟩; obtain ⟨bc1, bf1⟩ := bcell hb1) | (go_at_call 69; refine (cs.out _).mono ?_; rintro E w3 ⟨rfl, rfl⟩)))
            all_goals go_wp2_with fail
            all_goals go_ret
            all_goals exact ⟨by rw [HE.out]; first | rfl | simp, by have := HB.out; (repeat' (first | (with_reducible exact Below.refl _ _) | (with_reducible assumption) | (with_reducible apply Below.setCell) | (with_reducible apply Below.alloc) | (with_reducible apply Below.drew) | (with_reducible apply below_drewN) | (with_reducible refine Below.trans ?_ (Below.mono (by assumption) ?_)) | omega | (simp; done) | (simp; omega)))⟩
          · have HE := hidd (show r = sgnOf false by rw [← HR.out, if_neg hPQ]; simp [hPlt, hx])
            have cs := hidd (fun W => sign_any false W)
            try have hxd : decide (x < 0) = false := decide_eq_false hx
            have KEEP := hidd (fun W' (hb : Below wc.heap.size wc W') => (⟨(hb.cell (p := ⟨k, 0, none⟩) kz).trans q0, (hb.cell (p := ⟨k, 1, none⟩) kz).trans q1, (hb.cell (p := ⟨k2, 0, none⟩) k2z).trans p0, (hb.cell (p := ⟨k2, 1, none⟩) k2z).trans p1, (hb.cell (p := ⟨w.heap.size, 0, none⟩) hsz).trans c0⟩ : W'.cell? ⟨k, 0, none⟩ = some (.int .u64 (h : Int)) ∧ W'.cell? ⟨k, 1, none⟩ = some (.int .u64 (l : Int)) ∧ W'.cell? ⟨k2, 0, none⟩ = some (.int .u64 (h2 : Int)) ∧ W'.cell? ⟨k2, 1, none⟩ = some (.int .u64 (l2 : Int)) ∧ W'.cell? ⟨w.heap.size, 0, none⟩ = some (.int .i64 x)))
            clear hne hlt T1 T2 hPlt hPQ
            go_wp2_with fail
            go_region_held3 (fun w' => w'.cell? ⟨k, 0, none⟩ = some (.int .u64 (h : Int)) ∧ w'.cell? ⟨k, 1, none⟩ = some (.int .u64 (l : Int)) ∧ w'.cell? ⟨k2, 0, none⟩ = some (.int .u64 (h2 : Int)) ∧ w'.cell? ⟨k2, 1, none⟩ = some (.int .u64 (l2 : Int)) ∧ w'.cell? ⟨w.heap.size, 0, none⟩ = some (.int .i64 x)) ((first | exact KEEP.out _ hb1 | exact KEEP.out _ (by (repeat' (first | (with_reducible exact Below.refl _ _) | (with_reducible assumption) | (with_reducible apply Below.setCell) | (with_reducible apply Below.alloc) | (with_reducible apply Below.drew) | (with_reducible apply below_drewN) | (with_reducible refine Below.trans ?_ (Below.mono (by assumption) ?_)) | omega | (simp; done) | (simp; omega)))))) ((first | (go_at_call 72; refine (cl.out _).mono ?_; rintro E w1 ⟨rfl, hb1⟩; obtain ⟨bc1, bf1⟩ := bcell hb1) | (go_at_call 69; refine (cs.out _).mono ?_; rintro E w3 ⟨rfl, rfl⟩)))
            all_goals go_wp2_with fail
            all_goals go_ret
            all_goals exact ⟨by rw [HE.out]; first | rfl | simp, by have := HB.out; (repeat' (first | (with_reducible exact Below.refl _ _) | (with_reducible assumption) | (with_reducible apply Below.setCell) | (with_reducible apply Below.alloc) | (with_reducible apply Below.drew) | (with_reducible apply below_drewN) | (with_reducible refine Below.trans ?_ (Below.mono (by assumption) ?_)) | omega | (simp; done) | (simp; omega)))⟩
  · have ho := ord_signs x y d e hx4 hy4 hs
    by_cases hx0 : x < 0
    · have hy0 : ¬ y < 0 := fun hh => hs (by simp [hx0, hh])
      have hdx : decide (x < 0) = true := by simp [hx0]
      rw [ho, hdx]
      have cs := hidd (fun W => sign_any true W)
      clear ho hdx hs
      go_enter Try.func55, Try.ntmps55
      go_wp2_with fail
      refine (cs.out _).mono ?_
      rintro E w1 ⟨rfl, rfl⟩
      go_wp2_with fail
      go_ret
      exact ⟨rfl, by (repeat' (first | (with_reducible exact Below.refl _ _) | (with_reducible assumption) | (with_reducible apply Below.setCell) | (with_reducible apply Below.alloc) | (with_reducible apply Below.drew) | (with_reducible apply below_drewN) | (with_reducible refine Below.trans ?_ (Below.mono (by assumption) ?_)) | omega | (simp; done) | (simp; omega)))⟩
    · have hy0 : y < 0 := by
        by_cases hh : y < 0
        · exact hh
        · exact absurd (by simp [hx0, hh]) hs
      have hdx : decide (x < 0) = false := by simp [hx0]
      rw [ho, hdx]
      have cs := hidd (fun W => sign_any false W)
      clear ho hdx hs
      go_enter Try.func55, Try.ntmps55
      go_wp2_with fail
      refine (cs.out _).mono ?_
      rintro E w1 ⟨rfl, rfl⟩
      go_wp2_with fail
      go_ret
      exact ⟨rfl, by (repeat' (first | (with_reducible exact Below.refl _ _) | (with_reducible assumption) | (with_reducible apply Below.setCell) | (with_reducible apply Below.alloc) | (with_reducible apply Below.drew) | (with_reducible apply below_drewN) | (with_reducible refine Below.trans ?_ (Below.mono (by assumption) ?_)) | omega | (simp; done) | (simp; omega)))⟩
end Go.Proofs.Ytohkkebiilaniaa.Dr

/- Which of two fractions is less: the face. -/
namespace Go.Proofs.Ytohkkebiilaniaa.Dr
open Go.RowKit

theorem order_any (x d y e : Int) (h0 : -9223372036854775808 ≤ x) (h1 : x ≤ 9223372036854775807) (h3 : d ≤ 9223372036854775807) (k0 : -9223372036854775808 ≤ y) (k1 : y ≤ 9223372036854775807) (k3 : e ≤ 9223372036854775807)
    (hx : rightB x d = true) (hy : rightB y e = true) (w : World) :
    Calls Try.prog 55 #[.agg #[.int .i64 x, .int .i64 d], .agg #[.int .i64 y, .int .i64 e]] w fun E w' => E = .returned (.int .i64 (ordZ (x * e) (y * d))) ∧ Below w.heap.size w w' := by
  obtain ⟨⟨_, a2, a3, a4, a5⟩, ed⟩ := right_parts x d h0 h1 h3 hx
  obtain ⟨⟨_, b2, b3, b4, b5⟩, ee⟩ := right_parts y e k0 k1 k3 hy
  have hp := order_parts x y x.natAbs d.natAbs y.natAbs e.natAbs ⟨rfl, a2, a3, a4, a5⟩ ⟨rfl, b2, b3, b4, b5⟩ w
  rw [← ed, ← ee] at hp
  exact hp
theorem entersCmp : ∀ args w, (callFunc 54 args).run Try.prog w = .ok (.enter 54 args) w := fun args w => by simp [callFunc, Try.func54, Try.f54, mark]
def cmpR (x d y e : Int) : Int × Int := if rightB x d && rightB y e then (ordZ (x * e) (y * d), 0) else (0, 2)
set_option maxHeartbeats 1000000 in
theorem cmpStep (x d y e : Int) (h0 : -9223372036854775808 ≤ x) (h1 : x ≤ 9223372036854775807) (h3 : d ≤ 9223372036854775807) (k0 : -9223372036854775808 ≤ y) (k1 : y ≤ 9223372036854775807) (k3 : e ≤ 9223372036854775807)
    (hx : rightB x d = true) (hy : rightB y e = true)
    (p q : Nat) (w : World) (hc : w.cell? ⟨p, 0, none⟩ = some (.int .i64 x)) (hc' : w.cell? ⟨p, 1, none⟩ = some (.int .i64 d)) (hd : w.cell? ⟨q, 0, none⟩ = some (.int .i64 y)) (hd' : w.cell? ⟨q, 1, none⟩ = some (.int .i64 e)) (hp : p < w.heap.size) (hq : q < w.heap.size) :
    StepsTo 54 #[.pointer (some ⟨p, 0, none⟩), .pointer (some ⟨q, 0, none⟩)] (.returned (.int .i64 (ordZ (x * e) (y * d)))) w := by
  intro W hW
  have c1 : W.cell? ⟨p, 0, none⟩ = some (.int .i64 x) := (hW.cell (p := ⟨p, 0, none⟩) hp).trans hc
  have c2 : W.cell? ⟨p, 1, none⟩ = some (.int .i64 d) := (hW.cell (p := ⟨p, 1, none⟩) hp).trans hc'
  have c3 : W.cell? ⟨q, 0, none⟩ = some (.int .i64 y) := (hW.cell (p := ⟨q, 0, none⟩) hq).trans hd
  have c4 : W.cell? ⟨q, 1, none⟩ = some (.int .i64 e) := (hW.cell (p := ⟨q, 1, none⟩) hq).trans hd'
  have cb := hidd (fun W => order_any x d y e h0 h1 h3 k0 k1 k3 hx hy W)
  clear hW hc hc' hd hd' hp hq hx hy
  generalize ordZ (x * e) (y * d) = r at *
  go_enter Try.func54, Try.ntmps54
  go_wp2_with fail
  refine (cb.out _).mono ?_
  rintro E w1 ⟨rfl, hb⟩
  go_wp2_with fail
  go_ret
  exact ⟨rfl, hb⟩
set_option maxHeartbeats 1000000 in
theorem cmp_any (x d y e : Int) (h0 : -9223372036854775808 ≤ x) (h1 : x ≤ 9223372036854775807) (h2 : -9223372036854775808 ≤ d) (h3 : d ≤ 9223372036854775807)
    (k0 : -9223372036854775808 ≤ y) (k1 : y ≤ 9223372036854775807) (k2 : -9223372036854775808 ≤ e) (k3 : e ≤ 9223372036854775807) (w : World) :
    Calls Try.prog 36 #[.agg #[.int .i64 x, .int .i64 d], .agg #[.int .i64 y, .int .i64 e]] w fun E w' => E = .returned (.tuple #[.int .i64 (cmpR x d y e).1, .int .i64 (cmpR x d y e).2]) ∧ Below w.heap.size w w' := by
  have hmf : ∀ (fn : Fn) (first cap : Array Value) (w : World), (Instr.makeFunc fn first cap).run Try.prog w = .ok (.func fn first cap) w := fun _ _ _ _ => rfl
  have cl := hidd (fun b w hb hc hd hm he c => looks_two x d y e h0 h1 h2 h3 k0 k1 k2 k3 b w hb hc hd hm he c)
  by_cases hr : (rightB x d && rightB y e) = true
  · obtain ⟨hx, hy⟩ : rightB x d = true ∧ rightB y e = true := by simpa using hr
    have cs := hidd (fun p q W => cmpStep x d y e h0 h1 h3 k0 k1 k3 hx hy p q W)
    have e1 : cmpR x d y e = (ordZ (x * e) (y * d), 0) := by simp [cmpR, hx, hy]
    rw [hr] at cl
    rw [e1]
    clear hr hx hy e1
    generalize ordZ (x * e) (y * d) = r at *
    go_enter Try.func36, Try.ntmps36
    go_wp2_with fail
    refine (toldI_ok _ entersCmp _ _ _ r (cl.out _ _ (by (first | omega | (simp; done) | (simp; omega))) (by simp [go_sem]) (by simp [go_sem]) (by simp [go_sem]) (by simp [go_sem]) _) (cs.out _ _ _ (by simp [go_sem]) (by simp [go_sem]) (by simp [go_sem]) (by simp [go_sem]) (by (first | omega | (simp; done) | (simp; omega))) (by (first | omega | (simp; done) | (simp; omega))))).mono ?_
    rintro E w1 ⟨rfl, hb⟩
    go_wp2_with fail
    go_ret2
    exact ⟨rfl, by (repeat' (first | (with_reducible exact Below.refl _ _) | (with_reducible assumption) | (with_reducible apply Below.setCell) | (with_reducible apply Below.alloc) | (with_reducible apply Below.drew) | (with_reducible apply below_drewN) | (with_reducible refine Below.trans ?_ (Below.mono (by assumption) ?_)) | omega | (simp; done) | (simp; omega)))⟩
  · have hr' : (rightB x d && rightB y e) = false := by simpa using hr
    have e1 : cmpR x d y e = (0, 2) := by unfold cmpR; rw [if_neg hr]
    rw [hr'] at cl
    rw [e1]
    clear hr hr' e1
    go_enter Try.func36, Try.ntmps36
    go_wp2_with fail
    refine (toldI_bad _ _ _ _ (cl.out _ _ (by (first | omega | (simp; done) | (simp; omega))) (by simp [go_sem]) (by simp [go_sem]) (by simp [go_sem]) (by simp [go_sem]) _)).mono ?_
    rintro E w1 ⟨rfl, hb⟩
    go_wp2_with fail
    go_ret2
    exact ⟨rfl, by (repeat' (first | (with_reducible exact Below.refl _ _) | (with_reducible assumption) | (with_reducible apply Below.setCell) | (with_reducible apply Below.alloc) | (with_reducible apply Below.drew) | (with_reducible apply below_drewN) | (with_reducible refine Below.trans ?_ (Below.mono (by assumption) ?_)) | omega | (simp; done) | (simp; omega)))⟩
end Go.Proofs.Ytohkkebiilaniaa.Dr

