/- Parts of two words; sums and differences of them. -/
import Derived.Test.YtohkkebiilaniaaRatPc
import Derived.Shelf.Spec.BitsCarry
namespace Go.Proofs.Ytohkkebiilaniaa
open Go.RowKit

/-- the sum of two numbers with whether each is below nought. -/
def tog (p : Bool) (x : Nat) (q : Bool) (y : Nat) : Bool × Nat :=
  if p = q then (p, x + y) else if x < y then (q, y - x) else (p, x - y)
def IsTog (b : Bool) (n : Nat) (w : World) (e : Ending) (w' : World) : Prop :=
  ∃ h l : Nat, Two n h l ∧ e = .returned (.tuple #[.bool b, .agg #[.int .u64 h, .int .u64 l]]) ∧ Below w.heap.size w w'

theorem zs3 {a b : Nat} (h : a + 2 < b) : a < b ∧ a + 1 < b ∧ a + 1 + 1 < b := by omega
set_option maxRecDepth 100000 in
theorem two_add (x y a b c d s1 k1 s2 k2 : Nat) (hx : Two x a b) (hy : Two y c d) (hs : x + y < 340282366920938463463374607431768211456)
    (a1 : k1 * 18446744073709551616 + s1 = b + d + 0) (a2 : s1 < 18446744073709551616) (b1 : k2 * 18446744073709551616 + s2 = a + c + k1) (b2 : s2 < 18446744073709551616) :
    Two (x + y) s2 s1 := by
  obtain ⟨h1, h2, h3⟩ := hx
  obtain ⟨h4, h5, h6⟩ := hy
  refine ⟨?_, b2, a2⟩
  generalize hM : 18446744073709551616 = M at *
  have e : 340282366920938463463374607431768211456 = M * M := by rw [← hM]
  rw [e] at hs
  have h7 : x + y = k2 * M * M + (s2 * M + s1) := by
    have e2 : (a + c + k1) * M = k2 * M * M + s2 * M := by rw [← b1, Nat.add_mul]
    have e3 : (a + c + k1) * M = a * M + c * M + k1 * M := by rw [Nat.add_mul, Nat.add_mul]
    omega
  have h8 : k2 = 0 := by
    rcases Nat.eq_zero_or_pos k2 with h | h
    · exact h
    · have h9 : M ≤ k2 * M := by have := Nat.mul_le_mul_right M h; omega
      have h10 : M * M ≤ k2 * M * M := Nat.mul_le_mul_right M h9
      omega
  subst h8
  omega
theorem two_sub (x y a b c d s1 k1 s2 k2 : Nat) (hx : Two x a b) (hy : Two y c d) (hs : y ≤ x)
    (a1 : s1 + d + 0 = b + k1 * 18446744073709551616) (a2 : s1 < 18446744073709551616) (b1 : s2 + c + k1 = a + k2 * 18446744073709551616) (b2 : s2 < 18446744073709551616) (b3 : k2 ≤ 1) :
    Two (x - y) s2 s1 := by
  obtain ⟨h1, h2, h3⟩ := hx
  obtain ⟨h4, h5, h6⟩ := hy
  refine ⟨?_, b2, a2⟩
  generalize hM : 18446744073709551616 = M at *
  have e1 : (s2 + c + k1) * M = (a + k2 * M) * M := by rw [b1]
  rw [Nat.add_mul, Nat.add_mul, Nat.add_mul] at e1
  have h7 : k2 = 0 := by
    rcases Nat.eq_zero_or_pos k2 with h | h
    · exact h
    · have h8 : (s2 + 1) * M ≤ M * M := Nat.mul_le_mul_right M b2
      have h9 : M ≤ k2 * M := by have := Nat.mul_le_mul_right M h; omega
      have h10 : M * M ≤ k2 * M * M := Nat.mul_le_mul_right M h9
      rw [Nat.add_mul] at h8
      omega
  subst h7
  omega
theorem two_lt (x y a b c d : Nat) (hx : Two x a b) (hy : Two y c d) (h : x < y) : (a : Int) < c ∨ (a : Int) = c ∧ (b : Int) < d := by
  obtain ⟨h1, h2, h3⟩ := hx
  obtain ⟨h4, h5, h6⟩ := hy
  omega
theorem two_nlt (x y a b c d : Nat) (hx : Two x a b) (hy : Two y c d) (h : ¬ x < y) : ¬ ((a : Int) < c ∨ (a : Int) = c ∧ (b : Int) < d) := by
  obtain ⟨h1, h2, h3⟩ := hx
  obtain ⟨h4, h5, h6⟩ := hy
  omega

end Go.Proofs.Ytohkkebiilaniaa
