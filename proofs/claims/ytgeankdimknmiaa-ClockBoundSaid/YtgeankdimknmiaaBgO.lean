/- Products of numbers by their digits: plain mathematics. -/
import Derived.Test.YtgeankdimknmiaaBgN
namespace Go.Proofs.Ytgeankdimknmiaa
namespace BM

theorem set_to {l : List Nat} {j : Nat} (hj : j < l.length) (x : Nat) : valD (l.set j x) + 65536 ^ j * D l j = valD l + 65536 ^ j * x := by
  have hj' : j < (l.set j x).length := by simpa using hj
  have e1 := val_at hj
  have e2 := val_at hj'
  have hD : D (l.set j x) j = x := by
    simp [D, List.getD_eq_getElem?_getD, hj]
  rw [hD, List.drop_set_of_lt (by omega), List.take_set_of_le (Nat.le_refl _)] at e2
  rw [e2, e1, Nat.mul_add, Nat.mul_add]
  omega
/-- one digit of a product's row. -/
theorem mul_step {l : List Nat} {j c p : Nat} (hj : j < l.length) :
    valD (l.set j ((c + D l j + p) % 65536)) + (c + D l j + p) / 65536 * 65536 ^ (j + 1) = valD l + c * 65536 ^ j + p * 65536 ^ j := by
  have h := set_to hj ((c + D l j + p) % 65536)
  rw [Nat.pow_succ]
  generalize valD (l.set j ((c + D l j + p) % 65536)) = v at *
  generalize valD l = u at *
  generalize D l j = d at *
  generalize 65536 ^ j = b at *
  generalize hs : c + d + p = s at *
  have h1 := Nat.mod_add_div s 65536
  have h2 : b * (s % 65536) + s / 65536 * (b * 65536) = b * s := by
    have : s / 65536 * (b * 65536) = b * (65536 * (s / 65536)) := by
      rw [Nat.mul_comm (s / 65536), Nat.mul_assoc]
    rw [this, ← Nat.mul_add, h1]
  have h3 : b * s = c * b + b * d + p * b := by
    rw [← hs, Nat.mul_add, Nat.mul_add, Nat.mul_comm b c, Nat.mul_comm b p]
  omega
theorem carry_lt {c d p a b : Nat} (hc : c < 65536) (hd : d < 65536) (ha : a < 65536) (hb : b < 65536) (hp : p ≤ a * b) : (c + d + p) / 65536 < 65536 ∧ c + d + p < 4294967296 := by
  have h1 : a * b ≤ 65535 * 65535 := Nat.mul_le_mul (by omega) (by omega)
  have : c + d + p < 4294967296 := by omega
  exact ⟨by omega, this⟩
/-- what a row comes to, up to its k-th digit. -/
def rowT (a b : List Nat) (i k : Nat) : Nat := valD (a.take i) * valD b + D a i * valD (b.take k) * 65536 ^ i
theorem rowT_zero (a b : List Nat) (i : Nat) : rowT a b i 0 = valD (a.take i) * valD b := by simp [rowT, valD]
theorem rowT_succ (a b : List Nat) (i k : Nat) : rowT a b i (k + 1) = rowT a b i k + D a i * D b k * 65536 ^ (i + k) := by
  unfold rowT
  rw [val_take, Nat.mul_add, Nat.add_mul, Nat.pow_add]
  have : D a i * (65536 ^ k * D b k) * 65536 ^ i = D a i * D b k * (65536 ^ i * 65536 ^ k) := by
    rw [Nat.mul_comm (65536 ^ k) (D b k), ← Nat.mul_assoc, Nat.mul_assoc, Nat.mul_comm (65536 ^ k)]
  rw [this]; omega
theorem rowT_end (a b : List Nat) (i k : Nat) (hk : b.length ≤ k) : rowT a b i k = valD (a.take (i + 1)) * valD b := by
  unfold rowT
  rw [List.take_of_length_le hk, val_take, Nat.add_mul]
  congr 1
  rw [Nat.mul_right_comm, Nat.mul_comm (D a i)]
theorem rowT_lt {a b : List Nat} (ha : Dig a) (hb : Dig b) {i : Nat} (hi : i < a.length) {k : Nat} (hk : b.length ≤ k) : rowT a b i k < 65536 ^ (i + 1 + b.length) := by
  rw [rowT_end a b i k hk, Nat.pow_add]
  have h1 := valD_lt (ha.take (i + 1))
  rw [List.length_take, Nat.min_eq_left (by omega)] at h1
  have h2 := valD_lt hb
  have hp : 0 < 65536 ^ b.length := Nat.pow_pos (by decide)
  calc valD (a.take (i + 1)) * valD b ≤ valD (a.take (i + 1)) * 65536 ^ b.length := Nat.mul_le_mul_left _ (Nat.le_of_lt h2)
    _ < 65536 ^ (i + 1) * 65536 ^ b.length := Nat.mul_lt_mul_of_pos_right h1 hp
/-- behind the last digit of b there is at most one carry. -/
theorem carry_end {a b l : List Nat} (ha : Dig a) (hb : Dig b) {i k c : Nat} (hi : i < a.length) (hk : b.length + 1 ≤ k) (h : valD l + c * 65536 ^ (i + k) = rowT a b i k) : c = 0 := by
  have h1 := rowT_lt ha hb hi (k := k) (by omega)
  rcases Nat.eq_zero_or_pos c with h0 | h0
  · exact h0
  · have h2 : 65536 ^ (i + 1 + b.length) ≤ 65536 ^ (i + k) := Nat.pow_le_pow_right (by decide) (by omega)
    have h3 : 1 * 65536 ^ (i + k) ≤ c * 65536 ^ (i + k) := Nat.mul_le_mul_right _ h0
    omega
end BM
end Go.Proofs.Ytgeankdimknmiaa
