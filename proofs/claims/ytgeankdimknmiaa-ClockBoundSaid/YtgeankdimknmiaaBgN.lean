/- Bits of numbers, and how a quotient grows bit by bit: plain mathematics. -/
import Derived.Test.YtgeankdimknmiaaBgM
namespace Go.Proofs.Ytgeankdimknmiaa
namespace BM

theorem pow_join (j s : Nat) : 65536 ^ j * 2 ^ s = 2 ^ (16 * j + s) := by
  rw [show (65536 : Nat) = 2 ^ 16 from rfl, ← Nat.pow_mul, ← Nat.pow_add]
theorem pow_two_mul (a t : Nat) : a * 2 ^ (t + 1) = 2 * a * 2 ^ t := by
  rw [Nat.pow_succ, ← Nat.mul_assoc, Nat.mul_comm (a * 2 ^ t) 2, ← Nat.mul_assoc]
theorem pow_rest {s : Nat} (h : s < 16) : (65536 : Nat) = 2 ^ s * (2 * 2 ^ (15 - s)) := by
  rw [show (65536 : Nat) = 2 ^ 16 from rfl, ← Nat.pow_succ', ← Nat.pow_add]
  congr 1; omega
/-- a bit of a number is one of its digit. -/
theorem bit_of {l : List Nat} (hd : Dig l) {j s : Nat} (hj : j < l.length) (hs : s < 16) : D l j / 2 ^ s % 2 = valD l / 2 ^ (16 * j + s) % 2 := by
  have e := val_at hj
  have h1 := valD_lt (hd.take j)
  rw [List.length_take, Nat.min_eq_left (by omega)] at h1
  rw [← pow_join, ← Nat.div_div_eq_div_mul, e]
  have hp : 0 < 65536 ^ j := Nat.pow_pos (by decide)
  rw [Nat.add_mul_div_left _ _ hp, Nat.div_eq_of_lt h1, Nat.zero_add]
  generalize D l j = d
  generalize valD (l.drop (j + 1)) = v
  have hq : 0 < 2 ^ s := Nat.two_pow_pos s
  rw [pow_rest hs, Nat.mul_assoc, Nat.add_mul_div_left _ _ hq]
  generalize d / 2 ^ s = x
  rw [Nat.mul_assoc]
  omega
/-- a digit that has no bits from the s-th down has room for it. -/
theorem room_of {l : List Nat} (hd : Dig l) {j s k : Nat} (hj : j < l.length) (hs : s < 16) (h : valD l = k * 2 ^ (16 * j + s + 1)) : D l j + 2 ^ s < 65536 := by
  have e := val_at hj
  have h1 := valD_lt (hd.take j)
  rw [List.length_take, Nat.min_eq_left (by omega)] at h1
  have hlt := D_lt hd j
  have e2 : valD l = 65536 ^ j * (2 ^ s * (2 * k)) := by
    rw [h, Nat.pow_succ, ← pow_join]
    generalize 65536 ^ j = p
    generalize 2 ^ s = q
    rw [Nat.mul_comm k, Nat.mul_assoc, Nat.mul_assoc]
  have hp : 0 < 65536 ^ j := Nat.pow_pos (by decide)
  have e3 : valD l / 65536 ^ j = 2 ^ s * (2 * k) := by rw [e2, Nat.mul_div_cancel_left _ hp]
  rw [e, Nat.add_mul_div_left _ _ hp, Nat.div_eq_of_lt h1, Nat.zero_add] at e3
  generalize D l j = d at *
  generalize valD (l.drop (j + 1)) = v at *
  have hr := pow_rest hs
  have hq : 0 < 2 ^ s := Nat.two_pow_pos s
  generalize 2 ^ (15 - s) = r at *
  generalize 2 ^ s = q at *
  have e4 : d + q * (2 * r * v) = q * (2 * k) := by
    rw [← e3, hr]; rw [Nat.mul_assoc q]
  have hdv : q * 2 ∣ d := by
    have h2 : q * 2 ∣ q * (2 * r * v) := ⟨r * v, by rw [Nat.mul_assoc, Nat.mul_assoc]⟩
    have h3 : q * 2 ∣ d + q * (2 * r * v) := ⟨k, by rw [e4, Nat.mul_assoc]⟩
    exact (Nat.dvd_add_iff_left h2).2 h3
  obtain ⟨t, ht⟩ := hdv
  have h5 : q * 2 * t < q * 2 * r := by
    have : q * 2 * r = 65536 := by rw [hr, Nat.mul_assoc]
    omega
  have h6 : t < r := Nat.lt_of_mul_lt_mul_left h5
  have h7 : q * 2 * (t + 1) ≤ q * 2 * r := Nat.mul_le_mul_left _ h6
  have h8 : q * 2 * (t + 1) = q * 2 * t + q * 2 := Nat.mul_succ _ _
  have h9 : q * 2 * r = 65536 := by rw [hr, Nat.mul_assoc]
  omega
theorem set_val {l : List Nat} {j : Nat} (hj : j < l.length) (x : Nat) : valD (l.set j (D l j + x)) = valD l + 65536 ^ j * x := by
  have hj' : j < (l.set j (D l j + x)).length := by simpa using hj
  have e1 := val_at hj
  have e2 := val_at hj'
  have hD : D (l.set j (D l j + x)) j = D l j + x := by
    simp [D, List.getD_eq_getElem?_getD, hj]
  rw [hD, List.drop_set_of_lt (by omega), List.take_set_of_le (Nat.le_refl _)] at e2
  rw [e2, e1]
  have : D l j + x + 65536 * valD (l.drop (j + 1)) = (D l j + 65536 * valD (l.drop (j + 1))) + x := by omega
  rw [this, Nat.mul_add]
  omega
theorem set_dig {l : List Nat} (hd : Dig l) {j x : Nat} (hx : x < 65536) : Dig (l.set j x) := fun y hy => by
  rcases List.mem_or_eq_of_mem_set hy with h | h
  · exact hd y h
  · omega
theorem dig_zeros (n : Nat) : Dig (List.replicate n 0) ∧ valD (List.replicate n 0) = 0 := by
  induction n with
  | zero => exact ⟨Dig.nil, rfl⟩
  | succ n ih =>
    rw [List.replicate_succ]
    exact ⟨Dig.cons (by decide) ih.1, by simp [valD, ih.2]⟩
/-- one bit more: what is left, and the quotient. -/
theorem div_bit (x y i : Nat) (hy : 0 < y) :
    (x / 2 ^ i) = 2 * (x / 2 ^ (i + 1)) + x / 2 ^ i % 2 ∧
    (2 * (x / 2 ^ (i + 1) % y) + x / 2 ^ i % 2 < y → x / 2 ^ i % y = 2 * (x / 2 ^ (i + 1) % y) + x / 2 ^ i % 2 ∧ x / 2 ^ i / y = 2 * (x / 2 ^ (i + 1) / y)) ∧
    (y ≤ 2 * (x / 2 ^ (i + 1) % y) + x / 2 ^ i % 2 → x / 2 ^ i % y = 2 * (x / 2 ^ (i + 1) % y) + x / 2 ^ i % 2 - y ∧ x / 2 ^ i / y = 2 * (x / 2 ^ (i + 1) / y) + 1) := by
  have e0 : x / 2 ^ (i + 1) = x / 2 ^ i / 2 := by rw [Nat.pow_succ, Nat.div_div_eq_div_mul]
  have e1 : x / 2 ^ i = 2 * (x / 2 ^ (i + 1)) + x / 2 ^ i % 2 := by rw [e0]; omega
  refine ⟨e1, ?_, ?_⟩
  all_goals
    intro h
    generalize x / 2 ^ (i + 1) = X at *
    have hb : x / 2 ^ i % 2 < 2 := Nat.mod_lt _ (by decide)
    generalize x / 2 ^ i % 2 = b at *
    have hm := Nat.mod_add_div X y
    have hl := Nat.mod_lt X hy
    generalize hr : X % y = r at *
    generalize hq : X / y = q at *
    have e2 : x / 2 ^ i = 2 * r + b + y * (2 * q) := by
      rw [e1, ← hm, Nat.mul_add]
      have : 2 * (y * q) = y * (2 * q) := by rw [← Nat.mul_assoc, Nat.mul_comm 2 y, Nat.mul_assoc]
      omega
  · rw [e2, Nat.add_mul_mod_self_left, Nat.add_mul_div_left _ _ hy, Nat.mod_eq_of_lt h, Nat.div_eq_of_lt h]
    exact ⟨rfl, by omega⟩
  · have e3 : 2 * r + b + y * (2 * q) = (2 * r + b - y) + y * (2 * q + 1) := by rw [Nat.mul_add]; omega
    have h3 : 2 * r + b - y < y := by omega
    rw [e2, e3, Nat.add_mul_mod_self_left, Nat.add_mul_div_left _ _ hy, Nat.mod_eq_of_lt h3, Nat.div_eq_of_lt h3]
    exact ⟨rfl, by omega⟩
end BM
end Go.Proofs.Ytgeankdimknmiaa
