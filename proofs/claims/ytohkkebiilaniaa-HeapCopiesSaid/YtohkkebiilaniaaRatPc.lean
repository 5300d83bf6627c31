/- The library's Div64, Rem64: two words by one. -/
import Derived.Test.YtohkkebiilaniaaRatPa
import Derived.Test.YtohkkebiilaniaaShelf
import Derived.Deep.CutBlock
import Derived.Deep.CutRange
import Derived.Deep.LoopGhost
namespace Go.Proofs.Ytohkkebiilaniaa
open Go.RowKit

theorem ret_two {k : IntKind} {a b c d : Int} (h : a = b) (h' : c = d) : Ending.returned (.tuple #[.int k a, .int k c]) = .returned (.tuple #[.int k b, .int k d]) := by rw [h, h']
theorem bitLen_bounds : ∀ (k x : Nat), x < 2 ^ 64 → 2 ^ k ≤ x → x < 2 ^ (k + 1) → Lib.bitLen x = k + 1
  | 0, x, hx, h1, h2 => by
    have : x = 1 := by simp at h1 h2; omega
    subst this; decide
  | k + 1, x, hx, h1, h2 => by
    have h3 : x ≠ 0 := by have := Nat.two_pow_pos (k + 1); omega
    rw [Lib.bitLen_half x h3 hx, bitLen_bounds k (x / 2) (by omega) (by rw [Nat.pow_succ] at h1; omega) (by rw [Nat.pow_succ] at h2; omega)]
    omega

theorem join_lo (A B C : Nat) (h : B / 18446744073709551616 = C) :
    (A + C) * 18446744073709551616 + (B % 18446744073709551616 / 4294967296 * 4294967296 + B % 18446744073709551616 % 4294967296) = A * 18446744073709551616 + B := by
  rw [Nat.div_add_mod' (B % 18446744073709551616) 4294967296, Nat.add_mul, Nat.add_assoc, ← h, Nat.div_add_mod' B 18446744073709551616]
/-- both shifted so that the divisor's highest bit stands: the parts by name. -/
theorem shifted (hi lo y s : Nat) (hlo : lo < 18446744073709551616) (hlt : hi < y) (hs : s ≤ 63) (b1 : 9223372036854775808 ≤ y * 2 ^ s) (b2 : y * 2 ^ s < 18446744073709551616) :
    ∃ Y Y1 Y0 U L L1 L0 : Nat,
      (IntKind.u64.wrap ((y : Int) * 2 ^ s) = (Y : Int) ∧ (Y : Int) / 4294967296 = (Y1 : Int) ∧ bits .and .u64 (Y : Int) 4294967295 = (Y0 : Int) ∧
       bits .or .u64 (IntKind.u64.wrap ((hi : Int) * 2 ^ s)) ((lo : Int) / 2 ^ (64 - s)) = (U : Int) ∧
       IntKind.u64.wrap ((lo : Int) * 2 ^ s) = (L : Int) ∧ (L : Int) / 4294967296 = (L1 : Int) ∧ bits .and .u64 (L : Int) 4294967295 = (L0 : Int)) ∧
      Y = y * 2 ^ s ∧ Y = Y1 * 4294967296 + Y0 ∧ 2147483648 ≤ Y1 ∧ Y1 < 4294967296 ∧ Y0 < 4294967296 ∧ U < Y ∧ L1 < 4294967296 ∧ L0 < 4294967296 ∧
      U * 18446744073709551616 + (L1 * 4294967296 + L0) = (hi * 18446744073709551616 + lo) * 2 ^ s := by
  have p0 : 0 < 2 ^ s := Nat.two_pow_pos _
  have p1 : 2 ^ (64 - s) * 2 ^ s = 18446744073709551616 := by rw [← Nat.pow_add, show 64 - s + s = 64 by omega]
  have h1 : hi * 2 ^ s + 2 ^ s ≤ y * 2 ^ s := by
    have : (hi + 1) * 2 ^ s ≤ y * 2 ^ s := Nat.mul_le_mul_right _ hlt
    rwa [Nat.add_mul, Nat.one_mul] at this
  have h2 : lo / 2 ^ (64 - s) < 2 ^ s := by
    refine (Nat.div_lt_iff_lt_mul (Nat.two_pow_pos _)).2 ?_
    rw [Nat.mul_comm, p1]; exact hlo
  have h3 : lo * 2 ^ s / 18446744073709551616 = lo / 2 ^ (64 - s) := by
    rw [← p1]; exact Nat.mul_div_mul_right _ _ p0
  have h4 := Nat.div_add_mod' (lo * 2 ^ s) 18446744073709551616
  have h5 : lo * 2 ^ s % 18446744073709551616 < 18446744073709551616 := Nat.mod_lt _ (by decide)
  refine ⟨y * 2 ^ s, y * 2 ^ s / 4294967296, y * 2 ^ s % 4294967296, hi * 2 ^ s + lo / 2 ^ (64 - s), lo * 2 ^ s % 18446744073709551616,
    lo * 2 ^ s % 18446744073709551616 / 4294967296, lo * 2 ^ s % 18446744073709551616 % 4294967296, ⟨?_, by omega, lo32 _ b2, ?_, ?_, by omega, lo32 _ h5⟩, rfl, by omega, by omega, by omega, by omega, by omega, by omega, by omega, ?_⟩
  · have e : ((y : Int) * 2 ^ s) = ((y * 2 ^ s : Nat) : Int) := by rw [Int.natCast_mul, Int.natCast_pow]; rfl
    rw [e]; exact wrap_lt _ b2
  · have e : ((hi : Int) * 2 ^ s) = ((hi * 2 ^ s : Nat) : Int) := by rw [Int.natCast_mul, Int.natCast_pow]; rfl
    have e2 : ((lo : Int) / 2 ^ (64 - s)) = ((lo / 2 ^ (64 - s) : Nat) : Int) := by rw [Int.natCast_ediv, Int.natCast_pow]; rfl
    have h7 : hi * 2 ^ s < 18446744073709551616 := by omega
    have h8 : lo / 2 ^ (64 - s) < 18446744073709551616 := Nat.lt_of_le_of_lt (Nat.div_le_self _ _) hlo
    have h9 := Nat.two_pow_add_eq_or_of_lt h2 hi
    rw [Nat.mul_comm (2 ^ s) hi] at h9
    rw [e, e2, wrap_lt _ h7, bits_or_u64_nat _ _ h7 h8, h9]
  · have e : ((lo : Int) * 2 ^ s) = ((lo * 2 ^ s : Nat) : Int) := by rw [Int.natCast_mul, Int.natCast_pow]; rfl
    rw [e]; exact wrap_any _
  · have h6 : (hi * 18446744073709551616 + lo) * 2 ^ s = hi * 2 ^ s * 18446744073709551616 + lo * 2 ^ s := by
      rw [Nat.add_mul, Nat.mul_right_comm]
    rw [h6]
    exact join_lo _ _ _ h3

theorem wraps_rem (U v X V : Nat) (h : U * 4294967296 + v = X + V) (hV : V < 18446744073709551616) :
    ∃ A B C : Nat, IntKind.u64.wrap ((U : Int) * 4294967296) = (A : Int) ∧ IntKind.u64.wrap ((A : Int) + (v : Int)) = (B : Int) ∧
      IntKind.u64.wrap (X : Int) = (C : Int) ∧ IntKind.u64.wrap ((B : Int) - (C : Int)) = (V : Int) := by
  refine ⟨U * 4294967296 % 18446744073709551616, (U * 4294967296 % 18446744073709551616 + v) % 18446744073709551616, X % 18446744073709551616, ?_, ?_, ?_, ?_⟩
  · rw [IntKind.wrap_u64]; omega
  · rw [IntKind.wrap_u64]; omega
  · rw [IntKind.wrap_u64]; omega
  · rw [IntKind.wrap_u64]; omega

/-- one digit of the quotient, all its steps by name. -/
theorem digit (U v Y Y1 Y0 : Nat) (hY : Y = Y1 * 4294967296 + Y0) (k1 : 2147483648 ≤ Y1) (k2 : Y1 < 4294967296) (k3 : Y0 < 4294967296) (k4 : U < Y) (k5 : v < 4294967296) :
    ∃ Q P R D A B C V : Nat,
      ((U : Int) / (Y1 : Int) = (Q : Int) ∧ (Q : Int) * (Y1 : Int) = (P : Int) ∧ IntKind.u64.wrap ((U : Int) * 4294967296) = (A : Int) ∧ IntKind.u64.wrap ((A : Int) + (v : Int)) = (B : Int) ∧
      IntKind.u64.wrap ((D : Int) * (Y : Int)) = (C : Int) ∧ IntKind.u64.wrap ((B : Int) - (C : Int)) = (V : Int)) ∧
      Hid (Q * Y1 + R = U) ∧ P ≤ U ∧ U - P = R ∧ R < 4294967296 ∧ Q ≤ 4294967297 ∧ D ≤ Q ∧ D < 4294967296 ∧ V < Y ∧
      Hid ((U * 4294967296 + v) / Y = D ∧ (U * 4294967296 + v) % Y = V) := by
  obtain ⟨n1, n2, n3, n4, n5⟩ := RM.kn_start U v Y1 Y0 k1 k2 k3 k5 (hY ▸ k4)
  rw [← hY] at n4 n5
  have hpos : 0 < Y := by omega
  have hr : (U * 4294967296 + v) % Y < Y := Nat.mod_lt _ hpos
  obtain ⟨A, B, C, a1, a2, a3, a4⟩ := wraps_rem U v ((U * 4294967296 + v) / Y * Y) ((U * 4294967296 + v) % Y) (Nat.div_add_mod' _ _).symm (by omega)
  exact ⟨U / Y1, U / Y1 * Y1, U - U / Y1 * Y1, (U * 4294967296 + v) / Y, A, B, C, (U * 4294967296 + v) % Y,
    ⟨rfl, rfl, a1, a2, by rw [up_mulN]; exact a3, a4⟩, n2, Nat.div_mul_le_self _ _, rfl, by omega, n1, n4, n5, hr, rfl, rfl⟩

/-- the walk to a digit, one step: down by one, or it stands. -/
theorem digit_step (U v Y Y1 Y0 D q r : Nat) (hY : Y = Y1 * 4294967296 + Y0) (k1 : 2147483648 ≤ Y1) (k3 : Y0 < 4294967296)
    (hD : (U * 4294967296 + v) / Y = D) (hD2 : D < 4294967296) (hq : q * Y1 + r = U) (hq1 : D ≤ q) (hq2 : q ≤ 4294967297) :
    ∃ T : Nat, (q : Int) * (Y0 : Int) = (T : Int) ∧ T < 18446744073709551616 ∧
      ((q < 4294967296 ∧ T ≤ 4294967296 * r + v ∧ q = D) ∨
       ((4294967296 ≤ q ∨ 4294967296 * r + v < T) ∧ ∃ k, q = k + 1 ∧ Hid (k * Y1 + (r + Y1) = U) ∧ D ≤ k ∧ (4294967296 ≤ r + Y1 → k = D))) := by
  refine ⟨q * Y0, rfl, RM.kn_fit q Y0 hq2 k3, ?_⟩
  subst hY
  by_cases ht : 4294967296 ≤ q ∨ 4294967296 * r + v < q * Y0
  · right
    refine ⟨ht, ?_⟩
    obtain ⟨h1, h2⟩ := RM.kn_dec U v Y1 Y0 q r (by omega) hq (by rw [hD]; exact hD2) ht
    have h3 := RM.kn_dec_eq U Y1 q r h2 hq
    rw [hD] at h1
    refine ⟨q - 1, by omega, h3, h1, fun hb => ?_⟩
    have h4 := RM.kn_end U v Y1 Y0 (q - 1) (r + Y1) (by omega) k3 h3 (by rw [hD]; exact h1) (RM.kn_break (q - 1) Y0 (r + Y1) v (by omega) k3 hb)
    rw [hD] at h4; exact h4
  · left
    have ht1 : q < 4294967296 := by omega
    have ht2 : q * Y0 ≤ 4294967296 * r + v := by omega
    refine ⟨ht1, ht2, ?_⟩
    have h4 := RM.kn_end U v Y1 Y0 q r (by omega) k3 hq (by rw [hD]; exact hq1) ht2
    rw [hD] at h4; exact h4

/-- where the walk to a digit stands. -/
def StandsAt (U Y1 D k : Nat) (qi ri : Int) : Prop :=
  ∃ q r : Nat, qi = q ∧ ri = r ∧ q * Y1 + r = U ∧ D ≤ q ∧ q ≤ 4294967297 ∧ r < 4294967296 ∧ q < k

theorem digit_at (U v Y Y1 Y0 D k : Nat) (qi ri : Int) (hY : Y = Y1 * 4294967296 + Y0) (k1 : 2147483648 ≤ Y1) (k3 : Y0 < 4294967296)
    (hD : (U * 4294967296 + v) / Y = D) (hD2 : D < 4294967296) (h : StandsAt U Y1 D k qi ri) :
    0 ≤ qi ∧ qi ≤ 4294967297 ∧ 0 ≤ ri ∧ ri < 4294967296 ∧ ∃ T : Int, qi * (Y0 : Int) = T ∧ 0 ≤ T ∧ T < 18446744073709551616 ∧
      ((qi < 4294967296 ∧ T ≤ 4294967296 * ri + (v : Int) ∧ Hid (qi = (D : Int))) ∨
       (1 ≤ qi ∧ (4294967296 ≤ qi ∨ qi < 4294967296 ∧ 4294967296 * ri + (v : Int) < T) ∧
         ((4294967296 ≤ ri + (Y1 : Int) ∧ Hid (qi - 1 = (D : Int))) ∨
          (ri + (Y1 : Int) < 4294967296 ∧ 1 ≤ k ∧ StandsAt U Y1 D (k - 1) (qi - 1) (ri + (Y1 : Int)))))) := by
  obtain ⟨q, r, rfl, rfl, hq, hq1, hq2, hr, hk⟩ := h
  obtain ⟨T, t1, t2, t3⟩ := digit_step U v Y Y1 Y0 D q r hY k1 k3 hD hD2 hq hq1 hq2
  refine ⟨by omega, by omega, by omega, by omega, (T : Int), t1, by omega, by omega, ?_⟩
  rcases t3 with ⟨a1, a2, a3⟩ | ⟨a1, k', a3, HK, b1, b2⟩
  · left
    exact ⟨by omega, by omega, show (q : Int) = (D : Int) by omega⟩
  · right
    refine ⟨by omega, by omega, ?_⟩
    by_cases hb : 4294967296 ≤ r + Y1
    · left
      have := b2 hb
      exact ⟨by omega, show (q : Int) - 1 = (D : Int) by omega⟩
    · right
      exact ⟨by omega, by omega, k', r + Y1, by omega, by omega, HK.out, b1, by omega, by omega, by omega⟩

end Go.Proofs.Ytohkkebiilaniaa
