/- The library's Div64, Rem64: two words by one. -/
import Derived.Test.YtgeankdimknmiaaRatPa
import Derived.Test.YtgeankdimknmiaaShelf
import Derived.Deep.CutBlock
import Derived.Deep.CutRange
import Derived.Deep.LoopGhost
namespace Go.Proofs.Ytgeankdimknmiaa
open Go.RowKit

theorem ret_two {k : IntKind} {a b c d : Int} (h : a = b) (h' : c = d) : Ending.returned (.tuple #[.int k a, .int k c]) = .returned (.tuple #[.int k b, .int k d]) := by rw [h, h']
theorem bitLen_bounds : ∀ (k x : Nat), x < 2 ^ 64 → 2 ^ k ≤ x → x < 2 ^ (k + 1) → Lib.bitLen x = k + 1
  | 0, x, hx, h1, h2 => by
    have : x = 1 := by simp at h1 h2; omega
    subst this; decide
  | k + 1, x, hx, h1, h2 => by
    have h3 : x ≠ 0 := by have := Nat.two_pow_pos (k + 1); omega
    rw [Lib.bitLen_half x h3 hx, bitLen_bounds k (x / 2) (by omega) (by rw [Nat.pow_succ] at h1; omega) (by rw [Nat.pow_succ] at h2; omega)]
    omega

theorem lead_any (y : Nat) (hy : y < 18446744073709551616) (h0 : 0 < y) (w : World) :
    Calls Try.prog 93 #[.int .u64 y] w fun e w' => ∃ s : Nat, s ≤ 63 ∧ 9223372036854775808 ≤ y * 2 ^ s ∧ y * 2 ^ s < 18446744073709551616 ∧ e = .returned (.int .i64 s) ∧ w = w' := by
  have hl := Nat.log2_self_le (Nat.pos_iff_ne_zero.1 h0)
  have hl2 : y < 2 ^ (y.log2 + 1) := Nat.lt_log2_self
  have h64 : y.log2 < 64 := (Nat.log2_lt (Nat.pos_iff_ne_zero.1 h0)).2 hy
  have hb := bitLen_bounds y.log2 y hy hl hl2
  refine (Try.bits_LeadingZeros64 y w (by omega) (by omega)).mono ?_
  rintro e w' ⟨he, hw⟩
  refine ⟨63 - y.log2, by omega, ?_, ?_, ?_, hw.symm⟩
  · have : 2 ^ y.log2 * 2 ^ (63 - y.log2) = 9223372036854775808 := by rw [← Nat.pow_add, show y.log2 + (63 - y.log2) = 63 by omega]
    exact this ▸ Nat.mul_le_mul_right _ hl
  · have : 2 ^ (y.log2 + 1) * 2 ^ (63 - y.log2) = 18446744073709551616 := by rw [← Nat.pow_add, show y.log2 + 1 + (63 - y.log2) = 64 by omega]
    exact this ▸ Nat.mul_lt_mul_of_pos_right hl2 (Nat.two_pow_pos _)
  · rw [he]
    refine ret_int ?_
    rw [Int.toNat_natCast, hb]
    omega

theorem join_lo (A B C : Nat) (h : B / 18446744073709551616 = C) :
    (A + C) * 18446744073709551616 + (B % 18446744073709551616 / 4294967296 * 4294967296 + B % 18446744073709551616 % 4294967296) = A * 18446744073709551616 + B := by
  rw [Nat.div_add_mod' (B % 18446744073709551616) 4294967296, Nat.add_mul, Nat.add_assoc, ← h, Nat.div_add_mod' B 18446744073709551616]
/-- both shifted so that the divisor's highest bit stands: the parts by name. -/
theorem shifted (hi lo y s : Nat) (hlo : lo < 18446744073709551616) (hlt : hi < y) (hs : s ≤ 63) (b1 : 9223372036854775808 ≤ y * 2 ^ s) (b2 : y * 2 ^ s < 18446744073709551616) :
    ∃ Y Y1 Y0 U L L1 L0 : Nat,
      (IntKind.u64.wrap ((y : Int) * 2 ^ s) = (Y : Int) ∧ (Y : Int) / 4294967296 = (Y1 : Int) ∧ bits .and .u64 (Y : Int) 4294967295 = (Y0 : Int) ∧
       bits .or .u64 (IntKind.u64.wrap ((hi : Int) * 2 ^ s)) ((lo : Int) / 2 ^ (64 - s)) = (U : Int) ∧
       IntKind.u64.wrap ((lo : Int) * 2 ^ s) = (L : Int) ∧ (L : Int) / 4294967296 = (L1 : Int) ∧ bits .and .u64 (L : Int) 4294967295 = (L0 : Int)) ∧
      Y = y * 2 ^ s ∧ Y = Y1 * 4294967296 + Y0 ∧ 2147483648 ≤ Y1 ∧ Y1 < 4294967296 ∧ Y0 < 4294967296 ∧ U < Y ∧ L1 < 4294967296 ∧ L0 < 4294967296 ∧
      U * 18446744073709551616 + (L1 * 4294967296 + L0) = (hi * 18446744073709551616 + lo) * 2 ^ s := by
  have p0 : 0 < 2 ^ s := Nat.two_pow_pos _
  have p1 : 2 ^ (64 - s) * 2 ^ s = 18446744073709551616 := by rw [← Nat.pow_add, show 64 - s + s = 64 by omega]
  have h1 : hi * 2 ^ s + 2 ^ s ≤ y * 2 ^ s := by
    have : (hi + 1) * 2 ^ s ≤ y * 2 ^ s := Nat.mul_le_mul_right _ hlt
    rwa [Nat.add_mul, Nat.one_mul] at this
  have h2 : lo / 2 ^ (64 - s) < 2 ^ s := by
    refine (Nat.div_lt_iff_lt_mul (Nat.two_pow_pos _)).2 ?_
    rw [Nat.mul_comm, p1]; exact hlo
  have h3 : lo * 2 ^ s / 18446744073709551616 = lo / 2 ^ (64 - s) := by
    rw [← p1]; exact Nat.mul_div_mul_right _ _ p0
  have h4 := Nat.div_add_mod' (lo * 2 ^ s) 18446744073709551616
  have h5 : lo * 2 ^ s % 18446744073709551616 < 18446744073709551616 := Nat.mod_lt _ (by decide)
  refine ⟨y * 2 ^ s, y * 2 ^ s / 4294967296, y * 2 ^ s % 4294967296, hi * 2 ^ s + lo / 2 ^ (64 - s), lo * 2 ^ s % 18446744073709551616,
    lo * 2 ^ s % 18446744073709551616 / 4294967296, lo * 2 ^ s % 18446744073709551616 % 4294967296, ⟨?_, by omega, lo32 _ b2, ?_, ?_, by omega, lo32 _ h5⟩, rfl, by omega, by omega, by omega, by omega, by omega, by omega, by omega, ?_⟩
  · have e : ((y : Int) * 2 ^ s) = ((y * 2 ^ s : Nat) : Int) := by rw [Int.natCast_mul, Int.natCast_pow]; rfl
    rw [e]; exact wrap_lt _ b2
  · have e : ((hi : Int) * 2 ^ s) = ((hi * 2 ^ s : Nat) : Int) := by rw [Int.natCast_mul, Int.natCast_pow]; rfl
    have e2 : ((lo : Int) / 2 ^ (64 - s)) = ((lo / 2 ^ (64 - s) : Nat) : Int) := by rw [Int.natCast_ediv, Int.natCast_pow]; rfl
    have h7 : hi * 2 ^ s < 18446744073709551616 := by omega
    have h8 : lo / 2 ^ (64 - s) < 18446744073709551616 := Nat.lt_of_le_of_lt (Nat.div_le_self _ _) hlo
    have h9 := Nat.two_pow_add_eq_or_of_lt h2 hi
    rw [Nat.mul_comm (2 ^ s) hi] at h9
    rw [e, e2, wrap_lt _ h7, bits_or_u64_nat _ _ h7 h8, h9]
  · have e : ((lo : Int) * 2 ^ s) = ((lo * 2 ^ s : Nat) : Int) := by rw [Int.natCast_mul, Int.natCast_pow]; rfl
    rw [e]; exact wrap_any _
  · have h6 : (hi * 18446744073709551616 + lo) * 2 ^ s = hi * 2 ^ s * 18446744073709551616 + lo * 2 ^ s := by
      rw [Nat.add_mul, Nat.mul_right_comm]
    rw [h6]
    exact join_lo _ _ _ h3

theorem wraps_rem (U v X V : Nat) (h : U * 4294967296 + v = X + V) (hV : V < 18446744073709551616) :
    ∃ A B C : Nat, IntKind.u64.wrap ((U : Int) * 4294967296) = (A : Int) ∧ IntKind.u64.wrap ((A : Int) + (v : Int)) = (B : Int) ∧
      IntKind.u64.wrap (X : Int) = (C : Int) ∧ IntKind.u64.wrap ((B : Int) - (C : Int)) = (V : Int) := by
  refine ⟨U * 4294967296 % 18446744073709551616, (U * 4294967296 % 18446744073709551616 + v) % 18446744073709551616, X % 18446744073709551616, ?_, ?_, ?_, ?_⟩
  · rw [IntKind.wrap_u64]; omega
  · rw [IntKind.wrap_u64]; omega
  · rw [IntKind.wrap_u64]; omega
  · rw [IntKind.wrap_u64]; omega

/-- one digit of the quotient, all its steps by name. -/
theorem digit (U v Y Y1 Y0 : Nat) (hY : Y = Y1 * 4294967296 + Y0) (k1 : 2147483648 ≤ Y1) (k2 : Y1 < 4294967296) (k3 : Y0 < 4294967296) (k4 : U < Y) (k5 : v < 4294967296) :
    ∃ Q P R D A B C V : Nat,
      ((U : Int) / (Y1 : Int) = (Q : Int) ∧ (Q : Int) * (Y1 : Int) = (P : Int) ∧ IntKind.u64.wrap ((U : Int) * 4294967296) = (A : Int) ∧ IntKind.u64.wrap ((A : Int) + (v : Int)) = (B : Int) ∧
      IntKind.u64.wrap ((D : Int) * (Y : Int)) = (C : Int) ∧ IntKind.u64.wrap ((B : Int) - (C : Int)) = (V : Int)) ∧
      Hid (Q * Y1 + R = U) ∧ P ≤ U ∧ U - P = R ∧ R < 4294967296 ∧ Q ≤ 4294967297 ∧ D ≤ Q ∧ D < 4294967296 ∧ V < Y ∧
      Hid ((U * 4294967296 + v) / Y = D ∧ (U * 4294967296 + v) % Y = V) := by
  obtain ⟨n1, n2, n3, n4, n5⟩ := RM.kn_start U v Y1 Y0 k1 k2 k3 k5 (hY ▸ k4)
  rw [← hY] at n4 n5
  have hpos : 0 < Y := by omega
  have hr : (U * 4294967296 + v) % Y < Y := Nat.mod_lt _ hpos
  obtain ⟨A, B, C, a1, a2, a3, a4⟩ := wraps_rem U v ((U * 4294967296 + v) / Y * Y) ((U * 4294967296 + v) % Y) (Nat.div_add_mod' _ _).symm (by omega)
  exact ⟨U / Y1, U / Y1 * Y1, U - U / Y1 * Y1, (U * 4294967296 + v) / Y, A, B, C, (U * 4294967296 + v) % Y,
    ⟨rfl, rfl, a1, a2, by rw [up_mulN]; exact a3, a4⟩, n2, Nat.div_mul_le_self _ _, rfl, by omega, n1, n4, n5, hr, rfl, rfl⟩

/-- the walk to a digit, one step: down by one, or it stands. -/
theorem digit_step (U v Y Y1 Y0 D q r : Nat) (hY : Y = Y1 * 4294967296 + Y0) (k1 : 2147483648 ≤ Y1) (k3 : Y0 < 4294967296)
    (hD : (U * 4294967296 + v) / Y = D) (hD2 : D < 4294967296) (hq : q * Y1 + r = U) (hq1 : D ≤ q) (hq2 : q ≤ 4294967297) :
    ∃ T : Nat, (q : Int) * (Y0 : Int) = (T : Int) ∧ T < 18446744073709551616 ∧
      ((q < 4294967296 ∧ T ≤ 4294967296 * r + v ∧ q = D) ∨
       ((4294967296 ≤ q ∨ 4294967296 * r + v < T) ∧ ∃ k, q = k + 1 ∧ Hid (k * Y1 + (r + Y1) = U) ∧ D ≤ k ∧ (4294967296 ≤ r + Y1 → k = D))) := by
  refine ⟨q * Y0, rfl, RM.kn_fit q Y0 hq2 k3, ?_⟩
  subst hY
  by_cases ht : 4294967296 ≤ q ∨ 4294967296 * r + v < q * Y0
  · right
    refine ⟨ht, ?_⟩
    obtain ⟨h1, h2⟩ := RM.kn_dec U v Y1 Y0 q r (by omega) hq (by rw [hD]; exact hD2) ht
    have h3 := RM.kn_dec_eq U Y1 q r h2 hq
    rw [hD] at h1
    refine ⟨q - 1, by omega, h3, h1, fun hb => ?_⟩
    have h4 := RM.kn_end U v Y1 Y0 (q - 1) (r + Y1) (by omega) k3 h3 (by rw [hD]; exact h1) (RM.kn_break (q - 1) Y0 (r + Y1) v (by omega) k3 hb)
    rw [hD] at h4; exact h4
  · left
    have ht1 : q < 4294967296 := by omega
    have ht2 : q * Y0 ≤ 4294967296 * r + v := by omega
    refine ⟨ht1, ht2, ?_⟩
    have h4 := RM.kn_end U v Y1 Y0 q r (by omega) k3 hq (by rw [hD]; exact hq1) ht2
    rw [hD] at h4; exact h4

/-- where the walk to a digit stands. -/
def StandsAt (U Y1 D k : Nat) (qi ri : Int) : Prop :=
  ∃ q r : Nat, qi = q ∧ ri = r ∧ q * Y1 + r = U ∧ D ≤ q ∧ q ≤ 4294967297 ∧ r < 4294967296 ∧ q < k

theorem digit_at (U v Y Y1 Y0 D k : Nat) (qi ri : Int) (hY : Y = Y1 * 4294967296 + Y0) (k1 : 2147483648 ≤ Y1) (k3 : Y0 < 4294967296)
    (hD : (U * 4294967296 + v) / Y = D) (hD2 : D < 4294967296) (h : StandsAt U Y1 D k qi ri) :
    0 ≤ qi ∧ qi ≤ 4294967297 ∧ 0 ≤ ri ∧ ri < 4294967296 ∧ ∃ T : Int, qi * (Y0 : Int) = T ∧ 0 ≤ T ∧ T < 18446744073709551616 ∧
      ((qi < 4294967296 ∧ T ≤ 4294967296 * ri + (v : Int) ∧ Hid (qi = (D : Int))) ∨
       (1 ≤ qi ∧ (4294967296 ≤ qi ∨ qi < 4294967296 ∧ 4294967296 * ri + (v : Int) < T) ∧
         ((4294967296 ≤ ri + (Y1 : Int) ∧ Hid (qi - 1 = (D : Int))) ∨
          (ri + (Y1 : Int) < 4294967296 ∧ 1 ≤ k ∧ StandsAt U Y1 D (k - 1) (qi - 1) (ri + (Y1 : Int)))))) := by
  obtain ⟨q, r, rfl, rfl, hq, hq1, hq2, hr, hk⟩ := h
  obtain ⟨T, t1, t2, t3⟩ := digit_step U v Y Y1 Y0 D q r hY k1 k3 hD hD2 hq hq1 hq2
  refine ⟨by omega, by omega, by omega, by omega, (T : Int), t1, by omega, by omega, ?_⟩
  rcases t3 with ⟨a1, a2, a3⟩ | ⟨a1, k', a3, HK, b1, b2⟩
  · left
    exact ⟨by omega, by omega, show (q : Int) = (D : Int) by omega⟩
  · right
    refine ⟨by omega, by omega, ?_⟩
    by_cases hb : 4294967296 ≤ r + Y1
    · left
      have := b2 hb
      exact ⟨by omega, show (q : Int) - 1 = (D : Int) by omega⟩
    · right
      exact ⟨by omega, by omega, k', r + Y1, by omega, by omega, HK.out, b1, by omega, by omega, by omega⟩

set_option maxRecDepth 100000 in
set_option maxHeartbeats 1000000 in
theorem div64_any (hi lo y : Nat) (hy : y < 18446744073709551616) (hlo : lo < 18446744073709551616) (hlt : hi < y) (hpos : 0 < hi) (w : World) :
    Calls Try.prog 92 #[.int .u64 hi, .int .u64 lo, .int .u64 y] w fun e w' => e = .returned (.tuple #[.int .u64 ((hi * 18446744073709551616 + lo) / y : Nat), .int .u64 ((hi * 18446744073709551616 + lo) % y : Nat)]) ∧ ∃ n, w' = w.drewN n := by
  go_enter Try.func92, Try.ntmps92
  go_wp2_with fail
  refine (lead_any y hy (by omega) _).mono ?_
  rintro e w' ⟨s, hs, b1, b2, rfl, rfl⟩
  obtain ⟨Y, Y1, Y0, U, L, L1, L0, ⟨e1, e2, e3, e4, e5, e6, e7⟩, eY, eYY, k1, k2, k3, k4, k5, k6, eU⟩ := shifted hi lo y s hlo hlt hs b1 b2
  have EYY := hidd eYY
  obtain ⟨Q, P, R, D, A, B, C, V, ⟨x1, x2, x3, x4, x5, x6⟩, X7, x8, x9, x10, x11, x12, x13, x14, X15⟩ := digit U L1 Y Y1 Y0 eYY k1 k2 k3 k4 k5
  obtain ⟨Q', P', R', D', A', B', C', V', ⟨y1, y2, y3, y4, y5, y6⟩, Y7, y8, y9, y10, y11, y12, y13, y14, Y15⟩ := digit V L0 Y Y1 Y0 eYY k1 k2 k3 x14 k6
  have fin1 : D * 4294967296 + D' = (hi * 18446744073709551616 + lo) / y := by
    have h1 := (RM.kn_join U L1 L0 Y (by omega)).1
    rw [X15.out.2, X15.out.1, Y15.out.1, eU, eY, (RM.kn_shift _ _ _ (Nat.two_pow_pos s)).1] at h1
    exact h1
  have fin2 : V' / 2 ^ s = (hi * 18446744073709551616 + lo) % y := by
    have h1 := (RM.kn_join U L1 L0 Y (by omega)).2
    rw [X15.out.2, Y15.out.2, eU, eY] at h1
    rw [h1, (RM.kn_shift _ _ _ (Nat.two_pow_pos s)).2]
  have FIN1 := hidd fin1
  have FIN2 := hidd fin2
  have hUb : U < 18446744073709551616 := by omega
  have hVb : V < 18446744073709551616 := by omega
  have X9 := hidd x9
  have Y9 := hidd y9
  clear fin1 fin2 eU eY eYY x9 y9
  go_upto_block 0 with fail
  go_cut [15] from 67 to 85 (fun q wx => q = .int .u64 (D : Int) ∧ wx = w)
  case first =>
    go_wp2_with fail
    go_loopg [15, 16] (Q + 1) (fun k s t wr => ∃ q r : Int, StandsAt U Y1 D k q r ∧ s = .int .u64 q ∧ t = .int .u64 r ∧ wr = w)
    case atStart => exact ⟨Q, R, ⟨Q, R, rfl, rfl, X7.out, x12, x11, x10, by omega⟩, rfl, by rw [← X9.out]; go_num, rfl⟩
    case round =>
      obtain ⟨q, r, hst, rfl, rfl, rfl⟩ := hrel
      obtain ⟨hq0, hq1, hr0, hr1, T, t1, t2, t3, t4⟩ := digit_at U L1 Y Y1 Y0 D gk q r EYY.out k1 k3 X15.out.1 x13 hst
      have HST := hidd hst
      clear hst
      rcases t4 with ⟨a1, a2, A3⟩ | ⟨a0, a1, a4⟩
      · go_wp2_with fail
        go_meet
        exact ⟨by rw [A3.out], rfl⟩
      · rcases a4 with ⟨a4, A5⟩ | ⟨a4, a6, A5⟩
        · rcases a1 with a1 | ⟨a1, a2⟩
          all_goals
            go_wp2_with fail
            go_meet
            exact ⟨by rw [A5.out], rfl⟩
        · rcases a1 with a1 | ⟨a1, a2⟩
          all_goals
            go_wp2_with fail
            go_roundg (gk - 1)
            case measure => omega
            case rel => exact ⟨_, _, A5, rfl, rfl, rfl⟩
  case rest =>
    obtain ⟨rfl, rfl⟩ := hcut
    go_upto_block 2 with fail
    go_cut [18] from 102 to 120 (fun q wx => q = .int .u64 (D' : Int) ∧ wx = wc)
    case first =>
      go_wp2_with fail
      go_loopg [18, 16] (Q' + 1) (fun k s t wr => ∃ q r : Int, StandsAt V Y1 D' k q r ∧ s = .int .u64 q ∧ t = .int .u64 r ∧ wr = wc)
      case atStart => exact ⟨Q', R', ⟨Q', R', rfl, rfl, Y7.out, y12, y11, y10, by omega⟩, rfl, by rw [← Y9.out]; go_num, rfl⟩
      case round =>
        obtain ⟨q, r, hst, rfl, rfl, rfl⟩ := hrel
        obtain ⟨hq0, hq1, hr0, hr1, T, t1, t2, t3, t4⟩ := digit_at V L0 Y Y1 Y0 D' gk q r EYY.out k1 k3 Y15.out.1 y13 hst
        have HST := hidd hst
        clear hst
        rcases t4 with ⟨a1, a2, A3⟩ | ⟨a0, a1, a4⟩
        · go_wp2_with fail
          go_meet
          exact ⟨by rw [A3.out], rfl⟩
        · rcases a4 with ⟨a4, A5⟩ | ⟨a4, a6, A5⟩
          · rcases a1 with a1 | ⟨a1, a2⟩
            all_goals
              go_wp2_with fail
              go_meet
              exact ⟨by rw [A5.out], rfl⟩
          · rcases a1 with a1 | ⟨a1, a2⟩
            all_goals
              go_wp2_with fail
              go_roundg (gk - 1)
              case measure => omega
              case rel => exact ⟨_, _, A5, rfl, rfl, rfl⟩
    case rest =>
      obtain ⟨rfl, rfl⟩ := hcut
      go_wp2_with fail
      go_ret2
      refine ⟨ret_two ?_ ?_, 0, rfl⟩
      · rw [← FIN1.out, Int.natCast_add, Int.natCast_mul]; rfl
      · rw [← FIN2.out, Int.natCast_ediv, Int.natCast_pow]; rfl

theorem div64_low (lo y : Nat) (hy : y < 18446744073709551616) (hlo : lo < 18446744073709551616) (hpos : 0 < y) (w : World) :
    Calls Try.prog 92 #[.int .u64 0, .int .u64 lo, .int .u64 y] w fun e w' => e = .returned (.tuple #[.int .u64 (lo / y : Nat), .int .u64 (lo % y : Nat)]) ∧ ∃ n, w' = w.drewN n := by
  have e1 : IntKind.u64.wrap ((lo : Int) / (y : Int)) = ((lo / y : Nat) : Int) := wrap_lt _ (Nat.lt_of_le_of_lt (Nat.div_le_self _ _) hlo)
  have h0 : ¬ (y : Int) = 0 := by omega
  have h1 : (1 : Int) ≤ (y : Int) := by omega
  have h2 : ¬ y = 0 := by omega
  go_enter Try.func92, Try.ntmps92
  go_wp2_with fail
  go_quiet (fail)
  go_wp2_with fail
  go_ret2
  exact ⟨ret_two rfl rfl, _, rfl⟩

/-- Div64 at any words: quotient and rest of the two words by one. -/
theorem div64_all (hi lo y : Nat) (hy : y < 18446744073709551616) (hlo : lo < 18446744073709551616) (hlt : hi < y) (w : World) :
    Calls Try.prog 92 #[.int .u64 hi, .int .u64 lo, .int .u64 y] w fun e w' => e = .returned (.tuple #[.int .u64 ((hi * 18446744073709551616 + lo) / y : Nat), .int .u64 ((hi * 18446744073709551616 + lo) % y : Nat)]) ∧ ∃ n, w' = w.drewN n := by
  by_cases h : hi = 0
  · subst h
    rw [Nat.zero_mul, Nat.zero_add]
    exact div64_low lo y hy hlo (by omega) w
  · exact div64_any hi lo y hy hlo hlt (by omega) w
end Go.Proofs.Ytgeankdimknmiaa
