/- Sums and products of fractions, as numbers: what the program works out is the fraction of the value. -/
import Derived.Test.YtgeankdimknmiaaRatM
namespace Go.Proofs.Ytgeankdimknmiaa
namespace RM

/-- the sum of two numbers with whether each is below nought. -/
def tog2 (p : Bool) (x : Nat) (q : Bool) (y : Nat) : Bool × Nat :=
  if p = q then (p, x + y) else if x < y then (q, y - x) else (p, x - y)

theorem tog2_scale (p : Bool) (x : Nat) (q : Bool) (y g : Nat) (hg : 0 < g) :
    tog2 p (x * g) q (y * g) = ((tog2 p x q y).1, (tog2 p x q y).2 * g) := by
  unfold tog2
  by_cases h : p = q
  · simp [h, Nat.add_mul]
  · by_cases h2 : x < y
    · have : x * g < y * g := Nat.mul_lt_mul_of_pos_right h2 hg
      simp [h, h2, this, Nat.sub_mul]
    · have : ¬ x * g < y * g := fun hh => h2 (Nat.lt_of_mul_lt_mul_right hh)
      simp [h, h2, this, Nat.sub_mul]
theorem tog2_or (p : Bool) (x : Nat) (q : Bool) (y : Nat) :
    (tog2 p x q y).2 = x + y ∨ (tog2 p x q y).2 + y = x ∨ (tog2 p x q y).2 + x = y := by
  unfold tog2
  by_cases h : p = q
  · simp [h]
  · by_cases h2 : x < y
    · simp [h, h2]; omega
    · simp [h, h2]; omega
theorem tog2_sgn (p : Bool) (x : Nat) (q : Bool) (y : Nat) : sgn (tog2 p x q y).1 (tog2 p x q y).2 = sgn p x + sgn q y := by
  unfold tog2
  by_cases h : p = q
  · subst h; cases p <;> simp [sgn] <;> omega
  · by_cases h2 : x < y
    · rw [if_neg h, if_pos h2]
      cases p <;> cases q <;> simp [sgn] at h ⊢ <;> omega
    · rw [if_neg h, if_neg h2]
      cases p <;> cases q <;> simp [sgn] at h ⊢ <;> omega

/-- the fraction of the sum of x by d and y by e. -/
def plusR (x d y e : Int) : Int × Int × Int :=
  fracN (tog2 (decide (x < 0)) (x.natAbs * e.natAbs) (decide (y < 0)) (y.natAbs * d.natAbs)).1
    (tog2 (decide (x < 0)) (x.natAbs * e.natAbs) (decide (y < 0)) (y.natAbs * d.natAbs)).2 (d.natAbs * e.natAbs)
def timesR (x d y e : Int) : Int × Int × Int :=
  fracN (decide (x < 0) != decide (y < 0)) (x.natAbs * y.natAbs) (d.natAbs * e.natAbs)

theorem plusR_eq (x y : Int) (d e : Nat) (hd : 0 < d) (he : 0 < e) (hx : Nat.gcd x.natAbs d = 1) (hy : Nat.gcd y.natAbs e = 1) (b : Bool) (n : Nat)
    (ht : tog2 (decide (x < 0)) (x.natAbs * (e / Nat.gcd d e)) (decide (y < 0)) (y.natAbs * (d / Nat.gcd d e)) = (b, n)) :
    plusR x d y e = fracP b (n / Nat.gcd (Nat.gcd d e) n) (d / Nat.gcd d e * (e / Nat.gcd (Nat.gcd d e) n)) := by
  have hg : 0 < Nat.gcd d e := Nat.gcd_pos_of_pos_left _ hd
  have e1 : x.natAbs * e = x.natAbs * (e / Nat.gcd d e) * Nat.gcd d e := by
    rw [Nat.mul_assoc, Nat.div_mul_cancel (Nat.gcd_dvd_right d e)]
  have e2 : y.natAbs * d = y.natAbs * (d / Nat.gcd d e) * Nat.gcd d e := by
    rw [Nat.mul_assoc, Nat.div_mul_cancel (Nat.gcd_dvd_left d e)]
  unfold plusR
  rw [Int.natAbs_natCast, Int.natAbs_natCast, e1, e2, tog2_scale _ _ _ _ _ hg, ht]
  have ho := tog2_or (decide (x < 0)) (x.natAbs * (e / Nat.gcd d e)) (decide (y < 0)) (y.natAbs * (d / Nat.gcd d e))
  rw [ht] at ho
  exact fracN_plus b x.natAbs y.natAbs d e n hd he hx hy ho
theorem timesR_eq (x y : Int) (d e : Nat) (hd : 0 < d) (he : 0 < e) (hx : Nat.gcd x.natAbs d = 1) (hy : Nat.gcd y.natAbs e = 1) :
    timesR x d y e = fracP (decide (x < 0) != decide (y < 0)) (x.natAbs / Nat.gcd x.natAbs e * (y.natAbs / Nat.gcd y.natAbs d)) (d / Nat.gcd y.natAbs d * (e / Nat.gcd x.natAbs e)) := by
  unfold timesR
  rw [Int.natAbs_natCast, Int.natAbs_natCast]
  exact fracN_times _ x.natAbs y.natAbs d e hd he hx hy

/-- what a sum, a product is, by cross products. -/
theorem plusR_ok (x d y e N D : Int) (hd : 1 ≤ d) (he : 1 ≤ e) : plusR x d y e = (N, D, 0) ↔ Right N D ∧ N * (d * e) = (x * e + y * d) * D := by
  unfold plusR
  have hp : 0 < d.natAbs * e.natAbs := Nat.mul_pos (by omega) (by omega)
  rw [fracN_ok _ _ _ hp, tog2_sgn]
  have h1 : ((d.natAbs * e.natAbs : Nat) : Int) = d * e := by rw [Int.natCast_mul, Int.natAbs_of_nonneg (by omega), Int.natAbs_of_nonneg (by omega)]
  have h2 : sgn (decide (x < 0)) (x.natAbs * e.natAbs) = x * e := by rw [sgn_mul, sgn_self, Int.natAbs_of_nonneg (by omega)]
  have h3 : sgn (decide (y < 0)) (y.natAbs * d.natAbs) = y * d := by rw [sgn_mul, sgn_self, Int.natAbs_of_nonneg (by omega)]
  rw [h1, h2, h3]
theorem sgn_xor (x y : Int) : sgn (decide (x < 0) != decide (y < 0)) (x.natAbs * y.natAbs) = x * y := by
  have e1 : x = sgn (decide (x < 0)) x.natAbs := (sgn_self x).symm
  have e2 : y = sgn (decide (y < 0)) y.natAbs := (sgn_self y).symm
  have key : ∀ (p q : Bool) (a b : Nat), sgn (p != q) (a * b) = sgn p a * sgn q b := by
    intro p q a b
    cases p <;> cases q <;> simp [sgn, Int.neg_mul, Int.mul_neg]
  rw [key, ← e1, ← e2]
theorem timesR_ok (x d y e N D : Int) (hd : 1 ≤ d) (he : 1 ≤ e) : timesR x d y e = (N, D, 0) ↔ Right N D ∧ N * (d * e) = (x * y) * D := by
  unfold timesR
  have hp : 0 < d.natAbs * e.natAbs := Nat.mul_pos (by omega) (by omega)
  rw [fracN_ok _ _ _ hp, sgn_xor]
  have h1 : ((d.natAbs * e.natAbs : Nat) : Int) = d * e := by rw [Int.natCast_mul, Int.natAbs_of_nonneg (by omega), Int.natAbs_of_nonneg (by omega)]
  rw [h1]
theorem plusR_err (x d y e : Int) (hd : 1 ≤ d) (he : 1 ≤ e) : (∃ N D, plusR x d y e = (N, D, 0)) ∨ plusR x d y e = (0, 0, 110) :=
  fracN_err _ _ _ (Nat.mul_pos (by omega) (by omega))
theorem timesR_err (x d y e : Int) (hd : 1 ≤ d) (he : 1 ≤ e) : (∃ N D, timesR x d y e = (N, D, 0)) ∨ timesR x d y e = (0, 0, 110) :=
  fracN_err _ _ _ (Nat.mul_pos (by omega) (by omega))
end RM
end Go.Proofs.Ytgeankdimknmiaa
