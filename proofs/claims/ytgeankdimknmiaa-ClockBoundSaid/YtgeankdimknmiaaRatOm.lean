/- Which of two fractions is less, how far they are from whole numbers: plain mathematics. -/
import Derived.Test.YtgeankdimknmiaaRatPr
import Derived.Test.YtgeankdimknmiaaRatFm
namespace Go.Proofs.Ytgeankdimknmiaa
open Go.RowKit

theorem ordZ_cases (p q : Int) : (ordZ p q = -1 ∧ p < q) ∨ (ordZ p q = 0 ∧ p = q) ∨ (ordZ p q = 1 ∧ q < p) := by
  unfold ordZ
  by_cases h : p < q
  · exact .inl ⟨if_pos h, h⟩
  · by_cases h2 : p = q
    · exact .inr (.inl ⟨by rw [if_neg h, if_pos h2], h2⟩)
    · exact .inr (.inr ⟨by rw [if_neg h, if_neg h2], by omega⟩)
theorem ordZ_swap (p q : Int) : ordZ q p = -ordZ p q := by
  rcases ordZ_cases p q with ⟨h1, h2⟩ | ⟨h1, h2⟩ | ⟨h1, h2⟩ <;> rcases ordZ_cases q p with ⟨g1, g2⟩ | ⟨g1, g2⟩ | ⟨g1, g2⟩ <;> omega
theorem ordZ_zero (p q : Int) : ordZ p q = 0 ↔ p = q := by
  rcases ordZ_cases p q with ⟨h1, h2⟩ | ⟨h1, h2⟩ | ⟨h1, h2⟩ <;> omega
theorem ordZ_neg (p q : Int) : ordZ p q < 0 ↔ p < q := by
  rcases ordZ_cases p q with ⟨h1, h2⟩ | ⟨h1, h2⟩ | ⟨h1, h2⟩ <;> omega
theorem ord_eq {x d y e : Int} (hx : RM.Right x d) (hy : RM.Right y e) : ordZ (x * e) (y * d) = 0 ↔ (x = y ∧ d = e) := by
  rw [ordZ_zero]
  constructor
  · exact fun h => RM.right_unique x d y e hx hy h
  · rintro ⟨rfl, rfl⟩; rfl
theorem sub_sign {x d y e N D : Int} (hd : 1 ≤ d) (he : 1 ≤ e) (h : RM.plusR x d (-y) e = (N, D, 0)) : (N < 0 ↔ x * e < y * d) ∧ (N = 0 ↔ x * e = y * d) := by
  obtain ⟨hr, h2⟩ := (RM.plusR_ok x d (-y) e N D hd he).1 h
  have hD : 0 < D := by have := hr.1; omega
  have hde : 0 < d * e := Int.mul_pos (by omega) (by omega)
  have e1 : x * e + -y * d = x * e - y * d := by rw [Int.neg_mul]; omega
  rw [e1] at h2
  obtain ⟨T, hT⟩ : ∃ T, x * e - y * d = T := ⟨_, rfl⟩
  rw [hT] at h2
  have c1 : N < 0 ↔ T < 0 := by
    constructor
    · intro h
      have g : N * (d * e) < 0 := Int.mul_neg_of_neg_of_pos h hde
      rw [h2] at g
      by_cases h3 : T < 0
      · exact h3
      · exact absurd (Int.mul_nonneg (show (0 : Int) ≤ T by omega) (by omega : (0 : Int) ≤ D)) (by omega)
    · intro h
      have g : T * D < 0 := Int.mul_neg_of_neg_of_pos h hD
      rw [← h2] at g
      by_cases h3 : N < 0
      · exact h3
      · exact absurd (Int.mul_nonneg (show (0 : Int) ≤ N by omega) (by omega : (0 : Int) ≤ d * e)) (by omega)
  have c2 : N = 0 ↔ T = 0 := by
    constructor
    · intro h
      rw [h, Int.zero_mul] at h2
      rcases Int.mul_eq_zero.1 h2.symm with h | h
      · exact h
      · omega
    · intro h
      rw [h, Int.zero_mul] at h2
      rcases Int.mul_eq_zero.1 h2 with h | h
      · exact h
      · omega
  exact ⟨c1.trans (by omega), c2.trans (by omega)⟩
theorem floor_facts {x d : Int} (hx : RM.Right x d) : x / d * d ≤ x ∧ (x / d * d = x ↔ d = 1) := by
  have hd : 0 < d := by have := hx.1; omega
  have h1 := Int.emod_add_mul_ediv x d
  have h2 := Int.emod_nonneg x (show d ≠ 0 by omega)
  have h3 : x / d * d = d * (x / d) := Int.mul_comm _ _
  refine ⟨by omega, ?_, ?_⟩
  · intro h
    have hdv : d ∣ x := ⟨x / d, by omega⟩
    have hg : Nat.gcd x.natAbs d.natAbs = 1 := hx.2.2.2.2
    have hdn : d.natAbs ∣ x.natAbs := Int.natAbs_dvd_natAbs.2 hdv
    have : Nat.gcd x.natAbs d.natAbs = d.natAbs := Nat.gcd_eq_right hdn
    omega
  · rintro rfl
    simp
theorem ceil_facts {x d : Int} (hx : RM.Right x d) : -(-x / d) = if d = 1 then x / d else x / d + 1 := by
  have hd : 0 < d := by have := hx.1; omega
  by_cases h : d = 1
  · subst h; simp
  · rw [if_neg h]
    have h1 := Int.emod_add_mul_ediv x d
    have h2 := Int.emod_nonneg x (show d ≠ 0 by omega)
    have h3 := Int.emod_lt_of_pos x hd
    have h4 : ¬ x % d = 0 := fun g => h ((floor_facts hx).2.1 (by have := Int.mul_comm (x / d) d; omega))
    have h5 : -x / d = -(x / d) - 1 ∧ -x % d = d - x % d := (Int.ediv_emod_unique hd).2 ⟨by
      have : d * (-(x / d) - 1) = -(d * (x / d)) - d := by rw [Int.mul_sub, Int.mul_neg, Int.mul_one]
      omega, by omega, by omega⟩
    omega
end Go.Proofs.Ytgeankdimknmiaa
