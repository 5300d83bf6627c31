/- Which of two fractions is less. -/
import Derived.Test.YtianceglbkcmpaaRatPm
import Derived.Test.YtianceglbkcmpaaRatPl
import Derived.Deep.DeepCutAuto
import Derived.Deep.RegionHeld3
namespace Go.Proofs.Ytianceglbkcmpaa
open Go.RowKit

/-- less, the same, greater, of what the cross products tell. -/
def ordZ (p q : Int) : Int := if p < q then -1 else if p = q then 0 else 1
theorem ord_signs (x y : Int) (d e : Nat) (hd : 0 < d) (he : 0 < e) (h : decide (x < 0) ≠ decide (y < 0)) :
    ordZ (x * e) (y * d) = sgnOf (decide (x < 0)) := by
  by_cases hx : x < 0
  · have hy : ¬ y < 0 := fun hh => h (by simp [hx, hh])
    have h1 : x * (e : Int) < 0 := Int.mul_neg_of_neg_of_pos hx (by omega)
    have h2 : 0 ≤ y * (d : Int) := Int.mul_nonneg (by omega) (by omega)
    unfold ordZ sgnOf
    rw [if_pos (by omega)]; simp [hx]
  · have hy : y < 0 := by
      by_cases hh : y < 0
      · exact hh
      · exact absurd (by simp [hx, hh]) h
    have h1 : y * (d : Int) < 0 := Int.mul_neg_of_neg_of_pos hy (by omega)
    have h2 : 0 ≤ x * (e : Int) := Int.mul_nonneg (by omega) (by omega)
    unfold ordZ sgnOf
    rw [if_neg (by omega), if_neg (by omega)]; simp [hx]
theorem ord_same (x y : Int) (d e : Nat) (h : decide (x < 0) = decide (y < 0)) (P Q : Nat) (hP : P = x.natAbs * e) (hQ : Q = y.natAbs * d) :
    ordZ (x * e) (y * d) = if P = Q then 0 else sgnOf (decide (P < Q) != decide (x < 0)) := by
  have e1 : x * (e : Int) = RM.sgn (decide (x < 0)) P := by rw [hP, RM.sgn_mul, RM.sgn_self]
  have e2 : y * (d : Int) = RM.sgn (decide (x < 0)) Q := by rw [hQ, RM.sgn_mul, h, RM.sgn_self]
  rw [e1, e2]
  clear hP hQ e1 e2 h
  unfold ordZ sgnOf RM.sgn
  by_cases hx : x < 0 <;> by_cases h1 : P = Q <;> by_cases h2 : P < Q <;> simp [hx, h1, h2] <;> omega
theorem wide_run (a b c d : Int) (w : World) :
    (Op.equalIn 10000 101 (.agg #[.int .u64 a, .int .u64 b]) (.agg #[.int .u64 c, .int .u64 d])).run Try.prog w = .ok (decide (a = c ∧ b = d)) w := by
  have u3 := Try.underlying69
  have a3 := Try.isAgg69
  have z3 := Try.sizeOf69
  rw [show (10000 : Nat) = 9999 + 1 from rfl, Op.equalIn]
  simp only [Sem.run_bind, run_underlying Try.underlying101, Result.andThen_ok]
  simp only [Std.Legacy.Range.forIn_eq_forIn_range', Std.Legacy.Range.size, Nat.sub_zero, Nat.add_sub_cancel, Nat.div_one, List.range'_succ, List.range'_zero, List.forIn_cons, List.forIn_nil]
  go_simp
  by_cases h1 : a = c <;> by_cases h2 : b = d <;> simp [h1, h2]
theorem wide_bin (a b c d : Int) (w : World) :
    (binOp .eql 101 (.agg #[.int .u64 a, .int .u64 b]) (.agg #[.int .u64 c, .int .u64 d])).run Try.prog w = .ok (.bool (decide (a = c ∧ b = d))) w := by
  rw [run_eql_struct, wide_run]; rfl
theorem two_unique {n h l h2 l2 : Nat} (a : Two n h l) (b : Two n h2 l2) : h = h2 ∧ l = l2 := by
  obtain ⟨a1, a2, a3⟩ := a
  obtain ⟨b1, b2, b3⟩ := b
  omega
theorem two_ne {n m h l h2 l2 : Nat} (a : Two n h l) (b : Two m h2 l2) (hne : ¬ n = m) : ¬ (h = h2 ∧ l = l2) := by
  rintro ⟨rfl, rfl⟩
  exact hne (a.1.symm.trans b.1)

end Go.Proofs.Ytianceglbkcmpaa
