/- What every law of the layer looks at besides; the document's terms of a link. -/
import Derived.Test.YtjnceoklnmmhjaaGreatBdF
namespace Go.Proofs.YtjnceoklnmmhjaaGreat
set_option linter.unusedVariables false
open Go.RowKit

theorem terms_eq_same (a b : Int) (w : World) : (binOp .eql 58 (.agg #[.int .i64 a, .int .i64 b]) (.agg #[.int .i64 a, .int .i64 b])).run Tryz.prog w = .ok (.bool true) w := by
  simp [go_sem, Op.eqFields]
theorem ratB_eq_same (a b : Int) (w : World) : (binOp .eql 84 (.agg #[.int .i64 a, .int .i64 b]) (.agg #[.int .i64 a, .int .i64 b])).run Tryz.prog w = .ok (.bool true) w := by
  simp [go_sem, Op.eqFields]
theorem upZ_eq {n d : Int} (h0 : 0 ≤ n) (hd : 1 ≤ d) : upZ n d = if 0 < n % d then n / d + 1 else n / d := by
  unfold upZ
  have h1 := Int.emod_add_mul_ediv n d
  have h2 := Int.emod_nonneg n (show d ≠ 0 by omega)
  have h3 := Int.emod_lt_of_pos n (show 0 < d by omega)
  by_cases h : 0 < n % d
  · rw [if_pos h]
    have := ((Int.ediv_emod_unique (a := -n) (q := -(n / d) - 1) (r := d - n % d) (show 0 < d by omega)).2 ⟨by
      have : d * (-(n / d) - 1) = -(d * (n / d)) - d := by rw [Int.mul_sub, Int.mul_neg, Int.mul_one]
      omega, by omega, by omega⟩).1
    omega
  · rw [if_neg h]
    have := ((Int.ediv_emod_unique (a := -n) (q := -(n / d)) (r := 0) (show 0 < d by omega)).2 ⟨by
      have : d * (-(n / d)) = -(d * (n / d)) := Int.mul_neg _ _
      omega, by omega, by omega⟩).1
    omega
theorem refUp_any (n d : Int) (h0 : 0 ≤ n) (h1 : n ≤ 1000000) (hd : 1 ≤ d) (hd1 : d ≤ 1000000) (w : World) : Calls Tryz.prog 33 #[.int .i64 n, .int .i64 d] w fun e w' => e = .returned (.int .i64 (upZ n d)) ∧ Below w.heap.size w w' := by
  have hu := upZ_eq h0 hd
  have hb := upZ_bd h0 hd
  have hn0 : ¬ d = 0 := by omega
  have hq0 : 0 ≤ n / d := Int.ediv_nonneg h0 (by omega)
  have hm : n.tmod d = n % d := Int.tmod_eq_emod_of_nonneg h0
  have hq : n.tdiv d = n / d := Int.tdiv_eq_ediv_of_nonneg h0
  generalize upZ n d = U at *
  generalize n / d = q at *
  generalize n % d = t at *
  by_cases h : 0 < t
  · rw [if_pos h] at hu
    subst hu
    go_enter Tryz.func33, Tryz.ntmps33
    go_wp2_with fail
    go_ret
    exact ⟨by first | rfl | simp, by (repeat' (first | (with_reducible exact Below.refl _ _) | (with_reducible assumption) | (with_reducible apply Below.setCell) | (with_reducible apply Below.alloc) | (with_reducible apply Below.drew) | (with_reducible apply below_drewN) | (with_reducible refine Below.trans ?_ (Below.mono (by assumption) ?_)) | omega | (simp; done) | (simp; omega)))⟩
  · rw [if_neg h] at hu
    subst hu
    go_enter Tryz.func33, Tryz.ntmps33
    go_wp2_with fail
    go_ret
    exact ⟨by first | rfl | simp, by (repeat' (first | (with_reducible exact Below.refl _ _) | (with_reducible assumption) | (with_reducible apply Below.setCell) | (with_reducible apply Below.alloc) | (with_reducible apply Below.drew) | (with_reducible apply below_drewN) | (with_reducible refine Below.trans ?_ (Below.mono (by assumption) ?_)) | omega | (simp; done) | (simp; omega)))⟩
end Go.Proofs.YtjnceoklnmmhjaaGreat
