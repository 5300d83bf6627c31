/- Specs: how many bytes are allowed. -/
import Derived.Test.YtilikpacgbkebaaSpB
namespace Go.Proofs.Ytilikpacgbkebaa
open Go.RowKit

theorem isNone_any (p r u m l : Int) (w : World) : Calls Try.prog 34 #[.agg #[.int .i64 p, .int .i64 r, .int .i64 u, .int .i64 m, .int .i64 l]] w fun e w' => e = .returned (.bool (!rightB p r u m l)) ∧ Below w.heap.size w w' := by
  have cc := hidd (fun W => check_any p r u m l W)
  generalize rightB p r u m l = R at *
  cases R
  all_goals
    go_enter Try.func34, Try.ntmps34
    go_wp2_with fail
    refine (cc.out _).mono ?_
    rintro e w1 ⟨rfl, hb⟩
    go_wp2_with fail
    go_ret
    exact ⟨by simp, by (repeat' (first | (with_reducible exact Below.refl _ _) | (with_reducible assumption) | (with_reducible apply Below.setCell) | (with_reducible apply Below.alloc) | (with_reducible apply Below.drew) | (with_reducible apply below_drewN) | (with_reducible refine Below.trans ?_ (Below.mono (by assumption) ?_)) | omega | (simp; done) | (simp; omega)))⟩
/-- is it a tick. -/
def tickB (n : Int) : Bool := decide (0 ≤ n ∧ n ≤ 2147483647)
theorem isTick_any (n : Int) (w : World) : Calls Try.prog 43 #[.int .i64 n] w fun e w' => e = .returned (.bool (tickB n)) ∧ w = w' := by
  by_cases h0 : 0 ≤ n
  · by_cases h1 : n ≤ 2147483647
    · have hr : tickB n = true := decide_eq_true ⟨h0, h1⟩
      rw [hr]
      go_enter Try.func43, Try.ntmps43
      go_wp2
      go_ret
      exact ⟨by simp, rfl⟩
    · have hr : tickB n = false := decide_eq_false (fun h => h1 h.2)
      rw [hr]
      go_enter Try.func43, Try.ntmps43
      go_wp2
      go_ret
      exact ⟨by simp, rfl⟩
  · have hr : tickB n = false := decide_eq_false (fun h => h0 h.1)
    rw [hr]
    go_enter Try.func43, Try.ntmps43
    go_wp2
    go_ret
    exact ⟨by simp, rfl⟩
theorem lines_any (p r u m l : Int) (w : World) : Calls Try.prog 44 #[.agg #[.int .i64 p, .int .i64 r, .int .i64 u, .int .i64 m, .int .i64 l]] w fun e w' => e = .returned (.agg #[.int .i64 m, .int .i64 p, .int .i64 u, .int .i64 r]) ∧ Below w.heap.size w w' := by
  go_enter Try.func44, Try.ntmps44
  go_wp2_with fail
  exact bodyPost_ret (v := .agg #[.int .i64 m, .int .i64 p, .int .i64 u, .int .i64 r]) (by simp [results, Try.results44, go_sem]) rfl ⟨rfl, by (repeat' (first | (with_reducible exact Below.refl _ _) | (with_reducible assumption) | (with_reducible apply Below.setCell) | (with_reducible apply Below.alloc) | (with_reducible apply Below.drew) | (with_reducible apply below_drewN) | (with_reducible refine Below.trans ?_ (Below.mono (by assumption) ?_)) | omega | (simp; done) | (simp; omega)))⟩
theorem rate_bounds {b t : Int} (h0 : 0 ≤ b) (h1 : b ≤ 1000000) (k0 : 0 ≤ t) (k1 : t ≤ 2147483647) : 0 ≤ b * t ∧ b * t ≤ 2200000000000000 := by
  refine ⟨Int.mul_nonneg h0 k0, ?_⟩
  have : b * t ≤ 1000000 * 2147483647 := Int.mul_le_mul h1 k1 k0 (by decide)
  omega
/-- how many bytes a spec allows. -/
def allowsV (p r u m t : Int) : Int := if u + r * t < m + p * t then u + r * t else m + p * t
end Go.Proofs.Ytilikpacgbkebaa
