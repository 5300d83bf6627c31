/- The document's answers: which specs may be, how many bytes they allow. -/
import Derived.Test.YthaiphkmkchhoaaSpF
namespace Go.Proofs.Ythaiphkmkchhoaa
open Go.RowKit

set_option maxHeartbeats 2000000 in
theorem right_any (p r u m l : Int) (w : World) : Calls Try.prog 21 #[.agg #[.int .i64 p, .int .i64 r, .int .i64 u, .int .i64 m, .int .i64 l]] w fun e w' => e = .returned (.bool (rightB p r u m l)) ∧ Below w.heap.size w w' := by
  have hb : ∀ R, rightB p r u m l = R → Hid (R = decide (1 ≤ r ∧ r ≤ p ∧ p ≤ 1000000 ∧ 1 ≤ l ∧ l ≤ m ∧ m ≤ 2000 ∧ m ≤ u ∧ u ≤ 10000000)) := fun R h => by subst h; exact rfl
  have HB := hb _ rfl
  generalize rightB p r u m l = R at *
  clear hb
  go_enter Try.func21, Try.ntmps21
  go_wp2_with fail
  all_goals go_ret
  all_goals (refine ⟨ret_bool ?_, by (repeat' (first | (with_reducible exact Below.refl _ _) | (with_reducible assumption) | (with_reducible apply Below.setCell) | (with_reducible apply Below.alloc) | (with_reducible apply Below.drew) | (with_reducible apply below_drewN) | (with_reducible refine Below.trans ?_ (Below.mono (by assumption) ?_)) | omega | (simp; done) | (simp; omega)))⟩; rw [HB.out]; first | (simp [*]; done) | (simp [*]; omega))
theorem allows_words (p r u m l t : Int) (hr : rightB p r u m l = true) (k0 : 0 ≤ t) (k1 : t ≤ 2147483647) :
    ∃ P R x y : Int, (IntKind.i64.wrap (p * t) = P ∧ IntKind.i64.wrap (r * t) = R ∧ IntKind.i64.wrap (m + P) = x ∧ IntKind.i64.wrap (u + R) = y) ∧ (wrap64 (p * t) = P ∧ wrap64 (r * t) = R ∧ wrap64 (m + P) = x ∧ wrap64 (u + R) = y) ∧ allowsV p r u m t = if y < x then y else x := by
  have b := rightB_iff hr
  obtain ⟨m0, m1⟩ := rate_bounds (b := p) (by omega) (by omega) k0 k1
  obtain ⟨m2, m3⟩ := rate_bounds (b := r) (by omega) (by omega) k0 k1
  have e : ∀ x : Int, wrap64 x = IntKind.i64.wrap x := fun x => by simp [IntKind.wrap_i64, wrap64]
  have q1 : IntKind.i64.wrap (p * t) = p * t := IntWalk.i64_in _ (by omega)
  have q2 : IntKind.i64.wrap (r * t) = r * t := IntWalk.i64_in _ (by omega)
  have q3 : IntKind.i64.wrap (m + p * t) = m + p * t := IntWalk.i64_in _ (by omega)
  have q4 : IntKind.i64.wrap (u + r * t) = u + r * t := IntWalk.i64_in _ (by omega)
  exact ⟨p * t, r * t, m + p * t, u + r * t, ⟨q1, q2, q3, q4⟩, ⟨by rw [e]; exact q1, by rw [e]; exact q2, by rw [e]; exact q3, by rw [e]; exact q4⟩, rfl⟩
set_option maxHeartbeats 2000000 in
theorem refAllows_any (p r u m l t : Int) (hr : rightB p r u m l = true) (k0 : 0 ≤ t) (k1 : t ≤ 2147483647) (w : World) :
    Calls Try.prog 68 #[.agg #[.int .i64 p, .int .i64 r, .int .i64 u, .int .i64 m, .int .i64 l], .int .i64 t] w fun e w' => e = .returned (.int .i64 (allowsV p r u m t)) ∧ Below w.heap.size w w' := by
  obtain ⟨P, R, x, y, ⟨q1, q2, q3, q4⟩, ⟨t1, t2, t3, t4⟩, hv⟩ := allows_words p r u m l t hr k0 k1
  generalize allowsV p r u m t = v at *
  have HV := hidd hv
  clear hv hr k0 k1
  by_cases hlt : x < y
  all_goals
    go_enter Try.func68, Try.ntmps68
    go_wp2_with fail
    go_quiet (fail)
    go_wp2_with fail
    go_ret
    exact ⟨ret_int (by rw [HV.out]; split <;> omega), by (repeat' (first | (with_reducible exact Below.refl _ _) | (with_reducible assumption) | (with_reducible apply Below.setCell) | (with_reducible apply Below.alloc) | (with_reducible apply Below.drew) | (with_reducible apply below_drewN) | (with_reducible refine Below.trans ?_ (Below.mono (by assumption) ?_)) | omega | (simp; done) | (simp; omega)))⟩
theorem allowsV_sub {p r u m l a b : Int} (hr : rightB p r u m l = true) (a0 : 0 ≤ a) (b0 : 0 ≤ b) : allowsV p r u m (a + b) ≤ allowsV p r u m a + allowsV p r u m b ∧ allowsV p r u m a ≤ allowsV p r u m (a + b) := by
  have h := rightB_iff hr
  have h1 : r * a ≤ p * a := Int.mul_le_mul_of_nonneg_right h.2.1 a0
  have h2 : r * b ≤ p * b := Int.mul_le_mul_of_nonneg_right h.2.1 b0
  have h3 : 0 ≤ r * b := Int.mul_nonneg (by omega) b0
  have h4 : 0 ≤ p * b := Int.mul_nonneg (by omega) b0
  unfold allowsV
  rw [Int.mul_add, Int.mul_add]
  generalize r * a = R1 at *
  generalize r * b = R2 at *
  generalize p * a = P1 at *
  generalize p * b = P2 at *
  constructor <;> (repeat' split) <;> omega
theorem allowsV_bd {p r u m l a : Int} (hr : rightB p r u m l = true) (a0 : 0 ≤ a) (a1 : a ≤ 2147483647) : 0 ≤ allowsV p r u m a ∧ allowsV p r u m a ≤ 2300000000000000 := by
  have b := rightB_iff hr
  obtain ⟨m0, m1⟩ := rate_bounds (b := p) (by omega) (by omega) a0 a1
  obtain ⟨m2, m3⟩ := rate_bounds (b := r) (by omega) (by omega) a0 a1
  unfold allowsV
  generalize p * a = P at *
  generalize r * a = R at *
  constructor <;> split <;> omega
end Go.Proofs.Ythaiphkmkchhoaa
