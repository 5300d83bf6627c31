/- Specs: how many bytes are allowed. -/
import Derived.Test.YtjmppeofdnikoaaSpB
namespace Go.Proofs.Ytjmppeofdnikoaa
open Go.RowKit

theorem isNone_any (p r u m l : Int) (w : World) : Calls Try.prog 46 #[.agg #[.int .i64 p, .int .i64 r, .int .i64 u, .int .i64 m, .int .i64 l]] w fun e w' => e = .returned (.bool (!rightB p r u m l)) ∧ Below w.heap.size w w' := by
  have cc := hidd (fun W => check_any p r u m l W)
  generalize rightB p r u m l = R at *
  cases R
  all_goals
    go_enter Try.func46, Try.ntmps46
    go_wp2_with fail
    refine (cc.out _).mono ?_
    rintro e w1 ⟨rfl, hb⟩
    go_wp2_with fail
    go_ret
    exact ⟨by simp, by (repeat' (first | (with_reducible exact Below.refl _ _) | (with_reducible assumption) | (with_reducible apply Below.setCell) | (with_reducible apply Below.alloc) | (with_reducible apply Below.drew) | (with_reducible apply below_drewN) | (with_reducible refine Below.trans ?_ (Below.mono (by assumption) ?_)) | omega | (simp; done) | (simp; omega)))⟩
/-- is it a tick. -/
def tickB (n : Int) : Bool := decide (0 ≤ n ∧ n ≤ 2147483647)
theorem isTick_any (n : Int) (w : World) : Calls Try.prog 48 #[.int .i64 n] w fun e w' => e = .returned (.bool (tickB n)) ∧ w = w' := by
  by_cases h0 : 0 ≤ n
  · by_cases h1 : n ≤ 2147483647
    · have hr : tickB n = true := decide_eq_true ⟨h0, h1⟩
      rw [hr]
      go_enter Try.func48, Try.ntmps48
      go_wp2
      go_ret
      exact ⟨by simp, rfl⟩
    · have hr : tickB n = false := decide_eq_false (fun h => h1 h.2)
      rw [hr]
      go_enter Try.func48, Try.ntmps48
      go_wp2
      go_ret
      exact ⟨by simp, rfl⟩
  · have hr : tickB n = false := decide_eq_false (fun h => h0 h.1)
    rw [hr]
    go_enter Try.func48, Try.ntmps48
    go_wp2
    go_ret
    exact ⟨by simp, rfl⟩
theorem lines_any (p r u m l : Int) (w : World) : Calls Try.prog 67 #[.agg #[.int .i64 p, .int .i64 r, .int .i64 u, .int .i64 m, .int .i64 l]] w fun e w' => e = .returned (.agg #[.int .i64 m, .int .i64 p, .int .i64 u, .int .i64 r]) ∧ Below w.heap.size w w' := by
  go_enter Try.func67, Try.ntmps67
  go_wp2_with fail
  exact bodyPost_ret (v := .agg #[.int .i64 m, .int .i64 p, .int .i64 u, .int .i64 r]) (by simp [results, Try.results67, go_sem]) rfl ⟨rfl, by (repeat' (first | (with_reducible exact Below.refl _ _) | (with_reducible assumption) | (with_reducible apply Below.setCell) | (with_reducible apply Below.alloc) | (with_reducible apply Below.drew) | (with_reducible apply below_drewN) | (with_reducible refine Below.trans ?_ (Below.mono (by assumption) ?_)) | omega | (simp; done) | (simp; omega)))⟩
theorem within_any (a b t : Int) (h0 : 0 ≤ b * t) (h1 : b * t ≤ 2200000000000000) (k0 : 0 ≤ a) (k1 : a ≤ 10000000) (w : World) : Calls Try.prog 68 #[.agg #[.int .i64 a, .int .i64 b], .int .i64 t] w fun e w' => e = .returned (.int .i64 (a + b * t)) ∧ Below w.heap.size w w' := by
  generalize hm : b * t = c at *
  have M := hidd hm
  clear hm
  go_enter Try.func68, Try.ntmps68
  go_wp2_with fail
  go_ret
  refine ⟨ret_int ?_, by (repeat' (first | (with_reducible exact Below.refl _ _) | (with_reducible assumption) | (with_reducible apply Below.setCell) | (with_reducible apply Below.alloc) | (with_reducible apply Below.drew) | (with_reducible apply below_drewN) | (with_reducible refine Below.trans ?_ (Below.mono (by assumption) ?_)) | omega | (simp; done) | (simp; omega)))⟩
  rw [M.out]
  simp only [wrap64]
  omega
theorem rate_bounds {b t : Int} (h0 : 0 ≤ b) (h1 : b ≤ 1000000) (k0 : 0 ≤ t) (k1 : t ≤ 2147483647) : 0 ≤ b * t ∧ b * t ≤ 2200000000000000 := by
  refine ⟨Int.mul_nonneg h0 k0, ?_⟩
  have : b * t ≤ 1000000 * 2147483647 := Int.mul_le_mul h1 k1 k0 (by decide)
  omega
/-- how many bytes a spec allows. -/
def allowsV (p r u m t : Int) : Int := if u + r * t < m + p * t then u + r * t else m + p * t
set_option maxHeartbeats 2000000 in
theorem allowed_any (p r u m l t : Int) (hr : rightB p r u m l = true) (k0 : 0 ≤ t) (k1 : t ≤ 2147483647) (w : World) :
    Calls Try.prog 49 #[.agg #[.int .i64 p, .int .i64 r, .int .i64 u, .int .i64 m, .int .i64 l], .int .i64 t] w fun e w' => e = .returned (.int .i64 (allowsV p r u m t)) ∧ Below w.heap.size w w' := by
  have b := rightB_iff hr
  have cl := hidd (fun W => lines_any p r u m l W)
  obtain ⟨m0, m1⟩ := rate_bounds (b := p) (by omega) (by omega) k0 k1
  obtain ⟨m2, m3⟩ := rate_bounds (b := r) (by omega) (by omega) k0 k1
  have cp := hidd (fun W => within_any m p t m0 m1 (by omega) (by omega) W)
  have cr := hidd (fun W => within_any u r t m2 m3 (by omega) (by omega) W)
  have hv : allowsV p r u m t = if u + r * t < m + p * t then u + r * t else m + p * t := rfl
  generalize allowsV p r u m t = v at *
  generalize m + p * t = x at *
  generalize u + r * t = y at *
  have HV := hidd hv
  clear hv b hr m0 m1 m2 m3 k0 k1
  · skip
    go_enter Try.func49, Try.ntmps49
    go_wp2_with fail
    refine (cl.out _).mono ?_
    rintro e w1 ⟨rfl, hb⟩
    have hB := below_step (below_new (Below.refl w.heap.size w) _) hb
    have s1 := hB.size
    go_wp2_with fail
    go_region_with (first | (go_at_call_of 68 (Value.agg #[.int IntKind.i64 m, .int IntKind.i64 p]); refine (cp.out _).mono ?_; rintro E wp ⟨rfl, hbp⟩; obtain ⟨bcwp, bfwp⟩ := bcell hbp; have qp := Below.size hbp; (try simp at qp)) | (go_at_call_of 68 (Value.agg #[.int IntKind.i64 u, .int IntKind.i64 r]); refine (cr.out _).mono ?_; rintro E wr ⟨rfl, hbr⟩; obtain ⟨bcwr, bfwr⟩ := bcell hbr; have qr := Below.size hbr; (try simp at qr)))
    all_goals go_wp2_with fail
    all_goals go_ret
    all_goals exact ⟨ret_int (by rw [HV.out]; split <;> omega), by (repeat' (first | (with_reducible exact Below.refl _ _) | (with_reducible assumption) | (with_reducible apply Below.setCell) | (with_reducible apply Below.alloc) | (with_reducible apply Below.drew) | (with_reducible apply below_drewN) | (with_reducible refine Below.trans ?_ (Below.mono (by assumption) ?_)) | omega | (simp; done) | (simp; omega)))⟩
end Go.Proofs.Ytjmppeofdnikoaa
