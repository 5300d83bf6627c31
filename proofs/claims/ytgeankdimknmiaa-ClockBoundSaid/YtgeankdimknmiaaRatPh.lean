/- Which are fractions; is one among many none. -/
import Derived.Test.YtgeankdimknmiaaRatPe
namespace Go.Proofs.Ytgeankdimknmiaa
open Go.RowKit

/-- is it a fraction? -/
def rightB (n d : Int) : Bool := decide (1 ≤ d ∧ n ≠ -9223372036854775808 ∧ Nat.gcd n.natAbs d.natAbs = 1)

set_option maxHeartbeats 1000000 in
theorem is_any (n d : Int) (h0 : -9223372036854775808 ≤ n) (h1 : n ≤ 9223372036854775807) (h2 : -9223372036854775808 ≤ d) (h3 : d ≤ 9223372036854775807) (w : World) :
    Calls Try.prog 81 #[.agg #[.int .i64 n, .int .i64 d]] w fun e w' => e = .returned (.bool (rightB n d)) ∧ Below w.heap.size w w' := by
  by_cases hd : 1 ≤ d
  · by_cases hn : n = -9223372036854775808
    · have hr : rightB n d = false := decide_eq_false (fun h => h.2.1 hn)
      rw [hr]
      have g1 : decide (0 < d) = true := decide_eq_true (by omega)
      have g2 : (n != -9223372036854775808) = false := by simp [hn]
      clear hr hn
      go_enter Try.func81, Try.ntmps81
      go_wp2_with fail
      go_quiet (fail)
      go_wp2_with fail
      go_ret
      exact ⟨by simp, by (repeat' (first | (with_reducible exact Below.refl _ _) | (with_reducible assumption) | (with_reducible apply Below.setCell) | (with_reducible apply Below.alloc) | (with_reducible apply Below.drew) | (with_reducible apply below_drewN) | (with_reducible refine Below.trans ?_ (Below.mono (by assumption) ?_)) | omega | (simp; done) | (simp; omega)))⟩
    · have g1 : decide (0 < d) = true := decide_eq_true (by omega)
      have g2 : (n != -9223372036854775808) = true := by simp [hn]
      have cn := fun W => size_any n h0 h1 W
      have cd := fun W => size_any d h2 h3 W
      have cg := fun W => divisor_any n.natAbs d.natAbs (by omega) (by omega) W
      have hr : rightB n d = (Nat.gcd n.natAbs d.natAbs == 1) := by
        unfold rightB
        by_cases hg : Nat.gcd n.natAbs d.natAbs = 1
        · simp [hd, hn, hg]
        · simp [hg]
      rw [hr]
      generalize Nat.gcd n.natAbs d.natAbs = G at *
      generalize n.natAbs = N at *
      generalize d.natAbs = D at *
      clear hr hn
      by_cases hG : G = 1
      · subst hG
        go_enter Try.func81, Try.ntmps81
        go_wp2_with fail
        go_quiet (first | (go_at_call_of 74 (Value.int IntKind.i64 n); exact still_quiet (cn _)) | (go_at_call_of 74 (Value.int IntKind.i64 d); exact still_quiet (cd _)) | (go_at_call 76; exact Calls.quiet_of (cg _)))
        go_wp2_with fail
        go_ret
        exact ⟨by simp, by (repeat' (first | (with_reducible exact Below.refl _ _) | (with_reducible assumption) | (with_reducible apply Below.setCell) | (with_reducible apply Below.alloc) | (with_reducible apply Below.drew) | (with_reducible apply below_drewN) | (with_reducible refine Below.trans ?_ (Below.mono (by assumption) ?_)) | omega | (simp; done) | (simp; omega)))⟩
      · have hG2 : ((G : Int) == 1) = false := beq_eq_false_iff_ne.2 (by omega)
        have hG3 : (G == 1) = false := beq_eq_false_iff_ne.2 hG
        rw [hG3]
        go_enter Try.func81, Try.ntmps81
        go_wp2_with fail
        go_quiet (first | (go_at_call_of 74 (Value.int IntKind.i64 n); exact still_quiet (cn _)) | (go_at_call_of 74 (Value.int IntKind.i64 d); exact still_quiet (cd _)) | (go_at_call 76; exact Calls.quiet_of (cg _)))
        go_wp2_with fail
        go_ret
        exact ⟨by simp, by (repeat' (first | (with_reducible exact Below.refl _ _) | (with_reducible assumption) | (with_reducible apply Below.setCell) | (with_reducible apply Below.alloc) | (with_reducible apply Below.drew) | (with_reducible apply below_drewN) | (with_reducible refine Below.trans ?_ (Below.mono (by assumption) ?_)) | omega | (simp; done) | (simp; omega)))⟩
  · have hr : rightB n d = false := decide_eq_false (fun h => hd h.1)
    rw [hr]
    have g1 : decide (0 < d) = false := decide_eq_false (by omega)
    clear hr
    go_enter Try.func81, Try.ntmps81
    go_wp2_with fail
    go_quiet (fail)
    go_wp2_with fail
    go_ret
    exact ⟨by simp, by (repeat' (first | (with_reducible exact Below.refl _ _) | (with_reducible assumption) | (with_reducible apply Below.setCell) | (with_reducible apply Below.alloc) | (with_reducible apply Below.drew) | (with_reducible apply below_drewN) | (with_reducible refine Below.trans ?_ (Below.mono (by assumption) ?_)) | omega | (simp; done) | (simp; omega)))⟩

theorem isNone_any (n d : Int) (h0 : -9223372036854775808 ≤ n) (h1 : n ≤ 9223372036854775807) (h2 : -9223372036854775808 ≤ d) (h3 : d ≤ 9223372036854775807) (w : World) :
    Calls Try.prog 69 #[.agg #[.int .i64 n, .int .i64 d]] w fun e w' => e = .returned (.bool (!rightB n d)) ∧ Below w.heap.size w w' := by
  have c := fun W => is_any n d h0 h1 h2 h3 W
  generalize rightB n d = R at *
  have hnot : ∀ (x : Bool) (w : World), (Op.unary .not (.bool x)).run Try.prog w = .ok (.bool (!x)) w := fun _ _ => rfl
  go_enter Try.func69, Try.ntmps69
  go_wp2_with fail
  refine (c _).mono ?_
  rintro e w1 ⟨rfl, hb⟩
  go_wp2_with fail
  go_ret
  exact ⟨by simp, by (repeat' (first | (with_reducible exact Below.refl _ _) | (with_reducible assumption) | (with_reducible apply Below.setCell) | (with_reducible apply Below.alloc) | (with_reducible apply Below.drew) | (with_reducible apply below_drewN) | (with_reducible refine Below.trans ?_ (Below.mono (by assumption) ?_)) | omega | (simp; done) | (simp; omega)))⟩
end Go.Proofs.Ytgeankdimknmiaa
