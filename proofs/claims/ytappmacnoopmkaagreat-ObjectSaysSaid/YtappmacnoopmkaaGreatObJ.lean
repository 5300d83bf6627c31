/- Objects: may a spec be, may terms be, as the layers below say. -/
import Derived.Test.YtappmacnoopmkaaGreatZpB
import Derived.Test.YtappmacnoopmkaaGreatObI
namespace Go.Proofs.YtappmacnoopmkaaGreat
set_option linter.unusedVariables false
open Go.RowKit

theorem bFrom_any (a n b : Int) (w : World) : Calls Tryz.prog 179 #[.int .i64 a, .int .i64 n, .int .i64 b] w fun e w' => e = .returned (.bool (inB a n b)) ∧ w = w' := by
  by_cases h1 : a ≤ n
  · have e1 : inB a n b = decide (n ≤ b) := by simp [inB, h1]
    rw [e1]
    clear e1
    go_enter Tryz.func179, Tryz.ntmps179
    go_wp2
    go_ret
    exact ⟨by simp, rfl⟩
  · have e1 : inB a n b = false := by simp [inB, h1]
    have h2 : decide (a ≤ n) = false := decide_eq_false h1
    rw [e1]
    clear e1
    go_enter Tryz.func179, Tryz.ntmps179
    go_wp2
    go_ret
    exact ⟨by simp, rfl⟩
def termB (c d : Int) : Bool := inB 0 c 10000000 && inB 0 d 1000000
theorem isTerms_any (c d : Int) (w : World) : Calls Tryz.prog 175 #[.agg #[.int .i64 c, .int .i64 d]] w fun e w' => e = .returned (.bool (termB c d)) ∧ Below w.heap.size w w' := by
  have ca := hidd (fun W => bFrom_any 0 c 10000000 W)
  have cb := hidd (fun W => bFrom_any 0 d 1000000 W)
  unfold termB
  generalize inB 0 c 10000000 = P at *
  generalize inB 0 d 1000000 = Q at *
  cases P
  · go_enter Tryz.func175, Tryz.ntmps175
    go_wp2_with fail
    refine (ca.out _).mono ?_
    rintro e w1 ⟨rfl, rfl⟩
    go_wp2_with fail
    go_ret
    exact ⟨by simp, by (repeat' (first | (with_reducible exact Below.refl _ _) | (with_reducible assumption) | (with_reducible apply Below.setCell) | (with_reducible apply Below.alloc) | (with_reducible apply Below.drew) | (with_reducible apply below_drewN) | (with_reducible refine Below.trans ?_ (Below.mono (by assumption) ?_)) | omega | (simp; done) | (simp; omega)))⟩
  · go_enter Tryz.func175, Tryz.ntmps175
    go_wp2_with fail
    refine (ca.out _).mono ?_
    rintro e w1 ⟨rfl, rfl⟩
    go_wp2_with fail
    refine (cb.out _).mono ?_
    rintro e w1 ⟨rfl, rfl⟩
    go_wp2_with fail
    go_ret
    exact ⟨by simp, by (repeat' (first | (with_reducible exact Below.refl _ _) | (with_reducible assumption) | (with_reducible apply Below.setCell) | (with_reducible apply Below.alloc) | (with_reducible apply Below.drew) | (with_reducible apply below_drewN) | (with_reducible refine Below.trans ?_ (Below.mono (by assumption) ?_)) | omega | (simp; done) | (simp; omega)))⟩
theorem boundCheck_any (c d : Int) (w : World) : Calls Tryz.prog 151 #[.agg #[.int .i64 c, .int .i64 d]] w fun e w' => e = .returned (.int .i64 (if termB c d then 0 else 2)) ∧ Below w.heap.size w w' := by
  have ca := hidd (fun W => isTerms_any c d W)
  generalize termB c d = P at *
  go_enter Tryz.func151, Tryz.ntmps151
  go_wp2_with fail
  refine Zp.wp_scope_fwd 0 (fun a' w' => P = false ∧ Below w.heap.size w w' ∧ ∃ v0 v1 v2 v3 v4 v5 : Value, a' = { tmps := #[v0, v1, v2, v3, v4, v5], defers := [] }) rfl ?_ ?_
  case refine_2 =>
    rintro a' w' ⟨rfl, hb, v0, v1, v2, v3, v4, v5, rfl⟩
    go_wp2_with fail
    (try rw [Exit.noGoto_ret])
    go_ret
    exact ⟨rfl, hb⟩
  cases P
  · go_wp2_with fail
    refine (ca.out _).mono ?_
    rintro e w1 ⟨rfl, hb⟩
    go_wp2_with fail
    go_step3
    exact ⟨rfl, rfl, by (repeat' (first | (with_reducible exact Below.refl _ _) | (with_reducible assumption) | (with_reducible apply Below.setCell) | (with_reducible apply Below.alloc) | (with_reducible apply Below.drew) | (with_reducible apply below_drewN) | (with_reducible refine Below.trans ?_ (Below.mono (by assumption) ?_)) | omega | (simp; done) | (simp; omega))), _, _, _, _, _, _, rfl⟩
  · go_wp2_with fail
    refine (ca.out _).mono ?_
    rintro e w1 ⟨rfl, hb⟩
    go_wp2_with fail
    simp only [Exit.jump]
    go_ret
    exact ⟨rfl, by (repeat' (first | (with_reducible exact Below.refl _ _) | (with_reducible assumption) | (with_reducible apply Below.setCell) | (with_reducible apply Below.alloc) | (with_reducible apply Below.drew) | (with_reducible apply below_drewN) | (with_reducible refine Below.trans ?_ (Below.mono (by assumption) ?_)) | omega | (simp; done) | (simp; omega)))⟩
theorem isSpec_any (p r u m l : Int) (w : World) : Calls Tryz.prog 126 #[.agg #[.int .i64 p, .int .i64 r, .int .i64 u, .int .i64 m, .int .i64 l]] w fun e w' => e = .returned (.bool (Zp.rightB p r u m l)) ∧ Below w.heap.size w w' := by
  have ca := hidd (fun W => Zp.check_any p r u m l W)
  generalize Zp.rightB p r u m l = P at *
  cases P
  · go_enter Tryz.func126, Tryz.ntmps126
    go_wp2_with fail
    refine (ca.out _).mono ?_
    rintro e w1 ⟨rfl, hb⟩
    have HB := hidd hb
    clear hb
    go_wp2_with fail
    go_ret
    exact ⟨by first | rfl | simp, by have q := HB.out; (repeat' (first | (with_reducible exact Below.refl _ _) | (with_reducible assumption) | (with_reducible apply Below.setCell) | (with_reducible apply Below.alloc) | (with_reducible apply Below.drew) | (with_reducible apply below_drewN) | (with_reducible refine Below.trans ?_ (Below.mono (by assumption) ?_)) | omega | (simp; done) | (simp; omega)))⟩
  · go_enter Tryz.func126, Tryz.ntmps126
    go_wp2_with fail
    refine (ca.out _).mono ?_
    rintro e w1 ⟨rfl, hb⟩
    have HB := hidd hb
    clear hb
    go_wp2_with fail
    go_ret
    exact ⟨by first | rfl | simp, by have q := HB.out; (repeat' (first | (with_reducible exact Below.refl _ _) | (with_reducible assumption) | (with_reducible apply Below.setCell) | (with_reducible apply Below.alloc) | (with_reducible apply Below.drew) | (with_reducible apply below_drewN) | (with_reducible refine Below.trans ?_ (Below.mono (by assumption) ?_)) | omega | (simp; done) | (simp; omega)))⟩
set_option maxHeartbeats 2000000 in
theorem specWords_any (x0 x1 x2 x3 x4 : Int) (w : World) : Calls Tryz.prog 128 #[.agg #[.int .i64 x0, .int .i64 x1, .int .i64 x2, .int .i64 x3, .int .i64 x4]] w fun e w' => Below w.heap.size w w' ∧ ∃ A k, e = .returned (.slice A 5 k) ∧ LieQ wdV 1 w' (fun q => w.heap.size ≤ q ∧ q < w'.heap.size) A [x1, x2, x0, x4, x3] := by
  have HL := hidd (lie_new (w.alloc (.cells #[.int .i64 x0, .int .i64 x1, .int .i64 x2, .int .i64 x3, .int .i64 x4] 30)) [x1, x2, x0, x4, x3] 2 _ rfl (fun q => w.heap.size ≤ q ∧ q < w.heap.size + 2) ⟨by simp, by simp⟩)
  go_enter Tryz.func128, Tryz.ntmps128
  go_wp2_with fail
  go_ret
  refine ⟨by (repeat' (first | (with_reducible exact Below.refl _ _) | (with_reducible assumption) | (with_reducible apply Below.setCell) | (with_reducible apply Below.alloc) | (with_reducible apply Below.drew) | (with_reducible apply below_drewN) | (with_reducible refine Below.trans ?_ (Below.mono (by assumption) ?_)) | omega | (simp; done) | (simp; omega))), _, _, rfl, ?_⟩
  refine (by simpa using HL.out : LieQ wdV 1 _ (fun q => w.heap.size ≤ q ∧ q < w.heap.size + 2) _ _).to (fun q hq => ⟨⟨hq.1, by simp; omega⟩, rfl⟩)
end Go.Proofs.YtappmacnoopmkaaGreat
