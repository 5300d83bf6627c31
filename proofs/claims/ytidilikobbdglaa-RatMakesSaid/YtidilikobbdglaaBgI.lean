/- The walk of the law on the fraction of any two numbers. -/
import Derived.Test.YtidilikobbdglaaBgH
import Derived.Deep.RegionWith
import Derived.Deep.DrawnRows
namespace Go.Proofs.Ytidilikobbdglaa
set_option linter.unusedVariables false
open Go.RowKit
attribute [local go_sem ↓] Go.wp_at_zero Go.wp_at_succ

theorem make_right {n d N D : Int} (h : makeR n d = (N, D, 0)) : RM.Right N D := by
  unfold makeR at h
  by_cases hz : d.natAbs = 0
  · unfold RM.fracN at h; rw [if_pos hz] at h; cases h
  · exact ((RM.fracN_ok _ _ _ (by omega) N D).1 h).1
theorem right_b {N D : Int} (h : RM.Right N D) : rightB N D = true :=
  decide_eq_true ⟨h.1, by have := h.2.2.1; omega, h.2.2.2.2⟩
/-- three boxes keep what they hold. -/
theorem three_keep {W : World} {a b c : Nat} {x y z t u v : Int} (h1 : RatBox W a x y) (h2 : RatBox W b z t) (h3 : RatBox W c u v) : ∀ w', Below W.heap.size W w' →
    w'.cell? ⟨a, 0, none⟩ = some (.int .i64 x) ∧ w'.cell? ⟨a, 1, none⟩ = some (.int .i64 y) ∧ w'.cell? ⟨b, 0, none⟩ = some (.int .i64 z) ∧ w'.cell? ⟨b, 1, none⟩ = some (.int .i64 t) ∧ w'.cell? ⟨c, 0, none⟩ = some (.int .i64 u) ∧ w'.cell? ⟨c, 1, none⟩ = some (.int .i64 v) := fun w' hb => by
  obtain ⟨_, a0, a1, _, _⟩ := h1.step hb
  obtain ⟨_, b0, b1, _, _⟩ := h2.step hb
  obtain ⟨_, c0, c1, _, _⟩ := h3.step hb
  exact ⟨a0, a1, b0, b1, c0, c1⟩
theorem rat_same (a b : Int) (w : World) : (binOp .eql 23 (.agg #[.int .i64 a, .int .i64 b]) (.agg #[.int .i64 a, .int .i64 b])).run Try.prog w = .ok (.bool true) w := by
  rw [run_eql_struct]
  simp [go_sem, Op.eqFields]
set_option maxRecDepth 100000 in
set_option maxHeartbeats 8000000 in
theorem makes_walk (n d : Int) (h0 : -9223372036854775808 ≤ n) (h1 : n ≤ 9223372036854775807) (h2 : -9223372036854775808 ≤ d) (h3 : d ≤ 9223372036854775807) (w : World) :
    Calls Try.prog 3 #[.int .i64 n, .int .i64 d] w fun e w' => e = .returned (.bool true) ∧ Below w.heap.size w w' := by
  have ck := hidd (fun W => known_any W)
  have m1 := hidd (fun W => make_any n d h0 h1 h2 h3 W)
  have m2 := hidd (fun W => refMake_any n d h0 h1 h2 h3 W)
  have c1 := hidd (fun W => ratCheck_any n d h0 h1 h2 h3 W)
  have r1 := hidd (fun W => refRight_any n d h0 h1 h2 h3 W)
  have c2 : ∀ N D, makeR n d = (N, D, 0) → ∀ W, _ := fun N D h W => ratCheck_any N D (by have := (make_right h).2.2.1; omega) ((make_right h).2.2.2.1) (by have := (make_right h).1; omega) (by have := (make_right h).2.1; omega) W
  have hrb : ∀ N D, makeR n d = (N, D, 0) → rightB N D = true := fun N D h => right_b (make_right h)
  have C2 := hidd c2
  have HRB := hidd hrb
  obtain ⟨N, D, e, hr⟩ : ∃ N D e, makeR n d = (N, D, e) := ⟨_, _, _, rfl⟩
  rw [hr] at m1 m2 C2 HRB
  unfold pairOf at m1 m2
  dsimp only at m1 m2
  generalize rightB n d = R at *
  clear c2 hrb hr
  have hsame := fun w => rat_same N D w
  by_cases he : e = 0
  · subst he
    have c3 := hidd (fun W => C2.out N D rfl W)
    rw [HRB.out N D rfl] at c3
    clear C2 HRB
    cases R
    all_goals
      go_enter Try.func3, Try.ntmps3
      go_wp2_with fail
      refine (m1.out _).mono ?_
      rintro e w1 ⟨rfl, hb1⟩
      have HX := hidd (RatBox.new w1 23 N D)
      have LW := hidd (below_new hb1 (.cells #[.int .i64 N, .int .i64 D] 23))
      clear hb1
      go_wp2_with fail
      refine (m2.out _).mono ?_
      rintro e w2 ⟨rfl, hb2⟩
      have HX2 := hidd (((HX.out.step hb2).step (below_new (Below.refl _ _) (.cells #[.int .i64 N, .int .i64 D] 23))).step (below_new (Below.refl _ _) (.cells #[.int .i64 n, .int .i64 d] 23)))
      have HY := hidd ((RatBox.new w2 23 N D).step (below_new (Below.refl _ _) (.cells #[.int .i64 n, .int .i64 d] 23)))
      have HZ := hidd (RatBox.new (w2.alloc (.cells #[.int .i64 N, .int .i64 D] 23)) 23 n d)
      have LW2 := hidd (below_new (below_new (below_step LW.out hb2) (.cells #[.int .i64 N, .int .i64 D] 23)) (.cells #[.int .i64 n, .int .i64 d] 23))
      clear hb2
      have HZ' := hidd (show RatBox ((w2.alloc (.cells #[.int .i64 N, .int .i64 D] 23)).alloc (.cells #[.int .i64 n, .int .i64 d] 23)) (w2.heap.size + 1) n d by simpa using HZ.out)
      have KEEP := hidd (three_keep HX2.out HY.out HZ'.out)
      clear HX HX2 HY HZ HZ' LW
      obtain ⟨k0, k1, k2, k3, k4, k5⟩ := KEEP.out _ (Below.refl _ _)
      go_wp2_with fail
      go_region_held3 (fun w' => w'.cell? ⟨w1.heap.size, 0, none⟩ = some (.int .i64 N) ∧ w'.cell? ⟨w1.heap.size, 1, none⟩ = some (.int .i64 D) ∧ w'.cell? ⟨w2.heap.size, 0, none⟩ = some (.int .i64 N) ∧ w'.cell? ⟨w2.heap.size, 1, none⟩ = some (.int .i64 D) ∧ w'.cell? ⟨w2.heap.size + 1, 0, none⟩ = some (.int .i64 n) ∧ w'.cell? ⟨w2.heap.size + 1, 1, none⟩ = some (.int .i64 d))
        ((first | exact KEEP.out _ cumD | exact KEEP.out _ cumC | exact KEEP.out _ cumB | exact KEEP.out _ cumA | exact ⟨k0, k1, k2, k3, k4, k5⟩))
        ((first
          | (go_at_call_of 10 (Value.agg #[Value.int IntKind.i64 n, Value.int IntKind.i64 d]); refine (c1.out _).mono ?_; rintro E wa ⟨rfl, ha⟩; have cumA : Below ((w2.alloc (.cells #[.int .i64 N, .int .i64 D] 23)).alloc (.cells #[.int .i64 n, .int .i64 d] 23)).heap.size ((w2.alloc (.cells #[.int .i64 N, .int .i64 D] 23)).alloc (.cells #[.int .i64 n, .int .i64 d] 23)) wa := (by first | exact below_step cumB ha | exact below_step (Below.drew (Below.refl _ _)) ha))
          | (go_at_call 11; refine (r1.out _).mono ?_; rintro E wb ⟨rfl, hb⟩; have cumB : Below ((w2.alloc (.cells #[.int .i64 N, .int .i64 D] 23)).alloc (.cells #[.int .i64 n, .int .i64 d] 23)).heap.size ((w2.alloc (.cells #[.int .i64 N, .int .i64 D] 23)).alloc (.cells #[.int .i64 n, .int .i64 d] 23)) wb := (by first | exact below_step cumA hb | exact below_step (Below.drew (Below.refl _ _)) hb))
          | (go_at_call_of 10 (Value.agg #[Value.int IntKind.i64 N, Value.int IntKind.i64 D]); refine (c3.out _).mono ?_; rintro E wc ⟨rfl, hc⟩; have cumC : Below ((w2.alloc (.cells #[.int .i64 N, .int .i64 D] 23)).alloc (.cells #[.int .i64 n, .int .i64 d] 23)).heap.size ((w2.alloc (.cells #[.int .i64 N, .int .i64 D] 23)).alloc (.cells #[.int .i64 n, .int .i64 d] 23)) wc := (by first | exact below_step cumB hc | exact below_step cumA hc))
          | (go_at_call 12; refine (ck.out _).mono ?_; rintro E wd ⟨rfl, hd⟩; have cumD : Below ((w2.alloc (.cells #[.int .i64 N, .int .i64 D] 23)).alloc (.cells #[.int .i64 n, .int .i64 d] 23)).heap.size ((w2.alloc (.cells #[.int .i64 N, .int .i64 D] 23)).alloc (.cells #[.int .i64 n, .int .i64 d] 23)) wd := (by exact below_step cumC hd))))
      all_goals go_wp2_with fail
      all_goals go_ret
      all_goals exact ⟨by simp, below_step LW2.out cumD⟩
  · have hne : (e != 0) = true := by simp [he]
    have hne2 : (e == 0) = false := beq_eq_false_iff_ne.2 he
    clear C2 HRB he
    obtain ⟨k, hk⟩ : ∃ k : Int, (if R = true then (0 : Int) else 2) = k := ⟨_, rfl⟩
    have hkR : (k == 0) = R := by rw [← hk]; cases R <;> rfl
    rw [hk] at c1
    clear hk
    · skip
      go_enter Try.func3, Try.ntmps3
      go_wp2_with fail
      refine (m1.out _).mono ?_
      rintro e1 w1 ⟨rfl, hb1⟩
      have HX := hidd (RatBox.new w1 23 N D)
      have LW := hidd (below_new hb1 (.cells #[.int .i64 N, .int .i64 D] 23))
      clear hb1
      go_wp2_with fail
      refine (m2.out _).mono ?_
      rintro e1 w2 ⟨rfl, hb2⟩
      have HX2 := hidd (((HX.out.step hb2).step (below_new (Below.refl _ _) (.cells #[.int .i64 N, .int .i64 D] 23))).step (below_new (Below.refl _ _) (.cells #[.int .i64 n, .int .i64 d] 23)))
      have HY := hidd ((RatBox.new w2 23 N D).step (below_new (Below.refl _ _) (.cells #[.int .i64 n, .int .i64 d] 23)))
      have HZ := hidd (RatBox.new (w2.alloc (.cells #[.int .i64 N, .int .i64 D] 23)) 23 n d)
      have LW2 := hidd (below_new (below_new (below_step LW.out hb2) (.cells #[.int .i64 N, .int .i64 D] 23)) (.cells #[.int .i64 n, .int .i64 d] 23))
      clear hb2
      have HZ' := hidd (show RatBox ((w2.alloc (.cells #[.int .i64 N, .int .i64 D] 23)).alloc (.cells #[.int .i64 n, .int .i64 d] 23)) (w2.heap.size + 1) n d by simpa using HZ.out)
      have KEEP := hidd (three_keep HX2.out HY.out HZ'.out)
      clear HX HX2 HY HZ HZ' LW
      obtain ⟨k0, k1, k2, k3, k4, k5⟩ := KEEP.out _ (Below.refl _ _)
      go_wp2_with fail
      go_region_with (first
          | (go_at_call_of 10 (Value.agg #[Value.int IntKind.i64 n, Value.int IntKind.i64 d]); refine (c1.out _).mono ?_; rintro E wa ⟨rfl, ha⟩; have cumA : Below ((w2.alloc (.cells #[.int .i64 N, .int .i64 D] 23)).alloc (.cells #[.int .i64 n, .int .i64 d] 23)).heap.size ((w2.alloc (.cells #[.int .i64 N, .int .i64 D] 23)).alloc (.cells #[.int .i64 n, .int .i64 d] 23)) wa := (by first | exact below_step cumB ha | exact below_step (Below.drew (Below.refl _ _)) ha); obtain ⟨pA0, pA1, pA2, pA3, pA4, pA5⟩ := KEEP.out _ cumA)
          | (go_at_call 11; refine (r1.out _).mono ?_; rintro E wb ⟨rfl, hb⟩; have cumB : Below ((w2.alloc (.cells #[.int .i64 N, .int .i64 D] 23)).alloc (.cells #[.int .i64 n, .int .i64 d] 23)).heap.size ((w2.alloc (.cells #[.int .i64 N, .int .i64 D] 23)).alloc (.cells #[.int .i64 n, .int .i64 d] 23)) wb := (by first | exact below_step cumA hb | exact below_step (Below.drew (Below.refl _ _)) hb); obtain ⟨pB0, pB1, pB2, pB3, pB4, pB5⟩ := KEEP.out _ cumB)
          | (go_at_call 12; refine (ck.out _).mono ?_; rintro E wd ⟨rfl, hd⟩; have cumD : Below ((w2.alloc (.cells #[.int .i64 N, .int .i64 D] 23)).alloc (.cells #[.int .i64 n, .int .i64 d] 23)).heap.size ((w2.alloc (.cells #[.int .i64 N, .int .i64 D] 23)).alloc (.cells #[.int .i64 n, .int .i64 d] 23)) wd := (by first | exact below_step cumB hd | exact below_step cumA hd)))
      all_goals go_wp2_with fail
      all_goals go_ret
      all_goals exact ⟨by first | rfl | (simp; done), below_step LW2.out cumD⟩
end Go.Proofs.Ytidilikobbdglaa
