/- The walk of RatOrder: of two fractions one is less, or they are the same. -/
import Derived.Test.YtonpoemafneefaaRatOm
namespace Go.Proofs.Ytonpoemafneefaa
set_option linter.unusedVariables false
open Go.RowKit

theorem rsame_run (a b c d : Int) (w : World) :
    (Op.equalIn 10000 23 (.agg #[.int .i64 a, .int .i64 b]) (.agg #[.int .i64 c, .int .i64 d])).run Try.prog w = .ok (decide (a = c ∧ b = d)) w := by
  by_cases h0 : a = c <;> by_cases h1 : b = d <;> simp [go_sem, Op.eqFields, *]
theorem rsame_bin (a b c d : Int) (w : World) :
    (binOp .eql 23 (.agg #[.int .i64 a, .int .i64 b]) (.agg #[.int .i64 c, .int .i64 d])).run Try.prog w = .ok (.bool (decide (a = c ∧ b = d))) w := by
  rw [run_eql_struct, rsame_run]; rfl
theorem cmpR_no {x d y e : Int} (h : ¬ (rightB x d = true ∧ rightB y e = true)) : cmpR x d y e = (0, 2) := by
  unfold cmpR; rw [if_neg (by simpa using h)]
theorem subR_no {x d y e : Int} (h : ¬ (rightB x d = true ∧ rightB y e = true)) : subR x d y e = (0, 0, 2) := by
  unfold subR; rw [if_neg (by simpa using h)]
theorem right_whole {k : Int} (h0 : -9223372036854775807 ≤ k) : rightB k 1 = true := by
  unfold rightB
  exact decide_eq_true ⟨by omega, by omega, by simp⟩
/-- what the last questions lean on: a fraction, rounded down and up. -/
def Rounds (x d k u dn : Int) (W : Bool) : Prop :=
  floorR x d = (k, 0) ∧ ceilR x d = (u, 0) ∧ cmpR k 1 x d = (dn, 0) ∧ dn ≤ 0 ∧ (-9223372036854775807 ≤ k ∧ k ≤ 9223372036854775807) ∧ decide (dn = 0) = W ∧ decide (d = 1) = W ∧ ((W = true ∧ u = k) ∨ (W = false ∧ u = k + 1 ∧ k + 1 ≤ 9223372036854775807))
theorem rounds_of {x d : Int} (h0 : -9223372036854775808 ≤ x) (h1 : x ≤ 9223372036854775807) (h3 : d ≤ 9223372036854775807) (hx : rightB x d = true) : ∃ k u dn W, Rounds x d k u dn W := by
  have hr := right_of x d h0 h1 h3 hx
  obtain ⟨f1, f2⟩ := floor_facts hr
  have hc := ceil_facts hr
  obtain ⟨hd1, hx1⟩ := right_bounds x d h0 hx
  have hk := ediv_bounds x d hd1 (by omega) h1
  have hk2 : -9223372036854775807 ≤ x / d := by
    refine (Int.le_ediv_iff_mul_le (by omega)).2 ?_
    omega
  have hW := right_whole hk2
  have hcm : cmpR (x / d) 1 x d = (ordZ (x / d * d) (x * 1), 0) := by simp [cmpR, hW, hx]
  have hz := ordZ_zero (x / d * d) (x * 1)
  have hn := ordZ_swap (x / d * d) (x * 1)
  have hle : ordZ (x / d * d) (x * 1) ≤ 0 := by
    rcases ordZ_cases (x / d * d) (x * 1) with ⟨h1, h2⟩ | ⟨h1, h2⟩ | ⟨h1, h2⟩ <;> omega
  have hone : x * 1 = x := Int.mul_one x
  refine ⟨x / d, -(-x / d), ordZ (x / d * d) (x * 1), decide (d = 1), by simp [floorR, hx], by simp [ceilR, hx], hcm, hle, ⟨hk2, by omega⟩, ?_, rfl, ?_⟩
  · rw [Bool.eq_iff_iff]
    simp only [decide_eq_true_eq]
    rw [hz, hone]
    exact f2
  · by_cases h : d = 1
    · exact .inl ⟨decide_eq_true h, by rw [hc, if_pos h]⟩
    · refine .inr ⟨decide_eq_false h, by rw [hc, if_neg h], ?_⟩
      have := floor_facts hr
      have hd2 : 2 ≤ d := by omega
      by_cases hneg : x / d ≤ 0
      · omega
      · have : x / d * 2 ≤ x / d * d := Int.mul_le_mul_of_nonneg_left hd2 (by omega)
        omega

set_option maxRecDepth 100000 in
set_option maxHeartbeats 8000000 in
theorem order_walk (x d y e : Int) (h0 : -9223372036854775808 ≤ x) (h1 : x ≤ 9223372036854775807) (h2 : -9223372036854775808 ≤ d) (h3 : d ≤ 9223372036854775807)
    (k0 : -9223372036854775808 ≤ y) (k1 : y ≤ 9223372036854775807) (k2 : -9223372036854775808 ≤ e) (k3 : e ≤ 9223372036854775807) (w : World) :
    Calls Try.prog 5 #[.agg #[.int .i64 x, .int .i64 d], .agg #[.int .i64 y, .int .i64 e]] w fun e w' => e = .returned (.bool true) ∧ Below w.heap.size w w' := by
  have ck := hidd (fun W => known_any W)
  have kN := fun W => cmp_any x d y e h0 h1 h2 h3 k0 k1 k2 k3 W
  have kM := fun W => cmp_any y e x d k0 k1 k2 k3 h0 h1 h2 h3 W
  have kS := fun W => sub_any x d y e h0 h1 h2 h3 k0 k1 k2 k3 W
  have kF := fun W => floor_any x d h0 h1 h2 h3 W
  have kU := fun W => ceil_any x d h0 h1 h2 h3 W
  by_cases hx : rightB x d = true
  case neg =>
    rw [cmpR_no (fun h => hx h.1)] at kN
    rw [cmpR_no (fun h => hx h.2)] at kM
    rw [subR_no (fun h => hx h.1)] at kS
    have eF : floorR x d = (0, 2) := by simp [floorR, hx]
    rw [eF] at kF
    unfold pairOf at kS
    dsimp only at kN kM kS kF
    have cN := hidd kN
    have cM := hidd kM
    have cS := hidd kS
    have cF := hidd kF
    have cU := hidd kU
    clear kN kM kS kF kU
    clear eF hx
    go_enter Try.func5, Try.ntmps5
    go_wp2_with fail
    refine (cN.out _).mono ?_
    rintro E1 w1 ⟨rfl, hw1⟩
    have Ha1 : HasRat w1 w.heap.size x d := ⟨by rw [hw1.cell (by (first | omega | (simp; done) | (simp; omega)))]; simp [go_sem], by rw [hw1.cell (by (first | omega | (simp; done) | (simp; omega)))]; simp [go_sem], by have := hw1.size; simp at this; omega⟩
    have Hb1 : HasRat w1 (w.heap.size + 1) y e := ⟨by rw [hw1.cell (by (first | omega | (simp; done) | (simp; omega)))]; simp [go_sem], by rw [hw1.cell (by (first | omega | (simp; done) | (simp; omega)))]; simp [go_sem], by have := hw1.size; simp at this; omega⟩
    have L1 := below_step (below_new (below_new (Below.refl w.heap.size w) _) _) hw1
    obtain ⟨a0, a1, a2⟩ := id Ha1
    obtain ⟨b0, b1, b2⟩ := id Hb1
    have HL1 := hidd L1
    clear L1
    go_wp2_with fail
    refine (cM.out _).mono ?_
    rintro E2 w2 ⟨rfl, hw2⟩
    have Ha2 := Ha1.step hw2
    have Hb2 := Hb1.step hw2
    have HL2 := hidd (below_step HL1.out hw2)
    clear a0 a1 a2 b0 b1 b2 Ha1 Hb1 hw2
    obtain ⟨a0, a1, a2⟩ := id Ha2
    obtain ⟨b0, b1, b2⟩ := id Hb2
    go_wp2_with fail
    refine (cS.out _).mono ?_
    rintro E3 w3 ⟨rfl, hw3⟩
    have Ha3 := Ha2.step hw3
    have HL3 := hidd (below_step HL2.out hw3)
    clear a0 a1 a2 b0 b1 b2 Ha2 Hb2 hw3
    obtain ⟨a0, a1, a2⟩ := id Ha3
    go_wp2_with fail
    refine (cF.out _).mono ?_
    rintro E4 w4 ⟨rfl, hw4⟩
    have Ha4 := (Ha3.past _).step hw4
    have HL4 := hidd (below_step (below_new HL3.out _) hw4)
    clear a0 a1 a2 Ha3 hw4
    obtain ⟨a0, a1, a2⟩ := id Ha4
    go_wp2_with fail
    refine (ck.out _).mono ?_
    rintro E9 w9 ⟨rfl, hw9⟩
    go_wp2_with fail
    go_ret
    exact ⟨by first | rfl | simp, below_step HL4.out hw9⟩
  case pos =>
    obtain ⟨k, u, dn, W, rF, rU, rD, r1, ⟨r2, r3⟩, r4, r5, r6⟩ := rounds_of h0 h1 h3 hx
    have kD := fun W => cmp_any k 1 x d (by omega) (by omega) (by decide) (by decide) h0 h1 h2 h3 W
    rw [rF] at kF
    rw [rU] at kU
    rw [rD] at kD
    have cD := hidd kD
    clear rF rU rD kD
    have r4' : (dn == 0) = W := by rw [← r4]; rfl
    have r5' : (d == 1) = W := by rw [← r5]; rfl
    have r7 : ¬ (0 : Int) < dn := by omega
    by_cases hy : rightB y e = true
    case neg =>
      rw [cmpR_no (fun h => hy h.2)] at kN
      rw [cmpR_no (fun h => hy h.1)] at kM
      rw [subR_no (fun h => hy h.2)] at kS
      unfold pairOf at kS
      dsimp only at kN kM kS kF kU
      have cN := hidd kN
      have cM := hidd kM
      have cS := hidd kS
      have cF := hidd kF
      have cU := hidd kU
      clear kN kM kS kF kU
      clear hx hy h0 h1 h2 h3 k0 k1 k2 k3
      rcases r6 with ⟨rfl, rfl⟩ | ⟨rfl, rfl, r8⟩
      all_goals
        go_enter Try.func5, Try.ntmps5
        go_wp2_with fail
        refine (cN.out _).mono ?_
        rintro E1 w1 ⟨rfl, hw1⟩
        have Ha1 : HasRat w1 w.heap.size x d := ⟨by rw [hw1.cell (by (first | omega | (simp; done) | (simp; omega)))]; simp [go_sem], by rw [hw1.cell (by (first | omega | (simp; done) | (simp; omega)))]; simp [go_sem], by have := hw1.size; simp at this; omega⟩
        have Hb1 : HasRat w1 (w.heap.size + 1) y e := ⟨by rw [hw1.cell (by (first | omega | (simp; done) | (simp; omega)))]; simp [go_sem], by rw [hw1.cell (by (first | omega | (simp; done) | (simp; omega)))]; simp [go_sem], by have := hw1.size; simp at this; omega⟩
        have L1 := below_step (below_new (below_new (Below.refl w.heap.size w) _) _) hw1
        obtain ⟨a0, a1, a2⟩ := id Ha1
        obtain ⟨b0, b1, b2⟩ := id Hb1
        have HL1 := hidd L1
        clear L1
        go_wp2_with fail
        refine (cM.out _).mono ?_
        rintro E2 w2 ⟨rfl, hw2⟩
        have Ha2 := Ha1.step hw2
        have Hb2 := Hb1.step hw2
        have HL2 := hidd (below_step HL1.out hw2)
        clear a0 a1 a2 b0 b1 b2 Ha1 Hb1 hw2
        obtain ⟨a0, a1, a2⟩ := id Ha2
        obtain ⟨b0, b1, b2⟩ := id Hb2
        go_wp2_with fail
        refine (cS.out _).mono ?_
        rintro E3 w3 ⟨rfl, hw3⟩
        have Ha3 := Ha2.step hw3
        have HL3 := hidd (below_step HL2.out hw3)
        clear a0 a1 a2 b0 b1 b2 Ha2 Hb2 hw3
        obtain ⟨a0, a1, a2⟩ := id Ha3
        go_wp2_with fail
        refine (cF.out _).mono ?_
        rintro E4 w4 ⟨rfl, hw4⟩
        have Ha4 := (Ha3.past _).step hw4
        have HL4 := hidd (below_step (below_new HL3.out _) hw4)
        clear a0 a1 a2 Ha3 hw4
        obtain ⟨a0, a1, a2⟩ := id Ha4
        go_wp2_with fail
        refine (cD.out _).mono ?_
        rintro E5 w5 ⟨rfl, hw5⟩
        have Ha5 := Ha4.step hw5
        have HL5 := hidd (below_step HL4.out hw5)
        clear a0 a1 a2 Ha4 hw5
        obtain ⟨a0, a1, a2⟩ := id Ha5
        go_wp2_with fail
        refine (cU.out _).mono ?_
        rintro E6 w6 ⟨rfl, hw6⟩
        have Ha6 := Ha5.step hw6
        have HL6 := hidd (below_step HL5.out hw6)
        clear a0 a1 a2 Ha5 hw6
        obtain ⟨a0, a1, a2⟩ := id Ha6
        go_wp2_with fail
        refine (ck.out _).mono ?_
        rintro E9 w9 ⟨rfl, hw9⟩
        go_wp2_with fail
        go_ret
        exact ⟨by first | rfl | simp, below_step HL6.out hw9⟩
    case pos =>
      have hR := right_of x d h0 h1 h3 hx
      have hS := right_of y e k0 k1 k3 hy
      have eN : cmpR x d y e = (ordZ (x * e) (y * d), 0) := by simp [cmpR, hx, hy]
      have eM : cmpR y e x d = (-ordZ (x * e) (y * d), 0) := by simp [cmpR, hx, hy, ordZ_swap (x * e) (y * d)]
      have eS : subR x d y e = RM.plusR x d (-y) e := by simp [subR, subT, hx, hy]
      rw [eN] at kN
      rw [eM] at kM
      rw [eS] at kS
      have hz := ord_eq hR hS
      have hneg := ordZ_neg (x * e) (y * d)
      have hzz := ordZ_zero (x * e) (y * d)
      have hbd : -1 ≤ ordZ (x * e) (y * d) ∧ ordZ (x * e) (y * d) ≤ 1 := by rcases ordZ_cases (x * e) (y * d) with ⟨h1, h2⟩ | ⟨h1, h2⟩ | ⟨h1, h2⟩ <;> omega
      have hsg := fun N D => sub_sign (x := x) (d := d) (y := y) (e := e) (N := N) (D := D) hR.1 hS.1
      have hsp := RM.plusR_err x d (-y) e hR.1 hS.1
      generalize ordZ (x * e) (y * d) = n at *
      obtain ⟨B, hB⟩ : ∃ B, decide (n = 0) = B := ⟨_, rfl⟩
      obtain ⟨C, hC⟩ : ∃ C, decide (n < 0) = C := ⟨_, rfl⟩
      have hB2 : (n == 0) = B := by rw [← hB]; rfl
      have hxy : decide (x = y ∧ d = e) = B := by rw [← hB, Bool.eq_iff_iff]; simp only [decide_eq_true_eq]; exact hz.symm
      have s1 := fun w => rsame_run x d y e w
      have s2 := fun w => rsame_bin x d y e w
      rw [hxy] at s1 s2
      obtain ⟨m, hm⟩ : ∃ m, -n = m := ⟨_, rfl⟩
      rw [hm] at kM
      have hm1 : IntKind.i64.wrap (-m) = n := by rw [IntWalk.i64_in _ (by omega)]; omega
      have hm2 : wrap64 (-m) = n := by
        conv => rhs; rw [← hm1]
        simp [IntKind.wrap_i64, wrap64]
      clear hz hxy eN eM eS hm hbd
      rcases hsp with ⟨N, D, hp⟩ | hp
      · obtain ⟨g1, g2⟩ := hsg N D hp
        rw [hp] at kS
        have q1 : decide (N < 0) = C := by rw [← hC, Bool.eq_iff_iff]; simp only [decide_eq_true_eq]; rw [g1, hneg]
        have q2 : decide (N = 0) = B := by rw [← hB, Bool.eq_iff_iff]; simp only [decide_eq_true_eq]; rw [g2, hzz]
        have q3 : (N == 0) = B := by rw [← q2]; rfl
        unfold pairOf at kS
        dsimp only at kN kM kS kF kU
        have cN := hidd kN
        have cM := hidd kM
        have cS := hidd kS
        have cF := hidd kF
        have cU := hidd kU
        clear kN kM kS kF kU
        clear hp g1 g2 hneg hzz hsg hR hS hx hy h0 h1 h2 h3 k0 k1 k2 k3
        rcases r6 with ⟨rfl, rfl⟩ | ⟨rfl, rfl, r8⟩
        all_goals
          go_enter Try.func5, Try.ntmps5
          go_wp2_with fail
          refine (cN.out _).mono ?_
          rintro E1 w1 ⟨rfl, hw1⟩
          have Ha1 : HasRat w1 w.heap.size x d := ⟨by rw [hw1.cell (by (first | omega | (simp; done) | (simp; omega)))]; simp [go_sem], by rw [hw1.cell (by (first | omega | (simp; done) | (simp; omega)))]; simp [go_sem], by have := hw1.size; simp at this; omega⟩
          have Hb1 : HasRat w1 (w.heap.size + 1) y e := ⟨by rw [hw1.cell (by (first | omega | (simp; done) | (simp; omega)))]; simp [go_sem], by rw [hw1.cell (by (first | omega | (simp; done) | (simp; omega)))]; simp [go_sem], by have := hw1.size; simp at this; omega⟩
          have L1 := below_step (below_new (below_new (Below.refl w.heap.size w) _) _) hw1
          obtain ⟨a0, a1, a2⟩ := id Ha1
          obtain ⟨b0, b1, b2⟩ := id Hb1
          have HL1 := hidd L1
          clear L1
          go_wp2_with fail
          refine (cM.out _).mono ?_
          rintro E2 w2 ⟨rfl, hw2⟩
          have Ha2 := Ha1.step hw2
          have Hb2 := Hb1.step hw2
          have HL2 := hidd (below_step HL1.out hw2)
          clear a0 a1 a2 b0 b1 b2 Ha1 Hb1 hw2
          obtain ⟨a0, a1, a2⟩ := id Ha2
          obtain ⟨b0, b1, b2⟩ := id Hb2
          go_wp2_with fail
          refine (cS.out _).mono ?_
          rintro E3 w3 ⟨rfl, hw3⟩
          have Ha3 := Ha2.step hw3
          have HL3 := hidd (below_step HL2.out hw3)
          clear a0 a1 a2 b0 b1 b2 Ha2 Hb2 hw3
          obtain ⟨a0, a1, a2⟩ := id Ha3
          go_wp2_with fail
          refine (cF.out _).mono ?_
          rintro E4 w4 ⟨rfl, hw4⟩
          have Ha4 := (Ha3.past _).step hw4
          have HL4 := hidd (below_step (below_new HL3.out _) hw4)
          clear a0 a1 a2 Ha3 hw4
          obtain ⟨a0, a1, a2⟩ := id Ha4
          go_wp2_with fail
          refine (cD.out _).mono ?_
          rintro E5 w5 ⟨rfl, hw5⟩
          have Ha5 := Ha4.step hw5
          have HL5 := hidd (below_step HL4.out hw5)
          clear a0 a1 a2 Ha4 hw5
          obtain ⟨a0, a1, a2⟩ := id Ha5
          go_wp2_with fail
          refine (cU.out _).mono ?_
          rintro E6 w6 ⟨rfl, hw6⟩
          have Ha6 := Ha5.step hw6
          have HL6 := hidd (below_step HL5.out hw6)
          clear a0 a1 a2 Ha5 hw6
          obtain ⟨a0, a1, a2⟩ := id Ha6
          go_wp2_with fail
          refine (ck.out _).mono ?_
          rintro E9 w9 ⟨rfl, hw9⟩
          go_wp2_with fail
          go_ret
          exact ⟨by first | rfl | simp, below_step HL6.out hw9⟩
      · rw [hp] at kS
        unfold pairOf at kS
        dsimp only at kN kM kS kF kU
        have cN := hidd kN
        have cM := hidd kM
        have cS := hidd kS
        have cF := hidd kF
        have cU := hidd kU
        clear kN kM kS kF kU
        clear hp hneg hzz hsg hR hS hx hy h0 h1 h2 h3 k0 k1 k2 k3
        rcases r6 with ⟨rfl, rfl⟩ | ⟨rfl, rfl, r8⟩
        all_goals
          go_enter Try.func5, Try.ntmps5
          go_wp2_with fail
          refine (cN.out _).mono ?_
          rintro E1 w1 ⟨rfl, hw1⟩
          have Ha1 : HasRat w1 w.heap.size x d := ⟨by rw [hw1.cell (by (first | omega | (simp; done) | (simp; omega)))]; simp [go_sem], by rw [hw1.cell (by (first | omega | (simp; done) | (simp; omega)))]; simp [go_sem], by have := hw1.size; simp at this; omega⟩
          have Hb1 : HasRat w1 (w.heap.size + 1) y e := ⟨by rw [hw1.cell (by (first | omega | (simp; done) | (simp; omega)))]; simp [go_sem], by rw [hw1.cell (by (first | omega | (simp; done) | (simp; omega)))]; simp [go_sem], by have := hw1.size; simp at this; omega⟩
          have L1 := below_step (below_new (below_new (Below.refl w.heap.size w) _) _) hw1
          obtain ⟨a0, a1, a2⟩ := id Ha1
          obtain ⟨b0, b1, b2⟩ := id Hb1
          have HL1 := hidd L1
          clear L1
          go_wp2_with fail
          refine (cM.out _).mono ?_
          rintro E2 w2 ⟨rfl, hw2⟩
          have Ha2 := Ha1.step hw2
          have Hb2 := Hb1.step hw2
          have HL2 := hidd (below_step HL1.out hw2)
          clear a0 a1 a2 b0 b1 b2 Ha1 Hb1 hw2
          obtain ⟨a0, a1, a2⟩ := id Ha2
          obtain ⟨b0, b1, b2⟩ := id Hb2
          go_wp2_with fail
          refine (cS.out _).mono ?_
          rintro E3 w3 ⟨rfl, hw3⟩
          have Ha3 := Ha2.step hw3
          have HL3 := hidd (below_step HL2.out hw3)
          clear a0 a1 a2 b0 b1 b2 Ha2 Hb2 hw3
          obtain ⟨a0, a1, a2⟩ := id Ha3
          go_wp2_with fail
          refine (cF.out _).mono ?_
          rintro E4 w4 ⟨rfl, hw4⟩
          have Ha4 := (Ha3.past _).step hw4
          have HL4 := hidd (below_step (below_new HL3.out _) hw4)
          clear a0 a1 a2 Ha3 hw4
          obtain ⟨a0, a1, a2⟩ := id Ha4
          go_wp2_with fail
          refine (cD.out _).mono ?_
          rintro E5 w5 ⟨rfl, hw5⟩
          have Ha5 := Ha4.step hw5
          have HL5 := hidd (below_step HL4.out hw5)
          clear a0 a1 a2 Ha4 hw5
          obtain ⟨a0, a1, a2⟩ := id Ha5
          go_wp2_with fail
          refine (cU.out _).mono ?_
          rintro E6 w6 ⟨rfl, hw6⟩
          have Ha6 := Ha5.step hw6
          have HL6 := hidd (below_step HL5.out hw6)
          clear a0 a1 a2 Ha5 hw6
          obtain ⟨a0, a1, a2⟩ := id Ha6
          go_wp2_with fail
          refine (ck.out _).mono ?_
          rintro E9 w9 ⟨rfl, hw9⟩
          go_wp2_with fail
          go_ret
          exact ⟨by first | rfl | simp, below_step HL6.out hw9⟩
end Go.Proofs.Ytonpoemafneefaa
