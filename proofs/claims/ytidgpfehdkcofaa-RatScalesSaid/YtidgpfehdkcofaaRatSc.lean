/- The walk of the law on what is multiplied above and below. -/
import Derived.Test.YtidgpfehdkcofaaRatPo
namespace Go.Proofs.Ytidgpfehdkcofaa
open Go.RowKit

theorem mul_fits (a b : Int) (h0 : -2147483648 ≤ a) (h1 : a ≤ 2147483647) (h2 : -2147483648 ≤ b) (h3 : b ≤ 2147483647) :
    -4611686018427387904 ≤ a * b ∧ a * b ≤ 4611686018427387904 := by
  have h4 : (a * b).natAbs ≤ 2147483648 * 2147483648 := by
    rw [Int.natAbs_mul]; exact Nat.mul_le_mul (by omega) (by omega)
  omega
theorem makeR_scale (n d k : Int) (hd : ¬ d = 0) (hk : ¬ k = 0) : makeR (n * k) (d * k) = makeR n d := by
  unfold makeR
  rw [Int.natAbs_mul, Int.natAbs_mul, RM.fracN_scale _ _ _ _ (by omega) (by omega)]
  by_cases hn : n = 0
  · subst hn
    exact RM.fracN_zero _ _ _
  · have key : (decide (n * k < 0) != decide (d * k < 0)) = (decide (n < 0) != decide (d < 0)) := by
      rcases Int.lt_trichotomy k 0 with h | h | h
      · have a1 : n * k < 0 ↔ ¬ n < 0 := by
          constructor
          · intro h1 h2; exact absurd (Int.mul_pos_of_neg_of_neg h2 h) (by omega)
          · intro h1; exact Int.mul_neg_of_pos_of_neg (by omega) h
        have a2 : d * k < 0 ↔ ¬ d < 0 := by
          constructor
          · intro h1 h2; exact absurd (Int.mul_pos_of_neg_of_neg h2 h) (by omega)
          · intro h1; exact Int.mul_neg_of_pos_of_neg (by omega) h
        have b1 : decide (n * k < 0) = !decide (n < 0) := by by_cases q : n < 0 <;> simp [q, a1]
        have b2 : decide (d * k < 0) = !decide (d < 0) := by by_cases q : d < 0 <;> simp [q, a2]
        rw [b1, b2]
        by_cases p : n < 0 <;> by_cases q : d < 0 <;> simp [p, q]
      · exact absurd h hk
      · have a1 : n * k < 0 ↔ n < 0 := by
          constructor
          · intro h1
            rcases Int.lt_or_le n 0 with h2 | h2
            · exact h2
            · exact absurd (Int.mul_nonneg h2 (Int.le_of_lt h)) (by omega)
          · intro h1; exact Int.mul_neg_of_neg_of_pos h1 h
        have a2 : d * k < 0 ↔ d < 0 := by
          constructor
          · intro h1
            rcases Int.lt_or_le d 0 with h2 | h2
            · exact h2
            · exact absurd (Int.mul_nonneg h2 (Int.le_of_lt h)) (by omega)
          · intro h1; exact Int.mul_neg_of_neg_of_pos h1 h
        have b1 : decide (n * k < 0) = decide (n < 0) := by by_cases q : n < 0 <;> simp [q, a1]
        have b2 : decide (d * k < 0) = decide (d < 0) := by by_cases q : d < 0 <;> simp [q, a2]
        rw [b1, b2]
    rw [key]
theorem makeR_ok (n d : Int) (hd : ¬ d = 0) (h0 : -2147483648 ≤ n) (h1 : n ≤ 2147483647) (h2 : -2147483648 ≤ d) (h3 : d ≤ 2147483647) :
    ∃ N D, makeR n d = (N, D, 0) ∧ RM.Right N D ∧ (N = 0 ↔ n = 0) := by
  have hd2 : 0 < d.natAbs := by omega
  have hg : 0 < Nat.gcd n.natAbs d.natAbs := Nat.gcd_pos_of_pos_right _ hd2
  have hfit : n.natAbs / Nat.gcd n.natAbs d.natAbs < 9223372036854775808 ∧ d.natAbs / Nat.gcd n.natAbs d.natAbs < 9223372036854775808 :=
    ⟨Nat.lt_of_le_of_lt (Nat.div_le_self _ _) (by omega), Nat.lt_of_le_of_lt (Nat.div_le_self _ _) (by omega)⟩
  have e : makeR n d = (RM.sgn (decide (n < 0) != decide (d < 0)) (n.natAbs / Nat.gcd n.natAbs d.natAbs), ((d.natAbs / Nat.gcd n.natAbs d.natAbs : Nat) : Int), 0) := by
    unfold makeR RM.fracN RM.fracP; rw [if_neg (by omega), if_pos hfit]
  obtain ⟨hR, hX⟩ := (RM.fracN_ok _ _ _ hd2 _ _).1 e
  refine ⟨_, _, e, hR, ?_⟩
  constructor
  · intro h
    rw [h, Int.zero_mul] at hX
    have : RM.sgn (decide (n < 0) != decide (d < 0)) n.natAbs = 0 := by
      rcases Int.mul_eq_zero.1 hX.symm with q | q
      · exact q
      · have := hR.1; omega
    have h5 := RM.sgn_natAbs (decide (n < 0) != decide (d < 0)) n.natAbs
    rw [this] at h5
    simp at h5; omega
  · intro h
    subst h
    simp [RM.sgn_zero]
theorem right_bounds2 (N D : Int) (h : RM.Right N D) : -9223372036854775807 ≤ N ∧ N ≤ 9223372036854775807 ∧ 1 ≤ D ∧ D ≤ 9223372036854775807 ∧ rightB N D = true := by
  obtain ⟨a, b, c, d, e⟩ := h
  exact ⟨c, d, a, b, decide_eq_true ⟨a, by omega, e⟩⟩
theorem add_opposite (N D : Int) (h : RM.Right N D) : addR N D (-N) D = (0, 1, 0) := by
  obtain ⟨a, b, c, d, r⟩ := right_bounds2 N D h
  have r2 := rightB_neg N D a b r
  have : addR N D (-N) D = RM.plusR N D (-N) D := by simp [addR, r, r2]
  rw [this]
  refine (RM.plusR_ok N D (-N) D 0 1 c c).2 ⟨⟨by omega, by omega, by omega, by omega, by simp⟩, ?_⟩
  rw [Int.neg_mul]; omega
theorem div_self (N D : Int) (h : RM.Right N D) (hn : ¬ N = 0) : divR N D N D = (1, 1, 0) := by
  obtain ⟨a, b, c, d, r⟩ := right_bounds2 N D h
  have r11 : RM.Right 1 1 := ⟨by omega, by omega, by omega, by omega, by simp⟩
  have e : divR N D N D = divT N D N D := by simp [divR, r]
  rw [e]
  by_cases hneg : N < 0
  · have : divT N D N D = RM.timesR N D (-D) (-N) := by simp [divT, hn, hneg]
    rw [this]
    refine (RM.timesR_ok N D (-D) (-N) 1 1 c (by omega)).2 ⟨r11, ?_⟩
    simp only [Int.mul_neg, Int.one_mul, Int.mul_one, Int.mul_comm D N]
  · have : divT N D N D = RM.timesR N D D N := by simp [divT, hn, hneg]
    rw [this]
    refine (RM.timesR_ok N D D N 1 1 c (by omega)).2 ⟨r11, ?_⟩
    simp only [Int.one_mul, Int.mul_one, Int.mul_comm D N]
theorem div_nought (N D : Int) (h : RM.Right N D) (hn : N = 0) : divR N D N D = (0, 0, 2) := by
  obtain ⟨a, b, c, d, r⟩ := right_bounds2 N D h
  have e : divR N D N D = divT N D N D := by simp [divR, r]
  rw [e]; simp [divT, hn]

set_option maxRecDepth 100000 in
set_option maxHeartbeats 4000000 in
theorem scales_walk (n d k : Int) (h0 : -2147483648 ≤ n) (h1 : n ≤ 2147483647) (h2 : -2147483648 ≤ d) (h3 : d ≤ 2147483647) (k0 : -2147483648 ≤ k) (k1 : k ≤ 2147483647) (w : World) :
    Calls Try.prog 9 #[.int .i32 n, .int .i32 d, .int .i32 k] w fun e w' => e = .returned (.bool true) ∧ Below w.heap.size w w' := by
  have ck := hidd (fun W => known_any W)
  have f1 := mul_fits n k h0 h1 k0 k1
  have f2 := mul_fits d k h2 h3 k0 k1
  have HW1 := hidd (IntWalk.wrap64_in (n * k) (by omega))
  have HW2 := hidd (IntWalk.wrap64_in (d * k) (by omega))
  have cm1 := fun W => make_any n d (by omega) (by omega) (by omega) (by omega) W
  have cm2 := fun W => make_any (n * k) (d * k) (by omega) (by omega) (by omega) (by omega) W
  by_cases hd : d = 0
  · have e1 : makeR n d = (0, 0, 2) := by simp [makeR, RM.fracN, hd]
    have e2 : makeR (n * k) (d * k) = (0, 0, 2) := by simp [makeR, RM.fracN, hd]
    rw [e1] at cm1
    rw [e2] at cm2
    have CM1 := hidd cm1
    have CM2 := hidd cm2
    clear e1 e2 cm1 cm2 f1 f2
    have hd2 : (d == 0) = true := by simp [hd]
    have HD := hidd hd
    clear hd
    go_enter Try.func9, Try.ntmps9
    go_wp2_with fail
    refine (CM1.out _).mono ?_
    unfold pairOf
    rintro e w1 ⟨rfl, hb1⟩
    go_wp2_with fail
    rw [HW1.out, HW2.out]
    refine (CM2.out _).mono ?_
    unfold pairOf
    rintro e w2 ⟨rfl, hb2⟩
    go_wp2_with fail
    refine (ck.out _).mono ?_
    rintro e w3 ⟨rfl, hb3⟩
    go_wp2_with fail
    go_ret
    exact ⟨by simp, below_step (below_new (below_step (below_new (below_step (Below.refl _ _) hb1) _) hb2) _) hb3⟩
  · obtain ⟨N, D, e1, hR, hN⟩ := makeR_ok n d hd h0 h1 h2 h3
    obtain ⟨p0, p1, p2, p3, hr⟩ := right_bounds2 N D hR
    have ca := fun W => add_any N D (-N) D (by omega) (by omega) (by omega) (by omega) (by omega) (by omega) (by omega) (by omega) W
    have cd := fun W => div_any N D N D (by omega) (by omega) (by omega) (by omega) (by omega) (by omega) (by omega) (by omega) W
    rw [add_opposite N D hR] at ca
    rw [e1] at cm1
    have CM1 := hidd cm1
    have CA := hidd ca
    clear ca cm1
    have hd2 : (d == 0) = false := beq_eq_false_iff_ne.2 hd
    by_cases hk : k = 0
    · have e2 : makeR (n * k) (d * k) = (0, 0, 2) := by simp [makeR, RM.fracN, hk]
      rw [e2] at cm2
      have CM2 := hidd cm2
      have hk2 : (k != 0) = false := by simp [hk]
      have HK := hidd hk
      clear e1 e2 cm2 hk f1 f2
      by_cases hn : n = 0
      · rw [div_nought N D hR (hN.2 hn)] at cd
        have CD := hidd cd
        have hn2 : (n == 0) = true := by simp [hn]
        have HN := hidd hn
        clear cd hn hN hR hr hd
        go_enter Try.func9, Try.ntmps9
        go_wp2_with fail
        refine (CM1.out _).mono ?_
        unfold pairOf
        rintro e w1 ⟨rfl, hb1⟩
        go_wp2_with fail
        rw [HW1.out, HW2.out]
        refine (CM2.out _).mono ?_
        unfold pairOf
        rintro e w2 ⟨rfl, hb2⟩
        have c0 : w2.cell? ⟨w1.heap.size, 0, none⟩ = some (.int .i64 N) := by rw [hb2.cell (by (first | omega | (simp; done) | (simp; omega)))]; simp [go_sem]
        have c1 : w2.cell? ⟨w1.heap.size, 1, none⟩ = some (.int .i64 D) := by rw [hb2.cell (by (first | omega | (simp; done) | (simp; omega)))]; simp [go_sem]
        have z2 : w1.heap.size < w2.heap.size := by have := hb2.size; simp at this; omega
        go_wp2_with fail
        refine (CA.out _).mono ?_
        unfold pairOf
        rintro e w3 ⟨rfl, hb3⟩
        have c2 : w3.cell? ⟨w1.heap.size, 0, none⟩ = some (.int .i64 N) := by rw [hb3.cell (by (first | omega | (simp; done) | (simp; omega)))]; simp [go_sem, *]
        have c3 : w3.cell? ⟨w1.heap.size, 1, none⟩ = some (.int .i64 D) := by rw [hb3.cell (by (first | omega | (simp; done) | (simp; omega)))]; simp [go_sem, *]
        have z3 : w1.heap.size < w3.heap.size := by have := hb3.size; simp at this; omega
        go_wp2_with fail
        refine (CD.out _).mono ?_
        unfold pairOf
        rintro e w4 ⟨rfl, hb4⟩
        have c4 : w4.cell? ⟨w3.heap.size, 0, none⟩ = some (.int .i64 0) := by rw [hb4.cell (by (first | omega | (simp; done) | (simp; omega)))]; simp [go_sem]
        have c5 : w4.cell? ⟨w3.heap.size, 1, none⟩ = some (.int .i64 1) := by rw [hb4.cell (by (first | omega | (simp; done) | (simp; omega)))]; simp [go_sem]
        have z4 : w3.heap.size < w4.heap.size := by have := hb4.size; simp at this; omega
        go_wp2_with fail
        refine (ck.out _).mono ?_
        rintro e w5 ⟨rfl, hb5⟩
        go_wp2_with fail
        go_ret
        exact ⟨by simp, below_step (below_new (below_step (below_new (below_step (below_new (below_step (below_new (below_step (Below.refl _ _) hb1) _) hb2) _) hb3) _) hb4) _) hb5⟩
      · rw [div_self N D hR (fun h => hn (hN.1 h))] at cd
        have CD := hidd cd
        have hn2 : (n == 0) = false := beq_eq_false_iff_ne.2 hn
        clear cd hn hN hR hr hd
        go_enter Try.func9, Try.ntmps9
        go_wp2_with fail
        refine (CM1.out _).mono ?_
        unfold pairOf
        rintro e w1 ⟨rfl, hb1⟩
        go_wp2_with fail
        rw [HW1.out, HW2.out]
        refine (CM2.out _).mono ?_
        unfold pairOf
        rintro e w2 ⟨rfl, hb2⟩
        have c0 : w2.cell? ⟨w1.heap.size, 0, none⟩ = some (.int .i64 N) := by rw [hb2.cell (by (first | omega | (simp; done) | (simp; omega)))]; simp [go_sem]
        have c1 : w2.cell? ⟨w1.heap.size, 1, none⟩ = some (.int .i64 D) := by rw [hb2.cell (by (first | omega | (simp; done) | (simp; omega)))]; simp [go_sem]
        have z2 : w1.heap.size < w2.heap.size := by have := hb2.size; simp at this; omega
        go_wp2_with fail
        refine (CA.out _).mono ?_
        unfold pairOf
        rintro e w3 ⟨rfl, hb3⟩
        have c2 : w3.cell? ⟨w1.heap.size, 0, none⟩ = some (.int .i64 N) := by rw [hb3.cell (by (first | omega | (simp; done) | (simp; omega)))]; simp [go_sem, *]
        have c3 : w3.cell? ⟨w1.heap.size, 1, none⟩ = some (.int .i64 D) := by rw [hb3.cell (by (first | omega | (simp; done) | (simp; omega)))]; simp [go_sem, *]
        have z3 : w1.heap.size < w3.heap.size := by have := hb3.size; simp at this; omega
        go_wp2_with fail
        refine (CD.out _).mono ?_
        unfold pairOf
        rintro e w4 ⟨rfl, hb4⟩
        have c4 : w4.cell? ⟨w3.heap.size, 0, none⟩ = some (.int .i64 0) := by rw [hb4.cell (by (first | omega | (simp; done) | (simp; omega)))]; simp [go_sem]
        have c5 : w4.cell? ⟨w3.heap.size, 1, none⟩ = some (.int .i64 1) := by rw [hb4.cell (by (first | omega | (simp; done) | (simp; omega)))]; simp [go_sem]
        have z4 : w3.heap.size < w4.heap.size := by have := hb4.size; simp at this; omega
        go_wp2_with fail
        refine (ck.out _).mono ?_
        rintro e w5 ⟨rfl, hb5⟩
        go_wp2_with fail
        go_ret
        exact ⟨by simp, below_step (below_new (below_step (below_new (below_step (below_new (below_step (below_new (below_step (Below.refl _ _) hb1) _) hb2) _) hb3) _) hb4) _) hb5⟩
    · have e2 : makeR (n * k) (d * k) = (N, D, 0) := by rw [makeR_scale n d k hd hk, e1]
      rw [e2] at cm2
      have CM2 := hidd cm2
      have hk2 : (k != 0) = true := by simp [hk]
      clear e1 e2 cm2 hk f1 f2
      by_cases hn : n = 0
      · rw [div_nought N D hR (hN.2 hn)] at cd
        have CD := hidd cd
        have hn2 : (n == 0) = true := by simp [hn]
        have HN := hidd hn
        clear cd hn hN hR hr hd
        go_enter Try.func9, Try.ntmps9
        go_wp2_with fail
        refine (CM1.out _).mono ?_
        unfold pairOf
        rintro e w1 ⟨rfl, hb1⟩
        go_wp2_with fail
        rw [HW1.out, HW2.out]
        refine (CM2.out _).mono ?_
        unfold pairOf
        rintro e w2 ⟨rfl, hb2⟩
        have c0 : w2.cell? ⟨w1.heap.size, 0, none⟩ = some (.int .i64 N) := by rw [hb2.cell (by (first | omega | (simp; done) | (simp; omega)))]; simp [go_sem]
        have c1 : w2.cell? ⟨w1.heap.size, 1, none⟩ = some (.int .i64 D) := by rw [hb2.cell (by (first | omega | (simp; done) | (simp; omega)))]; simp [go_sem]
        have z2 : w1.heap.size < w2.heap.size := by have := hb2.size; simp at this; omega
        go_wp2_with fail
        refine (CA.out _).mono ?_
        unfold pairOf
        rintro e w3 ⟨rfl, hb3⟩
        have c2 : w3.cell? ⟨w1.heap.size, 0, none⟩ = some (.int .i64 N) := by rw [hb3.cell (by (first | omega | (simp; done) | (simp; omega)))]; simp [go_sem, *]
        have c3 : w3.cell? ⟨w1.heap.size, 1, none⟩ = some (.int .i64 D) := by rw [hb3.cell (by (first | omega | (simp; done) | (simp; omega)))]; simp [go_sem, *]
        have z3 : w1.heap.size < w3.heap.size := by have := hb3.size; simp at this; omega
        go_wp2_with fail
        refine (CD.out _).mono ?_
        unfold pairOf
        rintro e w4 ⟨rfl, hb4⟩
        have c4 : w4.cell? ⟨w3.heap.size, 0, none⟩ = some (.int .i64 0) := by rw [hb4.cell (by (first | omega | (simp; done) | (simp; omega)))]; simp [go_sem]
        have c5 : w4.cell? ⟨w3.heap.size, 1, none⟩ = some (.int .i64 1) := by rw [hb4.cell (by (first | omega | (simp; done) | (simp; omega)))]; simp [go_sem]
        have z4 : w3.heap.size < w4.heap.size := by have := hb4.size; simp at this; omega
        go_wp2_with fail
        refine (ck.out _).mono ?_
        rintro e w5 ⟨rfl, hb5⟩
        go_wp2_with fail
        go_ret
        exact ⟨by simp, below_step (below_new (below_step (below_new (below_step (below_new (below_step (below_new (below_step (Below.refl _ _) hb1) _) hb2) _) hb3) _) hb4) _) hb5⟩
      · rw [div_self N D hR (fun h => hn (hN.1 h))] at cd
        have CD := hidd cd
        have hn2 : (n == 0) = false := beq_eq_false_iff_ne.2 hn
        clear cd hn hN hR hr hd
        go_enter Try.func9, Try.ntmps9
        go_wp2_with fail
        refine (CM1.out _).mono ?_
        unfold pairOf
        rintro e w1 ⟨rfl, hb1⟩
        go_wp2_with fail
        rw [HW1.out, HW2.out]
        refine (CM2.out _).mono ?_
        unfold pairOf
        rintro e w2 ⟨rfl, hb2⟩
        have c0 : w2.cell? ⟨w1.heap.size, 0, none⟩ = some (.int .i64 N) := by rw [hb2.cell (by (first | omega | (simp; done) | (simp; omega)))]; simp [go_sem]
        have c1 : w2.cell? ⟨w1.heap.size, 1, none⟩ = some (.int .i64 D) := by rw [hb2.cell (by (first | omega | (simp; done) | (simp; omega)))]; simp [go_sem]
        have z2 : w1.heap.size < w2.heap.size := by have := hb2.size; simp at this; omega
        go_wp2_with fail
        refine (CA.out _).mono ?_
        unfold pairOf
        rintro e w3 ⟨rfl, hb3⟩
        have c2 : w3.cell? ⟨w1.heap.size, 0, none⟩ = some (.int .i64 N) := by rw [hb3.cell (by (first | omega | (simp; done) | (simp; omega)))]; simp [go_sem, *]
        have c3 : w3.cell? ⟨w1.heap.size, 1, none⟩ = some (.int .i64 D) := by rw [hb3.cell (by (first | omega | (simp; done) | (simp; omega)))]; simp [go_sem, *]
        have z3 : w1.heap.size < w3.heap.size := by have := hb3.size; simp at this; omega
        go_wp2_with fail
        refine (CD.out _).mono ?_
        unfold pairOf
        rintro e w4 ⟨rfl, hb4⟩
        have c4 : w4.cell? ⟨w3.heap.size, 0, none⟩ = some (.int .i64 0) := by rw [hb4.cell (by (first | omega | (simp; done) | (simp; omega)))]; simp [go_sem]
        have c5 : w4.cell? ⟨w3.heap.size, 1, none⟩ = some (.int .i64 1) := by rw [hb4.cell (by (first | omega | (simp; done) | (simp; omega)))]; simp [go_sem]
        have z4 : w3.heap.size < w4.heap.size := by have := hb4.size; simp at this; omega
        go_wp2_with fail
        refine (ck.out _).mono ?_
        rintro e w5 ⟨rfl, hb5⟩
        go_wp2_with fail
        go_ret
        exact ⟨by simp, below_step (below_new (below_step (below_new (below_step (below_new (below_step (below_new (below_step (Below.refl _ _) hb1) _) hb2) _) hb3) _) hb4) _) hb5⟩
end Go.Proofs.Ytidgpfehdkcofaa
