/- The walk of the law on whole numbers that are added. -/
import Derived.Test.YtidgpfehdkcofaaRatPn
namespace Go.Proofs.Ytidgpfehdkcofaa
open Go.RowKit

theorem rightB_iff (n d : Int) (h0 : -9223372036854775808 ≤ n) (h1 : n ≤ 9223372036854775807) (h3 : d ≤ 9223372036854775807) : rightB n d = true ↔ RM.Right n d := by
  unfold rightB RM.Right
  rw [decide_eq_true_iff]
  constructor
  · rintro ⟨a, b, c⟩; exact ⟨a, h3, by omega, h1, c⟩
  · rintro ⟨a, _, c, _, e⟩; exact ⟨a, by omega, e⟩
theorem rightB_neg (n d : Int) (h0 : -9223372036854775807 ≤ n) (h1 : n ≤ 9223372036854775807) (h : rightB n d = true) : rightB (-n) d = true := by
  have := of_decide_eq_true h
  exact decide_eq_true ⟨this.1, by omega, by rw [Int.natAbs_neg]; exact this.2.2⟩
theorem ediv_cross (N D P Q : Int) (hD : 1 ≤ D) (hQ : 1 ≤ Q) (h : P * D = N * Q) : P / Q = N / D := by
  have h1 : P / Q = P * D / (Q * D) := (Int.mul_ediv_mul_of_pos_left P Q (by omega)).symm
  have h2 : N / D = N * Q / (D * Q) := (Int.mul_ediv_mul_of_pos_left N D (by omega)).symm
  rw [h1, h2, h, Int.mul_comm Q D]

theorem below_step {w a b : World} (t : Below w.heap.size w a) (h : Below a.heap.size a b) : Below w.heap.size w b := t.trans (h.mono t.size)
theorem below_new {w a : World} (t : Below w.heap.size w a) (o : Obj) : Below w.heap.size w (a.alloc o) := t.alloc t.size o

set_option maxHeartbeats 2000000 in
theorem shifts_walk (n d k : Int) (h0 : -9223372036854775808 ≤ n) (h1 : n ≤ 9223372036854775807) (h2 : -9223372036854775808 ≤ d) (h3 : d ≤ 9223372036854775807) (k0 : -2147483648 ≤ k) (k1 : k ≤ 2147483647) (w : World) :
    Calls Try.prog 10 #[.agg #[.int .i64 n, .int .i64 d], .int .i32 k] w fun e w' => e = .returned (.bool true) ∧ Below w.heap.size w w' := by
  have cf := fun W => floor_any n d h0 h1 h2 h3 W
  have cc := fun W => ceil_any n d h0 h1 h2 h3 W
  have ck := hidd (fun W => known_any W)
  by_cases hr : rightB n d = true
  · obtain ⟨g1, g2⟩ := right_bounds n d h0 hr
    have cn := fun W => floor_any (-n) d (by omega) (by omega) h2 h3 W
    have ca := hidd (fun W => add_any n d k 1 h0 h1 h2 h3 (by omega) (by omega) (by omega) (by omega) W)
    have e1 : floorR n d = (n / d, 0) := by simp [floorR, hr]
    have e2 : ceilR n d = (-(-n / d), 0) := by simp [ceilR, hr]
    have e3 : floorR (-n) d = (-n / d, 0) := by simp [floorR, rightB_neg n d g2 h1 hr]
    rw [e1] at cf
    rw [e2] at cc
    rw [e3] at cn
    have b1 := ediv_bounds n d g1 (by omega) h1
    have b2 : -9223372036854775807 ≤ -n / d ∧ -n / d ≤ 9223372036854775807 := by
      refine ⟨(Int.le_ediv_iff_mul_le (by omega)).2 (by omega), ?_⟩
      have := (ediv_bounds (-n) d g1 (by omega) (by omega)).2
      exact this
    have e4 : addR n d k 1 = RM.plusR n d k 1 := by
      have : rightB k 1 = true := decide_eq_true ⟨by omega, by omega, by simp⟩
      simp [addR, hr, this]
    rw [e4] at ca
    have hok := RM.plusR_ok n d k 1
    have hcl := plusR_clean n d k 1
    have herr := RM.plusR_err n d k 1 g1 (by omega)
    have HOK := hidd hok
    have CF := hidd cf
    have CC := hidd cc
    have CN := hidd cn
    clear e1 e2 e3 e4 cf cc cn hok hcl
    generalize hpr : RM.plusR n d k 1 = r at *
    rcases herr with ⟨N, D, rfl⟩ | rfl
    · obtain ⟨hR, hX⟩ := (HOK.out N D g1 (by omega)).1 rfl
      have hv : N / D = n / d + k := by
        have := ediv_cross (n + k * d) d N D g1 hR.1 (by rw [Int.mul_one, Int.mul_one] at hX; exact hX)
        rw [this, Int.add_mul_ediv_right _ _ (by omega)]
      have hRb : rightB N D = true := (rightB_iff N D (by have := hR.2.2.1; omega) hR.2.2.2.1 hR.2.1).2 hR
      have cm := fun W => floor_any N D (by have := hR.2.2.1; omega) hR.2.2.2.1 (by have := hR.1; omega) hR.2.1 W
      have e5 : floorR N D = (N / D, 0) := by simp [floorR, hRb]
      have b3 := ediv_bounds N D hR.1 (by have := hR.2.2.1; omega) hR.2.2.2.1
      rw [e5, hv] at cm
      rw [hv] at b3
      have CM := hidd cm
      clear e5 cm hv hRb hX hR HOK hpr hr
      generalize n / d = q at *
      generalize -n / d = q2 at *
      go_enter Try.func10, Try.ntmps10
      go_wp2_with fail
      refine (CF.out _).mono ?_
      rintro e w1 ⟨rfl, hb1⟩
      have c0 : w1.cell? ⟨w.heap.size, 0, none⟩ = some (.int .i64 n) := by rw [hb1.cell (by (first | omega | (simp; done) | (simp; omega)))]; simp [go_sem]
      have c1 : w1.cell? ⟨w.heap.size, 1, none⟩ = some (.int .i64 d) := by rw [hb1.cell (by (first | omega | (simp; done) | (simp; omega)))]; simp [go_sem]
      have z1 : w.heap.size < w1.heap.size := by have := hb1.size; simp at this; omega
      go_wp2_with fail
      refine (CC.out _).mono ?_
      rintro e w2 ⟨rfl, hb2⟩
      have c2 : w2.cell? ⟨w.heap.size, 0, none⟩ = some (.int .i64 n) := by rw [hb2.cell z1]; exact c0
      have c3 : w2.cell? ⟨w.heap.size, 1, none⟩ = some (.int .i64 d) := by rw [hb2.cell z1]; exact c1
      have z2 : w.heap.size < w2.heap.size := Nat.lt_of_lt_of_le z1 hb2.size
      go_wp2_with fail
      refine (CN.out _).mono ?_
      rintro e w3 ⟨rfl, hb3⟩
      have c4 : w3.cell? ⟨w.heap.size, 0, none⟩ = some (.int .i64 n) := by rw [hb3.cell z2]; exact c2
      have c5 : w3.cell? ⟨w.heap.size, 1, none⟩ = some (.int .i64 d) := by rw [hb3.cell z2]; exact c3
      have z3 : w.heap.size < w3.heap.size := Nat.lt_of_lt_of_le z2 hb3.size
      go_wp2_with fail
      refine (ca.out _).mono ?_
      unfold pairOf
      rintro e w4 ⟨rfl, hb4⟩
      go_wp2_with fail
      refine (CM.out _).mono ?_
      rintro e w5 ⟨rfl, hb5⟩
      go_wp2_with fail
      refine (ck.out _).mono ?_
      rintro e w6 ⟨rfl, hb6⟩
      go_wp2_with fail
      go_ret
      exact ⟨by simp, below_step (below_step (below_new (below_step (below_step (below_step (below_step (below_new (Below.refl _ _) _) hb1) hb2) hb3) hb4) _) hb5) hb6⟩
    · clear HOK hpr hr
      generalize n / d = q at *
      generalize -n / d = q2 at *
      go_enter Try.func10, Try.ntmps10
      go_wp2_with fail
      refine (CF.out _).mono ?_
      rintro e w1 ⟨rfl, hb1⟩
      have c0 : w1.cell? ⟨w.heap.size, 0, none⟩ = some (.int .i64 n) := by rw [hb1.cell (by (first | omega | (simp; done) | (simp; omega)))]; simp [go_sem]
      have c1 : w1.cell? ⟨w.heap.size, 1, none⟩ = some (.int .i64 d) := by rw [hb1.cell (by (first | omega | (simp; done) | (simp; omega)))]; simp [go_sem]
      have z1 : w.heap.size < w1.heap.size := by have := hb1.size; simp at this; omega
      go_wp2_with fail
      refine (CC.out _).mono ?_
      rintro e w2 ⟨rfl, hb2⟩
      have c2 : w2.cell? ⟨w.heap.size, 0, none⟩ = some (.int .i64 n) := by rw [hb2.cell z1]; exact c0
      have c3 : w2.cell? ⟨w.heap.size, 1, none⟩ = some (.int .i64 d) := by rw [hb2.cell z1]; exact c1
      have z2 : w.heap.size < w2.heap.size := Nat.lt_of_lt_of_le z1 hb2.size
      go_wp2_with fail
      refine (CN.out _).mono ?_
      rintro e w3 ⟨rfl, hb3⟩
      have c4 : w3.cell? ⟨w.heap.size, 0, none⟩ = some (.int .i64 n) := by rw [hb3.cell z2]; exact c2
      have c5 : w3.cell? ⟨w.heap.size, 1, none⟩ = some (.int .i64 d) := by rw [hb3.cell z2]; exact c3
      have z3 : w.heap.size < w3.heap.size := Nat.lt_of_lt_of_le z2 hb3.size
      go_wp2_with fail
      refine (ca.out _).mono ?_
      unfold pairOf
      rintro e w4 ⟨rfl, hb4⟩
      go_wp2_with fail
      refine (ck.out _).mono ?_
      rintro e w6 ⟨rfl, hb6⟩
      go_wp2_with fail
      go_ret
      exact ⟨by simp, below_step (below_new (below_step (below_step (below_step (below_step (below_new (Below.refl _ _) _) hb1) hb2) hb3) hb4) _) hb6⟩
  · have hr' : rightB n d = false := by simpa using hr
    have e1 : floorR n d = (0, 2) := by simp [floorR, hr']
    have e2 : ceilR n d = (0, 2) := by simp [ceilR, hr']
    rw [e1] at cf
    rw [e2] at cc
    have CF := hidd cf
    have CC := hidd cc
    clear e1 e2 cf cc hr hr'
    go_enter Try.func10, Try.ntmps10
    go_wp2_with fail
    refine (CF.out _).mono ?_
    rintro e w1 ⟨rfl, hb1⟩
    have c0 : w1.cell? ⟨w.heap.size, 0, none⟩ = some (.int .i64 n) := by rw [hb1.cell (by (first | omega | (simp; done) | (simp; omega)))]; simp [go_sem]
    have c1 : w1.cell? ⟨w.heap.size, 1, none⟩ = some (.int .i64 d) := by rw [hb1.cell (by (first | omega | (simp; done) | (simp; omega)))]; simp [go_sem]
    go_wp2_with fail
    refine (CC.out _).mono ?_
    rintro e w2 ⟨rfl, hb2⟩
    go_wp2_with fail
    refine (ck.out _).mono ?_
    rintro e w3 ⟨rfl, hb3⟩
    go_wp2_with fail
    go_ret
    exact ⟨by simp, below_step (below_step (below_step (below_new (Below.refl _ _) _) hb1) hb2) hb3⟩
end Go.Proofs.Ytidgpfehdkcofaa
