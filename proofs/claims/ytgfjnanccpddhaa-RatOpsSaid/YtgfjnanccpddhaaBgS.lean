/- The walk of the law on sums, differences, products, quotients. -/
import Derived.Test.YtgfjnanccpddhaaBgR
import Derived.Test.YtgfjnanccpddhaaBgH
import Derived.Test.YtgfjnanccpddhaaRatFm
namespace Go.Proofs.Ytgfjnanccpddhaa
set_option linter.unusedVariables false
open Go.RowKit

theorem rat_eq_same (a b : Int) (w : World) : (binOp .eql 23 (.agg #[.int .i64 a, .int .i64 b]) (.agg #[.int .i64 a, .int .i64 b])).run Try.prog w = .ok (.bool true) w := by
  rw [run_eql_struct]
  simp [go_sem, Op.eqFields]
theorem HasRat.drew {w : World} {b : Nat} {x d : Int} (h : HasRat w b x d) : HasRat w.drew b x d := h
theorem HasRat.pastR {w : World} {b : Nat} {x d : Int} (h : HasRat w b x d) (p q : Int) : HasRat (w.alloc (.cells #[.int .i64 p, .int .i64 q] 23)) b x d := h.past _
theorem told_same (x d e : Int) (w : World) : Calls Try.prog 12 #[.agg #[.int .i64 x, .int .i64 d], .int .i64 e, .agg #[.int .i64 x, .int .i64 d], .int .i64 e] w fun E w' => E = .returned (.bool true) ∧ Below w.heap.size w w' := by
  have hs := fun w => rat_eq_same x d w
  go_enter Try.func12, Try.ntmps12
  go_wp2_with fail
  go_ret
  exact ⟨rfl, by (repeat' (first | (with_reducible exact Below.refl _ _) | (with_reducible assumption) | (with_reducible apply Below.setCell) | (with_reducible apply Below.alloc) | (with_reducible apply Below.drew) | (with_reducible apply below_drewN) | (with_reducible refine Below.trans ?_ (Below.mono (by assumption) ?_)) | omega | (simp; done) | (simp; omega)))⟩

set_option maxRecDepth 100000 in
set_option maxHeartbeats 8000000 in
theorem ops_no (a1 a2 b1 b2 : Int) (ha0 : -9223372036854775808 ≤ a1) (ha1 : a1 ≤ 9223372036854775807) (ha2 : -9223372036854775808 ≤ a2) (ha3 : a2 ≤ 9223372036854775807) (hb0 : -9223372036854775808 ≤ b1) (hb1 : b1 ≤ 9223372036854775807) (hb2 : -9223372036854775808 ≤ b2) (hb3 : b2 ≤ 9223372036854775807) (hno : (rightB a1 a2 && rightB b1 b2) = false) (w : World) :
    Calls Try.prog 3 #[.agg #[.int .i64 a1, .int .i64 a2], .agg #[.int .i64 b1, .int .i64 b2]] w fun e w' => e = .returned (.bool true) ∧ Below w.heap.size w w' := by
  have ck := hidd (fun W => known_any W)
  have kt := hidd (fun W => told_same 0 0 2 W)
  have kA := fun W => add_any a1 a2 b1 b2 ha0 ha1 ha2 ha3 hb0 hb1 hb2 hb3 W
  have kS := fun W => sub_any a1 a2 b1 b2 ha0 ha1 ha2 ha3 hb0 hb1 hb2 hb3 W
  have kM := fun W => mul_any a1 a2 b1 b2 ha0 ha1 ha2 ha3 hb0 hb1 hb2 hb3 W
  have kD := fun W => div_any a1 a2 b1 b2 ha0 ha1 ha2 ha3 hb0 hb1 hb2 hb3 W
  have eA : addR a1 a2 b1 b2 = (0, 0, 2) := by unfold addR; rw [hno]; rfl
  have eS : subR a1 a2 b1 b2 = (0, 0, 2) := by unfold subR; rw [hno]; rfl
  have eM : mulR a1 a2 b1 b2 = (0, 0, 2) := by unfold mulR; rw [hno]; rfl
  have eD : divR a1 a2 b1 b2 = (0, 0, 2) := by unfold divR; rw [hno]; rfl
  rw [eA] at kA
  rw [eS] at kS
  rw [eM] at kM
  rw [eD] at kD
  unfold pairOf at kA kS kM kD
  dsimp only at kA kS kM kD
  have cA := hidd kA
  have cS := hidd kS
  have cM := hidd kM
  have cD := hidd kD
  have rA := hidd (fun W => refRight_any a1 a2 ha0 ha1 ha2 ha3 W)
  have rB := hidd (fun W => refRight_any b1 b2 hb0 hb1 hb2 hb3 W)
  clear kA kS kM kD eA eS eM eD
  generalize rightB a1 a2 = R1 at *
  generalize rightB b1 b2 = R2 at *
  have hR : R1 = false ∨ (R1 = true ∧ R2 = false) := by cases R1 <;> cases R2 <;> simp at hno ⊢
  clear hno ha0 ha1 ha2 ha3 hb0 hb1 hb2 hb3
  rcases hR with rfl | ⟨rfl, rfl⟩
  · clear rB
    go_enter Try.func3, Try.ntmps3
    go_wp2_with fail
    refine (cA.out _).mono ?_
    rintro e w1 ⟨rfl, hw1⟩
    have Haw1 : HasRat w1 (w.heap.size) a1 a2 := ⟨by rw [hw1.cell (by (first | omega | (simp; done) | (simp; omega)))]; simp [go_sem], by rw [hw1.cell (by (first | omega | (simp; done) | (simp; omega)))]; simp [go_sem], by have := hw1.size; simp at this; omega⟩
    have Hbw1 : HasRat w1 (w.heap.size + 1) b1 b2 := ⟨by rw [hw1.cell (by (first | omega | (simp; done) | (simp; omega)))]; simp [go_sem], by rw [hw1.cell (by (first | omega | (simp; done) | (simp; omega)))]; simp [go_sem], by have := hw1.size; simp at this; omega⟩
    have L1 := below_step (below_new (below_new (Below.refl w.heap.size w) _) _) hw1
    obtain ⟨a0w1, a1w1, a2w1⟩ := id Haw1
    obtain ⟨b0w1, b1w1, b2w1⟩ := id Hbw1
    go_wp2_with fail
    refine (cS.out _).mono ?_
    rintro e w2 ⟨rfl, hw2⟩
    have Haw2 := (Haw1.past _).step hw2
    have Hbw2 := (Hbw1.past _).step hw2
    have Hsw2 := (HasRat.new w1 0 0 23).step hw2
    have L2 := below_step (below_new L1 _) hw2
    clear a0w1 a1w1 b0w1 b1w1
    obtain ⟨a0w2, a1w2, a2w2⟩ := id Haw2
    obtain ⟨b0w2, b1w2, b2w2⟩ := id Hbw2
    go_wp2_with fail
    refine (cM.out _).mono ?_
    rintro e w3 ⟨rfl, hw3⟩
    have Haw3 := (Haw2.past _).step hw3
    have Hbw3 := (Hbw2.past _).step hw3
    have Hsw3 := (Hsw2.past _).step hw3
    have Htw3 := (HasRat.new w2 0 0 23).step hw3
    have L3 := below_step (below_new L2 _) hw3
    clear a0w2 a1w2 b0w2 b1w2
    obtain ⟨a0w3, a1w3, a2w3⟩ := id Haw3
    obtain ⟨b0w3, b1w3, b2w3⟩ := id Hbw3
    go_wp2_with fail
    refine (cD.out _).mono ?_
    rintro e w4 ⟨rfl, hw4⟩
    have Haw4 := (Haw3.past _).step hw4
    have Hbw4 := (Hbw3.past _).step hw4
    have Hsw4 := (Hsw3.past _).step hw4
    have Htw4 := (Htw3.past _).step hw4
    have Hpw4 := (HasRat.new w3 0 0 23).step hw4
    have L4 := below_step (below_new L3 _) hw4
    clear a0w3 a1w3 b0w3 b1w3
    obtain ⟨a0w4, a1w4, a2w4⟩ := id Haw4
    obtain ⟨b0w4, b1w4, b2w4⟩ := id Hbw4
    go_wp2_with fail
    refine (rA.out _).mono ?_
    rintro e w5 ⟨rfl, hw5⟩
    have Haw5 := (Haw4.past _).step hw5
    have Hbw5 := (Hbw4.past _).step hw5
    have Hsw5 := (Hsw4.past _).step hw5
    have Htw5 := (Htw4.past _).step hw5
    have Hpw5 := (Hpw4.past _).step hw5
    have Hqw5 := (HasRat.new w4 0 0 23).step hw5
    have L5 := below_step (below_new L4 _) hw5
    clear a0w4 a1w4 b0w4 b1w4
    obtain ⟨a0w5, a1w5, a2w5⟩ := id Haw5
    obtain ⟨b0w5, b1w5, b2w5⟩ := id Hbw5
    obtain ⟨s0w5, s1w5, s2w5⟩ := id Hsw5
    obtain ⟨t0w5, t1w5, t2w5⟩ := id Htw5
    obtain ⟨p0w5, p1w5, p2w5⟩ := id Hpw5
    obtain ⟨q0w5, q1w5, q2w5⟩ := id Hqw5
    skip
    go_wp2_with fail
    refine (kt.out _).mono ?_
    rintro e w6 ⟨rfl, hw6⟩
    have Haw6 := (Haw5.past _).step hw6
    have Hbw6 := (Hbw5.past _).step hw6
    have Hsw6 := (Hsw5.past _).step hw6
    have Htw6 := (Htw5.past _).step hw6
    have Hpw6 := (Hpw5.past _).step hw6
    have Hqw6 := (Hqw5.past _).step hw6
    have Hnw6 := (HasRat.new w5 0 0 23).step hw6
    have L6 := below_step (below_new L5 _) hw6
    clear a0w5 a1w5 b0w5 b1w5 s0w5 s1w5 t0w5 t1w5 p0w5 p1w5 q0w5 q1w5
    obtain ⟨t0w6, t1w6, t2w6⟩ := id Htw6
    obtain ⟨p0w6, p1w6, p2w6⟩ := id Hpw6
    obtain ⟨q0w6, q1w6, q2w6⟩ := id Hqw6
    obtain ⟨n0w6, n1w6, n2w6⟩ := id Hnw6
    go_wp2_with fail
    refine (kt.out _).mono ?_
    rintro e w7 ⟨rfl, hw7⟩
    have Haw7 := (Haw6).step hw7
    have Hbw7 := (Hbw6).step hw7
    have Hsw7 := (Hsw6).step hw7
    have Htw7 := (Htw6).step hw7
    have Hpw7 := (Hpw6).step hw7
    have Hqw7 := (Hqw6).step hw7
    have Hnw7 := (Hnw6).step hw7
    have L7 := below_step L6 hw7
    clear t0w6 t1w6 p0w6 p1w6 q0w6 q1w6 n0w6 n1w6
    obtain ⟨p0w7, p1w7, p2w7⟩ := id Hpw7
    obtain ⟨q0w7, q1w7, q2w7⟩ := id Hqw7
    obtain ⟨n0w7, n1w7, n2w7⟩ := id Hnw7
    go_wp2_with fail
    refine (kt.out _).mono ?_
    rintro e w8 ⟨rfl, hw8⟩
    have Haw8 := (Haw7).step hw8
    have Hbw8 := (Hbw7).step hw8
    have Hsw8 := (Hsw7).step hw8
    have Htw8 := (Htw7).step hw8
    have Hpw8 := (Hpw7).step hw8
    have Hqw8 := (Hqw7).step hw8
    have Hnw8 := (Hnw7).step hw8
    have L8 := below_step L7 hw8
    clear p0w7 p1w7 q0w7 q1w7 n0w7 n1w7
    obtain ⟨q0w8, q1w8, q2w8⟩ := id Hqw8
    obtain ⟨n0w8, n1w8, n2w8⟩ := id Hnw8
    go_wp2_with fail
    refine (kt.out _).mono ?_
    rintro e w9 ⟨rfl, hw9⟩
    have Haw9 := (Haw8).step hw9
    have Hbw9 := (Hbw8).step hw9
    have Hsw9 := (Hsw8).step hw9
    have Htw9 := (Htw8).step hw9
    have Hpw9 := (Hpw8).step hw9
    have Hqw9 := (Hqw8).step hw9
    have Hnw9 := (Hnw8).step hw9
    have L9 := below_step L8 hw9
    clear q0w8 q1w8 n0w8 n1w8
    go_wp2_with fail
    refine (ck.out _).mono ?_
    rintro e w10 ⟨rfl, hw10⟩
    have Haw10 := (Haw9).step hw10
    have Hbw10 := (Hbw9).step hw10
    have Hsw10 := (Hsw9).step hw10
    have Htw10 := (Htw9).step hw10
    have Hpw10 := (Hpw9).step hw10
    have Hqw10 := (Hqw9).step hw10
    have Hnw10 := (Hnw9).step hw10
    have L10 := below_step L9 hw10
    skip
    go_wp2_with fail
    go_ret
    exact ⟨by simp, L10⟩
  · skip
    go_enter Try.func3, Try.ntmps3
    go_wp2_with fail
    refine (cA.out _).mono ?_
    rintro e w1 ⟨rfl, hw1⟩
    have Haw1 : HasRat w1 (w.heap.size) a1 a2 := ⟨by rw [hw1.cell (by (first | omega | (simp; done) | (simp; omega)))]; simp [go_sem], by rw [hw1.cell (by (first | omega | (simp; done) | (simp; omega)))]; simp [go_sem], by have := hw1.size; simp at this; omega⟩
    have Hbw1 : HasRat w1 (w.heap.size + 1) b1 b2 := ⟨by rw [hw1.cell (by (first | omega | (simp; done) | (simp; omega)))]; simp [go_sem], by rw [hw1.cell (by (first | omega | (simp; done) | (simp; omega)))]; simp [go_sem], by have := hw1.size; simp at this; omega⟩
    have L1 := below_step (below_new (below_new (Below.refl w.heap.size w) _) _) hw1
    obtain ⟨a0w1, a1w1, a2w1⟩ := id Haw1
    obtain ⟨b0w1, b1w1, b2w1⟩ := id Hbw1
    go_wp2_with fail
    refine (cS.out _).mono ?_
    rintro e w2 ⟨rfl, hw2⟩
    have Haw2 := (Haw1.past _).step hw2
    have Hbw2 := (Hbw1.past _).step hw2
    have Hsw2 := (HasRat.new w1 0 0 23).step hw2
    have L2 := below_step (below_new L1 _) hw2
    clear a0w1 a1w1 b0w1 b1w1
    obtain ⟨a0w2, a1w2, a2w2⟩ := id Haw2
    obtain ⟨b0w2, b1w2, b2w2⟩ := id Hbw2
    go_wp2_with fail
    refine (cM.out _).mono ?_
    rintro e w3 ⟨rfl, hw3⟩
    have Haw3 := (Haw2.past _).step hw3
    have Hbw3 := (Hbw2.past _).step hw3
    have Hsw3 := (Hsw2.past _).step hw3
    have Htw3 := (HasRat.new w2 0 0 23).step hw3
    have L3 := below_step (below_new L2 _) hw3
    clear a0w2 a1w2 b0w2 b1w2
    obtain ⟨a0w3, a1w3, a2w3⟩ := id Haw3
    obtain ⟨b0w3, b1w3, b2w3⟩ := id Hbw3
    go_wp2_with fail
    refine (cD.out _).mono ?_
    rintro e w4 ⟨rfl, hw4⟩
    have Haw4 := (Haw3.past _).step hw4
    have Hbw4 := (Hbw3.past _).step hw4
    have Hsw4 := (Hsw3.past _).step hw4
    have Htw4 := (Htw3.past _).step hw4
    have Hpw4 := (HasRat.new w3 0 0 23).step hw4
    have L4 := below_step (below_new L3 _) hw4
    clear a0w3 a1w3 b0w3 b1w3
    obtain ⟨a0w4, a1w4, a2w4⟩ := id Haw4
    obtain ⟨b0w4, b1w4, b2w4⟩ := id Hbw4
    go_wp2_with fail
    refine (rA.out _).mono ?_
    rintro e w5 ⟨rfl, hw5⟩
    have Haw5 := (Haw4.past _).step hw5
    have Hbw5 := (Hbw4.past _).step hw5
    have Hsw5 := (Hsw4.past _).step hw5
    have Htw5 := (Htw4.past _).step hw5
    have Hpw5 := (Hpw4.past _).step hw5
    have Hqw5 := (HasRat.new w4 0 0 23).step hw5
    have L5 := below_step (below_new L4 _) hw5
    clear a0w4 a1w4 b0w4 b1w4
    obtain ⟨a0w5, a1w5, a2w5⟩ := id Haw5
    obtain ⟨b0w5, b1w5, b2w5⟩ := id Hbw5
    go_wp2_with fail
    refine (rB.out _).mono ?_
    rintro e w6 ⟨rfl, hw6⟩
    have Haw6 := (Haw5).step hw6
    have Hbw6 := (Hbw5).step hw6
    have Hsw6 := (Hsw5).step hw6
    have Htw6 := (Htw5).step hw6
    have Hpw6 := (Hpw5).step hw6
    have Hqw6 := (Hqw5).step hw6
    have L6 := below_step L5 hw6
    clear a0w5 a1w5 b0w5 b1w5
    obtain ⟨s0w6, s1w6, s2w6⟩ := id Hsw6
    obtain ⟨t0w6, t1w6, t2w6⟩ := id Htw6
    obtain ⟨p0w6, p1w6, p2w6⟩ := id Hpw6
    obtain ⟨q0w6, q1w6, q2w6⟩ := id Hqw6
    skip
    go_wp2_with fail
    refine (kt.out _).mono ?_
    rintro e w7 ⟨rfl, hw7⟩
    have Haw7 := (Haw6.past _).step hw7
    have Hbw7 := (Hbw6.past _).step hw7
    have Hsw7 := (Hsw6.past _).step hw7
    have Htw7 := (Htw6.past _).step hw7
    have Hpw7 := (Hpw6.past _).step hw7
    have Hqw7 := (Hqw6.past _).step hw7
    have Hnw7 := (HasRat.new w6 0 0 23).step hw7
    have L7 := below_step (below_new L6 _) hw7
    clear s0w6 s1w6 t0w6 t1w6 p0w6 p1w6 q0w6 q1w6
    obtain ⟨t0w7, t1w7, t2w7⟩ := id Htw7
    obtain ⟨p0w7, p1w7, p2w7⟩ := id Hpw7
    obtain ⟨q0w7, q1w7, q2w7⟩ := id Hqw7
    obtain ⟨n0w7, n1w7, n2w7⟩ := id Hnw7
    go_wp2_with fail
    refine (kt.out _).mono ?_
    rintro e w8 ⟨rfl, hw8⟩
    have Haw8 := (Haw7).step hw8
    have Hbw8 := (Hbw7).step hw8
    have Hsw8 := (Hsw7).step hw8
    have Htw8 := (Htw7).step hw8
    have Hpw8 := (Hpw7).step hw8
    have Hqw8 := (Hqw7).step hw8
    have Hnw8 := (Hnw7).step hw8
    have L8 := below_step L7 hw8
    clear t0w7 t1w7 p0w7 p1w7 q0w7 q1w7 n0w7 n1w7
    obtain ⟨p0w8, p1w8, p2w8⟩ := id Hpw8
    obtain ⟨q0w8, q1w8, q2w8⟩ := id Hqw8
    obtain ⟨n0w8, n1w8, n2w8⟩ := id Hnw8
    go_wp2_with fail
    refine (kt.out _).mono ?_
    rintro e w9 ⟨rfl, hw9⟩
    have Haw9 := (Haw8).step hw9
    have Hbw9 := (Hbw8).step hw9
    have Hsw9 := (Hsw8).step hw9
    have Htw9 := (Htw8).step hw9
    have Hpw9 := (Hpw8).step hw9
    have Hqw9 := (Hqw8).step hw9
    have Hnw9 := (Hnw8).step hw9
    have L9 := below_step L8 hw9
    clear p0w8 p1w8 q0w8 q1w8 n0w8 n1w8
    obtain ⟨q0w9, q1w9, q2w9⟩ := id Hqw9
    obtain ⟨n0w9, n1w9, n2w9⟩ := id Hnw9
    go_wp2_with fail
    refine (kt.out _).mono ?_
    rintro e w10 ⟨rfl, hw10⟩
    have Haw10 := (Haw9).step hw10
    have Hbw10 := (Hbw9).step hw10
    have Hsw10 := (Hsw9).step hw10
    have Htw10 := (Htw9).step hw10
    have Hpw10 := (Hpw9).step hw10
    have Hqw10 := (Hqw9).step hw10
    have Hnw10 := (Hnw9).step hw10
    have L10 := below_step L9 hw10
    clear q0w9 q1w9 n0w9 n1w9
    go_wp2_with fail
    refine (ck.out _).mono ?_
    rintro e w11 ⟨rfl, hw11⟩
    have Haw11 := (Haw10).step hw11
    have Hbw11 := (Hbw10).step hw11
    have Hsw11 := (Hsw10).step hw11
    have Htw11 := (Htw10).step hw11
    have Hpw11 := (Hpw10).step hw11
    have Hqw11 := (Hqw10).step hw11
    have Hnw11 := (Hnw10).step hw11
    have L11 := below_step L10 hw11
    skip
    go_wp2_with fail
    go_ret
    exact ⟨by simp, L11⟩
set_option maxRecDepth 100000 in
set_option maxHeartbeats 8000000 in
theorem ops_yes (a1 a2 b1 b2 : Int) (ha0 : -9223372036854775808 ≤ a1) (ha1 : a1 ≤ 9223372036854775807) (ha2 : -9223372036854775808 ≤ a2) (ha3 : a2 ≤ 9223372036854775807) (hb0 : -9223372036854775808 ≤ b1) (hb1 : b1 ≤ 9223372036854775807) (hb2 : -9223372036854775808 ≤ b2) (hb3 : b2 ≤ 9223372036854775807) (hA : rightB a1 a2 = true) (hB : rightB b1 b2 = true) (w : World) :
    Calls Try.prog 3 #[.agg #[.int .i64 a1, .int .i64 a2], .agg #[.int .i64 b1, .int .i64 b2]] w fun e w' => e = .returned (.bool true) ∧ Below w.heap.size w w' := by
  have ck := hidd (fun W => known_any W)
  have pa := of_decide_eq_true hA
  have pb := of_decide_eq_true hB
  have kA := fun W => add_any a1 a2 b1 b2 ha0 ha1 ha2 ha3 hb0 hb1 hb2 hb3 W
  have kS := fun W => sub_any a1 a2 b1 b2 ha0 ha1 ha2 ha3 hb0 hb1 hb2 hb3 W
  have kM := fun W => mul_any a1 a2 b1 b2 ha0 ha1 ha2 ha3 hb0 hb1 hb2 hb3 W
  have kD := fun W => div_any a1 a2 b1 b2 ha0 ha1 ha2 ha3 hb0 hb1 hb2 hb3 W
  have hno : (rightB a1 a2 && rightB b1 b2) = true := by rw [hA, hB]; rfl
  have eA : addR a1 a2 b1 b2 = RM.plusR a1 a2 b1 b2 := by unfold addR; rw [hno]; rfl
  have eS : subR a1 a2 b1 b2 = RM.plusR a1 a2 (-b1) b2 := by unfold subR subT; rw [hno]; rfl
  have eM : mulR a1 a2 b1 b2 = RM.timesR a1 a2 b1 b2 := by unfold mulR; rw [hno]; rfl
  have eD : divR a1 a2 b1 b2 = divT a1 a2 b1 b2 := by unfold divR; rw [hno]; rfl
  rw [eA] at kA
  rw [eS] at kS
  rw [eM] at kM
  rw [eD] at kD
  have fA := fun W => refPlus_any a1 a2 b1 b2 (by omega) ha1 pa.1 ha3 (by omega) hb1 pb.1 hb3 W
  have fS := fun W => refPlus_any a1 a2 (-b1) b2 (by omega) ha1 pa.1 ha3 (by omega) (by omega) pb.1 hb3 W
  have fM := fun W => refTimes_any a1 a2 b1 b2 (by omega) ha1 pa.1 ha3 (by omega) hb1 pb.1 hb3 W
  have fD := fun W => refBy_any a1 a2 b1 b2 (by omega) ha1 pa.1 ha3 (by omega) hb1 pb.1 hb3 W
  have fN := hidd (fun W => refMinus_any b1 b2 (by omega) hb1 W)
  have rA := hidd (fun W => refRight_any a1 a2 ha0 ha1 ha2 ha3 W)
  have rB := hidd (fun W => refRight_any b1 b2 hb0 hb1 hb2 hb3 W)
  rw [hA] at rA
  rw [hB] at rB
  clear eA eS eM eD hno hA hB
  generalize RM.plusR a1 a2 b1 b2 = S at *
  obtain ⟨s1, s2, se⟩ := S
  generalize RM.plusR a1 a2 (-b1) b2 = TT at *
  obtain ⟨t1, t2, te⟩ := TT
  generalize RM.timesR a1 a2 b1 b2 = PP at *
  obtain ⟨p1, p2, pe⟩ := PP
  generalize divT a1 a2 b1 b2 = QQ at *
  obtain ⟨q1, q2, qe⟩ := QQ
  unfold pairOf at kA kS kM kD fA fS fM fD
  dsimp only at kA kS kM kD fA fS fM fD
  have cA := hidd kA
  have cS := hidd kS
  have cM := hidd kM
  have cD := hidd kD
  have dA := hidd fA
  have dS := hidd fS
  have dM := hidd fM
  have dD := hidd fD
  have tA := hidd (fun W => told_same s1 s2 se W)
  have tS := hidd (fun W => told_same t1 t2 te W)
  have tM := hidd (fun W => told_same p1 p2 pe W)
  have tD := hidd (fun W => told_same q1 q2 qe W)
  clear kA kS kM kD fA fS fM fD pa pb ha0 ha1 ha2 ha3 hb0 hb1 hb2 hb3
  go_enter Try.func3, Try.ntmps3
  go_wp2_with fail
  refine (cA.out _).mono ?_
  rintro e w1 ⟨rfl, hw1⟩
  have Haw1 : HasRat w1 (w.heap.size) a1 a2 := ⟨by rw [hw1.cell (by (first | omega | (simp; done) | (simp; omega)))]; simp [go_sem], by rw [hw1.cell (by (first | omega | (simp; done) | (simp; omega)))]; simp [go_sem], by have := hw1.size; simp at this; omega⟩
  have Hbw1 : HasRat w1 (w.heap.size + 1) b1 b2 := ⟨by rw [hw1.cell (by (first | omega | (simp; done) | (simp; omega)))]; simp [go_sem], by rw [hw1.cell (by (first | omega | (simp; done) | (simp; omega)))]; simp [go_sem], by have := hw1.size; simp at this; omega⟩
  have L1 := below_step (below_new (below_new (Below.refl w.heap.size w) _) _) hw1
  obtain ⟨a0w1, a1w1, a2w1⟩ := id Haw1
  obtain ⟨b0w1, b1w1, b2w1⟩ := id Hbw1
  go_wp2_with fail
  refine (cS.out _).mono ?_
  rintro e w2 ⟨rfl, hw2⟩
  have Haw2 := (Haw1.past _).step hw2
  have Hbw2 := (Hbw1.past _).step hw2
  have Hsw2 := (HasRat.new w1 s1 s2 23).step hw2
  have L2 := below_step (below_new L1 _) hw2
  clear a0w1 a1w1 b0w1 b1w1
  obtain ⟨a0w2, a1w2, a2w2⟩ := id Haw2
  obtain ⟨b0w2, b1w2, b2w2⟩ := id Hbw2
  go_wp2_with fail
  refine (cM.out _).mono ?_
  rintro e w3 ⟨rfl, hw3⟩
  have Haw3 := (Haw2.past _).step hw3
  have Hbw3 := (Hbw2.past _).step hw3
  have Hsw3 := (Hsw2.past _).step hw3
  have Htw3 := (HasRat.new w2 t1 t2 23).step hw3
  have L3 := below_step (below_new L2 _) hw3
  clear a0w2 a1w2 b0w2 b1w2
  obtain ⟨a0w3, a1w3, a2w3⟩ := id Haw3
  obtain ⟨b0w3, b1w3, b2w3⟩ := id Hbw3
  go_wp2_with fail
  refine (cD.out _).mono ?_
  rintro e w4 ⟨rfl, hw4⟩
  have Haw4 := (Haw3.past _).step hw4
  have Hbw4 := (Hbw3.past _).step hw4
  have Hsw4 := (Hsw3.past _).step hw4
  have Htw4 := (Htw3.past _).step hw4
  have Hpw4 := (HasRat.new w3 p1 p2 23).step hw4
  have L4 := below_step (below_new L3 _) hw4
  clear a0w3 a1w3 b0w3 b1w3
  obtain ⟨a0w4, a1w4, a2w4⟩ := id Haw4
  obtain ⟨b0w4, b1w4, b2w4⟩ := id Hbw4
  go_wp2_with fail
  refine (rA.out _).mono ?_
  rintro e w5 ⟨rfl, hw5⟩
  have Haw5 := (Haw4.past _).step hw5
  have Hbw5 := (Hbw4.past _).step hw5
  have Hsw5 := (Hsw4.past _).step hw5
  have Htw5 := (Htw4.past _).step hw5
  have Hpw5 := (Hpw4.past _).step hw5
  have Hqw5 := (HasRat.new w4 q1 q2 23).step hw5
  have L5 := below_step (below_new L4 _) hw5
  clear a0w4 a1w4 b0w4 b1w4
  obtain ⟨a0w5, a1w5, a2w5⟩ := id Haw5
  obtain ⟨b0w5, b1w5, b2w5⟩ := id Hbw5
  go_wp2_with fail
  refine (rB.out _).mono ?_
  rintro e w6 ⟨rfl, hw6⟩
  have Haw6 := (Haw5).step hw6
  have Hbw6 := (Hbw5).step hw6
  have Hsw6 := (Hsw5).step hw6
  have Htw6 := (Htw5).step hw6
  have Hpw6 := (Hpw5).step hw6
  have Hqw6 := (Hqw5).step hw6
  have L6 := below_step L5 hw6
  clear a0w5 a1w5 b0w5 b1w5
  obtain ⟨a0w6, a1w6, a2w6⟩ := id Haw6
  obtain ⟨b0w6, b1w6, b2w6⟩ := id Hbw6
  go_wp2_with fail
  refine (dA.out _).mono ?_
  rintro e w7 ⟨rfl, hw7⟩
  have Haw7 := (Haw6).step hw7
  have Hbw7 := (Hbw6).step hw7
  have Hsw7 := (Hsw6).step hw7
  have Htw7 := (Htw6).step hw7
  have Hpw7 := (Hpw6).step hw7
  have Hqw7 := (Hqw6).step hw7
  have L7 := below_step L6 hw7
  clear a0w6 a1w6 b0w6 b1w6
  obtain ⟨a0w7, a1w7, a2w7⟩ := id Haw7
  obtain ⟨b0w7, b1w7, b2w7⟩ := id Hbw7
  go_wp2_with fail
  obtain ⟨W0, hW0⟩ : ∃ W0, w7.alloc (.cells #[.int .i64 s1, .int .i64 s2] 23) = W0 := ⟨_, rfl⟩
  have Haz : HasRat W0 _ _ _ := hW0 ▸ Haw7.past (.cells #[.int .i64 s1, .int .i64 s2] 23)
  have Hbz : HasRat W0 _ _ _ := hW0 ▸ Hbw7.past (.cells #[.int .i64 s1, .int .i64 s2] 23)
  have Hsz : HasRat W0 _ _ _ := hW0 ▸ Hsw7.past (.cells #[.int .i64 s1, .int .i64 s2] 23)
  have Htz : HasRat W0 _ _ _ := hW0 ▸ Htw7.past (.cells #[.int .i64 s1, .int .i64 s2] 23)
  have Hpz : HasRat W0 _ _ _ := hW0 ▸ Hpw7.past (.cells #[.int .i64 s1, .int .i64 s2] 23)
  have Hqz : HasRat W0 _ _ _ := hW0 ▸ Hqw7.past (.cells #[.int .i64 s1, .int .i64 s2] 23)
  have Hcz : HasRat W0 _ _ _ := hW0 ▸ HasRat.new w7 s1 s2 23
  have Lz : Below w.heap.size w W0 := hW0 ▸ below_new L7 _
  rw [hW0]
  clear hW0 a0w7 a1w7 b0w7 b1w7
  go_cut [16, 17] (fun s16 s17 wx => ∃ B, s16 = .pointer (some ⟨B, 0, none⟩) ∧ s17 = .int .i64 te ∧ HasRat wx B t1 t2 ∧ Below W0.heap.size W0 wx)
  case first =>
    have g0 : w.heap.size + 1 < W0.heap.size := Hbz.2.2
    have n1 : ¬ W0.heap.size = w.heap.size := by omega
    have n2 : ¬ w.heap.size = W0.heap.size := by omega
    have n3 : ¬ W0.heap.size = w.heap.size + 1 := by omega
    have n4 : ¬ w.heap.size + 1 = W0.heap.size := by omega
    go_region_held3 (fun w' => w'.cell? ⟨w.heap.size, 0, none⟩ = some (.int .i64 a1) ∧ w'.cell? ⟨w.heap.size, 1, none⟩ = some (.int .i64 a2) ∧ w'.cell? ⟨w.heap.size + 1, 0, none⟩ = some (.int .i64 b1) ∧ w'.cell? ⟨w.heap.size + 1, 1, none⟩ = some (.int .i64 b2))
      ((first | exact ⟨hp0.1, hp0.2.1, hp1.1, hp1.2.1⟩ | exact ⟨hm0.1, hm0.2.1, hm1.1, hm1.2.1⟩ | exact ⟨Haz.1, Haz.2.1, Hbz.1, Hbz.2.1⟩ | exact ⟨(hp0.pastR _ _).1, (hp0.pastR _ _).2.1, (hp1.pastR _ _).1, (hp1.pastR _ _).2.1⟩ | exact ⟨(hm0.pastR _ _).1, (hm0.pastR _ _).2.1, (hm1.pastR _ _).1, (hm1.pastR _ _).2.1⟩ | exact ⟨(Haz.drew.pastR _ _).1, (Haz.drew.pastR _ _).2.1, (Hbz.drew.pastR _ _).1, (Hbz.drew.pastR _ _).2.1⟩ | go_keep))
      ((first
        | (go_at_call 15; refine (fN.out _).mono ?_; rintro E wm ⟨rfl, hwm⟩; first | (have hm0 := Haz.drew.step hwm; have hm1 := Hbz.drew.step hwm; have lm := below_step (Below.drew (Below.refl _ W0)) hwm; have gm := lm.size) | (have hm0 := (Haz.drew.pastR 0 0).step hwm; have hm1 := (Hbz.drew.pastR 0 0).step hwm; have lm := below_step (below_new (Below.drew (Below.refl _ W0)) _) hwm; have gm := lm.size; have hz0 := hidd (show RatBox wm W0.heap.size 0 0 from (RatBox.new W0.drew 23 0 0).step hwm)))
        | (go_at_call 14; refine (dS.out _).mono ?_; rintro E wp ⟨rfl, hwp⟩; first | (have hp0 := hm0.step hwp; have hp1 := hm1.step hwp; have lp := below_step lm hwp; have gp := lp.size; (try (have hz1 := hz0.out.step hwp; have hz2 := hidd hz1; obtain ⟨z0, z1, z2, z3, z4⟩ := hz1))) | (have hp0 := (hm0.pastR 0 0).step hwp; have hp1 := (hm1.pastR 0 0).step hwp; have lp := below_step (below_new lm _) hwp; have gp := lp.size; have hz1 := (RatBox.new wm 23 0 0).step hwp; have hz2 := hidd hz1; obtain ⟨z0, z1, z2, z3, z4⟩ := hz1; have k1 : ¬ wm.heap.size = w.heap.size := (by omega); have k2 : ¬ w.heap.size = wm.heap.size := (by omega); have k3 : ¬ wm.heap.size = w.heap.size + 1 := (by omega); have k4 : ¬ w.heap.size + 1 = wm.heap.size := (by omega)))))
    all_goals go_wp2_with fail
    all_goals go_meet
    all_goals first | exact ⟨_, rfl, rfl, HasRat.new wp t1 t2 _, below_new lp _⟩ | (refine ⟨_, rfl, rfl, ⟨by simp [go_sem, *], by simp [go_sem, *], by simp; omega⟩, ?_⟩; exact Below.setCell (Below.setCell lp (by (first | omega | (simp; done) | (simp; omega))) _) (by (first | omega | (simp; done) | (simp; omega))) _)
  case rest =>
  obtain ⟨Bd, rfl, rfl, Hdz, lz⟩ := hcut
  have Haw8 := Haz.step lz
  have Hbw8 := Hbz.step lz
  have Hsw8 := Hsz.step lz
  have Htw8 := Htz.step lz
  have Hpw8 := Hpz.step lz
  have Hqw8 := Hqz.step lz
  have Hcw8 := Hcz.step lz
  have Hdw8 := Hdz
  have L8 := below_step Lz lz
  obtain ⟨wq, hwq⟩ : ∃ wq, wq = wc := ⟨_, rfl⟩
  obtain ⟨a0w8, a1w8, a2w8⟩ := id Haw8
  obtain ⟨b0w8, b1w8, b2w8⟩ := id Hbw8
  clear hwq
  go_wp2_with fail
  refine (dM.out _).mono ?_
  rintro e w9 ⟨rfl, hw9⟩
  have Haw9 := (Haw8).step hw9
  have Hbw9 := (Hbw8).step hw9
  have Hsw9 := (Hsw8).step hw9
  have Htw9 := (Htw8).step hw9
  have Hpw9 := (Hpw8).step hw9
  have Hqw9 := (Hqw8).step hw9
  have Hcw9 := (Hcw8).step hw9
  have Hdw9 := (Hdw8).step hw9
  have L9 := below_step L8 hw9
  clear a0w8 a1w8 b0w8 b1w8
  obtain ⟨a0w9, a1w9, a2w9⟩ := id Haw9
  obtain ⟨b0w9, b1w9, b2w9⟩ := id Hbw9
  go_wp2_with fail
  refine (dD.out _).mono ?_
  rintro e w10 ⟨rfl, hw10⟩
  have Haw10 := (Haw9.past _).step hw10
  have Hbw10 := (Hbw9.past _).step hw10
  have Hsw10 := (Hsw9.past _).step hw10
  have Htw10 := (Htw9.past _).step hw10
  have Hpw10 := (Hpw9.past _).step hw10
  have Hqw10 := (Hqw9.past _).step hw10
  have Hcw10 := (Hcw9.past _).step hw10
  have Hdw10 := (Hdw9.past _).step hw10
  have Hew10 := (HasRat.new w9 p1 p2 23).step hw10
  have L10 := below_step (below_new L9 _) hw10
  clear a0w9 a1w9 b0w9 b1w9
  obtain ⟨s0w10, s1w10, s2w10⟩ := id Hsw10
  obtain ⟨c0w10, c1w10, c2w10⟩ := id Hcw10
  go_wp2_with fail
  refine (tA.out _).mono ?_
  rintro e w11 ⟨rfl, hw11⟩
  have Haw11 := (Haw10.past _).step hw11
  have Hbw11 := (Hbw10.past _).step hw11
  have Hsw11 := (Hsw10.past _).step hw11
  have Htw11 := (Htw10.past _).step hw11
  have Hpw11 := (Hpw10.past _).step hw11
  have Hqw11 := (Hqw10.past _).step hw11
  have Hcw11 := (Hcw10.past _).step hw11
  have Hdw11 := (Hdw10.past _).step hw11
  have Hew11 := (Hew10.past _).step hw11
  have Hfw11 := (HasRat.new w10 q1 q2 23).step hw11
  have L11 := below_step (below_new L10 _) hw11
  clear s0w10 s1w10 c0w10 c1w10
  obtain ⟨t0w11, t1w11, t2w11⟩ := id Htw11
  obtain ⟨d0w11, d1w11, d2w11⟩ := id Hdw11
  go_wp2_with fail
  refine (tS.out _).mono ?_
  rintro e w12 ⟨rfl, hw12⟩
  have Haw12 := (Haw11).step hw12
  have Hbw12 := (Hbw11).step hw12
  have Hsw12 := (Hsw11).step hw12
  have Htw12 := (Htw11).step hw12
  have Hpw12 := (Hpw11).step hw12
  have Hqw12 := (Hqw11).step hw12
  have Hcw12 := (Hcw11).step hw12
  have Hdw12 := (Hdw11).step hw12
  have Hew12 := (Hew11).step hw12
  have Hfw12 := (Hfw11).step hw12
  have L12 := below_step L11 hw12
  clear t0w11 t1w11 d0w11 d1w11
  obtain ⟨p0w12, p1w12, p2w12⟩ := id Hpw12
  obtain ⟨e0w12, e1w12, e2w12⟩ := id Hew12
  go_wp2_with fail
  refine (tM.out _).mono ?_
  rintro e w13 ⟨rfl, hw13⟩
  have Haw13 := (Haw12).step hw13
  have Hbw13 := (Hbw12).step hw13
  have Hsw13 := (Hsw12).step hw13
  have Htw13 := (Htw12).step hw13
  have Hpw13 := (Hpw12).step hw13
  have Hqw13 := (Hqw12).step hw13
  have Hcw13 := (Hcw12).step hw13
  have Hdw13 := (Hdw12).step hw13
  have Hew13 := (Hew12).step hw13
  have Hfw13 := (Hfw12).step hw13
  have L13 := below_step L12 hw13
  clear p0w12 p1w12 e0w12 e1w12
  obtain ⟨q0w13, q1w13, q2w13⟩ := id Hqw13
  obtain ⟨f0w13, f1w13, f2w13⟩ := id Hfw13
  go_wp2_with fail
  refine (tD.out _).mono ?_
  rintro e w14 ⟨rfl, hw14⟩
  have Haw14 := (Haw13).step hw14
  have Hbw14 := (Hbw13).step hw14
  have Hsw14 := (Hsw13).step hw14
  have Htw14 := (Htw13).step hw14
  have Hpw14 := (Hpw13).step hw14
  have Hqw14 := (Hqw13).step hw14
  have Hcw14 := (Hcw13).step hw14
  have Hdw14 := (Hdw13).step hw14
  have Hew14 := (Hew13).step hw14
  have Hfw14 := (Hfw13).step hw14
  have L14 := below_step L13 hw14
  clear q0w13 q1w13 f0w13 f1w13
  go_wp2_with fail
  refine (ck.out _).mono ?_
  rintro e w15 ⟨rfl, hw15⟩
  have Haw15 := (Haw14).step hw15
  have Hbw15 := (Hbw14).step hw15
  have Hsw15 := (Hsw14).step hw15
  have Htw15 := (Htw14).step hw15
  have Hpw15 := (Hpw14).step hw15
  have Hqw15 := (Hqw14).step hw15
  have Hcw15 := (Hcw14).step hw15
  have Hdw15 := (Hdw14).step hw15
  have Hew15 := (Hew14).step hw15
  have Hfw15 := (Hfw14).step hw15
  have L15 := below_step L14 hw15
  skip
  go_wp2_with fail
  go_ret
  exact ⟨by simp, L15⟩
theorem ops_walk (a1 a2 b1 b2 : Int) (ha0 : -9223372036854775808 ≤ a1) (ha1 : a1 ≤ 9223372036854775807) (ha2 : -9223372036854775808 ≤ a2) (ha3 : a2 ≤ 9223372036854775807) (hb0 : -9223372036854775808 ≤ b1) (hb1 : b1 ≤ 9223372036854775807) (hb2 : -9223372036854775808 ≤ b2) (hb3 : b2 ≤ 9223372036854775807) (w : World) :
    Calls Try.prog 3 #[.agg #[.int .i64 a1, .int .i64 a2], .agg #[.int .i64 b1, .int .i64 b2]] w fun e w' => e = .returned (.bool true) ∧ Below w.heap.size w w' := by
  by_cases hA : rightB a1 a2 = true
  · by_cases hB : rightB b1 b2 = true
    · exact ops_yes a1 a2 b1 b2 ha0 ha1 ha2 ha3 hb0 hb1 hb2 hb3 hA hB w
    · exact ops_no a1 a2 b1 b2 ha0 ha1 ha2 ha3 hb0 hb1 hb2 hb3 (by simp [hB]) w
  · exact ops_no a1 a2 b1 b2 ha0 ha1 ha2 ha3 hb0 hb1 hb2 hb3 (by simp [hA]) w
end Go.Proofs.Ytgfjnanccpddhaa
