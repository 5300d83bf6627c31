/- The walk of RatCompares: which of two is less; rounded down and up. -/
import Derived.Test.YtonpoemafneefaaBgU
import Derived.Test.YtonpoemafneefaaBgH
import Derived.Test.YtonpoemafneefaaRatPr
import Derived.Test.YtonpoemafneefaaRatFm
namespace Go.Proofs.Ytonpoemafneefaa
set_option linter.unusedVariables false
open Go.RowKit

set_option maxRecDepth 100000 in
set_option maxHeartbeats 8000000 in
theorem compares_walk (x d y e : Int) (h0 : -9223372036854775808 ≤ x) (h1 : x ≤ 9223372036854775807) (h2 : -9223372036854775808 ≤ d) (h3 : d ≤ 9223372036854775807)
    (k0 : -9223372036854775808 ≤ y) (k1 : y ≤ 9223372036854775807) (k2 : -9223372036854775808 ≤ e) (k3 : e ≤ 9223372036854775807) (w : World) :
    Calls Try.prog 3 #[.agg #[.int .i64 x, .int .i64 d], .agg #[.int .i64 y, .int .i64 e]] w fun e w' => e = .returned (.bool true) ∧ Below w.heap.size w w' := by
  have ck := hidd (fun W => known_any W)
  have kN := fun W => cmp_any x d y e h0 h1 h2 h3 k0 k1 k2 k3 W
  have kF := fun W => floor_any x d h0 h1 h2 h3 W
  have kU := fun W => ceil_any x d h0 h1 h2 h3 W
  have kA := fun W => refRight_any x d h0 h1 h2 h3 W
  have kB := fun W => refRight_any y e k0 k1 k2 k3 W
  by_cases hx : rightB x d = true
  case neg =>
    have hx2 : rightB x d = false := by simpa using hx
    have eN : cmpR x d y e = (0, 2) := by simp [cmpR, hx2]
    have eF : floorR x d = (0, 2) := by simp [floorR, hx2]
    have eU : ceilR x d = (0, 2) := by simp [ceilR, hx2]
    rw [eN] at kN
    rw [eF] at kF
    rw [eU] at kU
    rw [hx2] at kA
    dsimp only at kN kF kU
    have cN := hidd kN
    have cF := hidd kF
    have cU := hidd kU
    have cA := hidd kA
    have cB := hidd kB
    clear kN kF kU kA kB
    clear eN eF eU hx hx2
    go_enter Try.func3, Try.ntmps3
    go_wp2_with fail
    refine (cN.out _).mono ?_
    rintro E1 w1 ⟨rfl, hw1⟩
    have Ha1 : HasRat w1 w.heap.size x d := ⟨by rw [hw1.cell (by (first | omega | (simp; done) | (simp; omega)))]; simp [go_sem], by rw [hw1.cell (by (first | omega | (simp; done) | (simp; omega)))]; simp [go_sem], by have := hw1.size; simp at this; omega⟩
    have Hb1 : HasRat w1 (w.heap.size + 1) y e := ⟨by rw [hw1.cell (by (first | omega | (simp; done) | (simp; omega)))]; simp [go_sem], by rw [hw1.cell (by (first | omega | (simp; done) | (simp; omega)))]; simp [go_sem], by have := hw1.size; simp at this; omega⟩
    have L1 := below_step (below_new (below_new (Below.refl w.heap.size w) _) _) hw1
    obtain ⟨a0, a1, a2⟩ := id Ha1
    obtain ⟨b0, b1, b2⟩ := id Hb1
    have HL1 := hidd L1
    clear L1
    go_wp2_with fail
    refine (cF.out _).mono ?_
    rintro E2 w2 ⟨rfl, hw2⟩
    have Ha2 := Ha1.step hw2
    have Hb2 := Hb1.step hw2
    have HL2 := hidd (below_step HL1.out hw2)
    clear a0 a1 a2 b0 b1 b2 Ha1 Hb1 hw2
    obtain ⟨a0, a1, a2⟩ := id Ha2
    obtain ⟨b0, b1, b2⟩ := id Hb2
    go_wp2_with fail
    refine (cU.out _).mono ?_
    rintro E3 w3 ⟨rfl, hw3⟩
    have Ha3 := Ha2.step hw3
    have Hb3 := Hb2.step hw3
    have HL3 := hidd (below_step HL2.out hw3)
    clear a0 a1 a2 b0 b1 b2 Ha2 Hb2 hw3
    obtain ⟨a0, a1, a2⟩ := id Ha3
    obtain ⟨b0, b1, b2⟩ := id Hb3
    go_wp2_with fail
    refine (cA.out _).mono ?_
    rintro E4 w4 ⟨rfl, hw4⟩
    have Ha4 := Ha3.step hw4
    have Hb4 := Hb3.step hw4
    have HL4 := hidd (below_step HL3.out hw4)
    clear a0 a1 a2 b0 b1 b2 Ha3 Hb3 hw4
    obtain ⟨a0, a1, a2⟩ := id Ha4
    obtain ⟨b0, b1, b2⟩ := id Hb4
    go_wp2_with fail
    refine (ck.out _).mono ?_
    rintro E9 w9 ⟨rfl, hw9⟩
    go_wp2_with fail
    go_ret
    exact ⟨by first | rfl | simp, below_step HL4.out hw9⟩
  case pos =>
    obtain ⟨hd1, hx1⟩ := right_bounds x d h0 hx
    have eF : floorR x d = (x / d, 0) := by simp [floorR, hx]
    have eU : ceilR x d = (-(-x / d), 0) := by simp [ceilR, hx]
    have kF2 := fun W => refFloor_any x d hx1 h1 hd1 h3 W
    have kU2 := fun W => refCeil_any x d hx1 h1 hd1 h3 W
    rw [eF] at kF
    rw [eU] at kU
    rw [hx] at kA
    dsimp only at kF kU
    generalize -(-x / d) = u at *
    generalize x / d = k at *
    have cF2 := hidd kF2
    have cU2 := hidd kU2
    clear eF eU kF2 kU2
    by_cases hy : rightB y e = true
    case neg =>
      have hy2 : rightB y e = false := by simpa using hy
      have eN : cmpR x d y e = (0, 2) := by simp [cmpR, hy2]
      rw [eN] at kN
      rw [hy2] at kB
      dsimp only at kN
      have cN := hidd kN
      have cF := hidd kF
      have cU := hidd kU
      have cA := hidd kA
      have cB := hidd kB
      clear kN kF kU kA kB
      clear eN hx hy hy2
      go_enter Try.func3, Try.ntmps3
      go_wp2_with fail
      refine (cN.out _).mono ?_
      rintro E1 w1 ⟨rfl, hw1⟩
      have Ha1 : HasRat w1 w.heap.size x d := ⟨by rw [hw1.cell (by (first | omega | (simp; done) | (simp; omega)))]; simp [go_sem], by rw [hw1.cell (by (first | omega | (simp; done) | (simp; omega)))]; simp [go_sem], by have := hw1.size; simp at this; omega⟩
      have Hb1 : HasRat w1 (w.heap.size + 1) y e := ⟨by rw [hw1.cell (by (first | omega | (simp; done) | (simp; omega)))]; simp [go_sem], by rw [hw1.cell (by (first | omega | (simp; done) | (simp; omega)))]; simp [go_sem], by have := hw1.size; simp at this; omega⟩
      have L1 := below_step (below_new (below_new (Below.refl w.heap.size w) _) _) hw1
      obtain ⟨a0, a1, a2⟩ := id Ha1
      obtain ⟨b0, b1, b2⟩ := id Hb1
      have HL1 := hidd L1
      clear L1
      go_wp2_with fail
      refine (cF.out _).mono ?_
      rintro E2 w2 ⟨rfl, hw2⟩
      have Ha2 := Ha1.step hw2
      have Hb2 := Hb1.step hw2
      have HL2 := hidd (below_step HL1.out hw2)
      clear a0 a1 a2 b0 b1 b2 Ha1 Hb1 hw2
      obtain ⟨a0, a1, a2⟩ := id Ha2
      obtain ⟨b0, b1, b2⟩ := id Hb2
      go_wp2_with fail
      refine (cU.out _).mono ?_
      rintro E3 w3 ⟨rfl, hw3⟩
      have Ha3 := Ha2.step hw3
      have Hb3 := Hb2.step hw3
      have HL3 := hidd (below_step HL2.out hw3)
      clear a0 a1 a2 b0 b1 b2 Ha2 Hb2 hw3
      obtain ⟨a0, a1, a2⟩ := id Ha3
      obtain ⟨b0, b1, b2⟩ := id Hb3
      go_wp2_with fail
      refine (cA.out _).mono ?_
      rintro E4 w4 ⟨rfl, hw4⟩
      have Ha4 := Ha3.step hw4
      have Hb4 := Hb3.step hw4
      have HL4 := hidd (below_step HL3.out hw4)
      clear a0 a1 a2 b0 b1 b2 Ha3 Hb3 hw4
      obtain ⟨a0, a1, a2⟩ := id Ha4
      obtain ⟨b0, b1, b2⟩ := id Hb4
      go_wp2_with fail
      refine (cF2.out _).mono ?_
      rintro E5 w5 ⟨rfl, hw5⟩
      have Ha5 := Ha4.step hw5
      have Hb5 := Hb4.step hw5
      have HL5 := hidd (below_step HL4.out hw5)
      clear a0 a1 a2 b0 b1 b2 Ha4 Hb4 hw5
      obtain ⟨a0, a1, a2⟩ := id Ha5
      obtain ⟨b0, b1, b2⟩ := id Hb5
      go_wp2_with fail
      refine (cU2.out _).mono ?_
      rintro E6 w6 ⟨rfl, hw6⟩
      have Ha6 := Ha5.step hw6
      have Hb6 := Hb5.step hw6
      have HL6 := hidd (below_step HL5.out hw6)
      clear a0 a1 a2 b0 b1 b2 Ha5 Hb5 hw6
      obtain ⟨a0, a1, a2⟩ := id Ha6
      obtain ⟨b0, b1, b2⟩ := id Hb6
      go_wp2_with fail
      refine (cB.out _).mono ?_
      rintro E7 w7 ⟨rfl, hw7⟩
      have Ha7 := Ha6.step hw7
      have Hb7 := Hb6.step hw7
      have HL7 := hidd (below_step HL6.out hw7)
      clear a0 a1 a2 b0 b1 b2 Ha6 Hb6 hw7
      obtain ⟨a0, a1, a2⟩ := id Ha7
      obtain ⟨b0, b1, b2⟩ := id Hb7
      go_wp2_with fail
      refine (ck.out _).mono ?_
      rintro E9 w9 ⟨rfl, hw9⟩
      go_wp2_with fail
      go_ret
      exact ⟨by first | rfl | simp, below_step HL7.out hw9⟩
    case pos =>
      obtain ⟨he1, hy1⟩ := right_bounds y e k0 hy
      have eN : cmpR x d y e = (ordZ (x * e) (y * d), 0) := by simp [cmpR, hx, hy]
      have kC := fun W => refCmp_any x d y e hx1 h1 hd1 h3 hy1 k1 he1 k3 W
      rw [eN] at kN
      rw [hy] at kB
      dsimp only at kN
      generalize ordZ (x * e) (y * d) = n at *
      have cC := hidd kC
      have cN := hidd kN
      have cF := hidd kF
      have cU := hidd kU
      have cA := hidd kA
      have cB := hidd kB
      clear kN kF kU kA kB
      clear eN hx hy kC
      go_enter Try.func3, Try.ntmps3
      go_wp2_with fail
      refine (cN.out _).mono ?_
      rintro E1 w1 ⟨rfl, hw1⟩
      have Ha1 : HasRat w1 w.heap.size x d := ⟨by rw [hw1.cell (by (first | omega | (simp; done) | (simp; omega)))]; simp [go_sem], by rw [hw1.cell (by (first | omega | (simp; done) | (simp; omega)))]; simp [go_sem], by have := hw1.size; simp at this; omega⟩
      have Hb1 : HasRat w1 (w.heap.size + 1) y e := ⟨by rw [hw1.cell (by (first | omega | (simp; done) | (simp; omega)))]; simp [go_sem], by rw [hw1.cell (by (first | omega | (simp; done) | (simp; omega)))]; simp [go_sem], by have := hw1.size; simp at this; omega⟩
      have L1 := below_step (below_new (below_new (Below.refl w.heap.size w) _) _) hw1
      obtain ⟨a0, a1, a2⟩ := id Ha1
      obtain ⟨b0, b1, b2⟩ := id Hb1
      have HL1 := hidd L1
      clear L1
      go_wp2_with fail
      refine (cF.out _).mono ?_
      rintro E2 w2 ⟨rfl, hw2⟩
      have Ha2 := Ha1.step hw2
      have Hb2 := Hb1.step hw2
      have HL2 := hidd (below_step HL1.out hw2)
      clear a0 a1 a2 b0 b1 b2 Ha1 Hb1 hw2
      obtain ⟨a0, a1, a2⟩ := id Ha2
      obtain ⟨b0, b1, b2⟩ := id Hb2
      go_wp2_with fail
      refine (cU.out _).mono ?_
      rintro E3 w3 ⟨rfl, hw3⟩
      have Ha3 := Ha2.step hw3
      have Hb3 := Hb2.step hw3
      have HL3 := hidd (below_step HL2.out hw3)
      clear a0 a1 a2 b0 b1 b2 Ha2 Hb2 hw3
      obtain ⟨a0, a1, a2⟩ := id Ha3
      obtain ⟨b0, b1, b2⟩ := id Hb3
      go_wp2_with fail
      refine (cA.out _).mono ?_
      rintro E4 w4 ⟨rfl, hw4⟩
      have Ha4 := Ha3.step hw4
      have Hb4 := Hb3.step hw4
      have HL4 := hidd (below_step HL3.out hw4)
      clear a0 a1 a2 b0 b1 b2 Ha3 Hb3 hw4
      obtain ⟨a0, a1, a2⟩ := id Ha4
      obtain ⟨b0, b1, b2⟩ := id Hb4
      go_wp2_with fail
      refine (cF2.out _).mono ?_
      rintro E5 w5 ⟨rfl, hw5⟩
      have Ha5 := Ha4.step hw5
      have Hb5 := Hb4.step hw5
      have HL5 := hidd (below_step HL4.out hw5)
      clear a0 a1 a2 b0 b1 b2 Ha4 Hb4 hw5
      obtain ⟨a0, a1, a2⟩ := id Ha5
      obtain ⟨b0, b1, b2⟩ := id Hb5
      go_wp2_with fail
      refine (cU2.out _).mono ?_
      rintro E6 w6 ⟨rfl, hw6⟩
      have Ha6 := Ha5.step hw6
      have Hb6 := Hb5.step hw6
      have HL6 := hidd (below_step HL5.out hw6)
      clear a0 a1 a2 b0 b1 b2 Ha5 Hb5 hw6
      obtain ⟨a0, a1, a2⟩ := id Ha6
      obtain ⟨b0, b1, b2⟩ := id Hb6
      go_wp2_with fail
      refine (cB.out _).mono ?_
      rintro E7 w7 ⟨rfl, hw7⟩
      have Ha7 := Ha6.step hw7
      have Hb7 := Hb6.step hw7
      have HL7 := hidd (below_step HL6.out hw7)
      clear a0 a1 a2 b0 b1 b2 Ha6 Hb6 hw7
      obtain ⟨a0, a1, a2⟩ := id Ha7
      obtain ⟨b0, b1, b2⟩ := id Hb7
      go_wp2_with fail
      refine (cC.out _).mono ?_
      rintro E8 w8 ⟨rfl, hw8⟩
      have Ha8 := Ha7.step hw8
      have Hb8 := Hb7.step hw8
      have HL8 := hidd (below_step HL7.out hw8)
      clear a0 a1 a2 b0 b1 b2 Ha7 Hb7 hw8
      obtain ⟨a0, a1, a2⟩ := id Ha8
      obtain ⟨b0, b1, b2⟩ := id Hb8
      go_wp2_with fail
      refine (ck.out _).mono ?_
      rintro E9 w9 ⟨rfl, hw9⟩
      go_wp2_with fail
      go_ret
      exact ⟨by first | rfl | simp, below_step HL8.out hw9⟩
end Go.Proofs.Ytonpoemafneefaa
