/- What every law of the layer looks at besides; the document's terms of a link. -/
import Derived.Test.YtianceglbkcmpaaBdF
namespace Go.Proofs.Ytianceglbkcmpaa
set_option linter.unusedVariables false
open Go.RowKit

theorem some_any (w : World) : Calls Try.prog 31 #[] w fun e w' => e = .returned (.agg #[.int .i64 10, .int .i64 2, .int .i64 20, .int .i64 8, .int .i64 1]) ∧ Below w.heap.size w w' := by
  go_enter Try.func31, Try.ntmps31
  go_wp2_with fail
  exact bodyPost_ret (v := .agg #[.int .i64 10, .int .i64 2, .int .i64 20, .int .i64 8, .int .i64 1]) (by simp [results, Try.results31, go_sem]) rfl ⟨rfl, by (repeat' (first | (with_reducible exact Below.refl _ _) | (with_reducible assumption) | (with_reducible apply Below.setCell) | (with_reducible apply Below.alloc) | (with_reducible apply Below.drew) | (with_reducible apply below_drewN) | (with_reducible refine Below.trans ?_ (Below.mono (by assumption) ?_)) | omega | (simp; done) | (simp; omega)))⟩
theorem terms_eq_same (a b : Int) (w : World) : (binOp .eql 25 (.agg #[.int .i64 a, .int .i64 b]) (.agg #[.int .i64 a, .int .i64 b])).run Try.prog w = .ok (.bool true) w := by
  simp [go_sem, Op.eqFields]
theorem ratB_eq_same (a b : Int) (w : World) : (binOp .eql 27 (.agg #[.int .i64 a, .int .i64 b]) (.agg #[.int .i64 a, .int .i64 b])).run Try.prog w = .ok (.bool true) w := by
  simp [go_sem, Op.eqFields]
set_option maxRecDepth 100000 in
set_option maxHeartbeats 4000000 in
theorem known5_any (w : World) : Calls Try.prog 12 #[] w fun e w' => e = .returned (.bool true) ∧ Below w.heap.size w w' := by
  have hs : SpecIn 10 2 20 8 := by unfold SpecIn; decide
  have hh : Zp.rightB 10 2 20 8 1 = true := by decide +kernel
  have hB : hasB 10 2 20 8 1 4 8 3 = true := by decide +kernel
  have hk : okF 10 2 20 8 8 3 4 = true := by decide +kernel
  have hv : lateF 10 2 20 8 8 3 4 = (37, 4, 0) := by decide +kernel
  have htold := told_of (l := 1) hk
  rw [hv] at htold
  have hu : upV 37 4 = 10 := by decide +kernel
  have cl := fun W => Link_any 3 8 2 W
  have e1 : linkB 3 8 2 = true := by decide +kernel
  have e2 : upZ 8 3 + 1 + 2 = 6 := by decide +kernel
  rw [e1, e2] at cl
  simp only [if_true] at cl
  have cb := hidd (fun W => Bound_ok 10 2 20 8 1 4 8 3 37 4 hB hs (by decide) (by decide) (by decide) (by decide) (by decide) (by decide) htold.2.1 W)
  have cr := fun W => Room_ok 10 2 20 8 1 4 8 3 37 4 hB hs (by decide) (by decide) (by decide) (by decide) htold (by rw [hu]; decide) (by rw [hu]; decide) W
  rw [hu] at cr
  have e3 : (20 : Int) + 2 * 10 = 40 := by decide
  rw [e3] at cr
  have ct := fun W => Rate_ok 10 2 20 8 1 8 3 10 hh (by decide +kernel) (by decide +kernel) hs (by decide) (by decide) (by decide) (by decide) 1000001 (by decide) (by decide +kernel) (by decide +kernel) (by decide +kernel) W
  have e4 : search (inTime 10 2 20 8 8 3 10) 1000001 2 1000000 = 4 := by decide +kernel
  rw [e4] at ct
  have CL := hidd cl
  have CR := hidd cr
  have CT := hidd ct
  clear hs hh hB hk hv htold hu cl e1 e2 cr e3 ct e4
  go_enter Try.func12, Try.ntmps12
  go_wp2_with fail
  refine (CL.out _).mono ?_
  rintro e w1 ⟨rfl, hb1⟩
  have HB1 := hidd hb1
  clear hb1
  go_wp2_with fail
  refine (some_any _).mono ?_
  rintro e w2 ⟨rfl, hb2⟩
  have G2 := hidd ((GBox.new (rfl : w1.heap.size = w1.heap.size) 25 8 6).step hb2)
  have HB2 := hidd (below_step (below_new HB1.out _) hb2)
  clear hb2
  go_wp2_with fail
  refine (cb.out _).mono ?_
  rintro e w3 ⟨rfl, hb3⟩
  have G3 := hidd (G2.out.step hb3)
  have HB3 := hidd (below_step HB2.out hb3)
  clear hb3
  go_wp2_with fail
  refine (some_any _).mono ?_
  rintro e w4 ⟨rfl, hb4⟩
  have G4 := hidd ((G3.out.past _).step hb4)
  have F4 := hidd ((GBox.new (rfl : w3.heap.size = w3.heap.size) 27 37 4).step hb4)
  have HB4 := hidd (below_step (below_new HB3.out _) hb4)
  clear hb4
  go_wp2_with fail
  refine (CR.out _).mono ?_
  rintro e w5 ⟨rfl, hb5⟩
  have G5 := hidd (G4.out.step hb5)
  have F5 := hidd (F4.out.step hb5)
  have HB5 := hidd (below_step HB4.out hb5)
  clear hb5
  go_wp2_with fail
  refine (some_any _).mono ?_
  rintro e w6 ⟨rfl, hb6⟩
  have G6 := hidd (G5.out.step hb6)
  have F6 := hidd (F5.out.step hb6)
  have HB6 := hidd (below_step HB5.out hb6)
  clear hb6
  go_wp2_with fail
  refine (CT.out _).mono ?_
  rintro e w7 ⟨rfl, hb7⟩
  have HB7 := hidd (below_step HB6.out hb7)
  obtain ⟨_, g1, g2, _, _⟩ := G6.out.step hb7
  obtain ⟨_, f1, f2, _, _⟩ := F6.out.step hb7
  clear hb7
  go_wp2_with fail
  go_ret
  exact ⟨by first | rfl | simp, HB7.out⟩
theorem refTerms_any (c d : Int) (w : World) : Calls Try.prog 10 #[.agg #[.int .i64 c, .int .i64 d]] w fun e w' => e = .returned (.bool (termsB c d)) ∧ Below w.heap.size w w' := by
  by_cases h1 : 0 ≤ c
  · by_cases h2 : c ≤ 10000000
    · by_cases h3 : 0 ≤ d
      · have e1 : termsB c d = decide (d ≤ 1000000) := by simp [termsB, fromB, h1, h2, h3]
        rw [e1]
        clear e1
        go_enter Try.func10, Try.ntmps10
        go_wp2
        go_ret
        exact ⟨by simp, by (repeat' (first | (with_reducible exact Below.refl _ _) | (with_reducible assumption) | (with_reducible apply Below.setCell) | (with_reducible apply Below.alloc) | (with_reducible apply Below.drew) | (with_reducible apply below_drewN) | (with_reducible refine Below.trans ?_ (Below.mono (by assumption) ?_)) | omega | (simp; done) | (simp; omega)))⟩
      · have e1 : termsB c d = false := by simp [termsB, fromB, h3]
        have h3d : decide (0 ≤ d) = false := decide_eq_false h3
        rw [e1]
        clear e1
        go_enter Try.func10, Try.ntmps10
        go_wp2
        go_ret
        exact ⟨by simp, by (repeat' (first | (with_reducible exact Below.refl _ _) | (with_reducible assumption) | (with_reducible apply Below.setCell) | (with_reducible apply Below.alloc) | (with_reducible apply Below.drew) | (with_reducible apply below_drewN) | (with_reducible refine Below.trans ?_ (Below.mono (by assumption) ?_)) | omega | (simp; done) | (simp; omega)))⟩
    · have e1 : termsB c d = false := by simp [termsB, fromB, h2]
      have h3d : decide (c ≤ 10000000) = false := decide_eq_false h2
      rw [e1]
      clear e1
      go_enter Try.func10, Try.ntmps10
      go_wp2
      go_ret
      exact ⟨by simp, by (repeat' (first | (with_reducible exact Below.refl _ _) | (with_reducible assumption) | (with_reducible apply Below.setCell) | (with_reducible apply Below.alloc) | (with_reducible apply Below.drew) | (with_reducible apply below_drewN) | (with_reducible refine Below.trans ?_ (Below.mono (by assumption) ?_)) | omega | (simp; done) | (simp; omega)))⟩
  · have e1 : termsB c d = false := by simp [termsB, fromB, h1]
    have h3d : decide (0 ≤ c) = false := decide_eq_false h1
    rw [e1]
    clear e1
    go_enter Try.func10, Try.ntmps10
    go_wp2
    go_ret
    exact ⟨by simp, by (repeat' (first | (with_reducible exact Below.refl _ _) | (with_reducible assumption) | (with_reducible apply Below.setCell) | (with_reducible apply Below.alloc) | (with_reducible apply Below.drew) | (with_reducible apply below_drewN) | (with_reducible refine Below.trans ?_ (Below.mono (by assumption) ?_)) | omega | (simp; done) | (simp; omega)))⟩
theorem upZ_eq {n d : Int} (h0 : 0 ≤ n) (hd : 1 ≤ d) : upZ n d = if 0 < n % d then n / d + 1 else n / d := by
  unfold upZ
  have h1 := Int.emod_add_mul_ediv n d
  have h2 := Int.emod_nonneg n (show d ≠ 0 by omega)
  have h3 := Int.emod_lt_of_pos n (show 0 < d by omega)
  by_cases h : 0 < n % d
  · rw [if_pos h]
    have := ((Int.ediv_emod_unique (a := -n) (q := -(n / d) - 1) (r := d - n % d) (show 0 < d by omega)).2 ⟨by
      have : d * (-(n / d) - 1) = -(d * (n / d)) - d := by rw [Int.mul_sub, Int.mul_neg, Int.mul_one]
      omega, by omega, by omega⟩).1
    omega
  · rw [if_neg h]
    have := ((Int.ediv_emod_unique (a := -n) (q := -(n / d)) (r := 0) (show 0 < d by omega)).2 ⟨by
      have : d * (-(n / d)) = -(d * (n / d)) := Int.mul_neg _ _
      omega, by omega, by omega⟩).1
    omega
end Go.Proofs.Ytianceglbkcmpaa
