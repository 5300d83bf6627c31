/- Maps: may a link be, as the document says it. -/
import Derived.Test.YtjnceoklnmmhjaaGreatTpB
namespace Go.Proofs.YtjnceoklnmmhjaaGreat.Tp
set_option linter.unusedVariables false
open Go.RowKit

theorem right_of (n a0 a1 a2 a3 a4 a5 a6 a7 : Int) (B : Bool) (h : B = true ↔ (1 ≤ n ∧ n ≤ 16) ∧ (0 ≤ a0 ∧ a0 ≤ n - 1) ∧ (0 ≤ a1 ∧ a1 ≤ n - 1) ∧ a0 ≠ a1 ∧ (1 ≤ a2 ∧ a2 ≤ 1000000) ∧ (0 ≤ a3 ∧ a3 ≤ a2) ∧ (0 ≤ a4 ∧ a4 ≤ 1000) ∧ (1 ≤ a5 ∧ a5 ≤ 2000) ∧ (0 ≤ a6 ∧ a6 ≤ 1000000000) ∧ (0 ≤ a7 ∧ a7 ≤ 1000000)) : rightB n (a0, a1, a2, a3, a4, a5, a6, a7) = B := by
  have := rightB_iff n (a0, a1, a2, a3, a4, a5, a6, a7)
  simp only [fr, tw, rt, sh, fa, mo, ro, fi] at this
  rw [Bool.eq_iff_iff]
  exact this.trans h.symm
set_option maxRecDepth 100000 in
set_option maxHeartbeats 4000000 in
theorem right_x0 (a0 a1 a2 a3 a4 a5 a6 a7 n : Int) (w : World) (h0 : a0 < 0) : Calls Tryz.prog 16 #[.agg #[.int .i64 a0, .int .i64 a1, .int .i64 a2, .int .i64 a3, .int .i64 a4, .int .i64 a5, .int .i64 a6, .int .i64 a7], .int .i64 n] w fun e w' => e = .returned (.bool false) ∧ Below w.heap.size w w' := by
  have b0 : decide (a0 < 0) = true := decide_eq_true h0
  go_enter Tryz.func16, Tryz.ntmps16
  go_wp2
  go_ret
  exact ⟨by first | rfl | simp, by (repeat' (first | (with_reducible exact Below.refl _ _) | (with_reducible assumption) | (with_reducible apply Below.setCell) | (with_reducible apply Below.alloc) | (with_reducible apply Below.drew) | (with_reducible apply below_drewN) | (with_reducible refine Below.trans ?_ (Below.mono (by assumption) ?_)) | omega | (simp; done) | (simp; omega)))⟩
set_option maxRecDepth 100000 in
set_option maxHeartbeats 4000000 in
theorem right_x1 (a0 a1 a2 a3 a4 a5 a6 a7 n : Int) (w : World) (h0 : ¬ (a0 < 0)) (h1 : n ≤ a0) : Calls Tryz.prog 16 #[.agg #[.int .i64 a0, .int .i64 a1, .int .i64 a2, .int .i64 a3, .int .i64 a4, .int .i64 a5, .int .i64 a6, .int .i64 a7], .int .i64 n] w fun e w' => e = .returned (.bool false) ∧ Below w.heap.size w w' := by
  have b0 : decide (a0 < 0) = false := decide_eq_false h0
  have b1 : decide (n ≤ a0) = true := decide_eq_true h1
  go_enter Tryz.func16, Tryz.ntmps16
  go_wp2
  go_ret
  exact ⟨by first | rfl | simp, by (repeat' (first | (with_reducible exact Below.refl _ _) | (with_reducible assumption) | (with_reducible apply Below.setCell) | (with_reducible apply Below.alloc) | (with_reducible apply Below.drew) | (with_reducible apply below_drewN) | (with_reducible refine Below.trans ?_ (Below.mono (by assumption) ?_)) | omega | (simp; done) | (simp; omega)))⟩
set_option maxRecDepth 100000 in
set_option maxHeartbeats 4000000 in
theorem right_x2 (a0 a1 a2 a3 a4 a5 a6 a7 n : Int) (w : World) (h0 : ¬ (a0 < 0)) (h1 : ¬ (n ≤ a0)) (h2 : a1 < 0) : Calls Tryz.prog 16 #[.agg #[.int .i64 a0, .int .i64 a1, .int .i64 a2, .int .i64 a3, .int .i64 a4, .int .i64 a5, .int .i64 a6, .int .i64 a7], .int .i64 n] w fun e w' => e = .returned (.bool false) ∧ Below w.heap.size w w' := by
  have b0 : decide (a0 < 0) = false := decide_eq_false h0
  have b1 : decide (n ≤ a0) = false := decide_eq_false h1
  have b2 : decide (a1 < 0) = true := decide_eq_true h2
  go_enter Tryz.func16, Tryz.ntmps16
  go_wp2
  go_ret
  exact ⟨by first | rfl | simp, by (repeat' (first | (with_reducible exact Below.refl _ _) | (with_reducible assumption) | (with_reducible apply Below.setCell) | (with_reducible apply Below.alloc) | (with_reducible apply Below.drew) | (with_reducible apply below_drewN) | (with_reducible refine Below.trans ?_ (Below.mono (by assumption) ?_)) | omega | (simp; done) | (simp; omega)))⟩
set_option maxRecDepth 100000 in
set_option maxHeartbeats 4000000 in
theorem right_x3 (a0 a1 a2 a3 a4 a5 a6 a7 n : Int) (w : World) (h0 : ¬ (a0 < 0)) (h1 : ¬ (n ≤ a0)) (h2 : ¬ (a1 < 0)) (h3 : n ≤ a1) : Calls Tryz.prog 16 #[.agg #[.int .i64 a0, .int .i64 a1, .int .i64 a2, .int .i64 a3, .int .i64 a4, .int .i64 a5, .int .i64 a6, .int .i64 a7], .int .i64 n] w fun e w' => e = .returned (.bool false) ∧ Below w.heap.size w w' := by
  have b0 : decide (a0 < 0) = false := decide_eq_false h0
  have b1 : decide (n ≤ a0) = false := decide_eq_false h1
  have b2 : decide (a1 < 0) = false := decide_eq_false h2
  have b3 : decide (n ≤ a1) = true := decide_eq_true h3
  go_enter Tryz.func16, Tryz.ntmps16
  go_wp2
  go_ret
  exact ⟨by first | rfl | simp, by (repeat' (first | (with_reducible exact Below.refl _ _) | (with_reducible assumption) | (with_reducible apply Below.setCell) | (with_reducible apply Below.alloc) | (with_reducible apply Below.drew) | (with_reducible apply below_drewN) | (with_reducible refine Below.trans ?_ (Below.mono (by assumption) ?_)) | omega | (simp; done) | (simp; omega)))⟩
set_option maxRecDepth 100000 in
set_option maxHeartbeats 4000000 in
theorem right_x4 (a0 a1 a2 a3 a4 a5 a6 a7 n : Int) (w : World) (h0 : ¬ (a0 < 0)) (h1 : ¬ (n ≤ a0)) (h2 : ¬ (a1 < 0)) (h3 : ¬ (n ≤ a1)) (h4 : a0 = a1) : Calls Tryz.prog 16 #[.agg #[.int .i64 a0, .int .i64 a1, .int .i64 a2, .int .i64 a3, .int .i64 a4, .int .i64 a5, .int .i64 a6, .int .i64 a7], .int .i64 n] w fun e w' => e = .returned (.bool false) ∧ Below w.heap.size w w' := by
  have b0 : decide (a0 < 0) = false := decide_eq_false h0
  have b1 : decide (n ≤ a0) = false := decide_eq_false h1
  have b2 : decide (a1 < 0) = false := decide_eq_false h2
  have b3 : decide (n ≤ a1) = false := decide_eq_false h3
  have b4 : decide (a0 = a1) = true := decide_eq_true h4
  go_enter Tryz.func16, Tryz.ntmps16
  go_wp2
  go_ret
  exact ⟨by first | rfl | simp, by (repeat' (first | (with_reducible exact Below.refl _ _) | (with_reducible assumption) | (with_reducible apply Below.setCell) | (with_reducible apply Below.alloc) | (with_reducible apply Below.drew) | (with_reducible apply below_drewN) | (with_reducible refine Below.trans ?_ (Below.mono (by assumption) ?_)) | omega | (simp; done) | (simp; omega)))⟩
set_option maxRecDepth 100000 in
set_option maxHeartbeats 4000000 in
theorem right_x5 (a0 a1 a2 a3 a4 a5 a6 a7 n : Int) (w : World) (h0 : ¬ (a0 < 0)) (h1 : ¬ (n ≤ a0)) (h2 : ¬ (a1 < 0)) (h3 : ¬ (n ≤ a1)) (h4 : ¬ (a0 = a1)) (h5 : 16 < n) : Calls Tryz.prog 16 #[.agg #[.int .i64 a0, .int .i64 a1, .int .i64 a2, .int .i64 a3, .int .i64 a4, .int .i64 a5, .int .i64 a6, .int .i64 a7], .int .i64 n] w fun e w' => e = .returned (.bool false) ∧ Below w.heap.size w w' := by
  have b0 : decide (a0 < 0) = false := decide_eq_false h0
  have b1 : decide (n ≤ a0) = false := decide_eq_false h1
  have b2 : decide (a1 < 0) = false := decide_eq_false h2
  have b3 : decide (n ≤ a1) = false := decide_eq_false h3
  have b4 : decide (a0 = a1) = false := decide_eq_false h4
  have b5 : decide (16 < n) = true := decide_eq_true h5
  go_enter Tryz.func16, Tryz.ntmps16
  go_wp2
  go_ret
  exact ⟨by first | rfl | simp, by (repeat' (first | (with_reducible exact Below.refl _ _) | (with_reducible assumption) | (with_reducible apply Below.setCell) | (with_reducible apply Below.alloc) | (with_reducible apply Below.drew) | (with_reducible apply below_drewN) | (with_reducible refine Below.trans ?_ (Below.mono (by assumption) ?_)) | omega | (simp; done) | (simp; omega)))⟩
set_option maxRecDepth 100000 in
set_option maxHeartbeats 4000000 in
theorem right_y0 (a0 a1 a2 a3 a4 a5 a6 a7 n : Int) (w : World) (h0 : ¬ (a0 < 0)) (h1 : ¬ (n ≤ a0)) (h2 : ¬ (a1 < 0)) (h3 : ¬ (n ≤ a1)) (h4 : ¬ (a0 = a1)) (h5 : ¬ (16 < n)) (h6 : ¬ (1 ≤ a2)) : Calls Tryz.prog 16 #[.agg #[.int .i64 a0, .int .i64 a1, .int .i64 a2, .int .i64 a3, .int .i64 a4, .int .i64 a5, .int .i64 a6, .int .i64 a7], .int .i64 n] w fun e w' => e = .returned (.bool false) ∧ Below w.heap.size w w' := by
  have b0 : decide (a0 < 0) = false := decide_eq_false h0
  have b1 : decide (n ≤ a0) = false := decide_eq_false h1
  have b2 : decide (a1 < 0) = false := decide_eq_false h2
  have b3 : decide (n ≤ a1) = false := decide_eq_false h3
  have b4 : decide (a0 = a1) = false := decide_eq_false h4
  have b5 : decide (16 < n) = false := decide_eq_false h5
  have b6 : decide (1 ≤ a2) = false := decide_eq_false h6
  go_enter Tryz.func16, Tryz.ntmps16
  go_wp2
  go_ret
  exact ⟨by first | rfl | simp, by (repeat' (first | (with_reducible exact Below.refl _ _) | (with_reducible assumption) | (with_reducible apply Below.setCell) | (with_reducible apply Below.alloc) | (with_reducible apply Below.drew) | (with_reducible apply below_drewN) | (with_reducible refine Below.trans ?_ (Below.mono (by assumption) ?_)) | omega | (simp; done) | (simp; omega)))⟩
set_option maxRecDepth 100000 in
set_option maxHeartbeats 4000000 in
theorem right_y1 (a0 a1 a2 a3 a4 a5 a6 a7 n : Int) (w : World) (h0 : ¬ (a0 < 0)) (h1 : ¬ (n ≤ a0)) (h2 : ¬ (a1 < 0)) (h3 : ¬ (n ≤ a1)) (h4 : ¬ (a0 = a1)) (h5 : ¬ (16 < n)) (h6 : 1 ≤ a2) (h7 : ¬ (a2 ≤ 1000000)) : Calls Tryz.prog 16 #[.agg #[.int .i64 a0, .int .i64 a1, .int .i64 a2, .int .i64 a3, .int .i64 a4, .int .i64 a5, .int .i64 a6, .int .i64 a7], .int .i64 n] w fun e w' => e = .returned (.bool false) ∧ Below w.heap.size w w' := by
  have b0 : decide (a0 < 0) = false := decide_eq_false h0
  have b1 : decide (n ≤ a0) = false := decide_eq_false h1
  have b2 : decide (a1 < 0) = false := decide_eq_false h2
  have b3 : decide (n ≤ a1) = false := decide_eq_false h3
  have b4 : decide (a0 = a1) = false := decide_eq_false h4
  have b5 : decide (16 < n) = false := decide_eq_false h5
  have b6 : decide (1 ≤ a2) = true := decide_eq_true h6
  have b7 : decide (a2 ≤ 1000000) = false := decide_eq_false h7
  go_enter Tryz.func16, Tryz.ntmps16
  go_wp2
  go_ret
  exact ⟨by first | rfl | simp, by (repeat' (first | (with_reducible exact Below.refl _ _) | (with_reducible assumption) | (with_reducible apply Below.setCell) | (with_reducible apply Below.alloc) | (with_reducible apply Below.drew) | (with_reducible apply below_drewN) | (with_reducible refine Below.trans ?_ (Below.mono (by assumption) ?_)) | omega | (simp; done) | (simp; omega)))⟩
set_option maxRecDepth 100000 in
set_option maxHeartbeats 4000000 in
theorem right_y2 (a0 a1 a2 a3 a4 a5 a6 a7 n : Int) (w : World) (h0 : ¬ (a0 < 0)) (h1 : ¬ (n ≤ a0)) (h2 : ¬ (a1 < 0)) (h3 : ¬ (n ≤ a1)) (h4 : ¬ (a0 = a1)) (h5 : ¬ (16 < n)) (h6 : 1 ≤ a2) (h7 : a2 ≤ 1000000) (h8 : ¬ (0 ≤ a3)) : Calls Tryz.prog 16 #[.agg #[.int .i64 a0, .int .i64 a1, .int .i64 a2, .int .i64 a3, .int .i64 a4, .int .i64 a5, .int .i64 a6, .int .i64 a7], .int .i64 n] w fun e w' => e = .returned (.bool false) ∧ Below w.heap.size w w' := by
  have b0 : decide (a0 < 0) = false := decide_eq_false h0
  have b1 : decide (n ≤ a0) = false := decide_eq_false h1
  have b2 : decide (a1 < 0) = false := decide_eq_false h2
  have b3 : decide (n ≤ a1) = false := decide_eq_false h3
  have b4 : decide (a0 = a1) = false := decide_eq_false h4
  have b5 : decide (16 < n) = false := decide_eq_false h5
  have b6 : decide (1 ≤ a2) = true := decide_eq_true h6
  have b7 : decide (a2 ≤ 1000000) = true := decide_eq_true h7
  have b8 : decide (0 ≤ a3) = false := decide_eq_false h8
  go_enter Tryz.func16, Tryz.ntmps16
  go_wp2
  go_ret
  exact ⟨by first | rfl | simp, by (repeat' (first | (with_reducible exact Below.refl _ _) | (with_reducible assumption) | (with_reducible apply Below.setCell) | (with_reducible apply Below.alloc) | (with_reducible apply Below.drew) | (with_reducible apply below_drewN) | (with_reducible refine Below.trans ?_ (Below.mono (by assumption) ?_)) | omega | (simp; done) | (simp; omega)))⟩
set_option maxRecDepth 100000 in
set_option maxHeartbeats 4000000 in
theorem right_y3 (a0 a1 a2 a3 a4 a5 a6 a7 n : Int) (w : World) (h0 : ¬ (a0 < 0)) (h1 : ¬ (n ≤ a0)) (h2 : ¬ (a1 < 0)) (h3 : ¬ (n ≤ a1)) (h4 : ¬ (a0 = a1)) (h5 : ¬ (16 < n)) (h6 : 1 ≤ a2) (h7 : a2 ≤ 1000000) (h8 : 0 ≤ a3) (h9 : ¬ (a3 ≤ a2)) : Calls Tryz.prog 16 #[.agg #[.int .i64 a0, .int .i64 a1, .int .i64 a2, .int .i64 a3, .int .i64 a4, .int .i64 a5, .int .i64 a6, .int .i64 a7], .int .i64 n] w fun e w' => e = .returned (.bool false) ∧ Below w.heap.size w w' := by
  have b0 : decide (a0 < 0) = false := decide_eq_false h0
  have b1 : decide (n ≤ a0) = false := decide_eq_false h1
  have b2 : decide (a1 < 0) = false := decide_eq_false h2
  have b3 : decide (n ≤ a1) = false := decide_eq_false h3
  have b4 : decide (a0 = a1) = false := decide_eq_false h4
  have b5 : decide (16 < n) = false := decide_eq_false h5
  have b6 : decide (1 ≤ a2) = true := decide_eq_true h6
  have b7 : decide (a2 ≤ 1000000) = true := decide_eq_true h7
  have b8 : decide (0 ≤ a3) = true := decide_eq_true h8
  have b9 : decide (a3 ≤ a2) = false := decide_eq_false h9
  go_enter Tryz.func16, Tryz.ntmps16
  go_wp2
  go_ret
  exact ⟨by first | rfl | simp, by (repeat' (first | (with_reducible exact Below.refl _ _) | (with_reducible assumption) | (with_reducible apply Below.setCell) | (with_reducible apply Below.alloc) | (with_reducible apply Below.drew) | (with_reducible apply below_drewN) | (with_reducible refine Below.trans ?_ (Below.mono (by assumption) ?_)) | omega | (simp; done) | (simp; omega)))⟩
set_option maxRecDepth 100000 in
set_option maxHeartbeats 4000000 in
theorem right_y4 (a0 a1 a2 a3 a4 a5 a6 a7 n : Int) (w : World) (h0 : ¬ (a0 < 0)) (h1 : ¬ (n ≤ a0)) (h2 : ¬ (a1 < 0)) (h3 : ¬ (n ≤ a1)) (h4 : ¬ (a0 = a1)) (h5 : ¬ (16 < n)) (h6 : 1 ≤ a2) (h7 : a2 ≤ 1000000) (h8 : 0 ≤ a3) (h9 : a3 ≤ a2) (h10 : ¬ (0 ≤ a4)) : Calls Tryz.prog 16 #[.agg #[.int .i64 a0, .int .i64 a1, .int .i64 a2, .int .i64 a3, .int .i64 a4, .int .i64 a5, .int .i64 a6, .int .i64 a7], .int .i64 n] w fun e w' => e = .returned (.bool false) ∧ Below w.heap.size w w' := by
  have b0 : decide (a0 < 0) = false := decide_eq_false h0
  have b1 : decide (n ≤ a0) = false := decide_eq_false h1
  have b2 : decide (a1 < 0) = false := decide_eq_false h2
  have b3 : decide (n ≤ a1) = false := decide_eq_false h3
  have b4 : decide (a0 = a1) = false := decide_eq_false h4
  have b5 : decide (16 < n) = false := decide_eq_false h5
  have b6 : decide (1 ≤ a2) = true := decide_eq_true h6
  have b7 : decide (a2 ≤ 1000000) = true := decide_eq_true h7
  have b8 : decide (0 ≤ a3) = true := decide_eq_true h8
  have b9 : decide (a3 ≤ a2) = true := decide_eq_true h9
  have b10 : decide (0 ≤ a4) = false := decide_eq_false h10
  go_enter Tryz.func16, Tryz.ntmps16
  go_wp2
  go_ret
  exact ⟨by first | rfl | simp, by (repeat' (first | (with_reducible exact Below.refl _ _) | (with_reducible assumption) | (with_reducible apply Below.setCell) | (with_reducible apply Below.alloc) | (with_reducible apply Below.drew) | (with_reducible apply below_drewN) | (with_reducible refine Below.trans ?_ (Below.mono (by assumption) ?_)) | omega | (simp; done) | (simp; omega)))⟩
set_option maxRecDepth 100000 in
set_option maxHeartbeats 4000000 in
theorem right_y5 (a0 a1 a2 a3 a4 a5 a6 a7 n : Int) (w : World) (h0 : ¬ (a0 < 0)) (h1 : ¬ (n ≤ a0)) (h2 : ¬ (a1 < 0)) (h3 : ¬ (n ≤ a1)) (h4 : ¬ (a0 = a1)) (h5 : ¬ (16 < n)) (h6 : 1 ≤ a2) (h7 : a2 ≤ 1000000) (h8 : 0 ≤ a3) (h9 : a3 ≤ a2) (h10 : 0 ≤ a4) (h11 : ¬ (a4 ≤ 1000)) : Calls Tryz.prog 16 #[.agg #[.int .i64 a0, .int .i64 a1, .int .i64 a2, .int .i64 a3, .int .i64 a4, .int .i64 a5, .int .i64 a6, .int .i64 a7], .int .i64 n] w fun e w' => e = .returned (.bool false) ∧ Below w.heap.size w w' := by
  have b0 : decide (a0 < 0) = false := decide_eq_false h0
  have b1 : decide (n ≤ a0) = false := decide_eq_false h1
  have b2 : decide (a1 < 0) = false := decide_eq_false h2
  have b3 : decide (n ≤ a1) = false := decide_eq_false h3
  have b4 : decide (a0 = a1) = false := decide_eq_false h4
  have b5 : decide (16 < n) = false := decide_eq_false h5
  have b6 : decide (1 ≤ a2) = true := decide_eq_true h6
  have b7 : decide (a2 ≤ 1000000) = true := decide_eq_true h7
  have b8 : decide (0 ≤ a3) = true := decide_eq_true h8
  have b9 : decide (a3 ≤ a2) = true := decide_eq_true h9
  have b10 : decide (0 ≤ a4) = true := decide_eq_true h10
  have b11 : decide (a4 ≤ 1000) = false := decide_eq_false h11
  go_enter Tryz.func16, Tryz.ntmps16
  go_wp2
  go_ret
  exact ⟨by first | rfl | simp, by (repeat' (first | (with_reducible exact Below.refl _ _) | (with_reducible assumption) | (with_reducible apply Below.setCell) | (with_reducible apply Below.alloc) | (with_reducible apply Below.drew) | (with_reducible apply below_drewN) | (with_reducible refine Below.trans ?_ (Below.mono (by assumption) ?_)) | omega | (simp; done) | (simp; omega)))⟩
set_option maxRecDepth 100000 in
set_option maxHeartbeats 4000000 in
theorem right_y6 (a0 a1 a2 a3 a4 a5 a6 a7 n : Int) (w : World) (h0 : ¬ (a0 < 0)) (h1 : ¬ (n ≤ a0)) (h2 : ¬ (a1 < 0)) (h3 : ¬ (n ≤ a1)) (h4 : ¬ (a0 = a1)) (h5 : ¬ (16 < n)) (h6 : 1 ≤ a2) (h7 : a2 ≤ 1000000) (h8 : 0 ≤ a3) (h9 : a3 ≤ a2) (h10 : 0 ≤ a4) (h11 : a4 ≤ 1000) (h12 : ¬ (1 ≤ a5)) : Calls Tryz.prog 16 #[.agg #[.int .i64 a0, .int .i64 a1, .int .i64 a2, .int .i64 a3, .int .i64 a4, .int .i64 a5, .int .i64 a6, .int .i64 a7], .int .i64 n] w fun e w' => e = .returned (.bool false) ∧ Below w.heap.size w w' := by
  have b0 : decide (a0 < 0) = false := decide_eq_false h0
  have b1 : decide (n ≤ a0) = false := decide_eq_false h1
  have b2 : decide (a1 < 0) = false := decide_eq_false h2
  have b3 : decide (n ≤ a1) = false := decide_eq_false h3
  have b4 : decide (a0 = a1) = false := decide_eq_false h4
  have b5 : decide (16 < n) = false := decide_eq_false h5
  have b6 : decide (1 ≤ a2) = true := decide_eq_true h6
  have b7 : decide (a2 ≤ 1000000) = true := decide_eq_true h7
  have b8 : decide (0 ≤ a3) = true := decide_eq_true h8
  have b9 : decide (a3 ≤ a2) = true := decide_eq_true h9
  have b10 : decide (0 ≤ a4) = true := decide_eq_true h10
  have b11 : decide (a4 ≤ 1000) = true := decide_eq_true h11
  have b12 : decide (1 ≤ a5) = false := decide_eq_false h12
  go_enter Tryz.func16, Tryz.ntmps16
  go_wp2
  go_ret
  exact ⟨by first | rfl | simp, by (repeat' (first | (with_reducible exact Below.refl _ _) | (with_reducible assumption) | (with_reducible apply Below.setCell) | (with_reducible apply Below.alloc) | (with_reducible apply Below.drew) | (with_reducible apply below_drewN) | (with_reducible refine Below.trans ?_ (Below.mono (by assumption) ?_)) | omega | (simp; done) | (simp; omega)))⟩
set_option maxRecDepth 100000 in
set_option maxHeartbeats 4000000 in
theorem right_y7 (a0 a1 a2 a3 a4 a5 a6 a7 n : Int) (w : World) (h0 : ¬ (a0 < 0)) (h1 : ¬ (n ≤ a0)) (h2 : ¬ (a1 < 0)) (h3 : ¬ (n ≤ a1)) (h4 : ¬ (a0 = a1)) (h5 : ¬ (16 < n)) (h6 : 1 ≤ a2) (h7 : a2 ≤ 1000000) (h8 : 0 ≤ a3) (h9 : a3 ≤ a2) (h10 : 0 ≤ a4) (h11 : a4 ≤ 1000) (h12 : 1 ≤ a5) (h13 : ¬ (a5 ≤ 2000)) : Calls Tryz.prog 16 #[.agg #[.int .i64 a0, .int .i64 a1, .int .i64 a2, .int .i64 a3, .int .i64 a4, .int .i64 a5, .int .i64 a6, .int .i64 a7], .int .i64 n] w fun e w' => e = .returned (.bool false) ∧ Below w.heap.size w w' := by
  have b0 : decide (a0 < 0) = false := decide_eq_false h0
  have b1 : decide (n ≤ a0) = false := decide_eq_false h1
  have b2 : decide (a1 < 0) = false := decide_eq_false h2
  have b3 : decide (n ≤ a1) = false := decide_eq_false h3
  have b4 : decide (a0 = a1) = false := decide_eq_false h4
  have b5 : decide (16 < n) = false := decide_eq_false h5
  have b6 : decide (1 ≤ a2) = true := decide_eq_true h6
  have b7 : decide (a2 ≤ 1000000) = true := decide_eq_true h7
  have b8 : decide (0 ≤ a3) = true := decide_eq_true h8
  have b9 : decide (a3 ≤ a2) = true := decide_eq_true h9
  have b10 : decide (0 ≤ a4) = true := decide_eq_true h10
  have b11 : decide (a4 ≤ 1000) = true := decide_eq_true h11
  have b12 : decide (1 ≤ a5) = true := decide_eq_true h12
  have b13 : decide (a5 ≤ 2000) = false := decide_eq_false h13
  go_enter Tryz.func16, Tryz.ntmps16
  go_wp2
  go_ret
  exact ⟨by first | rfl | simp, by (repeat' (first | (with_reducible exact Below.refl _ _) | (with_reducible assumption) | (with_reducible apply Below.setCell) | (with_reducible apply Below.alloc) | (with_reducible apply Below.drew) | (with_reducible apply below_drewN) | (with_reducible refine Below.trans ?_ (Below.mono (by assumption) ?_)) | omega | (simp; done) | (simp; omega)))⟩
set_option maxRecDepth 100000 in
set_option maxHeartbeats 4000000 in
theorem right_y8 (a0 a1 a2 a3 a4 a5 a6 a7 n : Int) (w : World) (h0 : ¬ (a0 < 0)) (h1 : ¬ (n ≤ a0)) (h2 : ¬ (a1 < 0)) (h3 : ¬ (n ≤ a1)) (h4 : ¬ (a0 = a1)) (h5 : ¬ (16 < n)) (h6 : 1 ≤ a2) (h7 : a2 ≤ 1000000) (h8 : 0 ≤ a3) (h9 : a3 ≤ a2) (h10 : 0 ≤ a4) (h11 : a4 ≤ 1000) (h12 : 1 ≤ a5) (h13 : a5 ≤ 2000) (h14 : ¬ (0 ≤ a6)) : Calls Tryz.prog 16 #[.agg #[.int .i64 a0, .int .i64 a1, .int .i64 a2, .int .i64 a3, .int .i64 a4, .int .i64 a5, .int .i64 a6, .int .i64 a7], .int .i64 n] w fun e w' => e = .returned (.bool false) ∧ Below w.heap.size w w' := by
  have b0 : decide (a0 < 0) = false := decide_eq_false h0
  have b1 : decide (n ≤ a0) = false := decide_eq_false h1
  have b2 : decide (a1 < 0) = false := decide_eq_false h2
  have b3 : decide (n ≤ a1) = false := decide_eq_false h3
  have b4 : decide (a0 = a1) = false := decide_eq_false h4
  have b5 : decide (16 < n) = false := decide_eq_false h5
  have b6 : decide (1 ≤ a2) = true := decide_eq_true h6
  have b7 : decide (a2 ≤ 1000000) = true := decide_eq_true h7
  have b8 : decide (0 ≤ a3) = true := decide_eq_true h8
  have b9 : decide (a3 ≤ a2) = true := decide_eq_true h9
  have b10 : decide (0 ≤ a4) = true := decide_eq_true h10
  have b11 : decide (a4 ≤ 1000) = true := decide_eq_true h11
  have b12 : decide (1 ≤ a5) = true := decide_eq_true h12
  have b13 : decide (a5 ≤ 2000) = true := decide_eq_true h13
  have b14 : decide (0 ≤ a6) = false := decide_eq_false h14
  go_enter Tryz.func16, Tryz.ntmps16
  go_wp2
  go_ret
  exact ⟨by first | rfl | simp, by (repeat' (first | (with_reducible exact Below.refl _ _) | (with_reducible assumption) | (with_reducible apply Below.setCell) | (with_reducible apply Below.alloc) | (with_reducible apply Below.drew) | (with_reducible apply below_drewN) | (with_reducible refine Below.trans ?_ (Below.mono (by assumption) ?_)) | omega | (simp; done) | (simp; omega)))⟩
set_option maxRecDepth 100000 in
set_option maxHeartbeats 4000000 in
theorem right_y9 (a0 a1 a2 a3 a4 a5 a6 a7 n : Int) (w : World) (h0 : ¬ (a0 < 0)) (h1 : ¬ (n ≤ a0)) (h2 : ¬ (a1 < 0)) (h3 : ¬ (n ≤ a1)) (h4 : ¬ (a0 = a1)) (h5 : ¬ (16 < n)) (h6 : 1 ≤ a2) (h7 : a2 ≤ 1000000) (h8 : 0 ≤ a3) (h9 : a3 ≤ a2) (h10 : 0 ≤ a4) (h11 : a4 ≤ 1000) (h12 : 1 ≤ a5) (h13 : a5 ≤ 2000) (h14 : 0 ≤ a6) (h15 : ¬ (a6 ≤ 1000000000)) : Calls Tryz.prog 16 #[.agg #[.int .i64 a0, .int .i64 a1, .int .i64 a2, .int .i64 a3, .int .i64 a4, .int .i64 a5, .int .i64 a6, .int .i64 a7], .int .i64 n] w fun e w' => e = .returned (.bool false) ∧ Below w.heap.size w w' := by
  have b0 : decide (a0 < 0) = false := decide_eq_false h0
  have b1 : decide (n ≤ a0) = false := decide_eq_false h1
  have b2 : decide (a1 < 0) = false := decide_eq_false h2
  have b3 : decide (n ≤ a1) = false := decide_eq_false h3
  have b4 : decide (a0 = a1) = false := decide_eq_false h4
  have b5 : decide (16 < n) = false := decide_eq_false h5
  have b6 : decide (1 ≤ a2) = true := decide_eq_true h6
  have b7 : decide (a2 ≤ 1000000) = true := decide_eq_true h7
  have b8 : decide (0 ≤ a3) = true := decide_eq_true h8
  have b9 : decide (a3 ≤ a2) = true := decide_eq_true h9
  have b10 : decide (0 ≤ a4) = true := decide_eq_true h10
  have b11 : decide (a4 ≤ 1000) = true := decide_eq_true h11
  have b12 : decide (1 ≤ a5) = true := decide_eq_true h12
  have b13 : decide (a5 ≤ 2000) = true := decide_eq_true h13
  have b14 : decide (0 ≤ a6) = true := decide_eq_true h14
  have b15 : decide (a6 ≤ 1000000000) = false := decide_eq_false h15
  go_enter Tryz.func16, Tryz.ntmps16
  go_wp2
  go_ret
  exact ⟨by first | rfl | simp, by (repeat' (first | (with_reducible exact Below.refl _ _) | (with_reducible assumption) | (with_reducible apply Below.setCell) | (with_reducible apply Below.alloc) | (with_reducible apply Below.drew) | (with_reducible apply below_drewN) | (with_reducible refine Below.trans ?_ (Below.mono (by assumption) ?_)) | omega | (simp; done) | (simp; omega)))⟩
set_option maxRecDepth 100000 in
set_option maxHeartbeats 4000000 in
theorem right_y10 (a0 a1 a2 a3 a4 a5 a6 a7 n : Int) (w : World) (h0 : ¬ (a0 < 0)) (h1 : ¬ (n ≤ a0)) (h2 : ¬ (a1 < 0)) (h3 : ¬ (n ≤ a1)) (h4 : ¬ (a0 = a1)) (h5 : ¬ (16 < n)) (h6 : 1 ≤ a2) (h7 : a2 ≤ 1000000) (h8 : 0 ≤ a3) (h9 : a3 ≤ a2) (h10 : 0 ≤ a4) (h11 : a4 ≤ 1000) (h12 : 1 ≤ a5) (h13 : a5 ≤ 2000) (h14 : 0 ≤ a6) (h15 : a6 ≤ 1000000000) (h16 : ¬ (0 ≤ a7)) : Calls Tryz.prog 16 #[.agg #[.int .i64 a0, .int .i64 a1, .int .i64 a2, .int .i64 a3, .int .i64 a4, .int .i64 a5, .int .i64 a6, .int .i64 a7], .int .i64 n] w fun e w' => e = .returned (.bool false) ∧ Below w.heap.size w w' := by
  have b0 : decide (a0 < 0) = false := decide_eq_false h0
  have b1 : decide (n ≤ a0) = false := decide_eq_false h1
  have b2 : decide (a1 < 0) = false := decide_eq_false h2
  have b3 : decide (n ≤ a1) = false := decide_eq_false h3
  have b4 : decide (a0 = a1) = false := decide_eq_false h4
  have b5 : decide (16 < n) = false := decide_eq_false h5
  have b6 : decide (1 ≤ a2) = true := decide_eq_true h6
  have b7 : decide (a2 ≤ 1000000) = true := decide_eq_true h7
  have b8 : decide (0 ≤ a3) = true := decide_eq_true h8
  have b9 : decide (a3 ≤ a2) = true := decide_eq_true h9
  have b10 : decide (0 ≤ a4) = true := decide_eq_true h10
  have b11 : decide (a4 ≤ 1000) = true := decide_eq_true h11
  have b12 : decide (1 ≤ a5) = true := decide_eq_true h12
  have b13 : decide (a5 ≤ 2000) = true := decide_eq_true h13
  have b14 : decide (0 ≤ a6) = true := decide_eq_true h14
  have b15 : decide (a6 ≤ 1000000000) = true := decide_eq_true h15
  have b16 : decide (0 ≤ a7) = false := decide_eq_false h16
  go_enter Tryz.func16, Tryz.ntmps16
  go_wp2
  go_ret
  exact ⟨by first | rfl | simp, by (repeat' (first | (with_reducible exact Below.refl _ _) | (with_reducible assumption) | (with_reducible apply Below.setCell) | (with_reducible apply Below.alloc) | (with_reducible apply Below.drew) | (with_reducible apply below_drewN) | (with_reducible refine Below.trans ?_ (Below.mono (by assumption) ?_)) | omega | (simp; done) | (simp; omega)))⟩
set_option maxRecDepth 100000 in
set_option maxHeartbeats 4000000 in
theorem right_y11 (a0 a1 a2 a3 a4 a5 a6 a7 n : Int) (w : World) (h0 : ¬ (a0 < 0)) (h1 : ¬ (n ≤ a0)) (h2 : ¬ (a1 < 0)) (h3 : ¬ (n ≤ a1)) (h4 : ¬ (a0 = a1)) (h5 : ¬ (16 < n)) (h6 : 1 ≤ a2) (h7 : a2 ≤ 1000000) (h8 : 0 ≤ a3) (h9 : a3 ≤ a2) (h10 : 0 ≤ a4) (h11 : a4 ≤ 1000) (h12 : 1 ≤ a5) (h13 : a5 ≤ 2000) (h14 : 0 ≤ a6) (h15 : a6 ≤ 1000000000) (h16 : 0 ≤ a7) (h17 : ¬ (a7 ≤ 1000000)) : Calls Tryz.prog 16 #[.agg #[.int .i64 a0, .int .i64 a1, .int .i64 a2, .int .i64 a3, .int .i64 a4, .int .i64 a5, .int .i64 a6, .int .i64 a7], .int .i64 n] w fun e w' => e = .returned (.bool false) ∧ Below w.heap.size w w' := by
  have b0 : decide (a0 < 0) = false := decide_eq_false h0
  have b1 : decide (n ≤ a0) = false := decide_eq_false h1
  have b2 : decide (a1 < 0) = false := decide_eq_false h2
  have b3 : decide (n ≤ a1) = false := decide_eq_false h3
  have b4 : decide (a0 = a1) = false := decide_eq_false h4
  have b5 : decide (16 < n) = false := decide_eq_false h5
  have b6 : decide (1 ≤ a2) = true := decide_eq_true h6
  have b7 : decide (a2 ≤ 1000000) = true := decide_eq_true h7
  have b8 : decide (0 ≤ a3) = true := decide_eq_true h8
  have b9 : decide (a3 ≤ a2) = true := decide_eq_true h9
  have b10 : decide (0 ≤ a4) = true := decide_eq_true h10
  have b11 : decide (a4 ≤ 1000) = true := decide_eq_true h11
  have b12 : decide (1 ≤ a5) = true := decide_eq_true h12
  have b13 : decide (a5 ≤ 2000) = true := decide_eq_true h13
  have b14 : decide (0 ≤ a6) = true := decide_eq_true h14
  have b15 : decide (a6 ≤ 1000000000) = true := decide_eq_true h15
  have b16 : decide (0 ≤ a7) = true := decide_eq_true h16
  have b17 : decide (a7 ≤ 1000000) = false := decide_eq_false h17
  go_enter Tryz.func16, Tryz.ntmps16
  go_wp2
  go_ret
  exact ⟨by first | rfl | simp, by (repeat' (first | (with_reducible exact Below.refl _ _) | (with_reducible assumption) | (with_reducible apply Below.setCell) | (with_reducible apply Below.alloc) | (with_reducible apply Below.drew) | (with_reducible apply below_drewN) | (with_reducible refine Below.trans ?_ (Below.mono (by assumption) ?_)) | omega | (simp; done) | (simp; omega)))⟩
set_option maxRecDepth 100000 in
set_option maxHeartbeats 4000000 in
theorem right_z (a0 a1 a2 a3 a4 a5 a6 a7 n : Int) (w : World) (h0 : ¬ (a0 < 0)) (h1 : ¬ (n ≤ a0)) (h2 : ¬ (a1 < 0)) (h3 : ¬ (n ≤ a1)) (h4 : ¬ (a0 = a1)) (h5 : ¬ (16 < n)) (h6 : 1 ≤ a2) (h7 : a2 ≤ 1000000) (h8 : 0 ≤ a3) (h9 : a3 ≤ a2) (h10 : 0 ≤ a4) (h11 : a4 ≤ 1000) (h12 : 1 ≤ a5) (h13 : a5 ≤ 2000) (h14 : 0 ≤ a6) (h15 : a6 ≤ 1000000000) (h16 : 0 ≤ a7) (h17 : a7 ≤ 1000000) : Calls Tryz.prog 16 #[.agg #[.int .i64 a0, .int .i64 a1, .int .i64 a2, .int .i64 a3, .int .i64 a4, .int .i64 a5, .int .i64 a6, .int .i64 a7], .int .i64 n] w fun e w' => e = .returned (.bool true) ∧ Below w.heap.size w w' := by
  have b0 : decide (a0 < 0) = false := decide_eq_false h0
  have b1 : decide (n ≤ a0) = false := decide_eq_false h1
  have b2 : decide (a1 < 0) = false := decide_eq_false h2
  have b3 : decide (n ≤ a1) = false := decide_eq_false h3
  have b4 : decide (a0 = a1) = false := decide_eq_false h4
  have b5 : decide (16 < n) = false := decide_eq_false h5
  have b6 : decide (1 ≤ a2) = true := decide_eq_true h6
  have b7 : decide (a2 ≤ 1000000) = true := decide_eq_true h7
  have b8 : decide (0 ≤ a3) = true := decide_eq_true h8
  have b9 : decide (a3 ≤ a2) = true := decide_eq_true h9
  have b10 : decide (0 ≤ a4) = true := decide_eq_true h10
  have b11 : decide (a4 ≤ 1000) = true := decide_eq_true h11
  have b12 : decide (1 ≤ a5) = true := decide_eq_true h12
  have b13 : decide (a5 ≤ 2000) = true := decide_eq_true h13
  have b14 : decide (0 ≤ a6) = true := decide_eq_true h14
  have b15 : decide (a6 ≤ 1000000000) = true := decide_eq_true h15
  have b16 : decide (0 ≤ a7) = true := decide_eq_true h16
  have b17 : decide (a7 ≤ 1000000) = true := decide_eq_true h17
  go_enter Tryz.func16, Tryz.ntmps16
  go_wp2
  go_ret
  exact ⟨by first | rfl | simp, by (repeat' (first | (with_reducible exact Below.refl _ _) | (with_reducible assumption) | (with_reducible apply Below.setCell) | (with_reducible apply Below.alloc) | (with_reducible apply Below.drew) | (with_reducible apply below_drewN) | (with_reducible refine Below.trans ?_ (Below.mono (by assumption) ?_)) | omega | (simp; done) | (simp; omega)))⟩
theorem refRight_any (a0 a1 a2 a3 a4 a5 a6 a7 n : Int) (w : World) : Calls Tryz.prog 16 #[.agg #[.int .i64 a0, .int .i64 a1, .int .i64 a2, .int .i64 a3, .int .i64 a4, .int .i64 a5, .int .i64 a6, .int .i64 a7], .int .i64 n] w fun e w' => e = .returned (.bool (rightB n (a0, a1, a2, a3, a4, a5, a6, a7))) ∧ Below w.heap.size w w' := by
  by_cases h0 : a0 < 0
  · rw [right_of n a0 a1 a2 a3 a4 a5 a6 a7 false ⟨fun h => absurd h (by decide), fun h => by omega⟩]
    exact right_x0 a0 a1 a2 a3 a4 a5 a6 a7 n w h0
  by_cases h1 : n ≤ a0
  · rw [right_of n a0 a1 a2 a3 a4 a5 a6 a7 false ⟨fun h => absurd h (by decide), fun h => by omega⟩]
    exact right_x1 a0 a1 a2 a3 a4 a5 a6 a7 n w h0 h1
  by_cases h2 : a1 < 0
  · rw [right_of n a0 a1 a2 a3 a4 a5 a6 a7 false ⟨fun h => absurd h (by decide), fun h => by omega⟩]
    exact right_x2 a0 a1 a2 a3 a4 a5 a6 a7 n w h0 h1 h2
  by_cases h3 : n ≤ a1
  · rw [right_of n a0 a1 a2 a3 a4 a5 a6 a7 false ⟨fun h => absurd h (by decide), fun h => by omega⟩]
    exact right_x3 a0 a1 a2 a3 a4 a5 a6 a7 n w h0 h1 h2 h3
  by_cases h4 : a0 = a1
  · rw [right_of n a0 a1 a2 a3 a4 a5 a6 a7 false ⟨fun h => absurd h (by decide), fun h => by omega⟩]
    exact right_x4 a0 a1 a2 a3 a4 a5 a6 a7 n w h0 h1 h2 h3 h4
  by_cases h5 : 16 < n
  · rw [right_of n a0 a1 a2 a3 a4 a5 a6 a7 false ⟨fun h => absurd h (by decide), fun h => by omega⟩]
    exact right_x5 a0 a1 a2 a3 a4 a5 a6 a7 n w h0 h1 h2 h3 h4 h5
  by_cases g0 : 1 ≤ a2
  rotate_left
  · rw [right_of n a0 a1 a2 a3 a4 a5 a6 a7 false ⟨fun h => absurd h (by decide), fun h => by omega⟩]
    exact right_y0 a0 a1 a2 a3 a4 a5 a6 a7 n w h0 h1 h2 h3 h4 h5 g0
  by_cases g1 : a2 ≤ 1000000
  rotate_left
  · rw [right_of n a0 a1 a2 a3 a4 a5 a6 a7 false ⟨fun h => absurd h (by decide), fun h => by omega⟩]
    exact right_y1 a0 a1 a2 a3 a4 a5 a6 a7 n w h0 h1 h2 h3 h4 h5 g0 g1
  by_cases g2 : 0 ≤ a3
  rotate_left
  · rw [right_of n a0 a1 a2 a3 a4 a5 a6 a7 false ⟨fun h => absurd h (by decide), fun h => by omega⟩]
    exact right_y2 a0 a1 a2 a3 a4 a5 a6 a7 n w h0 h1 h2 h3 h4 h5 g0 g1 g2
  by_cases g3 : a3 ≤ a2
  rotate_left
  · rw [right_of n a0 a1 a2 a3 a4 a5 a6 a7 false ⟨fun h => absurd h (by decide), fun h => by omega⟩]
    exact right_y3 a0 a1 a2 a3 a4 a5 a6 a7 n w h0 h1 h2 h3 h4 h5 g0 g1 g2 g3
  by_cases g4 : 0 ≤ a4
  rotate_left
  · rw [right_of n a0 a1 a2 a3 a4 a5 a6 a7 false ⟨fun h => absurd h (by decide), fun h => by omega⟩]
    exact right_y4 a0 a1 a2 a3 a4 a5 a6 a7 n w h0 h1 h2 h3 h4 h5 g0 g1 g2 g3 g4
  by_cases g5 : a4 ≤ 1000
  rotate_left
  · rw [right_of n a0 a1 a2 a3 a4 a5 a6 a7 false ⟨fun h => absurd h (by decide), fun h => by omega⟩]
    exact right_y5 a0 a1 a2 a3 a4 a5 a6 a7 n w h0 h1 h2 h3 h4 h5 g0 g1 g2 g3 g4 g5
  by_cases g6 : 1 ≤ a5
  rotate_left
  · rw [right_of n a0 a1 a2 a3 a4 a5 a6 a7 false ⟨fun h => absurd h (by decide), fun h => by omega⟩]
    exact right_y6 a0 a1 a2 a3 a4 a5 a6 a7 n w h0 h1 h2 h3 h4 h5 g0 g1 g2 g3 g4 g5 g6
  by_cases g7 : a5 ≤ 2000
  rotate_left
  · rw [right_of n a0 a1 a2 a3 a4 a5 a6 a7 false ⟨fun h => absurd h (by decide), fun h => by omega⟩]
    exact right_y7 a0 a1 a2 a3 a4 a5 a6 a7 n w h0 h1 h2 h3 h4 h5 g0 g1 g2 g3 g4 g5 g6 g7
  by_cases g8 : 0 ≤ a6
  rotate_left
  · rw [right_of n a0 a1 a2 a3 a4 a5 a6 a7 false ⟨fun h => absurd h (by decide), fun h => by omega⟩]
    exact right_y8 a0 a1 a2 a3 a4 a5 a6 a7 n w h0 h1 h2 h3 h4 h5 g0 g1 g2 g3 g4 g5 g6 g7 g8
  by_cases g9 : a6 ≤ 1000000000
  rotate_left
  · rw [right_of n a0 a1 a2 a3 a4 a5 a6 a7 false ⟨fun h => absurd h (by decide), fun h => by omega⟩]
    exact right_y9 a0 a1 a2 a3 a4 a5 a6 a7 n w h0 h1 h2 h3 h4 h5 g0 g1 g2 g3 g4 g5 g6 g7 g8 g9
  by_cases g10 : 0 ≤ a7
  rotate_left
  · rw [right_of n a0 a1 a2 a3 a4 a5 a6 a7 false ⟨fun h => absurd h (by decide), fun h => by omega⟩]
    exact right_y10 a0 a1 a2 a3 a4 a5 a6 a7 n w h0 h1 h2 h3 h4 h5 g0 g1 g2 g3 g4 g5 g6 g7 g8 g9 g10
  by_cases g11 : a7 ≤ 1000000
  rotate_left
  · rw [right_of n a0 a1 a2 a3 a4 a5 a6 a7 false ⟨fun h => absurd h (by decide), fun h => by omega⟩]
    exact right_y11 a0 a1 a2 a3 a4 a5 a6 a7 n w h0 h1 h2 h3 h4 h5 g0 g1 g2 g3 g4 g5 g6 g7 g8 g9 g10 g11
  rw [right_of n a0 a1 a2 a3 a4 a5 a6 a7 true ⟨fun _ => by omega, fun _ => rfl⟩]
  exact right_z a0 a1 a2 a3 a4 a5 a6 a7 n w h0 h1 h2 h3 h4 h5 g0 g1 g2 g3 g4 g5 g6 g7 g8 g9 g10 g11
end Go.Proofs.YtjnceoklnmmhjaaGreat.Tp
