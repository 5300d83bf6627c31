/- Ways: the program's and the document's; the document's link. -/
import Derived.Test.YtjnceoklnmmhjaaGreatBdH
namespace Go.Proofs.YtjnceoklnmmhjaaGreat
set_option linter.unusedVariables false
open Go.RowKit

def wayE (C D : Int) : Ending := if termsB C D then .returned (.agg #[.int .i64 C, .int .i64 D]) else errPanic 3
/-- what a way's terms are: two numbers, an error. -/
def wayR (l : List (Int × Int)) : Int × Int × Int := if allT l then (if termsB (sumC l) (sumD l) then (sumC l, sumD l, 0) else (0, 0, 3)) else (0, 0, 2)
theorem linkB_no {rate most far : Int} (h : ¬ linkB rate most far = true) : rate < 1 ∨ (¬ rate < 1 ∧ 1000000 < rate) ∨ ((¬ rate < 1 ∧ ¬ 1000000 < rate) ∧ most < 1) ∨ ((¬ rate < 1 ∧ ¬ 1000000 < rate) ∧ ¬ most < 1 ∧ 2000 < most) ∨ ((¬ rate < 1 ∧ ¬ 1000000 < rate) ∧ (¬ most < 1 ∧ ¬ 2000 < most) ∧ far < 0) ∨ ((¬ rate < 1 ∧ ¬ 1000000 < rate) ∧ (¬ most < 1 ∧ ¬ 2000 < most) ∧ ¬ far < 0 ∧ 100000 < far) := by
  unfold linkB fromB at h
  simp only [Bool.and_eq_true, decide_eq_true_eq] at h
  omega
theorem linkB_yes {rate most far : Int} (h : linkB rate most far = true) : (1 ≤ rate ∧ rate ≤ 1000000) ∧ (1 ≤ most ∧ most ≤ 2000) ∧ 0 ≤ far ∧ far ≤ 100000 := by
  unfold linkB at h
  rw [Bool.and_eq_true, Bool.and_eq_true] at h
  exact ⟨fromB_iff.1 h.1.1, fromB_iff.1 h.1.2, fromB_iff.1 h.2⟩
set_option maxRecDepth 100000 in
theorem refLink_any (rate most far : Int) (w : World) :
    Calls Tryz.prog 20 #[.int .i64 rate, .int .i64 most, .int .i64 far] w fun e w' => e = .returned (if linkB rate most far then .tuple #[.agg #[.int .i64 most, .int .i64 (upZ most rate + 1 + far)], .bool true] else .tuple #[.agg #[.int .i64 0, .int .i64 0], .bool false]) ∧ Below w.heap.size w w' := by
  by_cases h : linkB rate most far = true
  · rw [if_pos h]
    obtain ⟨⟨a1, a2⟩, ⟨a3, a4⟩, a5, a6⟩ := linkB_yes h
    have cu := fun W => refUp_any most rate (by omega) (by omega) a1 a2 W
    have hz := upZ_bd (n := most) (d := rate) (by omega) a1
    generalize upZ most rate = U at *
    have CU := hidd cu
    have n1 : decide (rate < 1) = false := decide_eq_false (by omega)
    have n2 : decide (1000000 < rate) = false := decide_eq_false (by omega)
    have n3 : decide (most < 1) = false := decide_eq_false (by omega)
    have n4 : decide (2000 < most) = false := decide_eq_false (by omega)
    have n5 : decide (far < 0) = false := decide_eq_false (by omega)
    have n6 : decide (100000 < far) = false := decide_eq_false (by omega)
    clear h cu
    go_enter Tryz.func20, Tryz.ntmps20
    go_wp2_with fail
    refine (CU.out _).mono ?_
    rintro e w1 ⟨rfl, hb1⟩
    obtain ⟨g0, g1, g2, g3, g4⟩ := (GBox.new (rfl : w.heap.size = w.heap.size) 58 0 0).step hb1
    have HB1 := hidd (below_step (below_new (Below.refl w.heap.size w) _) hb1)
    clear hb1
    go_wp2_with fail
    exact bodyPost_ret (v := .tuple #[.agg #[.int .i64 most, .int .i64 (U + 1 + far)], .bool true]) (by simp [results, Tryz.results20, go_sem, *]) rfl ⟨rfl, by have := HB1.out; (repeat' (first | (with_reducible exact Below.refl _ _) | (with_reducible assumption) | (with_reducible apply Below.setCell) | (with_reducible apply Below.alloc) | (with_reducible apply Below.drew) | (with_reducible apply below_drewN) | (with_reducible refine Below.trans ?_ (Below.mono (by assumption) ?_)) | omega | (simp; done) | (simp; omega)))⟩
  · rw [if_neg h]
    rcases linkB_no h with h1 | ⟨h1, h2⟩ | ⟨⟨h1, h2⟩, h3⟩ | ⟨⟨h1, h2⟩, h3, h4⟩ | ⟨⟨h1, h2⟩, ⟨h3, h4⟩, h5⟩ | ⟨⟨h1, h2⟩, ⟨h3, h4⟩, h5, h6⟩
    all_goals
      clear h
      go_enter Tryz.func20, Tryz.ntmps20
      go_wp2_with fail
      exact bodyPost_ret (v := .tuple #[.agg #[.int .i64 0, .int .i64 0], .bool false]) (by simp [results, Tryz.results20, go_sem, *]) rfl ⟨rfl, by (repeat' (first | (with_reducible exact Below.refl _ _) | (with_reducible assumption) | (with_reducible apply Below.setCell) | (with_reducible apply Below.alloc) | (with_reducible apply Below.drew) | (with_reducible apply below_drewN) | (with_reducible refine Below.trans ?_ (Below.mono (by assumption) ?_)) | omega | (simp; done) | (simp; omega)))⟩
end Go.Proofs.YtjnceoklnmmhjaaGreat
