/- The walk of the law on whole numbers that are added. -/
import Derived.Test.YtgeankdimknmiaaRatPn
namespace Go.Proofs.Ytgeankdimknmiaa
open Go.RowKit

theorem rightB_iff (n d : Int) (h0 : -9223372036854775808 ≤ n) (h1 : n ≤ 9223372036854775807) (h3 : d ≤ 9223372036854775807) : rightB n d = true ↔ RM.Right n d := by
  unfold rightB RM.Right
  rw [decide_eq_true_iff]
  constructor
  · rintro ⟨a, b, c⟩; exact ⟨a, h3, by omega, h1, c⟩
  · rintro ⟨a, _, c, _, e⟩; exact ⟨a, by omega, e⟩
theorem rightB_neg (n d : Int) (h0 : -9223372036854775807 ≤ n) (h1 : n ≤ 9223372036854775807) (h : rightB n d = true) : rightB (-n) d = true := by
  have := of_decide_eq_true h
  exact decide_eq_true ⟨this.1, by omega, by rw [Int.natAbs_neg]; exact this.2.2⟩
theorem ediv_cross (N D P Q : Int) (hD : 1 ≤ D) (hQ : 1 ≤ Q) (h : P * D = N * Q) : P / Q = N / D := by
  have h1 : P / Q = P * D / (Q * D) := (Int.mul_ediv_mul_of_pos_left P Q (by omega)).symm
  have h2 : N / D = N * Q / (D * Q) := (Int.mul_ediv_mul_of_pos_left N D (by omega)).symm
  rw [h1, h2, h, Int.mul_comm Q D]

theorem below_step {w a b : World} (t : Below w.heap.size w a) (h : Below a.heap.size a b) : Below w.heap.size w b := t.trans (h.mono t.size)
theorem below_new {w a : World} (t : Below w.heap.size w a) (o : Obj) : Below w.heap.size w (a.alloc o) := t.alloc t.size o

end Go.Proofs.Ytgeankdimknmiaa
