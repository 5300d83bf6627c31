/- The bound of a spec, a rate and terms, worked out. -/
import Derived.Test.YtjnceoklnmmhjaaGreatBdB
import Derived.Deep.RegionHeld3
import Derived.Deep.DeepCutAuto
namespace Go.Proofs.YtjnceoklnmmhjaaGreat
set_option linter.unusedVariables false
open Go.RowKit

/-- a spec's five numbers, terms' two, the result's box, as they lie in the call's own memory. -/
def LateAt (W : World) (b : Nat) (p r u m l c d : Int) : Prop :=
  (b < W.heap.size ∧ W.cell? ⟨b, 0, none⟩ = some (.int .i64 p) ∧ W.cell? ⟨b, 1, none⟩ = some (.int .i64 r) ∧ W.cell? ⟨b, 2, none⟩ = some (.int .i64 u) ∧ W.cell? ⟨b, 3, none⟩ = some (.int .i64 m)) ∧ GBox W (b + 1) c d ∧ GBox W (b + 1 + 1) 0 0
theorem LateAt.step {W W' : World} {b : Nat} {p r u m l c d : Int} (h : LateAt W b p r u m l c d) (hb : Below W.heap.size W W') : LateAt W' b p r u m l c d :=
  ⟨⟨Nat.lt_of_lt_of_le h.1.1 hb.size, (hb.cell (p := ⟨b, 0, none⟩) h.1.1).trans h.1.2.1, (hb.cell (p := ⟨b, 1, none⟩) h.1.1).trans h.1.2.2.1, (hb.cell (p := ⟨b, 2, none⟩) h.1.1).trans h.1.2.2.2.1, (hb.cell (p := ⟨b, 3, none⟩) h.1.1).trans h.1.2.2.2.2⟩, h.2.1.step hb, h.2.2.step hb⟩
theorem GBox.put {W : World} {b : Nat} {u v : Int} (h : GBox W b u v) (x y : Int) : GBox ((W.setCell ⟨b, 0, none⟩ (.int .i64 x)).setCell ⟨b, 1, none⟩ (.int .i64 y)) b x y := by
  obtain ⟨h0, h1, h2, h3, h4⟩ := h
  exact ⟨by simpa using h0, by simp [go_sem, *], by simp [go_sem, *], by simp [go_sem, *], by simp [go_sem, *]⟩
theorem GBox.far {W : World} {b c : Nat} {u v : Int} (hne : ¬ c = b) (h : GBox W c u v) (x y : Int) : GBox ((W.setCell ⟨b, 0, none⟩ (.int .i64 x)).setCell ⟨b, 1, none⟩ (.int .i64 y)) c u v := by
  obtain ⟨h0, h1, h2, h3, h4⟩ := h
  exact ⟨by simpa using h0, by simp [go_sem, *], by simp [go_sem, *], by simp [go_sem, *], by simp [go_sem, *]⟩
theorem below_set {w W : World} {b : Nat} (h : Below w.heap.size w W) (hb : w.heap.size ≤ b) (x y : Int) : Below w.heap.size w ((W.setCell ⟨b, 0, none⟩ (.int .i64 x)).setCell ⟨b, 1, none⟩ (.int .i64 y)) := (h.setCell (by simpa using hb) _).setCell (by simpa using hb) _
theorem LateAt.far {W : World} {b k : Nat} {p r u m l c d : Int} (hk : b + 1 + 1 < k) (h : LateAt W b p r u m l c d) (x y : Int) : LateAt ((W.setCell ⟨k, 0, none⟩ (.int .i64 x)).setCell ⟨k, 1, none⟩ (.int .i64 y)) b p r u m l c d := by
  obtain ⟨⟨h0, h1, h2, h3, h4⟩, h5, h6⟩ := h
  have n0 : ¬ b = k := by omega
  exact ⟨⟨by simpa using h0, by simp [go_sem, *], by simp [go_sem, *], by simp [go_sem, *], by simp [go_sem, *]⟩, GBox.far (by omega) h5 x y, GBox.far (by omega) h6 x y⟩
theorem lies3 (V : World) (T : TypeId) (a b c d e f : Int) : LiesO (V.alloc (.cells #[.int .i64 a, .int .i64 b, .int .i64 c, .int .i64 d, .int .i64 e, .int .i64 f] T)) (some ⟨V.heap.size, 0, none⟩) [(a, b), (c, d), (e, f)] := fun _ => by
  refine ⟨_, rfl, by simp, fun i hi => ?_⟩
  have hi2 : i = 0 ∨ i = 1 ∨ i = 2 := by simp at hi; omega
  rcases hi2 with rfl | rfl | rfl <;> exact ⟨by simp [Addr.add, go_sem], by simp [Addr.add, go_sem]⟩
/-- what the bound is worked out of: each part is a fraction that fits. -/
def LateOk (p r u m l R c d N D : Int) : Prop := ∃ n1 d1 n2 d2 n3 d3 : Int, makeR (m + c) R = (n1, d1, 0) ∧ makeR d 1 = (n2, d2, 0) ∧ ((R < p ∧ makeR ((u - m) * (p - R)) (R * (p - r)) = (n3, d3, 0)) ∨ (¬ R < p ∧ n3 = 0 ∧ d3 = 1)) ∧ sumR [(n1, d1), (n2, d2), (n3, d3)] = (N, D, 0) ∧ Words [(n1, d1), (n2, d2), (n3, d3)]
theorem words3 {a b c d e f : Int} (h : Words [(a, b), (c, d), (e, f)]) : True := trivial
def SpecIn (p r u m : Int) : Prop := 1 ≤ r ∧ r ≤ p ∧ p ≤ 1000000 ∧ 1 ≤ m ∧ m ≤ 2000 ∧ m ≤ u ∧ u ≤ 10000000
theorem late_prods {p r u m R : Int} (h : SpecIn p r u m) (h1 : 1 ≤ R) (h2 : R ≤ 1000000) (h3 : R < p) : (0 ≤ (u - m) * (p - R) ∧ (u - m) * (p - R) ≤ 10000000000000) ∧ 0 ≤ R * (p - r) ∧ R * (p - r) ≤ 1000000000000 := by
  obtain ⟨a1, a2, a3, a4, a5, a6, a7⟩ := h
  have e1 : (u - m) * (p - R) ≤ 10000000 * 1000000 := Int.mul_le_mul (by omega) (by omega) (by omega) (by decide)
  have e2 : R * (p - r) ≤ 1000000 * 1000000 := Int.mul_le_mul (by omega) (by omega) (by omega) (by decide)
  exact ⟨⟨Int.mul_nonneg (by omega) (by omega), by omega⟩, Int.mul_nonneg (by omega) (by omega), by omega⟩
theorem wrap_both3 {x : Int} (h0 : -9223372036854775808 ≤ x) (h1 : x ≤ 9223372036854775807) : IntKind.i64.wrap x = x ∧ wrap64 x = x := by
  have e1 : IntKind.i64.wrap x = x := IntWalk.i64_in _ (by omega)
  refine ⟨e1, ?_⟩
  conv => rhs; rw [← e1]
  simp [IntKind.wrap_i64, wrap64]
end Go.Proofs.YtjnceoklnmmhjaaGreat
