/- A spec in a box, carried along; the walk of SpecAllows. -/
import Derived.Test.YthaiphkmkchhoaaSpG
namespace Go.Proofs.Ythaiphkmkchhoaa
open Go.RowKit

/-- a spec lies in block b. -/
def HasSpec (w : World) (b : Nat) (p r u m l : Int) : Prop :=
  b < w.heap.size ∧ w.cell? ⟨b, 0, none⟩ = some (.int .i64 p) ∧ w.cell? ⟨b, 1, none⟩ = some (.int .i64 r) ∧ w.cell? ⟨b, 2, none⟩ = some (.int .i64 u) ∧ w.cell? ⟨b, 3, none⟩ = some (.int .i64 m) ∧ w.cell? ⟨b, 4, none⟩ = some (.int .i64 l)
section
variable {w w' : World} {b : Nat} {p r u m l : Int}
theorem HasSpec.step (h : HasSpec w b p r u m l) (hb : Below w.heap.size w w') : HasSpec w' b p r u m l :=
  ⟨Nat.lt_of_lt_of_le h.1 hb.size, (hb.cell h.1).trans h.2.1, (hb.cell h.1).trans h.2.2.1, (hb.cell h.1).trans h.2.2.2.1, (hb.cell h.1).trans h.2.2.2.2.1, (hb.cell h.1).trans h.2.2.2.2.2⟩
theorem HasSpec.past (h : HasSpec w b p r u m l) (o : Obj) : HasSpec (w.alloc o) b p r u m l := h.step ((Below.refl _ _).alloc (Nat.le_refl _) o)
theorem HasSpec.new (w : World) (t : TypeId) (p r u m l : Int) : HasSpec (w.alloc (.cells #[.int .i64 p, .int .i64 r, .int .i64 u, .int .i64 m, .int .i64 l] t)) w.heap.size p r u m l :=
  ⟨by simp, by simp [go_sem], by simp [go_sem], by simp [go_sem], by simp [go_sem], by simp [go_sem]⟩
theorem HasSpec.drew (h : HasSpec w b p r u m l) (n : Nat) : HasSpec (w.drewN n) b p r u m l := h
end

end Go.Proofs.Ythaiphkmkchhoaa
