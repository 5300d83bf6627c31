/- The document's fraction of any two numbers. -/
import Derived.Test.YtohkkebiilaniaaBgE
import Derived.Test.YtohkkebiilaniaaRatPn
namespace Go.Proofs.Ytohkkebiilaniaa
set_option linter.unusedVariables false
open Go.RowKit

/-- a fraction in a box that may be written. -/
def RatBox (w : World) (b : Nat) (x y : Int) : Prop :=
  b < w.heap.size ∧ w.cell? ⟨b, 0, none⟩ = some (.int .i64 x) ∧ w.cell? ⟨b, 1, none⟩ = some (.int .i64 y) ∧ w.frozen? ⟨b, 0, none⟩ = false ∧ w.frozen? ⟨b, 1, none⟩ = false
theorem RatBox.step {w w' : World} {b : Nat} {x y : Int} (h : RatBox w b x y) (hb : Below w.heap.size w w') : RatBox w' b x y :=
  ⟨Nat.lt_of_lt_of_le h.1 hb.size, (hb.cell (p := ⟨b, 0, none⟩) h.1).trans h.2.1, (hb.cell (p := ⟨b, 1, none⟩) h.1).trans h.2.2.1, (hb.frozen (p := ⟨b, 0, none⟩) h.1).trans h.2.2.2.1, (hb.frozen (p := ⟨b, 1, none⟩) h.1).trans h.2.2.2.2⟩
theorem RatBox.new (w : World) (t : TypeId) (x y : Int) : RatBox (w.alloc (.cells #[.int .i64 x, .int .i64 y] t)) w.heap.size x y := ⟨by simp, by simp [go_sem], by simp [go_sem], by simp [go_sem], by simp [go_sem]⟩
theorem BigAt.len {x : Nat} {w : World} {v : Value} (h : BigAt x w v) : ∃ A c, v = .slice A (BM.digs x).length c := by
  obtain ⟨A, c, e, _⟩ := h; exact ⟨A, c, e⟩
theorem div_two (x y : Nat) (hx : x < 65536 ^ 15) (hy : y < 65536 ^ 15) (hy0 : 0 < y) (u v : Value) (w : World) (hu : BigAt x w u) (hv : BigAt y w v) : Calls Try.prog 91 #[u, v] w (DivEnd x y w) := by
  obtain ⟨A, c, rfl, _, _, l1⟩ := hu
  obtain ⟨B, d, rfl, _, _, l2⟩ := hv
  exact div_big x y hx hy hy0 A B c d _ _ rfl rfl w l1 l2
end Go.Proofs.Ytohkkebiilaniaa
