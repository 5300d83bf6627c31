/- The document's numbers: two of them, multiplied, added, compared, as values. -/
import Derived.Test.YtohkkebiilaniaaBgL
import Derived.Test.YtohkkebiilaniaaBgG
namespace Go.Proofs.Ytohkkebiilaniaa
set_option linter.unusedVariables false
open Go.RowKit

theorem BigAt.slice {x : Nat} {w : World} {v : Value} (h : BigAt x w v) : ∃ A n c, v = .slice A n c ∧ (x = 0 → n = 0) ∧ (x ≠ 0 → 0 < n) := by
  obtain ⟨A, c, e, _⟩ := h
  refine ⟨A, _, c, e, fun hx => by rw [hx, BM.digs_zero]; rfl, fun hx => List.length_pos_iff.2 fun h0 => hx (BM.digs_nil.1 h0)⟩
theorem BigAt.drew {x : Nat} {w : World} {v : Value} (h : BigAt x w v) : BigAt x w.drew v := h
theorem mul_two (x y : Nat) (hx : x < 65536 ^ 7) (hy : y < 65536 ^ 7) (u v : Value) (w : World) (hu : BigAt x w u) (hv : BigAt y w v) : Calls Try.prog 76 #[u, v] w (BigEnd1 (x * y) w) := by
  obtain ⟨A, c, rfl, _, _, l1⟩ := hu
  obtain ⟨B, d, rfl, _, _, l2⟩ := hv
  exact (mul_big x y hx hy A B c d _ _ rfl rfl w l1 l2).mono fun _ _ h => h.one
theorem add_two (x y : Nat) (hx : x < 65536 ^ 16) (hy : y < 65536 ^ 16) (u v : Value) (w : World) (hu : BigAt x w u) (hv : BigAt y w v) : Calls Try.prog 98 #[u, v] w (BigEnd1 (x + y) w) := by
  obtain ⟨A, c, rfl, _, _, l1⟩ := hu
  obtain ⟨B, d, rfl, _, _, l2⟩ := hv
  exact (add_big x y hx hy A B c d _ _ rfl rfl w l1 l2).mono fun _ _ h => h.one
theorem sub_two (x y : Nat) (hx : x < 65536 ^ 16) (hyx : y ≤ x) (u v : Value) (w : World) (hu : BigAt x w u) (hv : BigAt y w v) : Calls Try.prog 99 #[u, v] w (BigEnd1 (x - y) w) := by
  obtain ⟨A, c, rfl, _, _, l1⟩ := hu
  obtain ⟨B, d, rfl, _, _, l2⟩ := hv
  exact (sub_big x y hx hyx A B c d _ _ rfl rfl w l1 l2).mono fun _ _ h => h.one
theorem less_two (x y : Nat) (hx : x < 65536 ^ 16) (hy : y < 65536 ^ 16) (u v : Value) (w : World) (hu : BigAt x w u) (hv : BigAt y w v) : Calls Try.prog 77 #[u, v] w fun e w' => e = .returned (.bool (decide (x < y))) ∧ Below w.heap.size w w' := by
  obtain ⟨A, c, rfl, _, _, l1⟩ := hu
  obtain ⟨B, d, rfl, _, _, l2⟩ := hv
  exact (less_big x y hx hy A B c d _ _ rfl rfl w l1 l2).mono fun _ _ ⟨he, hq⟩ => ⟨he, quiet_below hq⟩
theorem two_keep {W : World} {a b : Nat} {x y z t : Int} (h1 : RatBox W a x y) (h2 : RatBox W b z t) : ∀ w', Below W.heap.size W w' →
    w'.cell? ⟨a, 0, none⟩ = some (.int .i64 x) ∧ w'.cell? ⟨a, 1, none⟩ = some (.int .i64 y) ∧ w'.cell? ⟨b, 0, none⟩ = some (.int .i64 z) ∧ w'.cell? ⟨b, 1, none⟩ = some (.int .i64 t) := fun w' hb => by
  obtain ⟨_, a0, a1, _, _⟩ := h1.step hb
  obtain ⟨_, b0, b1, _, _⟩ := h2.step hb
  exact ⟨a0, a1, b0, b1⟩
theorem nat_mul {x y : Nat} (hx : x ≤ 9223372036854775808) (hy : y ≤ 9223372036854775808) : x * y ≤ 9223372036854775808 * 9223372036854775808 := Nat.mul_le_mul hx hy
theorem boxes3 (w : World) (a1 a2 b1 b2 : Int) : RatBox (((w.alloc (.cells #[.int .i64 a1, .int .i64 a2] 32)).alloc (.cells #[.int .i64 b1, .int .i64 b2] 32)).alloc (.cells #[.int .i64 0, .int .i64 0] 32)) w.heap.size a1 a2 ∧ RatBox (((w.alloc (.cells #[.int .i64 a1, .int .i64 a2] 32)).alloc (.cells #[.int .i64 b1, .int .i64 b2] 32)).alloc (.cells #[.int .i64 0, .int .i64 0] 32)) (w.heap.size + 1) b1 b2 ∧ RatBox (((w.alloc (.cells #[.int .i64 a1, .int .i64 a2] 32)).alloc (.cells #[.int .i64 b1, .int .i64 b2] 32)).alloc (.cells #[.int .i64 0, .int .i64 0] 32)) (w.heap.size + 1 + 1) 0 0 ∧ Below w.heap.size w (((w.alloc (.cells #[.int .i64 a1, .int .i64 a2] 32)).alloc (.cells #[.int .i64 b1, .int .i64 b2] 32)).alloc (.cells #[.int .i64 0, .int .i64 0] 32)) := by
  refine ⟨?_, ?_, ?_, ?_⟩
  · exact ((RatBox.new w 32 a1 a2).step (below_new (Below.refl _ _) _)).step (below_new (Below.refl _ _) _)
  · have h := (RatBox.new (w.alloc (.cells #[.int .i64 a1, .int .i64 a2] 32)) 32 b1 b2).step (below_new (Below.refl _ _) (.cells #[.int .i64 0, .int .i64 0] 32))
    simpa using h
  · have h := RatBox.new ((w.alloc (.cells #[.int .i64 a1, .int .i64 a2] 32)).alloc (.cells #[.int .i64 b1, .int .i64 b2] 32)) 32 0 0
    simpa using h
  · exact below_new (below_new (below_new (Below.refl _ _) _) _) _
end Go.Proofs.Ytohkkebiilaniaa
