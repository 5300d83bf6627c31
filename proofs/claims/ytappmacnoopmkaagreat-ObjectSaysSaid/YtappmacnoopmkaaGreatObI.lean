/- Objects: bounds of first words. -/
import Derived.Test.YtappmacnoopmkaaGreatObH
namespace Go.Proofs.YtappmacnoopmkaaGreat
set_option linter.unusedVariables false
open Go.RowKit

section
variable {P : Program} {w : World} {a : Addr} {m : Mode}
theorem run_store_func (f : Fn) (x y : Array Value) : (store a (.func f x y) m).run P w = stored P w a (.func f x y) m := run_store P w a _ m rfl
end
theorem said_yes {P : Program} {f : FuncId} {args : Array Value} {a b : Int} {ws : List Int} {W : World} (h : Calls P f args W fun e w' => Below W.heap.size W w' ∧ ((true = true ∧ ∃ A k, e = .returned (.tuple #[.agg #[.int .i64 a, .int .i64 b, .slice A ws.length k], .int .i64 0]) ∧ LieQ wdV 1 w' (fun q => W.heap.size ≤ q ∧ q < w'.heap.size) A ws) ∨ (true = false ∧ e = .returned (.tuple #[.agg #[.int .i64 0, .int .i64 0, .slice none 0 0], .int .i64 2])))) :
    Calls P f args W fun e w' => Below W.heap.size W w' ∧ ∃ A k, e = .returned (.tuple #[.agg #[.int .i64 a, .int .i64 b, .slice A ws.length k], .int .i64 0]) ∧ LieQ wdV 1 w' (fun q => W.heap.size ≤ q ∧ q < w'.heap.size) A ws :=
  h.mono fun e w' ⟨h1, h2⟩ => ⟨h1, by rcases h2 with h | h; exact h.2; exact absurd h.1 (by decide)⟩
theorem said_no {P : Program} {f : FuncId} {args : Array Value} {W : World} {p : Ending → World → Prop} {v : Value} (h : Calls P f args W fun e w' => Below W.heap.size W w' ∧ ((false = true ∧ p e w') ∨ (false = false ∧ e = .returned v))) :
    Calls P f args W fun e w' => Below W.heap.size W w' ∧ e = .returned v :=
  h.mono fun e w' ⟨h1, h2⟩ => ⟨h1, by rcases h2 with h | h; exact absurd h.1 (by decide); exact h.2⟩
theorem heard_yes {P : Program} {f : FuncId} {args : Array Value} {W : World} {u v : Value} (h : Calls P f args W fun e w' => Below W.heap.size W w' ∧ ((true = true ∧ e = .returned u) ∨ (true = false ∧ e = .returned v))) :
    Calls P f args W fun e w' => Below W.heap.size W w' ∧ e = .returned u :=
  h.mono fun e w' ⟨h1, h2⟩ => ⟨h1, by rcases h2 with h | h; exact h.2; exact absurd h.1 (by decide)⟩
theorem heard_no {P : Program} {f : FuncId} {args : Array Value} {W : World} {u v : Value} (h : Calls P f args W fun e w' => Below W.heap.size W w' ∧ ((false = true ∧ e = .returned u) ∨ (false = false ∧ e = .returned v))) :
    Calls P f args W fun e w' => Below W.heap.size W w' ∧ e = .returned v :=
  h.mono fun e w' ⟨h1, h2⟩ => ⟨h1, by rcases h2 with h | h; exact absurd h.1 (by decide); exact h.2⟩
theorem av_bounds {ws : List Int} (h : ∀ x ∈ ws, -9223372036854775808 ≤ x ∧ x ≤ 9223372036854775807) : ∀ y ∈ [av ws 0, av ws 1, av ws 2, av ws 3, av ws 4, av ws 5, av ws 6], -9223372036854775808 ≤ y ∧ y ≤ 9223372036854775807 := by
  have hz : ∀ i, -9223372036854775808 ≤ av ws i ∧ av ws i ≤ 9223372036854775807 := fun i => by
    by_cases hi : i < ws.length
    · exact h _ (av_mem hi)
    · have : av ws i = 0 := by unfold av; rw [List.getD_eq_getElem?_getD, List.getElem?_eq_none (by omega)]; rfl
      omega
  intro y hy
  simp only [List.mem_cons, List.not_mem_nil, or_false] at hy
  rcases hy with rfl | rfl | rfl | rfl | rfl | rfl | rfl <;> exact hz _
/-- the lowest sixteen bits of any number. -/
theorem and16 (n : Int) : bits .and .i64 n 65535 = n % 65536 := by
  have h1 : (BitVec.ofInt 64 65535).toNat = 2 ^ 16 - 1 := by decide
  have key : (BitVec.ofInt 64 n &&& BitVec.ofInt 64 65535).toNat = (n % ((2 ^ 64 : Nat) : Int)).toNat % 2 ^ 16 := by
    rw [BitVec.toNat_and, BitVec.toNat_ofInt, h1, Nat.and_two_pow_sub_one_eq_mod]
  show IntKind.i64.wrap ((BitVec.ofInt 64 n &&& BitVec.ofInt 64 65535).toNat : Nat) = n % 65536
  rw [key, IntKind.wrap_i64]
  omega
end Go.Proofs.YtappmacnoopmkaaGreat
