/- A struct of two lists of sendings, opened. -/
import Derived.Test.YtjmppeofdnikoaaRowK
namespace Go.Proofs.Ytjmppeofdnikoaa
namespace RowK
open Go.ChangeShapes Go.WideShapes Go.ChangeAt Go.RowKit Go.Joins Go.Deep
section
variable {H : Type} {enc : TypeId × Value → H} {P : Program} {w : World} {base : Nat} {spare : Nat → Bool} {held : Bool}
theorem open_cells2 {r : Reach} {b0 : Nat} {t : TypeId} {f0 f1 : Field} {v : Value} {d : DataW H} {p : List MemPlace} (hs : P.underlying t = some (.struct #[f0, f1])) (hone : oneCellFields P #[f0, f1] = true) (hC : P.cellsOf t = 2)
    (hv : Value.okWide P w r b0 t v) (h : DataW.Trod enc P w base spare held t v d p) :
    ∃ (c0 c1 : Value) (n : Nat) (y0 y1 : DataW H × List MemPlace), v = .agg #[c0, c1] ∧ DataW.trod enc P w base spare held n f0.type [c0] = some y0 ∧ DataW.trod enc P w base spare held n f1.type [c1] = some y1 := by
  obtain ⟨cs, rfl, hsz⟩ := okWide_struct hs hv
  obtain ⟨l⟩ := cs
  match l, hsz.trans hC with
  | [c0, c1], _ =>
    obtain ⟨fuel, hf⟩ := h
    obtain ⟨xs, n, _, hx, _, hlen, hg⟩ := DataW.trod_struct hs hf
    obtain ⟨o0, k0⟩ := hone_of hone 0 f0 rfl
    obtain ⟨o1, k1⟩ := hone_of hone 1 f1 rfl
    match xs, hlen with
    | [y0, y1], _ =>
      have g0 : DataW.trod enc P w base spare held n f0.type [c0] = some y0 := by simpa [Value.cells, o0, k0] using hg 0 f0 rfl
      have g1 : DataW.trod enc P w base spare held n f1.type [c1] = some y1 := by simpa [Value.cells, o1, k1] using hg 1 f1 rfl
      exact ⟨c0, c1, n, y0, y1, rfl, g0, g1⟩
end
section
variable {H : Type} {enc : TypeId × Value → H} {w : World} {base : Nat} {spare : Nat → Bool} {held : Bool}
set_option maxRecDepth 100000 in
theorem open_two {r : Reach} {b0 : Nat} {v : Value} {d : DataW H} {p : List MemPlace} (hv : Value.okWide Try.prog w r b0 26 v) (h : DataW.Trod enc Try.prog w base spare held 26 v d p) :
    ∃ (A : Option Addr) (L : List (Int × Int)) (c : Nat) (A' : Option Addr) (L' : List (Int × Int)) (c' : Nat), v = .agg #[.slice A L.length c, .slice A' L'.length c'] ∧ L.length ≤ maxLen ∧ L'.length ≤ maxLen ∧ Lie sendV 2 w w.heap.size A L ∧ Lie sendV 2 w w.heap.size A' L' := by
  have hC : Try.prog.cellsOf 26 = 2 := by kernel_rfl
  obtain ⟨c0, c1, n, y0, y1, e, g0, g1⟩ := open_cells2 Try.underlying26 (by kernel_rfl) hC hv h
  obtain ⟨A, L, c, e0, m0, l0⟩ := open_sends g0
  obtain ⟨A', L', c', e1, m1, l1⟩ := open_sends g1
  simp at e0 e1
  exact ⟨A, L, c, A', L', c', by rw [e, e0, e1], m0, m1, l0, l1⟩
end
end RowK
end Go.Proofs.Ytjmppeofdnikoaa
