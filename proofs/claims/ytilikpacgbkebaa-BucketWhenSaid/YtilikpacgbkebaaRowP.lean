/- The row's frame for a [2]int64. -/
import Derived.Test.YtilikpacgbkebaaRowL
import Derived.OpenShut
namespace Go.Proofs.Ytilikpacgbkebaa
namespace RowK
open Go.ChangeShapes Go.WideShapes Go.ChangeAt Go.RowKit Go.Joins Go.Deep
set_option linter.unusedVariables false
section
variable {H : Type} {enc : TypeId × Value → H} {P : Program} {w : World} {base : Nat} {spare : Nat → Bool} {held : Bool}
theorem okWide_array {r : Reach} {b0 : Nat} {t e : TypeId} {n : Nat} {v : Value} (ht : P.underlying t = some (.array n e)) (h : Value.okWide P w r b0 t v) : ∃ cs, v = .agg cs ∧ cs.size = P.cellsOf t := by
  simp only [Value.okWide, ht] at h
  obtain ⟨cs, h1, h2, _⟩ := h
  exact ⟨cs, h1, h2⟩
theorem open_pair {r : Reach} {b0 : Nat} {t e : TypeId} {v : Value} {d : DataW H} {p : List MemPlace} (ht : P.underlying t = some (.array 2 e)) (hC : P.cellsOf t = 2) (hE : P.cellsOf e = 1) (he : P.underlying e = some (.int .i64))
    (hv : Value.okWide P w r b0 t v) (h : DataW.Trod enc P w base spare held t v d p) : ∃ a b : Int, v = .agg #[.int .i64 a, .int .i64 b] := by
  obtain ⟨cs, rfl, hsz⟩ := okWide_array ht hv
  obtain ⟨l⟩ := cs
  match l, hsz.trans hC with
  | [c0, c1], _ =>
    obtain ⟨fuel, hf⟩ := h
    obtain ⟨xs, m, _, _, _, hlen, hg⟩ := DataW.trod_array ht hf
    match xs, hlen with
    | [y0, y1], _ =>
      have g0 : DataW.trod enc P w base spare held m e [c0] = some y0 := by simpa [Value.cells, hE] using hg 0 (by omega)
      have g1 : DataW.trod enc P w base spare held m e [c1] = some y1 := by simpa [Value.cells, hE] using hg 1 (by omega)
      obtain ⟨a0, e0, -, -⟩ := DataW.trod_int he g0
      obtain ⟨a1, e1, -, -⟩ := DataW.trod_int he g1
      simp at e0 e1
      subst e0 e1
      exact ⟨a0, a1, rfl⟩
end
end RowK
end Go.Proofs.Ytilikpacgbkebaa
