/- The row's frame: an object. -/
import Derived.Test.YtappmacnoopmkaaGreatRowD
namespace Go.Proofs.YtappmacnoopmkaaGreat
set_option linter.unusedVariables false
namespace RowK
open Go.ChangeShapes Go.WideShapes Go.ChangeAt Go.RowKit Go.Joins Go.Deep

section
variable {H : Type} {enc : TypeId × Value → H} {w : World} {base : Nat} {spare : Nat → Bool} {held : Bool}
set_option maxRecDepth 100000 in
theorem open_obj {r : Reach} {b0 : Nat} {v : Value} {d : DataW H} {p : List MemPlace} (hv : Value.okWide Tryz.prog w r b0 42 v) (h : DataW.Trod enc Tryz.prog w base spare held 42 v d p) :
    ∃ (c t : Int) (A : Option Addr) (L : List Int) (m : Nat), v = .agg #[.int .i64 c, .int .i64 t, .slice A L.length m] ∧ L.length ≤ m ∧ m ≤ maxLen ∧ W64 L ∧ Lie wdV 1 w w.heap.size A L := by
  obtain ⟨cs, rfl, hsz⟩ := okWide_struct Tryz.underlying42 hv
  have hC : Tryz.prog.cellsOf 42 = 3 := by kernel_rfl
  obtain ⟨fuel, hf⟩ := h
  obtain ⟨l⟩ := cs
  have hl : l.length = 3 := hsz.trans hC
  match l, hl with
  | [c0, c1, c2], _ =>
    obtain ⟨xs, k, _, _, _, hlen, hg⟩ := DataW.trod_struct Tryz.underlying42 hf
    match xs, hlen with
    | [y0, y1, y2], _ =>
      have g0 := hg 0 _ rfl
      have g1 := hg 1 _ rfl
      have g2 := hg 2 _ rfl
      have k0 : Tryz.prog.cellsOf 3 = 1 := by kernel_rfl
      have k1 : Tryz.prog.cellsOf 40 = 1 := by kernel_rfl
      simp [Value.cells, k0, k1] at g0 g1 g2
      obtain ⟨z0, e0, -, -⟩ := DataW.trod_int Tryz.underlying3 g0
      obtain ⟨z1, e1, -, -⟩ := DataW.trod_int Tryz.underlying3 g1
      obtain ⟨A, L, m, e2, hh⟩ := open_words g2
      simp at e0 e1 e2
      subst e0 e1 e2
      exact ⟨z0, z1, A, L, m, rfl, hh⟩
end
end RowK
end Go.Proofs.YtappmacnoopmkaaGreat
