/- Keeps and Breaks: what they answer; what every law of the layer looks at besides. -/
import Derived.Test.YthaiphkmkchhoaaSpE
namespace Go.Proofs.Ythaiphkmkchhoaa
open Go.RowKit

def fb0 (p r u m l : Int) (L : List (Int × Int)) : Nat := SM.fb p r u m l L 0 0 0 0
def keepsR (p r u m l : Int) (L : List (Int × Int)) : Bool × Int := if rightB p r u m l then (fb0 p r u m l L == L.length, 0) else (false, 2)
def breaksR (p r u m l : Int) (L : List (Int × Int)) : Int × Int := if rightB p r u m l then (((fb0 p r u m l L : Nat) : Int), 0) else (0, 2)
theorem lie_two {w : World} {b : Nat} {x0 x1 y0 y1 : Int} (hb : b < w.heap.size) (h0 : w.cell? ⟨b, 0, none⟩ = some (.int .i64 x0)) (h1 : w.cell? ⟨b, 1, none⟩ = some (.int .i64 x1)) (h2 : w.cell? ⟨b, 2, none⟩ = some (.int .i64 y0)) (h3 : w.cell? ⟨b, 3, none⟩ = some (.int .i64 y1)) :
    Lie sendV 2 w w.heap.size (some ⟨b, 0, none⟩) [(x0, x1), (y0, y1)] := fun _ => by
  refine ⟨_, rfl, hb, fun i x hx j v hv => ?_⟩
  match i, j with
  | 0, 0 => simp at hx; subst hx; simp [sendV] at hv; subst hv; exact h0
  | 0, 1 => simp at hx; subst hx; simp [sendV] at hv; subst hv; exact h1
  | 1, 0 => simp at hx; subst hx; simp [sendV] at hv; subst hv; exact h2
  | 1, 1 => simp at hx; subst hx; simp [sendV] at hv; subst hv; exact h3
  | 0, j + 2 => simp at hx; subst hx; simp [sendV] at hv
  | 1, j + 2 => simp at hx; subst hx; simp [sendV] at hv
  | i + 2, _ => simp at hx
end Go.Proofs.Ythaiphkmkchhoaa
