/- Objects: ObjectRaws, as an argument's list lies. -/
import Derived.Test.YtnneolkedekfbaaObU
import Derived.Test.YtnneolkedekfbaaRowD
namespace Go.Proofs.Ytnneolkedekfbaa
open Go.RowKit Go.Proofs.Ytnneolkedekfbaa.RowK
theorem raws_law (A : Option Addr) (l : List Ob) (c : Nat) (m : l.length ≤ c) (n : c ≤ maxLen) (s : Wide l) (w : World) (hl : Obs w (· < w.heap.size) A l) :
    Calls Try.prog 3 #[.slice A l.length c] w fun e w' => e = .returned (.bool true) ∧ Below w.heap.size w w' :=
  raws_walk A l c (by simp only [maxLen] at n; omega) (fun o ho => by have := (s o ho).1; simp only [maxLen] at this; omega) w hl
end Go.Proofs.Ytnneolkedekfbaa
