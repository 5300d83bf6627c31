/- The faces of the bound: Bound, Room, where all is right. -/
import Derived.Test.YtjnceoklnmmhjaaGreatBdC
import Derived.ScopeJumps
namespace Go.Proofs.YtjnceoklnmmhjaaGreat
set_option linter.unusedVariables false
open Go.RowKit

def hasB (p r u m l R c d : Int) : Bool := Zp.rightB p r u m l && termsB c d && fromB r R 1000000
/-- a spec, a rate and terms in three boxes. -/
def AskAt (W : World) (a b e : Nat) (p r u m l R c d : Int) : Prop :=
  (a < W.heap.size ∧ W.cell? ⟨a, 0, none⟩ = some (.int .i64 p) ∧ W.cell? ⟨a, 1, none⟩ = some (.int .i64 r) ∧ W.cell? ⟨a, 2, none⟩ = some (.int .i64 u) ∧ W.cell? ⟨a, 3, none⟩ = some (.int .i64 m) ∧ W.cell? ⟨a, 4, none⟩ = some (.int .i64 l)) ∧
  (b < W.heap.size ∧ W.cell? ⟨b, 0, none⟩ = some (.int .i64 R)) ∧ e < W.heap.size ∧ W.cell? ⟨e, 0, none⟩ = some (.int .i64 c) ∧ W.cell? ⟨e, 1, none⟩ = some (.int .i64 d)
theorem AskAt.step {W W' : World} {a b e : Nat} {p r u m l R c d : Int} (h : AskAt W a b e p r u m l R c d) (hb : Below W.heap.size W W') : AskAt W' a b e p r u m l R c d :=
  ⟨⟨Nat.lt_of_lt_of_le h.1.1 hb.size, (hb.cell (p := ⟨a, 0, none⟩) h.1.1).trans h.1.2.1, (hb.cell (p := ⟨a, 1, none⟩) h.1.1).trans h.1.2.2.1, (hb.cell (p := ⟨a, 2, none⟩) h.1.1).trans h.1.2.2.2.1, (hb.cell (p := ⟨a, 3, none⟩) h.1.1).trans h.1.2.2.2.2.1, (hb.cell (p := ⟨a, 4, none⟩) h.1.1).trans h.1.2.2.2.2.2⟩,
   ⟨Nat.lt_of_lt_of_le h.2.1.1 hb.size, (hb.cell (p := ⟨b, 0, none⟩) h.2.1.1).trans h.2.1.2⟩, Nat.lt_of_lt_of_le h.2.2.1 hb.size, (hb.cell (p := ⟨e, 0, none⟩) h.2.2.1).trans h.2.2.2.1, (hb.cell (p := ⟨e, 1, none⟩) h.2.2.1).trans h.2.2.2.2⟩
end Go.Proofs.YtjnceoklnmmhjaaGreat
