/- Going over a list of fractions with a step: what is gathered. -/
import Derived.Test.YtjnceoklnmmhjaaGreatRatPm
import Derived.Test.YtjnceoklnmmhjaaGreatBgK
namespace Go.Proofs.YtjnceoklnmmhjaaGreat
set_option linter.unusedVariables false
open Go.RowKit

def foldR (f : Int × Int → Int × Int → Int × Int × Int) : Int × Int → List (Int × Int) → Int × Int × Int
  | a, [] => (a.1, a.2, 0)
  | a, x :: l => if (f a x).2.2 = 0 then foldR f ((f a x).1, (f a x).2.1) l else f a x
/-- a box of a fraction that may be written. -/
def GBox (w : World) (b : Nat) (x y : Int) : Prop :=
  b < w.heap.size ∧ w.cell? ⟨b, 0, none⟩ = some (.int .i64 x) ∧ w.cell? ⟨b, 1, none⟩ = some (.int .i64 y) ∧ w.frozen? ⟨b, 0, none⟩ = false ∧ w.frozen? ⟨b, 1, none⟩ = false
theorem GBox.step {w w' : World} {b : Nat} {x y : Int} (h : GBox w b x y) (hb : Below w.heap.size w w') : GBox w' b x y :=
  ⟨Nat.lt_of_lt_of_le h.1 hb.size, (hb.cell (p := ⟨b, 0, none⟩) h.1).trans h.2.1, (hb.cell (p := ⟨b, 1, none⟩) h.1).trans h.2.2.1, (hb.frozen (p := ⟨b, 0, none⟩) h.1).trans h.2.2.2.1, (hb.frozen (p := ⟨b, 1, none⟩) h.1).trans h.2.2.2.2⟩
theorem GBox.past {w : World} {b : Nat} {x y : Int} (h : GBox w b x y) (o : Obj) : GBox (w.alloc o) b x y := h.step ((Below.refl _ _).alloc (Nat.le_refl _) o)
theorem GBox.new {w : World} {b : Nat} (hb : w.heap.size = b) (t : TypeId) (x y : Int) : GBox (w.alloc (.cells #[.int .i64 x, .int .i64 y] t)) b x y := by
  subst hb
  exact ⟨by simp, by simp [go_sem], by simp [go_sem], by simp [go_sem], by simp [go_sem]⟩
theorem foldR_next {f : Int × Int → Int × Int → Int × Int × Int} {a : Int × Int} {l : List (Int × Int)} {i : Nat} (h : i < l.length) :
    foldR f a (l.drop i) = if (f a l[i]).2.2 = 0 then foldR f ((f a l[i]).1, (f a l[i]).2.1) (l.drop (i + 1)) else f a l[i] := by
  rw [List.drop_eq_getElem_cons h]
  rfl
/-- a list that lies in memory, or is empty. -/
def LiesO (w : World) (A : Option Addr) (l : List (Int × Int)) : Prop := 0 < l.length → ∃ ad, A = some ad ∧ ad.block < w.heap.size ∧ ∀ i (h : i < l.length), w.cell? (ad.add (i * 2)) = some (.int .i64 (l[i]'h).1) ∧ w.cell? ⟨(ad.add (i * 2)).block, (ad.add (i * 2)).off + 1, none⟩ = some (.int .i64 (l[i]'h).2)
theorem LiesO.below {w w' : World} {A : Option Addr} {l : List (Int × Int)} (h : LiesO w A l) (hb : Below w.heap.size w w') : LiesO w' A l := fun h0 => by
  obtain ⟨ad, e, hs, hl⟩ := h h0
  refine ⟨ad, e, Nat.lt_of_lt_of_le hs hb.size, fun i hi => ⟨(hb.cell (p := ad.add (i * 2)) ?_).trans (hl i hi).1, (hb.cell (p := ⟨(ad.add (i * 2)).block, _, none⟩) ?_).trans (hl i hi).2⟩⟩
  · rw [block_of_add]; exact hs
  · show (ad.add (i * 2)).block < _
    rw [block_of_add]; exact hs
theorem LiesO.nil (w : World) (A : Option Addr) : LiesO w A [] := fun h => absurd h (by simp)

end Go.Proofs.YtjnceoklnmmhjaaGreat
