/- Is one of some specs none; some specs brought together by two and two. -/
import Derived.Test.YthaiphkmkchhoaaSpJ
namespace Go.Proofs.Ythaiphkmkchhoaa
open Go.RowKit RowK

def rightS (x : Spc) : Bool := rightB x.1 x.2.1 x.2.2.1 x.2.2.2.1 x.2.2.2.2
def allRight (l : List Spc) : Bool := l.all rightS
def spAt (L : List Spc) (i : Nat) : Spc := L.getD i (0, 0, 0, 0, 0)
theorem spAt_get {L : List Spc} {i : Nat} (h : i < L.length) : L[i] = spAt L i := by
  simp [spAt, List.getD_eq_getElem?_getD, List.getElem?_eq_getElem h]
theorem Lie.spec {w : World} {B : Nat} {A : Option Addr} {l : List Spc} (h : Lie specV 5 w B A l) (i : Nat) (hi : i < l.length) :
    ∃ ad, A = some ad ∧ (ad.add (i * 5)).block < B ∧ w.cell? (ad.add (i * 5)) = some (.int .i64 (spAt l i).1) ∧ w.cell? ⟨(ad.add (i * 5)).block, (ad.add (i * 5)).off + 1, none⟩ = some (.int .i64 (spAt l i).2.1) ∧
      w.cell? ⟨(ad.add (i * 5)).block, (ad.add (i * 5)).off + 2, none⟩ = some (.int .i64 (spAt l i).2.2.1) ∧ w.cell? ⟨(ad.add (i * 5)).block, (ad.add (i * 5)).off + 3, none⟩ = some (.int .i64 (spAt l i).2.2.2.1) ∧ w.cell? ⟨(ad.add (i * 5)).block, (ad.add (i * 5)).off + 4, none⟩ = some (.int .i64 (spAt l i).2.2.2.2) := by
  obtain ⟨ad, e, hB, hc⟩ := h (by omega)
  have hx : l[i]? = some l[i] := List.getElem?_eq_getElem hi
  rw [← spAt_get hi]
  have h0 := hc i _ hx 0 _ rfl
  have h1 := hc i _ hx 1 _ rfl
  have h2 := hc i _ hx 2 _ rfl
  have h3 := hc i _ hx 3 _ rfl
  have h4 := hc i _ hx 4 _ rfl
  rw [← add_of_add] at h1 h2 h3 h4
  exact ⟨ad, e, by rw [block_of_add]; exact hB, h0, h1, h2, h3, h4⟩

/-- where the search ends. -/
def FoundEnd (l : List Spc) (w : World) (e : Ending) (w' : World) : Prop :=
  ∃ k : Int, e = .returned (.int .i64 k) ∧ decide (0 ≤ k) = !allRight l ∧ Below w.heap.size w w'
/-- none of them, or one of them none: nothing can be brought together. -/
def noneB (L : List Spc) : Bool := decide (L.length = 0) || !allRight L
end Go.Proofs.Ythaiphkmkchhoaa
