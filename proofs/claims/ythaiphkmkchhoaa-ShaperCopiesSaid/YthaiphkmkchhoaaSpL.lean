/- Some specs brought together. -/
import Derived.Test.YthaiphkmkchhoaaSpK
namespace Go.Proofs.Ythaiphkmkchhoaa
open Go.RowKit RowK

/-- the first n + 1, brought together. -/
def acc (two : Spc → Spc → Spc) (L : List Spc) : Nat → Spc
  | 0 => spAt L 0
  | n + 1 => two (acc two L n) (spAt L (n + 1))
theorem spec_eta (a : Spc) : Value.agg #[.int .i64 a.1, .int .i64 a.2.1, .int .i64 a.2.2.1, .int .i64 a.2.2.2.1, .int .i64 a.2.2.2.2] = specA a := rfl

theorem Lie.tail {w : World} {B : Nat} {ad : Addr} {L : List Spc} (h : Lie specV 5 w B (some ad) L) : Lie specV 5 w B (some ⟨ad.block, ad.off + 5, none⟩) L.tail := fun hl => by
  obtain ⟨ad', e, hB, hc⟩ := h (by cases L <;> simp_all)
  obtain rfl : ad = ad' := by injection e
  refine ⟨_, rfl, hB, fun i x hx j v hv => ?_⟩
  have e2 : Addr.add ⟨ad.block, ad.off + 5, none⟩ (i * 5 + j) = ad.add ((i + 1) * 5 + j) := by
    have : (⟨ad.block, ad.off + 5, none⟩ : Addr) = ad.add 5 := rfl
    rw [this, add_of_add]; congr 1; omega
  rw [e2]
  exact hc (i + 1) x (by rw [← hx]; cases L <;> simp) j v hv
theorem spAt_tail (L : List Spc) (i : Nat) : spAt L.tail i = spAt L (i + 1) := by
  cases L <;> simp [spAt, List.getD_eq_getElem?_getD]
/-- a box of a spec that may be written. -/
def Box (w : World) (b : Nat) (x : Spc) : Prop :=
  HasSpec w b x.1 x.2.1 x.2.2.1 x.2.2.2.1 x.2.2.2.2 ∧ w.frozen? ⟨b, 0, none⟩ = false ∧ w.frozen? ⟨b, 1, none⟩ = false ∧ w.frozen? ⟨b, 2, none⟩ = false ∧ w.frozen? ⟨b, 3, none⟩ = false ∧ w.frozen? ⟨b, 4, none⟩ = false
theorem Box.step {w w' : World} {b : Nat} {x : Spc} (h : Box w b x) (hb : Below w.heap.size w w') : Box w' b x := by
  have hz := h.1.1
  exact ⟨h.1.step hb, (hb.frozen (p := ⟨b, 0, none⟩) hz).trans h.2.1, (hb.frozen (p := ⟨b, 1, none⟩) hz).trans h.2.2.1, (hb.frozen (p := ⟨b, 2, none⟩) hz).trans h.2.2.2.1, (hb.frozen (p := ⟨b, 3, none⟩) hz).trans h.2.2.2.2.1, (hb.frozen (p := ⟨b, 4, none⟩) hz).trans h.2.2.2.2.2⟩
theorem Box.past {w : World} {b : Nat} {x : Spc} (h : Box w b x) (o : Obj) : Box (w.alloc o) b x := h.step ((Below.refl _ _).alloc (Nat.le_refl _) o)
theorem Box.new (w : World) (t : TypeId) (p r u m l : Int) : Box (w.alloc (.cells #[.int .i64 p, .int .i64 r, .int .i64 u, .int .i64 m, .int .i64 l] t)) w.heap.size (p, r, u, m, l) :=
  ⟨HasSpec.new w t p r u m l, by simp [go_sem], by simp [go_sem], by simp [go_sem], by simp [go_sem], by simp [go_sem]⟩

theorem Box.new' {w : World} {b : Nat} (hb : w.heap.size = b) (t : TypeId) (x : Spc) : Box (w.alloc (.cells #[.int .i64 x.1, .int .i64 x.2.1, .int .i64 x.2.2.1, .int .i64 x.2.2.2.1, .int .i64 x.2.2.2.2] t)) b x := by
  subst hb; exact Box.new w t x.1 x.2.1 x.2.2.1 x.2.2.2.1 x.2.2.2.2
theorem add_plain (b o n : Nat) : Addr.add ⟨b, o, none⟩ n = ⟨b, o + n, none⟩ := by
  unfold Addr.add; split <;> simp_all
end Go.Proofs.Ythaiphkmkchhoaa
