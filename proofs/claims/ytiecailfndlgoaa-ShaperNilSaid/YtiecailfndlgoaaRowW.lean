/- Rows whose arguments are packets that wait, and calls of a shaper: opened to numbers and lists. -/
import Derived.Test.YtiecailfndlgoaaRowV
import Derived.Test.YtiecailfndlgoaaRowZ
import Derived.Test.YtiecailfndlgoaaShI
import Derived.Deep.Slices
namespace Go.Proofs.Ytiecailfndlgoaa
/-- a call's cells: Kind, ID, Size. -/
def actV (x : Int × Int × Int) : List Value := [.int .i64 x.1, .int .i64 x.2.1, .int .i64 x.2.2]
namespace RowK
open Go.ChangeShapes Go.WideShapes Go.ChangeAt Go.RowKit Go.Joins Go.Deep
set_option linter.unusedVariables false
theorem cellsWait : Try.prog.cellsOf 41 = 2 := by kernel_rfl
theorem cellsAct13 : Try.prog.cellsOf 43 = 3 := by kernel_rfl
theorem cellsI13 : Try.prog.cellsOf 3 = 1 := by kernel_rfl
theorem cellsL13 : Try.prog.cellsOf 2 = 1 := by kernel_rfl
section
variable {H : Type} {enc : TypeId × Value → H} {w : World} {base : Nat} {spare : Nat → Bool} {held : Bool}
theorem open_waits {fuel : Nat} {cs : List Value} {x : DataW H × List MemPlace} (h : DataW.trod enc Try.prog w base spare held fuel 33 cs = some x) :
    ∃ (A : Option Addr) (L : List (Int × Int)) (c : Nat), cs = [.slice A L.length c] ∧ L.length ≤ maxLen ∧ Lie sendV 2 w w.heap.size A L := by
  rcases open_slice_fields Try.underlying33 Try.underlying41 (by kernel_rfl) cellsWait h with rfl | ⟨a, len, cap, rfl, hl, hm, hc⟩
  · exact ⟨none, [], 0, rfl, by simp, Lie.nil⟩
  · obtain ⟨L, rfl, hL⟩ := list_of (α := Int × Int) (Q := fun i x => w.cell? (a.add (i * 2 + 0)) = some (.int .i64 x.1) ∧ w.cell? (a.add (i * 2 + 1)) = some (.int .i64 x.2)) (n := len) (fun i hi => by
      obtain ⟨v0, n0, y0, hv0, ht0⟩ := hc i hi 0 _ rfl
      obtain ⟨v1, n1, y1, hv1, ht1⟩ := hc i hi 1 _ rfl
      obtain ⟨a0, e0, rfl, -⟩ := DataW.trod_int Try.underlying2 ht0
      obtain ⟨a1, e1, rfl, -⟩ := DataW.trod_int Try.underlying2 ht1
      simp at e0 e1
      subst e0 e1
      exact ⟨(a0, a1), hv0, hv1⟩)
    refine ⟨some a, L, cap, rfl, Nat.le_trans hl hm, fun hlen => ⟨a, rfl, ?_, fun i x hx j v hv => ?_⟩⟩
    · have := (hL 0 L[0] (List.getElem?_eq_getElem hlen)).1
      have := World.block_lt_of_cell? _ _ this
      rwa [block_of_add] at this
    · obtain ⟨h0, h1⟩ := hL i x hx
      match j, hv with
      | 0, hv => simp [sendV] at hv; subst hv; exact h0
      | 1, hv => simp [sendV] at hv; subst hv; exact h1
      | j + 2, hv => simp [sendV] at hv
/-- a struct of an int, and what lies in two cells. -/
theorem open_three13 {P : Program} {t : TypeId} {f0 f1 : Field} (hs : P.underlying t = some (.struct #[f0, f1])) (o0 : f0.offset = 0) (o1 : f1.offset = 1) (k0 : P.cellsOf f0.type = 1) (k1 : P.cellsOf f1.type = 2)
    (i0 : P.underlying f0.type = some (.int .i64)) {fuel : Nat} {cs : List Value} (hcl : cs.length = 3) {x : DataW H × List MemPlace} (h : DataW.trod enc P w base spare held fuel t cs = some x) :
    ∃ (a : Int) (c1 c2 : Value) (n : Nat) (y : DataW H × List MemPlace), cs = [.int .i64 a, c1, c2] ∧ DataW.trod enc P w base spare held n f1.type [c1, c2] = some y := by
  obtain ⟨xs, n, _, hx, _, hlen, hg⟩ := DataW.trod_struct hs h
  match cs, hcl, xs, hlen with
  | [c0, c1, c2], _, [y0, y1], _ =>
    have g0 : DataW.trod enc P w base spare held n f0.type [c0] = some y0 := by simpa [o0, k0] using hg 0 f0 rfl
    have g1 : DataW.trod enc P w base spare held n f1.type [c1, c2] = some y1 := by simpa [o1, k1] using hg 1 f1 rfl
    obtain ⟨a0, e0, -, z0⟩ := DataW.trod_int i0 g0
    simp at e0
    subst e0
    exact ⟨a0, c1, c2, n, y1, rfl, g1⟩
theorem open_two13 {P : Program} {t : TypeId} {f0 f1 : Field} (hs : P.underlying t = some (.struct #[f0, f1])) (o0 : f0.offset = 0) (o1 : f1.offset = 1) (k0 : P.cellsOf f0.type = 1) (k1 : P.cellsOf f1.type = 1) (i0 : P.underlying f0.type = some (.int .i64)) (i1 : P.underlying f1.type = some (.int .i64))
    {fuel : Nat} {c0 c1 : Value} {x : DataW H × List MemPlace} (h : DataW.trod enc P w base spare held fuel t [c0, c1] = some x) : ∃ a b : Int, c0 = .int .i64 a ∧ c1 = .int .i64 b := by
  obtain ⟨xs, n, _, hx, _, hlen, hg⟩ := DataW.trod_struct hs h
  match xs, hlen with
  | [y0, y1], _ =>
    have g0 : DataW.trod enc P w base spare held n f0.type [c0] = some y0 := by simpa [o0, k0] using hg 0 f0 rfl
    have g1 : DataW.trod enc P w base spare held n f1.type [c1] = some y1 := by simpa [o1, k1] using hg 1 f1 rfl
    obtain ⟨a0, e0, -, z0⟩ := DataW.trod_int i0 g0
    obtain ⟨a1, e1, -, z1⟩ := DataW.trod_int i1 g1
    simp at e0 e1
    exact ⟨a0, a1, e0, e1⟩
set_option maxRecDepth 1000000 in
theorem open_acts {fuel : Nat} {cs : List Value} {x : DataW H × List MemPlace} (h : DataW.trod enc Try.prog w base spare held fuel 24 cs = some x) :
    ∃ (A : Option Addr) (L : List (Int × Int × Int)) (c : Nat), cs = [.slice A L.length c] ∧ L.length ≤ maxLen ∧ Lie actV 3 w w.heap.size A L := by
  rcases open_slice Try.underlying24 h with h0 | ⟨a, len, cap, m, n, D, Pl, hcs, hb, hl, hm, hmm, hx, hi⟩
  · exact ⟨none, [], 0, h0.1, by simp, Lie.nil⟩
  · obtain ⟨L, hLl, hL⟩ := list_of (α := Int × Int × Int) (n := len) (Q := fun i x => w.cell? (a.add (i * 3 + 0)) = some (.int .i64 x.1) ∧ w.cell? (a.add (i * 3 + 1)) = some (.int .i64 x.2.1) ∧ w.cell? (a.add (i * 3 + 2)) = some (.int .i64 x.2.2)) (fun i hii => by
      have him : i < m := by rw [hmm]; split <;> omega
      obtain ⟨cs', hc, ht'⟩ := hi i him
      rw [cellsAct13] at hc
      obtain ⟨_, hcl, hat⟩ := World.cells?_some hc
      have q := fun j (hj : j < 3) => hat j hj
      obtain ⟨a0, c1, c2, n', y2, rfl, g2⟩ := open_three13 Try.underlying43 rfl rfl cellsI13 cellsWait Try.underlying3 hcl ht'
      obtain ⟨a1, a2, rfl, rfl⟩ := open_two13 Try.underlying41 rfl rfl cellsL13 cellsL13 Try.underlying2 Try.underlying2 g2
      refine ⟨(a0, a1, a2), ?_, ?_, ?_⟩
      · have := q 0 (by omega); rw [add_of_add] at this; exact this
      · have := q 1 (by omega); rw [add_of_add] at this; exact this
      · have := q 2 (by omega); rw [add_of_add] at this; exact this)
    subst hLl
    refine ⟨some a, L, cap, hcs, Nat.le_trans hl hm, fun hlen => ⟨a, rfl, ?_, fun i x hx j v hv => ?_⟩⟩
    · have := (hL 0 L[0] (List.getElem?_eq_getElem hlen)).1
      have := World.block_lt_of_cell? _ _ this
      rwa [block_of_add] at this
    · obtain ⟨h0, h1, h2⟩ := hL i x hx
      match j, hv with
      | 0, hv => simp [actV] at hv; subst hv; exact h0
      | 1, hv => simp [actV] at hv; subst hv; exact h1
      | 2, hv => simp [actV] at hv; subst hv; exact h2
      | j + 3, hv => simp [actV] at hv
end
end RowK
end Go.Proofs.Ytiecailfndlgoaa
