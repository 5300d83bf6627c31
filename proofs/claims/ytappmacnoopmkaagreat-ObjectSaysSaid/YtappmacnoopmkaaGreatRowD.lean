/- The row's frame for objects: an argument's list of objects, each with its words. -/
import Derived.Test.YtappmacnoopmkaaGreatRowC
import Derived.Test.YtappmacnoopmkaaGreatObL
namespace Go.Proofs.YtappmacnoopmkaaGreat
set_option linter.unusedVariables false
namespace RowK
open Go.ChangeShapes Go.WideShapes Go.ChangeAt Go.RowKit Go.Joins Go.Deep

theorem cellsWord : Tryz.prog.cellsOf 2 = 1 := by kernel_rfl
/-- words of 64 bits. -/
def W64 (l : List Int) : Prop := ∀ x ∈ l, -9223372036854775808 ≤ x ∧ x ≤ 9223372036854775807
section
variable {H : Type} {enc : TypeId × Value → H} {w : World} {base : Nat} {spare : Nat → Bool} {held : Bool} {fuel : Nat}
theorem open_words {cs : List Value} {x : DataW H × List MemPlace} (h : DataW.trod enc Tryz.prog w base spare held fuel 40 cs = some x) :
    ∃ (A : Option Addr) (L : List Int) (c : Nat), cs = [.slice A L.length c] ∧ L.length ≤ c ∧ c ≤ maxLen ∧ W64 L ∧ Lie wdV 1 w w.heap.size A L := by
  rcases open_ints Tryz.underlying40 Tryz.underlying2 cellsWord h with ⟨rfl, _⟩ | ⟨a, len, cap, zs, rfl, hb, hl, hm, hz, hx, hc, hwf⟩
  · exact ⟨none, [], 0, rfl, by simp, by simp [maxLen], by intro x hx; simp at hx, Lie.nil⟩
  · have hlen : len ≤ zs.length := by rw [hz]; split <;> omega
    have h1 : (zs.take len).length = len := by rw [List.length_take]; omega
    refine ⟨some a, zs.take len, cap, by rw [h1], by rw [h1]; exact hl, hm, fun x hx => i64_bounds (hwf x (List.mem_of_mem_take hx)), fun h0 => ⟨a, rfl, ?_, fun i x hx j v hv => ?_⟩⟩
    · have := World.block_lt_of_cell? _ _ (hc 0 (by omega))
      rwa [block_of_add] at this
    · have hi : i < len := by have := (List.getElem?_eq_some_iff.1 hx).1; omega
      rw [List.getElem?_take_of_lt hi] at hx
      match j, hv with
      | 0, hv =>
        simp [wdV] at hv; subst hv
        have := hc i (by omega)
        rw [List.getD_eq_getElem?_getD, hx] at this
        simpa using this
      | j + 1, hv => simp [wdV] at hv
def Wide (l : List Ob) : Prop := ∀ o ∈ l, o.ws.length ≤ maxLen ∧ W64 o.ws
theorem open_objs {cs : List Value} {x : DataW H × List MemPlace} (h : DataW.trod enc Tryz.prog w base spare held fuel 135 cs = some x) :
    ∃ (A : Option Addr) (L : List Ob) (c : Nat), cs = [.slice A L.length c] ∧ L.length ≤ c ∧ c ≤ maxLen ∧ Wide L ∧ Obs w (· < w.heap.size) A L := by
  rcases open_slice_fields Tryz.underlying135 Tryz.underlying42 (by kernel_rfl) (by kernel_rfl) h with rfl | ⟨a, len, cap, hcs, hl, hm, hi⟩
  · exact ⟨none, [], 0, rfl, by simp, by simp [maxLen], fun o ho => by simp at ho, fun h => by simp at h, by simp⟩
  · obtain ⟨L, hL, hQ⟩ := list_of (α := Ob) (Q := fun i o => w.cell? (a.add (i * 3)) = some (.int .i64 o.c) ∧ w.cell? (a.add (i * 3 + 1)) = some (.int .i64 o.t) ∧ w.cell? (a.add (i * 3 + 2)) = some o.v ∧ ∃ A c, o.v = .slice A o.ws.length c ∧ o.ws.length ≤ maxLen ∧ W64 o.ws ∧ Lie wdV 1 w w.heap.size A o.ws) (n := len) (fun i hil => by
      obtain ⟨v0, n0, y0, c0, t0⟩ := hi i hil 0 _ rfl
      obtain ⟨v1, n1, y1, c1, t1⟩ := hi i hil 1 _ rfl
      obtain ⟨v2, n2, y2, c2, t2⟩ := hi i hil 2 _ rfl
      obtain ⟨z0, e0, -, -⟩ := DataW.trod_int Tryz.underlying3 t0
      obtain ⟨z1, e1, -, -⟩ := DataW.trod_int Tryz.underlying3 t1
      obtain ⟨A, B, c, e2, hlc, hcm, hwd, hli⟩ := open_words t2
      simp at e0 e1 e2
      subst e0 e1 e2
      exact ⟨⟨z0, z1, _, B⟩, by simpa using c0, by simpa using c1, by simpa using c2, A, c, rfl, Nat.le_trans hlc hcm, hwd, hli⟩)
    subst hL
    refine ⟨some a, L, cap, hcs, hl, hm, fun o ho => ?_, ⟨fun h0 => ⟨a, rfl, ?_, fun i x hx j v hv => ?_⟩, fun o ho => ?_⟩⟩
    · obtain ⟨i, hi⟩ := List.getElem?_of_mem ho
      obtain ⟨_, _, _, A, c, _, h2, h3, _⟩ := hQ i o hi
      exact ⟨h2, h3⟩
    · have := (hQ 0 L[0] (List.getElem?_eq_getElem h0)).1
      have := World.block_lt_of_cell? _ _ this
      rwa [block_of_add] at this
    · obtain ⟨q0, q1, q2, _⟩ := hQ i x hx
      match j, hv with
      | 0, hv => simp [obV] at hv; subst hv; simpa using q0
      | 1, hv => simp [obV] at hv; subst hv; exact q1
      | 2, hv => simp [obV] at hv; subst hv; exact q2
      | j + 3, hv => simp [obV] at hv
    · obtain ⟨i, hi⟩ := List.getElem?_of_mem ho
      obtain ⟨_, _, _, A, c, h1, _, _, hl⟩ := hQ i o hi
      exact ⟨A, c, h1, hl.q (fun k hk => hk)⟩
end
end RowK
end Go.Proofs.YtappmacnoopmkaaGreat
