/- Maps: links with another Far, in a row of the call's own. -/
import Derived.Test.YtjnceoklnmmhjaaTpU
import Derived.Test.YtjnceoklnmmhjaaTpK
import Derived.Laws.OwnMore
namespace Go.Proofs.Ytjnceoklnmmhjaa.Tp
set_option linter.unusedVariables false
open Go.RowKit

def turnF (x : Lk) : Lk := (fr x, tw x, rt x, sh x, 1000 - fa x, mo x, ro x, fi x)
def farF (x : Lk) (v : Int) : Lk := (fr x, tw x, rt x, sh x, v, mo x, ro x, fi x)
def turnK (L : List Lk) (k : Nat) : List Lk := (L.take k).map turnF ++ L.drop k
theorem turnK_zero (L : List Lk) : turnK L 0 = L := by simp [turnK]
theorem turnK_all (L : List Lk) : turnK L L.length = L.map turnF := by simp [turnK]
theorem turnK_len (L : List Lk) {k : Nat} (h : k ≤ L.length) : (turnK L k).length = L.length := by
  unfold turnK
  rw [List.length_append, List.length_map, List.length_take, List.length_drop]
  omega
theorem turnK_step {L : List Lk} {k : Nat} (h : k < L.length) : (turnK L k).set k (turnF (lkAt L k)) = turnK L (k + 1) := by
  unfold turnK
  have hl : ((L.take k).map turnF).length = k := by rw [List.length_map, List.length_take]; omega
  rw [List.set_append_right _ _ (by omega), hl, Nat.sub_self, List.drop_eq_getElem_cons h, List.set_cons_zero, lk_take h, List.map_append]
  simp
theorem turnK_at {L : List Lk} {k : Nat} (h : k < L.length) : lkAt (turnK L k) k = lkAt L k := by
  rw [lkAt_get (by rw [turnK_len L (by omega)]; exact h), lkAt_get h]
  unfold turnK
  have hl : ((L.take k).map turnF).length = k := by rw [List.length_map, List.length_take]; omega
  rw [List.getElem_append_right (by omega), List.getElem_drop]
  congr 1
  omega
theorem row_set : ∀ (T : List Lk) (i : Nat) (v : Int), i < T.length → (rowOf linkV T).set (i * 8 + 4) (.int .i64 v) = rowOf linkV (T.set i (farF (lkAt T i) v))
  | [], i, v, h => by simp at h
  | y :: T, 0, v, h => by
    simp only [rowOf, List.flatMap_cons, List.set_cons_zero, lkAt, List.getD_cons_zero, Nat.zero_mul, Nat.zero_add]
    rw [List.set_append_left _ _ (by rw [linkV_len]; omega)]
    rfl
  | y :: T, i + 1, v, h => by
    have ih := row_set T i v (by simpa using h)
    simp only [rowOf, List.flatMap_cons, List.set_cons_succ] at *
    have e : (i + 1) * 8 + 4 = 8 + (i * 8 + 4) := by omega
    rw [e, List.set_append_right _ _ (by rw [linkV_len]; omega), linkV_len, Nat.add_sub_cancel_left, ih]
    rfl
theorem turn_row {w : World} {base g cap : Nat} {e : TypeId} {L : List Lk} {k : Nat} (h : k < L.length) (hO : w.ownsRow base e 8 (.slice (some ⟨g, 0, none⟩) L.length cap) L.length (rowOf linkV (turnK L k))) :
    (w.setCell ⟨g, k * 8 + 4, none⟩ (.int .i64 (1000 - fa (lkAt L k)))).ownsRow base e 8 (.slice (some ⟨g, 0, none⟩) L.length cap) L.length (rowOf linkV (turnK L (k + 1))) := by
  have h1 := (World.ownsRow.stored hO (k * 8 + 4) (.int .i64 (1000 - fa (lkAt L k)))).1
  rw [row_set _ _ _ (by rw [turnK_len L (by omega)]; exact h), turnK_at h] at h1
  have e1 : farF (lkAt L k) (1000 - fa (lkAt L k)) = turnF (lkAt L k) := rfl
  rw [e1, turnK_step h] at h1
  exact h1
def halfK (L : List Lk) (k : Nat) : Bool := (L.take k).any (fun x => decide (fa x = 500))
theorem halfK_step {L : List Lk} {k : Nat} (h : k < L.length) : halfK L (k + 1) = (halfK L k || decide (fa (lkAt L k) = 500)) := by
  unfold halfK
  rw [lk_take h, List.any_append]
  simp
theorem ends_turn (L : List Lk) : endsL (L.map turnF) = endsL L := by
  unfold endsL
  rw [List.map_map]
  rfl
theorem WideL.turn {L : List Lk} (h : WideL L) : WideL (L.map turnF) := fun x hx => by
  obtain ⟨y, hy, rfl⟩ := List.mem_map.1 hx
  exact h y hy
theorem Valid.turn {n : Int} {L : List Lk} (h : Valid n L) : Valid n (L.map turnF) := by
  refine ⟨h.lo, h.hi, fun x hx => ?_, by rw [List.length_map]; exact h.len, by rw [ends_turn]; exact h.nod, fun x hx => ?_⟩
  · obtain ⟨y, hy, rfl⟩ := List.mem_map.1 hx
    have := (rightB_iff n y).1 (h.all y hy)
    rw [rightB_iff]
    simp only [turnF, fr, tw, rt, sh, fa, mo, ro, fi] at *
    omega
  · obtain ⟨y, hy, rfl⟩ := List.mem_map.1 hx
    rw [ends_turn]
    exact h.back y hy
theorem turn_other {n : Int} {L : List Lk} (hL : L ≠ []) (hh : halfK L L.length = false) : sameM n (L.map turnF) n L = false := by
  cases e : sameM n (L.map turnF) n L
  · rfl
  · have h2 := (sameM_iff.1 e).2
    obtain ⟨x, hx⟩ := List.exists_mem_of_ne_nil L hL
    unfold halfK at hh
    rw [List.take_length, List.any_eq_false] at hh
    have h0 : 0 < L.length := List.length_pos_iff.2 hL
    have h3 : (L.map turnF)[0]'(by simpa using h0) = L[0] := by simp [h2]
    have h4 : turnF L[0] = L[0] := by simpa using h3
    have h5 : 1000 - fa L[0] = fa L[0] := congrArg fa h4
    have h6 := hh L[0] (List.getElem_mem h0)
    exact absurd (decide_eq_true (by omega : fa L[0] = 500)) h6
end Go.Proofs.Ytjnceoklnmmhjaa.Tp
