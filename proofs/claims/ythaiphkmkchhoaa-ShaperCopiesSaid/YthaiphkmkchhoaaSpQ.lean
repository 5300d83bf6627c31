/- The joint spec of three does not hang on their order; nor does the sum. The walk of SpecJoint. -/
import Derived.Test.YthaiphkmkchhoaaSpP
namespace Go.Proofs.Ythaiphkmkchhoaa
open Go.RowKit RowK

theorem mx_eq (x y : Int) : mx x y = max x y := by unfold mx; split <;> omega
theorem mn_eq (x y : Int) : mn x y = min x y := by unfold mn; split <;> omega
theorem noneB_three (a b c : Spc) : noneB [a, b, c] = !(rightS a && rightS b && rightS c) := by
  simp [noneB, allRight, Bool.and_assoc]
theorem jointR_turn (a b c : Spc) : jointR [c, a, b, a] = jointR [a, b, c] := by
  have h1 : noneB [c, a, b, a] = noneB [a, b, c] := by
    simp only [noneB, allRight, List.all_cons, List.all_nil, List.length_cons, List.length_nil]
    cases rightS a <;> cases rightS b <;> cases rightS c <;> rfl
  have h2 : acc jointV [c, a, b, a] 3 = acc jointV [a, b, c] 2 := by
    simp only [acc, spAt, jointV, mx_eq, mn_eq, List.getD_eq_getElem?_getD]
    simp
    refine ⟨?_, ?_, ?_, ?_, ?_⟩ <;> omega
  unfold jointR
  rw [h1]
  simp only [List.length_cons, List.length_nil]
  rw [show (0 + 1 + 1 + 1 + 1 - 1) = 3 from rfl, show (0 + 1 + 1 + 1 - 1) = 2 from rfl, h2]
theorem sumR_turn (a b c : Spc) : sumR [c, a, b] = sumR [a, b, c] := by
  have h1 : noneB [c, a, b] = noneB [a, b, c] := by
    simp only [noneB, allRight, List.all_cons, List.all_nil, List.length_cons, List.length_nil]
    cases rightS a <;> cases rightS b <;> cases rightS c <;> rfl
  have h2 : acc sumV [c, a, b] 2 = acc sumV [a, b, c] 2 := by
    simp only [acc, spAt, sumV, mx_eq, mn_eq, wrap64, List.getD_eq_getElem?_getD]
    simp
    refine ⟨?_, ?_, ?_, ?_, ?_⟩ <;> omega
  unfold sumR
  rw [h1]
  simp only [List.length_cons, List.length_nil]
  rw [show (0 + 1 + 1 + 1 - 1) = 2 from rfl, h2]
theorem lie_cells {w : World} {B b : Nat} {L : List Spc} (hb : b < B) (h : ∀ i x, L[i]? = some x → w.cell? ⟨b, i * 5, none⟩ = some (.int .i64 x.1) ∧ w.cell? ⟨b, i * 5 + 1, none⟩ = some (.int .i64 x.2.1) ∧ w.cell? ⟨b, i * 5 + 2, none⟩ = some (.int .i64 x.2.2.1) ∧ w.cell? ⟨b, i * 5 + 3, none⟩ = some (.int .i64 x.2.2.2.1) ∧ w.cell? ⟨b, i * 5 + 4, none⟩ = some (.int .i64 x.2.2.2.2)) :
    Lie specV 5 w B (some ⟨b, 0, none⟩) L := fun _ => by
  refine ⟨_, rfl, hb, fun i x hx j v hv => ?_⟩
  obtain ⟨h0, h1, h2, h3, h4⟩ := h i x hx
  rw [add_plain, Nat.zero_add]
  match j, hv with
  | 0, hv => simp [specV] at hv; subst hv; exact h0
  | 1, hv => simp [specV] at hv; subst hv; exact h1
  | 2, hv => simp [specV] at hv; subst hv; exact h2
  | 3, hv => simp [specV] at hv; subst hv; exact h3
  | 4, hv => simp [specV] at hv; subst hv; exact h4
  | j + 5, hv => simp [specV] at hv
theorem lie_three {w : World} (t : TypeId) (a b c : Spc) {B k : Nat} (hk : w.heap.size = k) (hb : k < B) : Lie specV 5 (w.alloc (.cells #[.int .i64 a.1, .int .i64 a.2.1, .int .i64 a.2.2.1, .int .i64 a.2.2.2.1, .int .i64 a.2.2.2.2, .int .i64 b.1, .int .i64 b.2.1, .int .i64 b.2.2.1, .int .i64 b.2.2.2.1, .int .i64 b.2.2.2.2, .int .i64 c.1, .int .i64 c.2.1, .int .i64 c.2.2.1, .int .i64 c.2.2.2.1, .int .i64 c.2.2.2.2] t)) B (some ⟨k, 0, none⟩) [a, b, c] := by
  subst hk
  refine lie_cells hb fun i x hx => ?_
  match i, hx with
  | 0, hx => simp at hx; subst hx; simp [go_sem]
  | 1, hx => simp at hx; subst hx; simp [go_sem]
  | 2, hx => simp at hx; subst hx; simp [go_sem]
  | i + 3, hx => simp at hx
theorem lie_four {w : World} (t : TypeId) (a b c d : Spc) {B k : Nat} (hk : w.heap.size = k) (hb : k < B) : Lie specV 5 (w.alloc (.cells #[.int .i64 a.1, .int .i64 a.2.1, .int .i64 a.2.2.1, .int .i64 a.2.2.2.1, .int .i64 a.2.2.2.2, .int .i64 b.1, .int .i64 b.2.1, .int .i64 b.2.2.1, .int .i64 b.2.2.2.1, .int .i64 b.2.2.2.2, .int .i64 c.1, .int .i64 c.2.1, .int .i64 c.2.2.1, .int .i64 c.2.2.2.1, .int .i64 c.2.2.2.2, .int .i64 d.1, .int .i64 d.2.1, .int .i64 d.2.2.1, .int .i64 d.2.2.2.1, .int .i64 d.2.2.2.2] t)) B (some ⟨k, 0, none⟩) [a, b, c, d] := by
  subst hk
  refine lie_cells hb fun i x hx => ?_
  match i, hx with
  | 0, hx => simp at hx; subst hx; simp [go_sem]
  | 1, hx => simp at hx; subst hx; simp [go_sem]
  | 2, hx => simp at hx; subst hx; simp [go_sem]
  | 3, hx => simp at hx; subst hx; simp [go_sem]
  | i + 4, hx => simp at hx

end Go.Proofs.Ythaiphkmkchhoaa
