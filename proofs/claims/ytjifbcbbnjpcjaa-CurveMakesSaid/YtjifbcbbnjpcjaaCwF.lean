/- Curves: the least lines (the document's side). -/
import Derived.Test.YtjifbcbbnjpcjaaCwE
namespace Go.Proofs.Ytjifbcbbnjpcjaa
set_option linter.unusedVariables false
open Go.RowKit Go.Proofs.Ytjifbcbbnjpcjaa.RowK

/-- what has been put so far. -/
def SoFar (L : List (Int × Int)) (i : Nat) (M : List (Int × Int)) : Prop := Ups M ∧ (∀ y, y ∈ M ↔ y ∈ L.take i) ∧ M.length = i
theorem sofar_put {L M N : List (Int × Int)} {i : Nat} (hi : i < L.length) (h : SoFar L i M) (g : PutM M (SM.av L i, SM.sv L i) N) : SoFar L (i + 1) N := by
  refine ⟨g.1, fun y => ?_, by rw [g.2.2, h.2.2]⟩
  rw [g.2.1 y, h.2.1 y, take_one hi, List.mem_append, List.mem_singleton]
/-- what is left of it: as low, everywhere. -/
def Left (L : List (Int × Int)) (M : List (Int × Int)) : Prop := Ups M ∧ 0 < M.length ∧ M.length ≤ L.length ∧ (∀ y, y ∈ M → y ∈ L) ∧ ∀ N D v, 0 ≤ N → 0 ≤ D → (CM.IsMin M N D v ↔ CM.IsMin L N D v)
theorem left_start {L M : List (Int × Int)} (h0 : 0 < L.length) (h : SoFar L L.length M) : Left L M := by
  have hm : ∀ y, y ∈ M ↔ y ∈ L := fun y => by have := h.2.1 y; rwa [List.take_length] at this
  refine ⟨h.1, by rw [h.2.2]; exact h0, by rw [h.2.2]; exact Nat.le_refl _, fun y hy => (hm y).1 hy, fun N D v _ _ => CM.IsMin.mem hm⟩
theorem left_gone {L M : List (Int × Int)} {g : Nat} (hg : g < M.length) (h : Left L M) (hG : GoneAt M g) : Left L (M.eraseIdx g) := by
  have h0 : 0 < g := by rcases hG with h | h; exact h.1; exact h.1
  have hl : (M.eraseIdx g).length = M.length - 1 := by rw [List.length_eraseIdx]; simp [hg]
  refine ⟨erase_ups h.1, by rw [hl]; omega, by rw [hl]; have := h.2.2.1; omega, fun y hy => h.2.2.2.1 y (List.mem_of_mem_eraseIdx hy), fun N D v a b => ?_⟩
  rw [erase_min h.1 hg hG a b]
  exact h.2.2.2.2 N D v a b
theorem left_end {L M : List (Int × Int)} (h : Left L M) (hn : ∀ i, i < M.length → ¬ GoneAt M i) : M = CM.low L := by
  have hne : L ≠ [] := fun e => by
    obtain ⟨x, hx⟩ := List.length_pos_iff_exists_mem.1 h.2.1
    have := h.2.2.2.1 x hx
    rw [e] at this
    simp at this
  exact least_eq (stay_nrm h.1 h.2.1 hn) hne h.2.2.2.2
/-- the last line that goes, among the first k. -/
def GoneSo (M : List (Int × Int)) (k : Nat) (g : Int) : Prop := (g = -1 ∧ ∀ i, i < k → ¬ GoneAt M i) ∨ ∃ j : Nat, g = (j : Int) ∧ j < k ∧ GoneAt M j
theorem goneSo_yes {M : List (Int × Int)} {k : Nat} (h : GoneAt M k) : GoneSo M (k + 1) (k : Int) := .inr ⟨k, rfl, by omega, h⟩
theorem goneSo_no {M : List (Int × Int)} {k : Nat} {g : Int} (h : GoneSo M k g) (hn : ¬ GoneAt M k) : GoneSo M (k + 1) g := by
  rcases h with ⟨h1, h2⟩ | ⟨j, h1, h2, h3⟩
  · refine .inl ⟨h1, fun i hi => ?_⟩
    rcases Nat.lt_or_ge i k with h | h
    · exact h2 i h
    · obtain rfl : i = k := by omega
      exact hn
  · exact .inr ⟨j, h1, by omega, h3⟩
theorem erase_row {M : List (Int × Int)} {g : Nat} (hg : g < M.length) : rowOf sendV (M.eraseIdx g) = [] ++ rowOf sendV (M.take g) ++ rowOf sendV (M.drop (g + 1)) ∧ (M.eraseIdx g).length = 0 + g + (M.length - (g + 1)) := by
  refine ⟨?_, by rw [List.length_eraseIdx]; simp [hg]; omega⟩
  rw [List.eraseIdx_eq_take_drop_succ]
  simp [rowOf]
end Go.Proofs.Ytjifbcbbnjpcjaa
