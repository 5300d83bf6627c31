/- The joint spec and the sum are the document's: as plain mathematics; the walk of SpecPairs. -/
import Derived.Test.YtlocclnpnghaaaaSpT
import Derived.Test.YtlocclnpnghaaaaSpR
namespace Go.Proofs.Ytlocclnpnghaaaa
open Go.RowKit RowK

theorem within_is {a b : Spc} (ha : rightS a = true) (hb : rightS b = true) : withinR a b = (refWithinB a b, 0) := by
  unfold withinR
  rw [if_pos ⟨ha, hb⟩]
  have : sameB (jointV a b) b = refWithinB a b := by
    rw [Bool.eq_iff_iff]
    simp only [sameB, jointV, mx_eq, mn_eq, refWithinB, Bool.and_eq_true, beq_iff_eq, decide_eq_true_eq]
    omega
  rw [this]
theorem within_no {a b : Spc} (h : ¬ (rightS a = true ∧ rightS b = true)) : withinR a b = (false, 2) := by
  unfold withinR; rw [if_neg h]
theorem all_at {L : List Spc} (h : allRight L = true) {i : Nat} (hi : i < L.length) : rightS (spAt L i) = true := by
  rw [← spAt_get hi]
  exact List.all_eq_true.1 h _ (List.getElem_mem hi)
theorem sum_bounds {L : List Spc} (h : allRight L = true) (hm : L.length ≤ 10) : ∀ i, i < L.length →
    1 ≤ (acc sumV L i).2.1 ∧ (acc sumV L i).2.1 ≤ (acc sumV L i).1 ∧ (acc sumV L i).1 ≤ 1000000 * ((i : Int) + 1) ∧ 1 ≤ (acc sumV L i).2.2.2.2 ∧ (acc sumV L i).2.2.2.2 ≤ (acc sumV L i).2.2.2.1 ∧ (acc sumV L i).2.2.2.1 ≤ 2000 ∧ (acc sumV L i).2.2.2.1 ≤ (acc sumV L i).2.2.1 ∧ (acc sumV L i).2.2.1 ≤ 10000000 * ((i : Int) + 1)
  | 0, hi => by
    have := rightS_iff (all_at h hi)
    simp only [acc]
    omega
  | i + 1, hi => by
    have ih := sum_bounds h hm i (by omega)
    have := rightS_iff (all_at h hi)
    simp only [acc, sumV, mx_eq, mn_eq, wrap64]
    omega
theorem sum_fits {L : List Spc} (h : allRight L = true) (hm : L.length ≤ 10) {i : Nat} (hi : i < L.length) :
    (rightS (acc sumV L i) = true ↔ ¬ ((acc sumV L i).1 > 1000000 ∨ (acc sumV L i).2.2.1 > 10000000)) := by
  have b := sum_bounds h hm i hi
  generalize acc sumV L i = s at *
  constructor
  · intro hs
    have := rightS_iff hs
    omega
  · intro hs
    exact decide_eq_true (by omega)
theorem noneB_iff (L : List Spc) : noneB L = !(decide (0 < L.length) && allRight L) := by
  unfold noneB
  cases L <;> simp
/-- the two sums are one. -/
theorem sums_agree {L : List Spc} {n : Nat} (hn : L.length = n) (h : allRight L = true) (h1 : 1 ≤ n) (hm : n ≤ 10) :
    (∃ s, sumR L = (s, 0) ∧ refSumR L n = (s, true)) ∨ (sumR L = (z5, 3) ∧ refSumR L n = (z5, false)) := by
  have hno : noneB L = false := by rw [noneB_iff, h, hn]; simp; omega
  have hf := sum_fits h (by omega) (i := n - 1) (by omega)
  have e : sumR L = if (acc sumV L (n - 1)).1 > 1000000 ∨ (acc sumV L (n - 1)).2.2.1 > 10000000 then (z5, 3) else (acc sumV L (n - 1), 0) := by
    unfold sumR; rw [hno, hn]; rfl
  rw [e]
  unfold refSumR
  by_cases hs : rightS (acc sumV L (n - 1)) = true
  · rw [if_pos hs, if_neg (hf.1 hs)]; exact .inl ⟨_, rfl, rfl⟩
  · rw [if_neg hs, if_pos (Decidable.not_not.1 fun hh => hs (hf.2 hh))]; exact .inr ⟨rfl, rfl⟩
theorem joints_agree {L : List Spc} {n : Nat} (hn : L.length = n) (h : allRight L = true) (h1 : 1 ≤ n) : jointR L = (acc jointV L (n - 1), 0) := by
  have hno : noneB L = false := by rw [noneB_iff, h, hn]; simp; omega
  unfold jointR; rw [hno, hn]; rfl
theorem nones_agree {L : List Spc} (h : (decide (0 < L.length) && allRight L) = false) : jointR L = (z5, 2) ∧ sumR L = (z5, 2) := by
  have hno : noneB L = true := by rw [noneB_iff, h]; rfl
  unfold jointR sumR
  rw [if_pos hno, if_pos hno]
  exact ⟨rfl, rfl⟩
end Go.Proofs.Ytlocclnpnghaaaa
