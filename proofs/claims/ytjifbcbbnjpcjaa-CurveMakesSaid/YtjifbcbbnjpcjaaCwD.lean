/- Curves: lines put in order one by one, lines that go one by one: plain mathematics (the document's side). -/
import Derived.Test.YtjifbcbbnjpcjaaCvJ
import Derived.Test.YtjifbcbbnjpcjaaCvD
namespace Go.Proofs.Ytjifbcbbnjpcjaa
set_option linter.unusedVariables false
open Go.RowKit Go.Proofs.Ytjifbcbbnjpcjaa.RowK

def UpR (a b : Int × Int) : Prop := a.1 < b.1 ∨ a.1 = b.1 ∧ a.2 ≤ b.2
theorem UpR.trans {a b c : Int × Int} (h : UpR a b) (g : UpR b c) : UpR a c := by unfold UpR at *; omega
theorem UpR.total {a b : Int × Int} (h : ¬ UpR a b) : UpR b a := by unfold UpR at *; omega
def Ups (L : List (Int × Int)) : Prop := L.Pairwise UpR
/-- c with x behind its first k. -/
def putL (c : List (Int × Int)) (x : Int × Int) (k : Nat) : List (Int × Int) := c.take k ++ [x] ++ c.drop k
theorem putL_mem {c : List (Int × Int)} {x : Int × Int} {k : Nat} (y : Int × Int) : y ∈ putL c x k ↔ y ∈ c ∨ y = x := by
  have e : y ∈ c ↔ y ∈ c.take k ∨ y ∈ c.drop k := by
    conv => lhs; rw [← List.take_append_drop k c]
    rw [List.mem_append]
  unfold putL
  rw [List.mem_append, List.mem_append, List.mem_singleton, e]
  constructor
  · rintro ((h | h) | h)
    · exact .inl (.inl h)
    · exact .inr h
    · exact .inl (.inr h)
  · rintro ((h | h) | h)
    · exact .inl (.inl h)
    · exact .inr h
    · exact .inl (.inr h)
theorem putL_len {c : List (Int × Int)} {x : Int × Int} {k : Nat} (hk : k ≤ c.length) : (putL c x k).length = c.length + 1 := by
  unfold putL; simp; omega
theorem putL_ups {c : List (Int × Int)} {x : Int × Int} {k : Nat} (h : Ups c) (hk : k ≤ c.length) (h1 : ∀ j, j < k → UpR (SM.av c j, SM.sv c j) x) (h2 : k < c.length → ¬ UpR (SM.av c k, SM.sv c k) x) : Ups (putL c x k) := by
  unfold Ups at *
  have h' := h
  rw [← List.take_append_drop k c, List.pairwise_append] at h'
  obtain ⟨g1, g2, g3⟩ := h'
  unfold putL
  rw [List.append_assoc, List.pairwise_append]
  have hx : ∀ a ∈ c.take k, UpR a x := fun a ha => by
    obtain ⟨j, hj, rfl⟩ := List.mem_iff_getElem.1 ha
    have hjk : j < k ∧ j < c.length := by simp at hj; omega
    have := h1 j hjk.1
    rw [← (av_at hjk.2).1, ← (av_at hjk.2).2] at this
    simpa using this
  have hd : ∀ b ∈ c.drop k, UpR x b := fun b hb => by
    obtain ⟨j, hj, rfl⟩ := List.mem_iff_getElem.1 hb
    have hjl : k + j < c.length := by simp at hj; omega
    have hkl : k < c.length := by omega
    have h3 : UpR x c[k] := by
      have := h2 hkl
      rw [← (av_at hkl).1, ← (av_at hkl).2] at this
      exact UpR.total this
    rw [List.getElem_drop]
    rcases Nat.eq_zero_or_pos j with rfl | hj0
    · simpa using h3
    · exact h3.trans ((List.pairwise_iff_getElem.1 h) k (k + j) hkl hjl (by omega))
  refine ⟨g1, ?_, fun a ha b hb => ?_⟩
  · rw [List.singleton_append, List.pairwise_cons]
    exact ⟨hd, g2⟩
  · rw [List.singleton_append, List.mem_cons] at hb
    rcases hb with rfl | hb
    · exact hx a ha
    · exact g3 a ha b hb
/-- line i is nowhere the only least one. -/
def GoneAt (c : List (Int × Int)) (i : Nat) : Prop :=
  (0 < i ∧ SM.sv c (i - 1) ≤ SM.sv c i) ∨ (0 < i ∧ i + 1 < c.length ∧ SM.sv c (i + 1) < SM.sv c i ∧ (SM.av c (i + 1) - SM.av c (i - 1)) * (SM.sv c (i - 1) - SM.sv c i) ≤ (SM.av c i - SM.av c (i - 1)) * (SM.sv c (i - 1) - SM.sv c (i + 1)))
theorem mid_dom {b0 b1 b2 r0 r1 r2 D N : Int} (h1 : r1 < r0) (h2 : r2 < r1) (h : (b2 - b0) * (r0 - r1) ≤ (b1 - b0) * (r0 - r2)) (hD : 0 ≤ D) (hN : 0 ≤ N) : b0 * D + r0 * N ≤ b1 * D + r1 * N ∨ b2 * D + r2 * N ≤ b1 * D + r1 * N := by
  by_cases g1 : b0 * D + r0 * N ≤ b1 * D + r1 * N
  · exact .inl g1
  by_cases g2 : b2 * D + r2 * N ≤ b1 * D + r1 * N
  · exact .inr g2
  exfalso
  obtain ⟨p, hp⟩ : ∃ p, r0 - r1 = p := ⟨_, rfl⟩
  obtain ⟨q, hq⟩ : ∃ q, r1 - r2 = q := ⟨_, rfl⟩
  have hr0 : r0 = r1 + p := by omega
  have hr2 : r2 = r1 - q := by omega
  subst hr0 hr2
  have p0 : 0 < p := by omega
  have q0 : 0 < q := by omega
  have hA : b2 * p + b0 * q ≤ b1 * (p + q) := by
    have e1 : r1 + p - r1 = p := by omega
    have e2 : r1 + p - (r1 - q) = p + q := by omega
    rw [e1, e2] at h
    have e3 : (b2 - b0) * p = b2 * p - b0 * p := Int.sub_mul _ _ _
    have e4 : (b1 - b0) * (p + q) = b1 * (p + q) - b0 * p - b0 * q := by grind
    omega
  have hB := Int.mul_le_mul_of_nonneg_right hA hD
  have k1 := Int.mul_lt_mul_of_pos_right (show b1 * D + r1 * N < b0 * D + (r1 + p) * N by omega) q0
  have k2 := Int.mul_lt_mul_of_pos_right (show b1 * D + r1 * N < b2 * D + (r1 - q) * N by omega) p0
  have e5 : (b0 * D + (r1 + p) * N) * q + (b2 * D + (r1 - q) * N) * p = (b2 * p + b0 * q) * D + (r1 * (p + q)) * N := by grind
  have e6 : (b1 * D + r1 * N) * q + (b1 * D + r1 * N) * p = b1 * (p + q) * D + (r1 * (p + q)) * N := by grind
  omega
theorem gone_dom {c : List (Int × Int)} {i : Nat} (h : Ups c) (hi : i < c.length) (hg : GoneAt c i) {N D : Int} (hN : 0 ≤ N) (hD : 0 ≤ D) : ∃ j, ∃ hj : j < c.length, j ≠ i ∧ CM.val c[j] N D ≤ CM.val c[i] N D := by
  have h0 : 0 < i := by rcases hg with h | h; exact h.1; exact h.1
  have hu := (List.pairwise_iff_getElem.1 h) (i - 1) i (by omega) hi (by omega)
  have a1 := av_at (show i - 1 < c.length by omega)
  have a2 := av_at hi
  by_cases hA : SM.sv c (i - 1) ≤ SM.sv c i
  · refine ⟨i - 1, by omega, by omega, ?_⟩
    unfold CM.val
    rw [a1.1, a1.2, a2.1, a2.2]
    have hb : SM.av c (i - 1) ≤ SM.av c i := by
      unfold UpR at hu
      rw [a1.1, a1.2, a2.1, a2.2] at hu
      omega
    have m1 := Int.mul_le_mul_of_nonneg_right hb hD
    have m2 := Int.mul_le_mul_of_nonneg_right hA hN
    omega
  · rcases hg with hg | ⟨_, h3, h4, h5⟩
    · exact absurd hg.2 hA
    · have a3 := av_at h3
      rcases mid_dom (show SM.sv c i < SM.sv c (i - 1) by omega) h4 h5 hD hN with g | g
      · refine ⟨i - 1, by omega, by omega, ?_⟩
        unfold CM.val
        rw [a1.1, a1.2, a2.1, a2.2]
        exact g
      · refine ⟨i + 1, h3, by omega, ?_⟩
        unfold CM.val
        rw [a3.1, a3.2, a2.1, a2.2]
        exact g
theorem erase_min {c : List (Int × Int)} {i : Nat} (h : Ups c) (hi : i < c.length) (hg : GoneAt c i) {N D v : Int} (hN : 0 ≤ N) (hD : 0 ≤ D) : CM.IsMin (c.eraseIdx i) N D v ↔ CM.IsMin c N D v := by
  have hm : ∀ y, y ∈ c.eraseIdx i ↔ ∃ j, ∃ hj : j < c.length, j ≠ i ∧ c[j] = y := fun y => by
    rw [List.mem_eraseIdx_iff_getElem]
  obtain ⟨j0, hj0, hne, hd⟩ := gone_dom h hi hg hN hD
  have hj0m : c[j0] ∈ c.eraseIdx i := (hm _).2 ⟨j0, hj0, hne, rfl⟩
  constructor
  · rintro ⟨⟨x, hx, e⟩, h2⟩
    obtain ⟨j, hj, _, rfl⟩ := (hm x).1 hx
    refine ⟨⟨_, List.getElem_mem hj, e⟩, fun y hy => ?_⟩
    obtain ⟨k, hk, rfl⟩ := List.mem_iff_getElem.1 hy
    by_cases hki : k = i
    · subst hki
      have := h2 _ hj0m
      omega
    · exact h2 _ ((hm _).2 ⟨k, hk, hki, rfl⟩)
  · rintro ⟨⟨x, hx, e⟩, h2⟩
    refine ⟨?_, fun y hy => ?_⟩
    · obtain ⟨k, hk, rfl⟩ := List.mem_iff_getElem.1 hx
      by_cases hki : k = i
      · subst hki
        have := h2 _ (List.getElem_mem hj0)
        exact ⟨_, hj0m, by omega⟩
      · exact ⟨_, (hm _).2 ⟨k, hk, hki, rfl⟩, e⟩
    · obtain ⟨k, hk, _, rfl⟩ := (hm y).1 hy
      exact h2 _ (List.getElem_mem hk)
theorem erase_ups {c : List (Int × Int)} {i : Nat} (h : Ups c) : Ups (c.eraseIdx i) := List.Pairwise.sublist (List.eraseIdx_sublist c i) h
theorem stay_nrm {c : List (Int × Int)} (h : Ups c) (h0 : 0 < c.length) (hn : ∀ i, i < c.length → ¬ GoneAt c i) : Nrm c := by
  refine ⟨h0, fun i h1 h2 => ?_⟩
  have key : ∀ i, 1 ≤ i → i < c.length → SM.av c (i - 1) < SM.av c i ∧ SM.sv c i < SM.sv c (i - 1) := fun i h1 h2 => by
    have hg := hn i h2
    have hu := (List.pairwise_iff_getElem.1 h) (i - 1) i (by omega) h2 (by omega)
    have a1 := av_at (show i - 1 < c.length by omega)
    have a2 := av_at h2
    unfold UpR at hu
    rw [a1.1, a1.2, a2.1, a2.2] at hu
    have h3 : ¬ SM.sv c (i - 1) ≤ SM.sv c i := fun h => hg (.inl ⟨by omega, h⟩)
    omega
  refine ⟨key i h1 h2, fun h3 => ?_⟩
  obtain ⟨k, rfl⟩ : ∃ k, i = k + 2 := ⟨i - 2, by omega⟩
  have hg := hn (k + 1) (by omega)
  have k1 := key (k + 2) (by omega) h2
  have k2 := key (k + 1) (by omega) (by omega)
  rw [show k + 2 - 1 = k + 1 by omega] at *
  rw [show k + 2 - 2 = k by omega] at *
  rw [show k + 1 - 1 = k by omega] at *
  have h5 : ¬ (SM.av c (k + 1 + 1) - SM.av c k) * (SM.sv c k - SM.sv c (k + 1)) ≤ (SM.av c (k + 1) - SM.av c k) * (SM.sv c k - SM.sv c (k + 1 + 1)) := fun hh => hg (.inr ⟨by omega, by omega, k1.2, hh⟩)
  rw [show k + 1 + 1 = k + 2 by omega] at h5
  generalize SM.av c k = b0 at *
  generalize SM.av c (k + 1) = b1 at *
  generalize SM.av c (k + 2) = b2 at *
  generalize SM.sv c k = r0 at *
  generalize SM.sv c (k + 1) = r1 at *
  generalize SM.sv c (k + 2) = r2 at *
  clear hg hn h key k1 k2
  grind
theorem least_eq {c l : List (Int × Int)} (hc : Nrm c) (hl : l ≠ []) (h : ∀ N D v, 0 ≤ N → 0 ≤ D → (CM.IsMin c N D v ↔ CM.IsMin l N D v)) : c = CM.low l :=
  CM.nrm_same hc (CM.low_nrm hl) fun N D v a b => by rw [CM.low_min a b]; exact h N D v a b
end Go.Proofs.Ytjifbcbbnjpcjaa
