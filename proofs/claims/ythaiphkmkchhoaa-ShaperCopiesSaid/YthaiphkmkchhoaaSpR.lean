/- Who keeps to a spec keeps to the joint one. The walk of SpecFollows. -/
import Derived.Test.YthaiphkmkchhoaaSpQ
import Derived.Test.YthaiphkmkchhoaaSpN
namespace Go.Proofs.Ythaiphkmkchhoaa
open Go.RowKit RowK

theorem rightS_iff {x : Spc} (h : rightS x = true) : 1 ≤ x.2.1 ∧ x.2.1 ≤ x.1 ∧ x.1 ≤ 1000000 ∧ 1 ≤ x.2.2.2.2 ∧ x.2.2.2.2 ≤ x.2.2.2.1 ∧ x.2.2.2.1 ≤ 2000 ∧ x.2.2.2.1 ≤ x.2.2.1 ∧ x.2.2.1 ≤ 10000000 := rightB_iff h
theorem joint_right {a b : Spc} (ha : rightS a = true) (hb : rightS b = true) : rightS (jointV a b) = true := by
  have h1 := rightS_iff ha
  have h2 := rightS_iff hb
  refine decide_eq_true ?_
  simp only [jointV, mx_eq, mn_eq]
  omega
theorem joint_left (a b : Spc) : sameB (jointV a (jointV a b)) (jointV a b) = true := by
  simp only [sameB, jointV, mx_eq, mn_eq]
  simp
  try (refine ⟨⟨⟨⟨?_, ?_⟩, ?_⟩, ?_⟩, ?_⟩ <;> omega)
theorem joint_rightly (a b : Spc) : sameB (jointV b (jointV a b)) (jointV a b) = true := by
  simp only [sameB, jointV, mx_eq, mn_eq]
  simp
  try (refine ⟨⟨⟨⟨?_, ?_⟩, ?_⟩, ?_⟩, ?_⟩ <;> omega)
theorem minl_more {p r u m p' r' u' m' t : Int} (ht : 0 ≤ t) (hp : p ≤ p') (hr : r ≤ r') (hu : u ≤ u') (hm : m ≤ m') : SM.minl p r u m t ≤ SM.minl p' r' u' m' t := by
  have h1 : p * t ≤ p' * t := Int.mul_le_mul_of_nonneg_right hp ht
  have h2 : r * t ≤ r' * t := Int.mul_le_mul_of_nonneg_right hr ht
  have h3 := (SM.le_minl (p := p) (r := r) (u := u) (m := m) (t := t) (x := SM.minl p r u m t)).1 (Int.le_refl _)
  exact SM.le_minl.2 ⟨by omega, by omega⟩
theorem ok_mono {a s : Nat → Int} {m l : Int} {n : Nat} (h : ∀ j, j < n → SM.OkAt a s m l j) (i : Nat) : ∀ k, i ≤ k → k < n → a i ≤ a k
  | 0, hik, _ => by
    obtain rfl : i = 0 := by omega
    omega
  | k + 1, hik, hk => by
    by_cases e : i = k + 1
    · subst e; omega
    · have ih := ok_mono h i k (by omega) (by omega)
      have := (h (k + 1) hk).2.2.2.2 (by omega)
      simp at this
      omega
theorem KP_more {a s : Nat → Int} {p r u m l p' r' u' m' l' : Int} {n : Nat} (h : SM.KP a s p r u m l n) (hp : p ≤ p') (hr : r ≤ r') (hu : u ≤ u') (hm : m ≤ m') (hl : l' ≤ l) : SM.KP a s p' r' u' m' l' n := by
  refine ⟨fun i hi => ?_, fun i k hik hk => ?_⟩
  · have := h.1 i hi
    exact ⟨this.1, this.2.1, by have := this.2.2.1; omega, by have := this.2.2.2.1; omega, this.2.2.2.2⟩
  · have h1 := ok_mono h.1 i k hik hk
    exact Int.le_trans (h.2 i k hik hk) (minl_more (by omega) hp hr hu hm)
def keepsS (x : Spc) (L : List (Int × Int)) : Bool := fb0 x.1 x.2.1 x.2.2.1 x.2.2.2.1 x.2.2.2.2 L == L.length
theorem keepsS_joint {a b : Spc} (ha : rightS a = true) (hb : rightS b = true) {L : List (Int × Int)} (h : keepsS a L = true) : keepsS (jointV a b) L = true := by
  have h1 := rightS_iff ha
  have h2 := rightS_iff (joint_right ha hb)
  have h3 : fb0 a.1 a.2.1 a.2.2.1 a.2.2.2.1 a.2.2.2.2 L = L.length := by simpa [keepsS] using h
  have h4 := (SM.fb_all (by omega) (by omega) L).1 h3
  have h5 := KP_more h4 (p' := (jointV a b).1) (r' := (jointV a b).2.1) (u' := (jointV a b).2.2.1) (m' := (jointV a b).2.2.2.1) (l' := (jointV a b).2.2.2.2) (by simp only [jointV, mx_eq]; omega) (by simp only [jointV, mx_eq]; omega) (by simp only [jointV, mx_eq]; omega) (by simp only [jointV, mx_eq]; omega) (by simp only [jointV, mn_eq]; omega)
  have h6 := (SM.fb_all (by omega) (by omega) L).2 h5
  simp only [keepsS, fb0, h6, beq_self_eq_true]
theorem keepsR_right {x : Spc} (h : rightS x = true) (L : List (Int × Int)) : keepsR x.1 x.2.1 x.2.2.1 x.2.2.2.1 x.2.2.2.2 L = (keepsS x L, 0) := by
  unfold rightS at h
  simp only [keepsR, h, if_true, keepsS]
theorem jointR_two {a b : Spc} (ha : rightS a = true) (hb : rightS b = true) : jointR [a, b] = (jointV a b, 0) := by
  have : noneB [a, b] = false := by simp [noneB, allRight, ha, hb]
  unfold jointR
  rw [this]
  rfl
theorem jointR_none {a b : Spc} (h : ¬ (rightS a = true ∧ rightS b = true)) : jointR [a, b] = (z5, 2) := by
  have : noneB [a, b] = true := by
    simp only [noneB, allRight, List.all_cons, List.all_nil, List.length_cons]
    revert h
    cases rightS a <;> cases rightS b <;> simp
  unfold jointR
  rw [if_pos this]
theorem lie_pair {w : World} (t : TypeId) (a b : Spc) {B k : Nat} (hk : w.heap.size = k) (hb : k < B) : Lie specV 5 (w.alloc (.cells #[.int .i64 a.1, .int .i64 a.2.1, .int .i64 a.2.2.1, .int .i64 a.2.2.2.1, .int .i64 a.2.2.2.2, .int .i64 b.1, .int .i64 b.2.1, .int .i64 b.2.2.1, .int .i64 b.2.2.2.1, .int .i64 b.2.2.2.2] t)) B (some ⟨k, 0, none⟩) [a, b] := by
  subst hk
  refine lie_cells hb fun i x hx => ?_
  match i, hx with
  | 0, hx => simp at hx; subst hx; simp [go_sem]
  | 1, hx => simp at hx; subst hx; simp [go_sem]
  | i + 2, hx => simp at hx

end Go.Proofs.Ythaiphkmkchhoaa
