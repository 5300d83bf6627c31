/- Curves: so many ticks later: what is still there is a curve's, as high as it was then: plain mathematics. -/
import Derived.Test.YtpgaklfgbioocaaCvV
namespace Go.Proofs.Ytpgaklfgbioocaa
set_option linter.unusedVariables false
open Go.RowKit Go.Proofs.Ytpgaklfgbioocaa.RowK

theorem hgt_vl (L : List (Int × Int)) (t : Int) (i : Nat) : hgt L t i = CM.vl L i t 1 := by unfold hgt CM.vl; omega
theorem hgt_step (L : List (Int × Int)) (t : Int) (i : Nat) : hgt L t (i + 1) - hgt L t i = CM.bp L (i + 1) - CM.bq L (i + 1) * t := by
  have := CM.vl_step L i t 1
  rw [hgt_vl, hgt_vl]
  omega
theorem up_one {L : List (Int × Int)} (h : CM.AllN L) {t : Int} {i : Nat} (hi : i + 2 < L.length) (hu : hgt L t i < hgt L t (i + 1)) : hgt L t (i + 1) < hgt L t (i + 2) := by
  have s1 := hgt_step L t i
  have s2 := hgt_step L t (i + 1)
  have hc := CM.bend_chain h (j := i + 1) (by omega) 0 (by omega)
  rw [show i + 1 + 1 + 0 = i + 2 by omega] at hc
  rw [show i + 1 + 1 = i + 2 by omega] at s2
  obtain ⟨p1, q1⟩ := CM.bend_pos h (j := i + 1) (by omega) (by omega)
  obtain ⟨p2, q2⟩ := CM.bend_pos h (j := i + 2) (by omega) (by omega)
  generalize CM.bp L (i + 1) = P at *
  generalize CM.bq L (i + 1) = Q at *
  generalize CM.bp L (i + 2) = P' at *
  generalize CM.bq L (i + 2) = Q' at *
  have h1 : Q * t < P := by omega
  have h2 : (Q * t) * Q' < P * Q' := Int.mul_lt_mul_of_pos_right h1 q2
  have h3 : (Q' * t) * Q < P' * Q := by
    have e : (Q' * t) * Q = (Q * t) * Q' := by rw [Int.mul_assoc, Int.mul_comm, Int.mul_comm t Q]
    omega
  have h4 : Q' * t < P' := Int.lt_of_mul_lt_mul_right h3 (by omega)
  omega
theorem up_all {L : List (Int × Int)} (h : CM.AllN L) {t : Int} {i : Nat} (hu : hgt L t i < hgt L t (i + 1)) : ∀ k, i + k + 1 < L.length → hgt L t (i + k) < hgt L t (i + k + 1)
  | 0, _ => hu
  | k + 1, hk => by
    have := up_all h hu k (by omega)
    have := up_one h (i := i + k) (by omega) this
    rw [show i + (k + 1) = i + k + 1 by omega]
    exact this
theorem later_mono {L : List (Int × Int)} (h : CM.AllN L) {t : Int} {i j : Nat} (hij : i ≤ j) (hj : j < L.length) (hi : laterB L t i = true) : laterB L t j = true := by
  unfold laterB at *
  by_cases hl : j + 1 = L.length
  · rw [decide_eq_true hl]; rfl
  · rw [decide_eq_false (by omega : ¬ i + 1 = L.length)] at hi
    have hu : hgt L t i < hgt L t (i + 1) := of_decide_eq_true (by simpa using hi)
    have := up_all h hu (j - i) (by omega)
    rw [show i + (j - i) = j by omega] at this
    rw [decide_eq_true this]; simp
theorem least_of {P : Nat → Prop} : ∀ n, (∃ i, i ≤ n ∧ P i) → ∃ f, f ≤ n ∧ P f ∧ ∀ i, i < f → ¬ P i
  | 0, ⟨i, hi, hp⟩ => ⟨0, Nat.le_refl _, by
      obtain rfl : i = 0 := by omega
      exact hp, fun j hj => absurd hj (by omega)⟩
  | n + 1, ⟨i, hi, hp⟩ => by
    by_cases hx : ∃ i, i ≤ n ∧ P i
    · obtain ⟨f, h1, h2, h3⟩ := least_of n hx
      exact ⟨f, by omega, h2, h3⟩
    · have hin : i = n + 1 := by
        rcases Nat.lt_or_ge i (n + 1) with h | h
        · exact absurd ⟨i, by omega, hp⟩ hx
        · omega
      subst hin
      exact ⟨n + 1, Nat.le_refl _, hp, fun j hj hpj => hx ⟨j, by omega, hpj⟩⟩
/-- the first line that is still there. -/
theorem first_later {L : List (Int × Int)} (h : CM.AllN L) (h0 : 0 < L.length) (t : Int) : ∃ f, f < L.length ∧ ∀ i, i < L.length → (laterB L t i = true ↔ f ≤ i) := by
  obtain ⟨f, h1, h2, h3⟩ := least_of (P := fun i => laterB L t i = true) (L.length - 1) ⟨L.length - 1, Nat.le_refl _, by
    unfold laterB; rw [decide_eq_true (by omega : L.length - 1 + 1 = L.length)]; rfl⟩
  refine ⟨f, by omega, fun i hi => ⟨fun hb => ?_, fun hb => later_mono h hb hi h2⟩⟩
  rcases Nat.lt_or_ge i f with hlt | hge
  · exact absurd hb (h3 i hlt)
  · exact hge
theorem kp_drop {L : List (Int × Int)} {t : Int} {f : Nat} (hf : ∀ i, i < L.length → (laterB L t i = true ↔ f ≤ i)) : ∀ k, k ≤ L.length → kp L t k = (L.take k).drop f
  | 0, _ => by simp [kp]
  | k + 1, hk => by
    have ih := kp_drop hf k (by omega)
    have hb := hf k (by omega)
    unfold kp
    rw [ih, take_one (show k < L.length by omega)]
    by_cases hfk : f ≤ k
    · rw [if_pos (hb.2 hfk), List.drop_append_of_le_length (by rw [CM.take_len (by omega)]; exact hfk)]
    · rw [if_neg (fun hh => hfk (hb.1 hh))]
      rw [List.drop_eq_nil_of_le (by simp; omega), List.drop_eq_nil_of_le (by simp; omega)]
theorem later_drop {L : List (Int × Int)} {t : Int} {f : Nat} (hf : ∀ i, i < L.length → (laterB L t i = true ↔ f ≤ i)) : laterL L t = (L.drop f).map (shf t) := by
  rw [laterL_eq, kp_drop hf L.length (Nat.le_refl _), List.take_length]
theorem drop_at {L : List (Int × Int)} {t : Int} {f i : Nat} (hi : f + i < L.length) : SM.av ((L.drop f).map (shf t)) i = hgt L t (f + i) ∧ SM.sv ((L.drop f).map (shf t)) i = SM.sv L (f + i) := by
  have e : ((L.drop f).map (shf t))[i]? = some (shf t L[f + i]) := by
    rw [List.getElem?_map, List.getElem?_drop, List.getElem?_eq_getElem hi]; rfl
  unfold SM.av SM.sv
  rw [List.getD_eq_getElem?_getD, e]
  have h1 := CM.at_get hi
  unfold SM.av SM.sv at h1
  simp only [Option.getD_some, shf, hgt, SM.av, SM.sv]
  rw [h1.1, h1.2]
  exact ⟨rfl, rfl⟩
theorem later_len {L : List (Int × Int)} {t : Int} {f : Nat} : ((L.drop f).map (shf t)).length = L.length - f := by simp
theorem later_nrm {L : List (Int × Int)} (h : Nrm L) (t : Int) : Nrm (laterL L t) := by
  obtain ⟨f, hf1, hf2⟩ := first_later h.2 h.1 t
  rw [later_drop hf2]
  refine ⟨by rw [later_len]; omega, fun i h1 h2 => ?_⟩
  rw [later_len] at h2
  obtain ⟨m, rfl⟩ : ∃ m, i = m + 1 := ⟨i - 1, by omega⟩
  have hup : hgt L t (f + m) < hgt L t (f + m + 1) := by
    have := (hf2 (f + m) (by omega)).2 (by omega)
    unfold laterB at this
    rw [decide_eq_false (by omega : ¬ f + m + 1 = L.length)] at this
    exact of_decide_eq_true (by simpa using this)
  have hN := h.2 (f + m + 1) (by omega) (by omega)
  unfold NrmAt at hN ⊢
  rw [Nat.add_sub_cancel] at hN ⊢
  rw [(drop_at (L := L) (t := t) (f := f) (i := m) (by omega)).1, (drop_at (L := L) (t := t) (f := f) (i := m) (by omega)).2, (drop_at (L := L) (t := t) (f := f) (i := m + 1) (by omega)).1, (drop_at (L := L) (t := t) (f := f) (i := m + 1) (by omega)).2]
  rw [show f + (m + 1) = f + m + 1 by omega]
  refine ⟨⟨hup, hN.1.2⟩, fun h3 => ?_⟩
  obtain ⟨k, rfl⟩ : ∃ k, m = k + 1 := ⟨m - 1, by omega⟩
  rw [show k + 1 + 1 - 2 = k by omega, (drop_at (L := L) (t := t) (f := f) (i := k) (by omega)).1, (drop_at (L := L) (t := t) (f := f) (i := k) (by omega)).2]
  have hT := hN.2 (by omega)
  rw [show f + (k + 1) + 1 - 2 = f + k by omega] at hT
  rw [show f + (k + 1) = f + k + 1 by omega] at *
  unfold hgt
  generalize SM.av L (f + k) = b0 at *
  generalize SM.sv L (f + k) = r0 at *
  generalize SM.av L (f + k + 1) = b1 at *
  generalize SM.sv L (f + k + 1) = r1 at *
  generalize SM.av L (f + k + 1 + 1) = b2 at *
  generalize SM.sv L (f + k + 1 + 1) = r2 at *
  have e1 : (b1 + r1 * t - (b0 + r0 * t)) = (b1 - b0) - (r0 - r1) * t := by rw [Int.sub_mul]; omega
  have e2 : (b2 + r2 * t - (b1 + r1 * t)) = (b2 - b1) - (r1 - r2) * t := by rw [Int.sub_mul]; omega
  rw [e1, e2, Int.sub_mul (b1 - b0) ((r0 - r1) * t) (r1 - r2), Int.sub_mul (b2 - b1) ((r1 - r2) * t) (r0 - r1)]
  have e3 : (r0 - r1) * t * (r1 - r2) = (r1 - r2) * t * (r0 - r1) := by rw [Int.mul_assoc, Int.mul_comm, Int.mul_comm t]
  omega
theorem later_min {L : List (Int × Int)} (h : Nrm L) {t n d v : Int} (ht : 0 ≤ t) (hn : 0 ≤ n) (hd : 0 ≤ d) : CM.IsMin (laterL L t) n d v ↔ CM.IsMin L (n + t * d) d v := by
  obtain ⟨f, hf1, hf2⟩ := first_later h.2 h.1 t
  rw [later_drop hf2]
  have hv : ∀ x : Int × Int, CM.val (shf t x) n d = CM.val x (n + t * d) d := fun x => by
    unfold CM.val shf
    simp only
    rw [Int.add_mul, Int.mul_add, Int.mul_assoc]
    omega
  -- what is gone is nowhere less than the first line that is still there
  have hgone : ∀ i, i < f → CM.val L[f] (n + t * d) d ≤ CM.vl L i (n + t * d) d := by
    intro i hi
    have hh : ∀ k, k ≤ f → hgt L t f ≤ hgt L t (f - k) := by
      intro k
      induction k with
      | zero => intro _; exact Int.le_refl _
      | succ k ih =>
        intro hk
        have h1 := ih (by omega)
        have hb : ¬ laterB L t (f - (k + 1)) = true := fun hb => by have := (hf2 (f - (k + 1)) (by omega)).1 hb; omega
        have hle : ¬ hgt L t (f - (k + 1)) < hgt L t (f - (k + 1) + 1) := fun hlt => hb (by unfold laterB; rw [decide_eq_true hlt]; simp)
        rw [show f - (k + 1) + 1 = f - k by omega] at hle
        omega
    have h1 := hh (f - i) (by omega)
    rw [show f - (f - i) = i by omega] at h1
    have hr : ∀ k, k ≤ f → SM.sv L f ≤ SM.sv L (f - k) := by
      intro k
      induction k with
      | zero => intro _; exact Int.le_refl _
      | succ k ih =>
        intro hk
        have h2 := ih (by omega)
        have h3 := (h.2 (f - k) (by omega) (by omega)).1.2
        rw [show f - k - 1 = f - (k + 1) by omega] at h3
        omega
    have h2 := hr (f - i) (by omega)
    rw [show f - (f - i) = i by omega] at h2
    rw [← CM.val_vl hf1]
    unfold CM.vl
    unfold hgt at h1
    have e : ∀ b r : Int, b * d + r * (n + t * d) = (b + r * t) * d + r * n := fun b r => by rw [Int.add_mul, Int.mul_add, Int.mul_assoc]; omega
    rw [e, e]
    have m1 := Int.mul_le_mul_of_nonneg_right h1 hd
    have m2 := Int.mul_le_mul_of_nonneg_right h2 hn
    omega
  have hmem : L[f] ∈ L.drop f := by
    rw [List.mem_iff_getElem]
    exact ⟨0, by simp; omega, by simp⟩
  constructor
  · rintro ⟨⟨x, hx, e⟩, h2⟩
    obtain ⟨y, hy, rfl⟩ := List.mem_map.1 hx
    refine ⟨⟨y, List.mem_of_mem_drop hy, by rw [← hv]; exact e⟩, fun z hz => ?_⟩
    obtain ⟨i, hi, rfl⟩ := List.mem_iff_getElem.1 hz
    by_cases hif : i < f
    · have h3 := h2 _ (List.mem_map_of_mem hmem)
      rw [hv] at h3
      have h4 := hgone i hif
      rw [CM.val_vl hi] at h4
      omega
    · have h3 := h2 _ (List.mem_map_of_mem (f := shf t) (show L[i] ∈ L.drop f by
        rw [List.mem_iff_getElem]
        exact ⟨i - f, by simp; omega, by simp [show f + (i - f) = i by omega]⟩))
      rw [hv] at h3
      exact h3
  · rintro ⟨⟨x, hx, e⟩, h2⟩
    obtain ⟨i, hi, rfl⟩ := List.mem_iff_getElem.1 hx
    have hall : ∀ y ∈ (L.drop f).map (shf t), v ≤ CM.val y n d := fun y hy => by
      obtain ⟨z, hz, rfl⟩ := List.mem_map.1 hy
      rw [hv]
      exact h2 z (List.mem_of_mem_drop hz)
    by_cases hif : i < f
    · have h4 := hgone i hif
      rw [CM.val_vl hi, e] at h4
      have h5 := h2 L[f] (List.getElem_mem hf1)
      exact ⟨⟨shf t L[f], List.mem_map_of_mem hmem, by rw [hv]; omega⟩, hall⟩
    · exact ⟨⟨shf t L[i], List.mem_map_of_mem (show L[i] ∈ L.drop f by
        rw [List.mem_iff_getElem]
        exact ⟨i - f, by simp; omega, by simp [show f + (i - f) = i by omega]⟩), by rw [hv]; exact e⟩, hall⟩
/-- its last line is the last one, later. -/
theorem later_last {L : List (Int × Int)} (h : Nrm L) (t : Int) : SM.av (laterL L t) ((laterL L t).length - 1) = hgt L t (L.length - 1) := by
  obtain ⟨f, hf1, hf2⟩ := first_later h.2 h.1 t
  rw [later_drop hf2, later_len, (drop_at (L := L) (t := t) (f := f) (i := L.length - f - 1) (by omega)).1, show f + (L.length - f - 1) = L.length - 1 by omega]
theorem bound_later {L : List (Int × Int)} (hr : RgtC L) (t : Int) : boundP (laterL L t) ↔ hgt L t (L.length - 1) ≤ 1000000000 := by
  obtain ⟨f, hf1, hf2⟩ := first_later hr.2.2.2 hr.2.2.1 t
  have hl : (laterL L t).length ≤ 32 := by rw [later_drop hf2, later_len]; have := hr.1; omega
  have hs : SM.sv (laterL L t) 0 ≤ 1000000000 := by
    rw [later_drop hf2, (drop_at (L := L) (t := t) (f := f) (i := 0) (by omega)).2]
    have := mayB_iff (hr.2.1 (f + 0) (by omega))
    exact this.2.2.2
  unfold boundP
  rw [later_last hr.2.2]
  exact ⟨fun h => h.2.2, fun h => ⟨hl, hs, h⟩⟩
theorem later_rgt {L : List (Int × Int)} (hr : RgtC L) {t : Int} (ht : 0 ≤ t) (hb : boundP (laterL L t)) : RgtC (laterL L t) := by
  have hN := later_nrm hr.2.2 t
  obtain ⟨f, hf1, hf2⟩ := first_later hr.2.2.2 hr.2.2.1 t
  have hb2 := (bound_later hr t).1 hb
  refine ⟨⟨hN.1, hb.1⟩, fun i hi => ?_, hN⟩
  have hla := CM.nrm_lt hN.2
  rw [List.pairwise_iff_getElem] at hla
  rw [later_drop hf2] at hi ⊢
  rw [later_len] at hi
  have hup : SM.av (laterL L t) i ≤ hgt L t (L.length - 1) := by
    rw [← later_last hr.2.2]
    have hii : i < (laterL L t).length := by rw [later_drop hf2, later_len]; exact hi
    by_cases he : i = (laterL L t).length - 1
    · rw [← he]; exact Int.le_refl _
    · have := hla i ((laterL L t).length - 1) hii (by omega) (by omega)
      rw [(CM.at_get hii).1, (CM.at_get (show (laterL L t).length - 1 < (laterL L t).length by omega)).1]
      omega
  rw [later_drop hf2] at hup
  rw [(drop_at (L := L) (t := t) (f := f) (i := i) (by omega)).1] at hup
  rw [(drop_at (L := L) (t := t) (f := f) (i := i) (by omega)).1, (drop_at (L := L) (t := t) (f := f) (i := i) (by omega)).2]
  have hm := mayB_iff (hr.2.1 (f + i) (by omega))
  simp only at hm
  have hp : 0 ≤ SM.sv L (f + i) * t := Int.mul_nonneg hm.2.2.1 ht
  have hb3 : hgt L t (f + i) ≤ 1000000000 := by omega
  refine decide_eq_true ?_
  unfold hgt at hb3 ⊢
  simp only
  omega
/-- later and later is the sum later. -/
theorem later_later {L : List (Int × Int)} (h : Nrm L) {a b : Int} (ha : 0 ≤ a) (hb : 0 ≤ b) : laterL (laterL L a) b = laterL L (a + b) :=
  CM.nrm_same (later_nrm (later_nrm h a) b) (later_nrm h (a + b)) fun N D v hN hD => by
    rw [later_min (later_nrm h a) hb hN hD, later_min h ha (by have := Int.mul_nonneg hb hD; omega) hD, later_min h (by omega) hN hD]
    rw [show N + b * D + a * D = N + (a + b) * D by rw [Int.add_mul]; omega]
end Go.Proofs.Ytpgaklfgbioocaa
