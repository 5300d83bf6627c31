/- Curves: what stays of lines is as high as all of them; two curves that are as high everywhere are the same: plain mathematics. -/
import Derived.Test.YtpgaklfgbioocaaCvE
namespace Go.Proofs.Ytpgaklfgbioocaa
set_option linter.unusedVariables false
namespace CM
open SM
def val (x : Int × Int) (N D : Int) : Int := x.1 * D + x.2 * N
theorem pop_dom {z a x : Int × Int} {N D : Int} (h1 : z.1 < a.1) (h2 : a.2 < z.2) (h3 : a.1 < x.1) (h4 : x.2 < a.2) (hN : 0 ≤ N) (h : ¬ (a.1 - z.1) * (a.2 - x.2) < (x.1 - a.1) * (z.2 - a.2)) : val z N D ≤ val a N D ∨ val x N D ≤ val a N D := by
  by_cases g1 : val z N D ≤ val a N D
  · exact .inl g1
  by_cases g2 : val x N D ≤ val a N D
  · exact .inr g2
  exfalso
  unfold val at g1 g2
  have e1 : (a.1 - z.1) * D < (z.2 - a.2) * N := by rw [Int.sub_mul, Int.sub_mul]; omega
  have e2 : (a.2 - x.2) * N < (x.1 - a.1) * D := by rw [Int.sub_mul, Int.sub_mul]; omega
  have hp : 0 < a.1 - z.1 := by omega
  have hr : 0 < x.1 - a.1 := by omega
  generalize a.1 - z.1 = p at *
  generalize z.2 - a.2 = q at *
  generalize x.1 - a.1 = r at *
  generalize a.2 - x.2 = s at *
  have f1 := Int.mul_lt_mul_of_pos_left e1 hr
  have f2 := Int.mul_lt_mul_of_pos_left e2 hp
  have f3 : r * q * N ≤ p * s * N := Int.mul_le_mul_of_nonneg_right (by omega) hN
  rw [← Int.mul_assoc r q N, Int.mul_left_comm] at f1
  rw [← Int.mul_assoc p s N] at f2
  omega
theorem val_mono {a x : Int × Int} {N D : Int} (h1 : a.1 ≤ x.1) (h2 : a.2 ≤ x.2) (hN : 0 ≤ N) (hD : 0 ≤ D) : val a N D ≤ val x N D := by
  unfold val
  have := Int.mul_le_mul_of_nonneg_right h1 hD
  have := Int.mul_le_mul_of_nonneg_right h2 hN
  omega
theorem at_get {L : List (Int × Int)} {n : Nat} (h : n < L.length) : av L n = L[n].1 ∧ sv L n = L[n].2 := by
  unfold av sv; rw [List.getD_eq_getElem?_getD, List.getElem?_eq_getElem h]; exact ⟨rfl, rfl⟩
theorem keep_dom {L : List (Int × Int)} {x : Int × Int} (h : AllN L) (hle : ∀ y ∈ L, le y x = true) {N D : Int} (hN : 0 ≤ N) (hD : 0 ≤ D) : ∀ n, n ≤ L.length → ∀ y, (y ∈ L.take n ∨ y = x) → ∃ y' ∈ keep L x n, val y' N D ≤ val y N D
  | 0, _, y, hy => by
    rcases hy with hy | rfl
    · simp at hy
    · exact ⟨y, by simp [keep], Int.le_refl _⟩
  | n + 1, hn, y, hy => by
    have hm := of_decide_eq_true (hle L[n] (List.getElem_mem (by omega)))
    obtain ⟨e1, e2⟩ := at_get (L := L) (n := n) (by omega)
    have hin : L[n] ∈ L.take (n + 1) := by rw [List.mem_take_iff_getElem]; exact ⟨n, by omega, rfl⟩
    unfold keep
    by_cases h1 : sv L n ≤ x.2
    · rw [if_pos h1]
      rcases hy with hy | rfl
      · exact ⟨y, hy, Int.le_refl _⟩
      · exact ⟨L[n], hin, val_mono (by omega) (by omega) hN hD⟩
    · rw [if_neg h1]
      by_cases h2 : n = 0 ∨ (av L n - av L (n - 1)) * (sv L n - x.2) < (x.1 - av L n) * (sv L (n - 1) - sv L n)
      · rw [if_pos h2]
        refine ⟨y, ?_, Int.le_refl _⟩
        rcases hy with hy | rfl
        · exact List.mem_append_left _ hy
        · simp
      · rw [if_neg h2]
        rcases hy with hy | rfl
        · rw [List.take_add_one, List.mem_append] at hy
          rcases hy with hy | hy
          · exact keep_dom h hle hN hD n (by omega) y (.inl hy)
          · rw [List.getElem?_eq_getElem (show n < L.length by omega)] at hy
            have hy : y = L[n] := by simpa using hy
            subst hy
            have hn1 : n ≠ 0 := fun e => h2 (.inl e)
            obtain ⟨m, rfl⟩ : ∃ m, n = m + 1 := ⟨n - 1, by omega⟩
            have hnn := (h (m + 1) (by omega) (by omega)).1
            rw [Nat.add_sub_cancel] at hnn h2
            obtain ⟨d1, d2⟩ := at_get (L := L) (n := m) (by omega)
            have h3 : ¬ (L[m + 1].1 - L[m].1) * (L[m + 1].2 - x.2) < (x.1 - L[m + 1].1) * (L[m].2 - L[m + 1].2) := by
              rw [← e1, ← e2, ← d1, ← d2]; exact fun g => h2 (.inr g)
            rcases pop_dom (z := L[m]) (a := L[m + 1]) (x := x) (N := N) (D := D) (by omega) (by omega) (by omega) (by omega) hN h3 with g | g
            · obtain ⟨y', a1, a2⟩ := keep_dom h hle hN hD (m + 1) (by omega) L[m] (.inl (by rw [List.mem_take_iff_getElem]; exact ⟨m, by omega, rfl⟩))
              exact ⟨y', a1, Int.le_trans a2 g⟩
            · obtain ⟨y', a1, a2⟩ := keep_dom h hle hN hD (m + 1) (by omega) x (.inr rfl)
              exact ⟨y', a1, Int.le_trans a2 g⟩
        · exact keep_dom h hle hN hD n (by omega) y (.inr rfl)
theorem hull_dom (l : List (Int × Int)) (hs : l.Pairwise (fun a b => le a b = true)) {N D : Int} (hN : 0 ≤ N) (hD : 0 ≤ D) : ∀ x ∈ l, ∃ y ∈ hull l, val y N D ≤ val x N D := by
  have : ∀ (l c : List (Int × Int)), l.Pairwise (fun a b => le a b = true) → (∀ y ∈ c, ∀ x ∈ l, le y x = true) → AllN c → ∀ x, (x ∈ l ∨ x ∈ c) → ∃ y ∈ l.foldl (fun c x => keep c x c.length) c, val y N D ≤ val x N D := by
    intro l
    induction l with
    | nil => intro c _ _ _ x hx; exact ⟨x, by simpa using hx, Int.le_refl _⟩
    | cons a l ih =>
      intro c hp hc h1 x hx
      have hca : ∀ y ∈ c, le y a = true := fun y hy => hc y hy a (by simp)
      obtain ⟨k1, _⟩ := keep_nrm a h1 hca c.length (Nat.le_refl _) (fun h => List.eq_nil_of_length_eq_zero h)
      rw [List.pairwise_cons] at hp
      have hI := ih (keep c a c.length) hp.2 (fun y hy z hz => by
        rcases keep_mem a _ y hy with h | rfl
        · exact hc y h z (by simp [hz])
        · exact hp.1 z hz) k1
      have hk : ∀ y, (y ∈ c ∨ y = a) → ∃ y' ∈ keep c a c.length, val y' N D ≤ val y N D := fun y hy => keep_dom h1 hca hN hD c.length (Nat.le_refl _) y (by rw [List.take_length]; exact hy)
      have hgo : (x ∈ c ∨ x = a) → ∃ y ∈ l.foldl (fun c x => keep c x c.length) (keep c a c.length), val y N D ≤ val x N D := fun hx => by
        obtain ⟨y', a1, a2⟩ := hk x hx
        obtain ⟨y, b1, b2⟩ := hI y' (.inr a1)
        exact ⟨y, b1, Int.le_trans b2 a2⟩
      rcases hx with hx | hx
      · rcases List.mem_cons.1 hx with rfl | hx
        · exact hgo (.inr rfl)
        · exact hI x (.inl hx)
      · exact hgo (.inl hx)
  intro x hx
  exact this l [] hs (by simp) (fun i _ h => by simp at h) x (.inl hx)
theorem low_dom {l : List (Int × Int)} {N D : Int} (hN : 0 ≤ N) (hD : 0 ≤ D) {x : Int × Int} (hx : x ∈ l) : ∃ y ∈ low l, val y N D ≤ val x N D :=
  hull_dom _ (sortL_up l) hN hD x ((sortL_perm l).mem_iff.2 hx)
/-- the least of all at that time. -/
def IsMin (L : List (Int × Int)) (N D v : Int) : Prop := (∃ x ∈ L, val x N D = v) ∧ ∀ x ∈ L, v ≤ val x N D
theorem IsMin.same {L : List (Int × Int)} {N D u v : Int} (h : IsMin L N D u) (g : IsMin L N D v) : u = v := by
  obtain ⟨⟨x, hx, ex⟩, h2⟩ := h
  obtain ⟨⟨y, hy, ey⟩, g2⟩ := g
  have := h2 y hy
  have := g2 x hx
  omega
theorem low_min {l : List (Int × Int)} {N D v : Int} (hN : 0 ≤ N) (hD : 0 ≤ D) : IsMin (low l) N D v ↔ IsMin l N D v := by
  constructor
  · rintro ⟨⟨x, hx, e⟩, h2⟩
    refine ⟨⟨x, low_mem hx, e⟩, fun y hy => ?_⟩
    obtain ⟨z, hz, hzy⟩ := low_dom hN hD hy
    have := h2 z hz
    omega
  · rintro ⟨⟨x, hx, e⟩, h2⟩
    obtain ⟨z, hz, hzx⟩ := low_dom hN hD hx
    have := h2 z (low_mem hz)
    exact ⟨⟨z, hz, by omega⟩, fun y hy => h2 y (low_mem hy)⟩
/-- where each line of a curve is least. -/
theorem ratio_trans {p1 q1 p2 q2 p3 q3 : Int} (h1 : 0 < q1) (h2 : 0 < q2) (h3 : 0 < q3) (a : p1 * q2 < p2 * q1) (b : p2 * q3 < p3 * q2) : p1 * q3 < p3 * q1 := by
  have a' := Int.mul_lt_mul_of_pos_right a h3
  have b' := Int.mul_lt_mul_of_pos_right b h1
  have e1 : p1 * q2 * q3 = p1 * q3 * q2 := by rw [Int.mul_assoc, Int.mul_comm q2 q3, ← Int.mul_assoc]
  have e2 : p2 * q1 * q3 = p2 * q3 * q1 := by rw [Int.mul_assoc, Int.mul_comm q1 q3, ← Int.mul_assoc]
  have e3 : p3 * q2 * q1 = p3 * q1 * q2 := by rw [Int.mul_assoc, Int.mul_comm q2 q1, ← Int.mul_assoc]
  rw [e1, e2] at a'
  rw [e3] at b'
  exact Int.lt_of_mul_lt_mul_right (Int.lt_trans a' b') (by omega)
def bp (L : List (Int × Int)) (j : Nat) : Int := av L j - av L (j - 1)
def bq (L : List (Int × Int)) (j : Nat) : Int := sv L (j - 1) - sv L j
theorem bend_pos {L : List (Int × Int)} (h : AllN L) {j : Nat} (h1 : 1 ≤ j) (h2 : j < L.length) : 0 < bp L j ∧ 0 < bq L j := by
  have := (h j h1 h2).1
  unfold bp bq; omega
theorem bend_chain {L : List (Int × Int)} (h : AllN L) {j : Nat} (h1 : 1 ≤ j) : ∀ k, j + 1 + k < L.length → bp L j * bq L (j + 1 + k) < bp L (j + 1 + k) * bq L j
  | 0, hk => by
    have := (h (j + 1) (by omega) hk).2 (by omega)
    unfold bp bq
    rw [show j + 1 + 0 = j + 1 by omega, show j + 1 - 1 = j by omega]
    rw [show j + 1 - 1 = j by omega, show j + 1 - 2 = j - 1 by omega] at this
    exact this
  | k + 1, hk => by
    have ih := bend_chain h h1 k (by omega)
    have h3 := bend_chain h (j := j + 1 + k) (by omega) 0 (by omega)
    exact ratio_trans (bend_pos h h1 (by omega)).2 (bend_pos h (by omega) (by omega)).2 (bend_pos h (by omega) (by omega)).2 ih h3
def vl (L : List (Int × Int)) (k : Nat) (N D : Int) : Int := av L k * D + sv L k * N
theorem vl_step (L : List (Int × Int)) (k : Nat) (N D : Int) : vl L (k + 1) N D - vl L k N D = bp L (k + 1) * D - bq L (k + 1) * N := by
  unfold vl bp bq
  rw [Nat.add_sub_cancel, Int.sub_mul, Int.sub_mul]; omega
/-- at the bend ahead of line i that line is least. -/
theorem least_at {L : List (Int × Int)} (h : AllN L) {i : Nat} (h1 : 1 ≤ i) (h2 : i < L.length) : (∀ k, k < L.length → vl L i (bp L i) (bq L i) ≤ vl L k (bp L i) (bq L i)) ∧ vl L (i - 1) (bp L i) (bq L i) = vl L i (bp L i) (bq L i) := by
  have e0 : vl L (i - 1) (bp L i) (bq L i) = vl L i (bp L i) (bq L i) := by
    have := vl_step L (i - 1) (bp L i) (bq L i)
    rw [show i - 1 + 1 = i by omega] at this
    rw [Int.mul_comm (bq L i) (bp L i)] at this
    omega
  refine ⟨fun k hk => ?_, e0⟩
  have up : ∀ m, i + m < L.length → vl L i (bp L i) (bq L i) ≤ vl L (i + m) (bp L i) (bq L i) := by
    intro m
    induction m with
    | zero => intro _; exact Int.le_refl _
    | succ m ih =>
      intro hm
      have h3 := ih (by omega)
      have h4 := vl_step L (i + m) (bp L i) (bq L i)
      have h5 := bend_chain h h1 m (by omega)
      rw [show i + 1 + m = i + m + 1 by omega] at h5
      rw [Int.mul_comm (bq L (i + m + 1)) (bp L i)] at h4
      rw [show i + (m + 1) = i + m + 1 by omega]
      omega
  have down : ∀ m, m ≤ i - 1 → vl L (i - 1) (bp L i) (bq L i) ≤ vl L (i - 1 - m) (bp L i) (bq L i) := by
    intro m
    induction m with
    | zero => intro _; exact Int.le_refl _
    | succ m ih =>
      intro hm
      have h3 := ih (by omega)
      have h4 := vl_step L (i - 1 - (m + 1)) (bp L i) (bq L i)
      have e : i - 1 - (m + 1) + 1 = i - 1 - m := by omega
      rw [e] at h4
      have h5 := bend_chain h (j := i - 1 - m) (by omega) m (by omega)
      rw [show i - 1 - m + 1 + m = i by omega] at h5
      rw [Int.mul_comm (bq L (i - 1 - m)) (bp L i)] at h4
      omega
  by_cases hki : i ≤ k
  · have := up (k - i) (by omega)
    rwa [show i + (k - i) = k by omega] at this
  · have := down (i - 1 - k) (by omega)
    rw [show i - 1 - (i - 1 - k) = k by omega] at this
    omega
theorem first_least {L : List (Int × Int)} (h : AllN L) : ∀ k, k < L.length → av L 0 ≤ av L k
  | 0, _ => Int.le_refl _
  | k + 1, hk => by
    have := first_least h k (by omega)
    have := (h (k + 1) (by omega) hk).1.1
    rw [Nat.add_sub_cancel] at this
    omega
theorem last_least {L : List (Int × Int)} (h : AllN L) : ∀ m, m < L.length → sv L (L.length - 1) ≤ sv L (L.length - 1 - m)
  | 0, _ => Int.le_refl _
  | m + 1, hm => by
    have := last_least h m (by omega)
    have h3 := (h (L.length - 1 - m) (by omega) (by omega)).1.2
    rw [show L.length - 1 - m - 1 = L.length - 1 - (m + 1) by omega] at h3
    omega
theorem two_zero {u w a b c d : Int} (h1 : u * b + w * a = 0) (h2 : u * d + w * c = 0) (h : a * d ≠ c * b) : u = 0 ∧ w = 0 := by
  have e1 : u * (a * d - c * b) = 0 := by
    have i1 : (u * b + w * a) * c = 0 := by rw [h1]; simp
    have i2 : (u * d + w * c) * a = 0 := by rw [h2]; simp
    rw [Int.add_mul] at i1 i2
    have j1 : u * b * c = u * (c * b) := by rw [Int.mul_assoc, Int.mul_comm b c]
    have j2 : u * d * a = u * (a * d) := by rw [Int.mul_assoc, Int.mul_comm d a]
    have j3 : w * a * c = w * c * a := by rw [Int.mul_assoc, Int.mul_comm a c, ← Int.mul_assoc]
    rw [Int.mul_sub]; omega
  have e2 : w * (a * d - c * b) = 0 := by
    have i1 : (u * b + w * a) * d = 0 := by rw [h1]; simp
    have i2 : (u * d + w * c) * b = 0 := by rw [h2]; simp
    rw [Int.add_mul] at i1 i2
    have j1 : w * a * d = w * (a * d) := Int.mul_assoc _ _ _
    have j2 : w * c * b = w * (c * b) := Int.mul_assoc _ _ _
    have j3 : u * b * d = u * d * b := by rw [Int.mul_assoc, Int.mul_comm b d, ← Int.mul_assoc]
    rw [Int.mul_sub]; omega
  have hne : a * d - c * b ≠ 0 := by omega
  exact ⟨(Int.mul_eq_zero.1 e1).resolve_right hne, (Int.mul_eq_zero.1 e2).resolve_right hne⟩
/-- each line of a curve has two times, not in one direction, at which it is least. -/
theorem two_times {L : List (Int × Int)} (h : AllN L) {i : Nat} (hi : i < L.length) : ∃ N1 D1 N2 D2 : Int, (0 ≤ N1 ∧ 0 ≤ D1 ∧ 0 ≤ N2 ∧ 0 ≤ D2) ∧ N1 * D2 ≠ N2 * D1 ∧ (∀ k, k < L.length → vl L i N1 D1 ≤ vl L k N1 D1) ∧ (∀ k, k < L.length → vl L i N2 D2 ≤ vl L k N2 D2) := by
  have hz1 : ∀ k, vl L k 0 1 = av L k := fun k => by unfold vl; omega
  have hz2 : ∀ k, vl L k 1 0 = sv L k := fun k => by unfold vl; omega
  have hf : ∀ k, k < L.length → vl L 0 0 1 ≤ vl L k 0 1 := fun k hk => by rw [hz1, hz1]; exact first_least h k hk
  have hl : ∀ k, k < L.length → vl L (L.length - 1) 1 0 ≤ vl L k 1 0 := fun k hk => by
    rw [hz2, hz2]
    have := last_least h (L.length - 1 - k) (by omega)
    rwa [show L.length - 1 - (L.length - 1 - k) = k by omega] at this
  by_cases h0 : i = 0
  · subst h0
    by_cases hn : L.length = 1
    · refine ⟨0, 1, 1, 0, by omega, by decide, hf, ?_⟩
      rw [hn] at hl ⊢
      exact hl
    · obtain ⟨p, q⟩ := bend_pos h (j := 1) (by omega) (by omega)
      obtain ⟨g1, g2⟩ := least_at h (i := 1) (by omega) (by omega)
      refine ⟨0, 1, bp L 1, bq L 1, by omega, by omega, hf, fun k hk => ?_⟩
      have := g1 k hk
      rw [show 1 - 1 = 0 by omega] at g2
      omega
  · obtain ⟨p, q⟩ := bend_pos h (j := i) (by omega) (by omega)
    obtain ⟨g1, g2⟩ := least_at h (i := i) (by omega) (by omega)
    by_cases hn : i + 1 = L.length
    · refine ⟨bp L i, bq L i, 1, 0, by omega, by omega, g1, ?_⟩
      rw [show i = L.length - 1 by omega]
      exact hl
    · obtain ⟨p', q'⟩ := bend_pos h (j := i + 1) (by omega) (by omega)
      obtain ⟨f1, f2⟩ := least_at h (i := i + 1) (by omega) (by omega)
      have hc := bend_chain h (j := i) (by omega) 0 (by omega)
      rw [show i + 1 + 0 = i + 1 by omega] at hc
      refine ⟨bp L i, bq L i, bp L (i + 1), bq L (i + 1), by omega, by omega, g1, fun k hk => ?_⟩
      have := f1 k hk
      rw [Nat.add_sub_cancel] at f2
      omega
theorem val_vl {L : List (Int × Int)} {k : Nat} (h : k < L.length) (N D : Int) : vl L k N D = val L[k] N D := by
  unfold vl val; rw [(at_get h).1, (at_get h).2]
theorem nrm_sub {A B : List (Int × Int)} (hA : AllN A) (h : ∀ N D v, 0 ≤ N → 0 ≤ D → IsMin A N D v → IsMin B N D v) : ∀ x ∈ A, x ∈ B := by
  intro x hx
  obtain ⟨i, hi, rfl⟩ := List.mem_iff_getElem.1 hx
  obtain ⟨N1, D1, N2, D2, ⟨a1, a2, a3, a4⟩, hne, m1, m2⟩ := two_times hA hi
  have all : ∀ N D, (∀ k, k < A.length → vl A i N D ≤ vl A k N D) → IsMin A N D (val A[i] N D) := fun N D hm => by
    refine ⟨⟨_, hx, rfl⟩, fun y hy => ?_⟩
    obtain ⟨k, hk, rfl⟩ := List.mem_iff_getElem.1 hy
    rw [← val_vl hi, ← val_vl hk]
    exact hm k hk
  have s1 := h N1 D1 _ a1 a2 (all N1 D1 m1)
  have s2 := h N2 D2 _ a3 a4 (all N2 D2 m2)
  have lin : ∀ y, val y (N1 + N2) (D1 + D2) = val y N1 D1 + val y N2 D2 := fun y => by unfold val; rw [Int.mul_add, Int.mul_add]; omega
  have linv : ∀ k, vl A k (N1 + N2) (D1 + D2) = vl A k N1 D1 + vl A k N2 D2 := fun y => by unfold vl; rw [Int.mul_add, Int.mul_add]; omega
  have s3 := h (N1 + N2) (D1 + D2) _ (by omega) (by omega) (all (N1 + N2) (D1 + D2) (fun k hk => by rw [linv, linv]; have := m1 k hk; have := m2 k hk; omega))
  obtain ⟨⟨y, hy, e⟩, _⟩ := s3
  have b1 := s1.2 y hy
  have b2 := s2.2 y hy
  rw [lin, lin] at e
  have e1 : val y N1 D1 = val A[i] N1 D1 := by omega
  have e2 : val y N2 D2 = val A[i] N2 D2 := by omega
  unfold val at e1 e2
  have z := two_zero (u := y.1 - A[i].1) (w := y.2 - A[i].2) (a := N1) (b := D1) (c := N2) (d := D2) (by rw [Int.sub_mul, Int.sub_mul]; omega) (by rw [Int.sub_mul, Int.sub_mul]; omega) hne
  have : y = A[i] := Prod.ext (by omega) (by omega)
  rwa [this] at hy
theorem lt_same {A B : List (Int × Int)} (hA : A.Pairwise (fun a b => a.1 < b.1)) (hB : B.Pairwise (fun a b => a.1 < b.1)) (h : ∀ x, x ∈ A ↔ x ∈ B) : A = B := by
  induction A generalizing B with
  | nil =>
    cases B with
    | nil => rfl
    | cons b B => exact absurd ((h b).2 (by simp)) (by simp)
  | cons a A ih =>
    cases B with
    | nil => exact absurd ((h a).1 (by simp)) (by simp)
    | cons b B =>
      rw [List.pairwise_cons] at hA hB
      have hab : a = b := by
        rcases List.mem_cons.1 ((h a).1 (by simp)) with e | e
        · exact e
        · rcases List.mem_cons.1 ((h b).2 (by simp)) with e' | e'
          · exact e'.symm
          · have := hA.1 b e'; have := hB.1 a e; omega
      subst hab
      refine congrArg (a :: ·) (ih hA.2 hB.2 fun x => ?_)
      constructor
      · intro hx
        rcases List.mem_cons.1 ((h x).1 (by simp [hx])) with rfl | e
        · have := hA.1 x hx; omega
        · exact e
      · intro hx
        rcases List.mem_cons.1 ((h x).2 (by simp [hx])) with rfl | e
        · have := hB.1 x hx; omega
        · exact e
theorem nrm_lt {L : List (Int × Int)} (h : AllN L) : L.Pairwise (fun a b => a.1 < b.1) := by
  rw [List.pairwise_iff_getElem]
  intro i j hi hj hij
  have key : ∀ k, i + 1 + k < L.length → SM.av L i < SM.av L (i + 1 + k) := by
    intro k
    induction k with
    | zero => intro hk; have := (h (i + 1) (by omega) hk).1.1; rwa [Nat.add_sub_cancel] at this
    | succ k ih =>
      intro hk
      have h1 := ih (by omega)
      have h2 := (h (i + 1 + k + 1) (by omega) hk).1.1
      rw [Nat.add_sub_cancel] at h2
      exact Int.lt_trans h1 h2
  have h3 := key (j - i - 1) (by omega)
  rw [show i + 1 + (j - i - 1) = j by omega, (at_get hi).1, (at_get hj).1] at h3
  exact h3
/-- two curves that are as high everywhere are the same. -/
theorem nrm_same {A B : List (Int × Int)} (hA : Nrm A) (hB : Nrm B) (h : ∀ N D v, 0 ≤ N → 0 ≤ D → (IsMin A N D v ↔ IsMin B N D v)) : A = B :=
  lt_same (nrm_lt hA.2) (nrm_lt hB.2) fun x => ⟨fun hx => nrm_sub hA.2 (fun N D v a b c => (h N D v a b).1 c) x hx, fun hx => nrm_sub hB.2 (fun N D v a b c => (h N D v a b).2 c) x hx⟩
theorem low_same {l m : List (Int × Int)} (hl : l ≠ []) (hm : m ≠ []) (h : ∀ N D v, 0 ≤ N → 0 ≤ D → (IsMin l N D v ↔ IsMin m N D v)) : low l = low m :=
  nrm_same (low_nrm hl) (low_nrm hm) fun N D v a b => by rw [low_min a b, low_min a b]; exact h N D v a b
theorem IsMin.mem {l m : List (Int × Int)} (h : ∀ x, x ∈ l ↔ x ∈ m) {N D v : Int} : IsMin l N D v ↔ IsMin m N D v := by
  unfold IsMin
  constructor
  · rintro ⟨⟨x, hx, e⟩, h2⟩; exact ⟨⟨x, (h x).1 hx, e⟩, fun y hy => h2 y ((h y).2 hy)⟩
  · rintro ⟨⟨x, hx, e⟩, h2⟩; exact ⟨⟨x, (h x).2 hx, e⟩, fun y hy => h2 y ((h y).1 hy)⟩
/-- what stays does not hang on the order, nor on what is told twice. -/
theorem low_mems {l m : List (Int × Int)} (hl : l ≠ []) (h : ∀ x, x ∈ l ↔ x ∈ m) : low l = low m :=
  low_same hl (fun e => hl (by
    subst e
    cases l with
    | nil => rfl
    | cons a l => exact absurd ((h a).1 (by simp)) (by simp))) fun N D v _ _ => IsMin.mem h
end CM
end Go.Proofs.Ytpgaklfgbioocaa
