/- Two senders' bytes together, and who sends as early as may be: plain mathematics. -/
import Derived.Test.YthaiphkmkchhoaaSpN
namespace Go.Proofs.Ythaiphkmkchhoaa
namespace SM
/-- the bytes that are sent from a tick to a tick by the first k. -/
def sentN (a s : Nat → Int) (f t : Int) : Nat → Int
  | 0 => 0
  | k + 1 => if f ≤ a k ∧ a k ≤ t then sentN a s f t k + s k else sentN a s f t k
theorem S_mono {s : Nat → Int} {n : Nat} (h : ∀ i, i < n → 0 ≤ s i) (i : Nat) : ∀ k, i ≤ k → k ≤ n → S s i ≤ S s k
  | 0, hik, _ => by
    obtain rfl : i = 0 := by omega
    omega
  | k + 1, hik, hk => by
    by_cases e : i = k + 1
    · subst e; omega
    · have ih := S_mono h i k (by omega) (by omega)
      have := h k (by omega)
      simp only [S]
      omega
theorem sentN_run {a s : Nat → Int} {f t : Int} {n : Nat} (h : ∀ i, i < n → 0 ≤ s i) : ∀ k, k ≤ n →
    sentN a s f t k = 0 ∨ ∃ i j, i ≤ j ∧ j < k ∧ f ≤ a i ∧ a j ≤ t ∧ sentN a s f t k ≤ S s (j + 1) - S s i
  | 0, _ => .inl rfl
  | k + 1, hk => by
    by_cases hin : f ≤ a k ∧ a k ≤ t
    · refine .inr ?_
      have e : sentN a s f t (k + 1) = sentN a s f t k + s k := by simp only [sentN, if_pos hin]
      rcases sentN_run (f := f) (t := t) (a := a) h k (by omega) with h0 | ⟨i, j, hij, hj, hf, ht, hle⟩
      · exact ⟨k, k, Nat.le_refl _, by omega, hin.1, hin.2, by rw [e, h0]; simp only [S]; omega⟩
      · refine ⟨i, k, by omega, by omega, hf, hin.2, ?_⟩
        have := S_mono h (j + 1) k (by omega) (by omega)
        rw [e]
        have e2 : S s (k + 1) = S s k + s k := rfl
        omega
    · have e : sentN a s f t (k + 1) = sentN a s f t k := by simp only [sentN, if_neg hin]
      rw [e]
      rcases sentN_run (f := f) (t := t) (a := a) h k (by omega) with h0 | ⟨i, j, hij, hj, hf, ht, hle⟩
      · exact .inl h0
      · exact .inr ⟨i, j, hij, by omega, hf, ht, hle⟩
theorem sentN_bd {a s : Nat → Int} {f t : Int} {n : Nat} (h : ∀ i, i < n → 0 ≤ s i ∧ s i ≤ 2000) : ∀ k, k ≤ n → 0 ≤ sentN a s f t k ∧ sentN a s f t k ≤ 2000 * k
  | 0, _ => by simp [sentN]
  | k + 1, hk => by
    have ih := sentN_bd (f := f) (t := t) (a := a) h k (by omega)
    have := h k (by omega)
    simp only [sentN]
    split <;> omega
theorem minl_later {p r u m x y : Int} (hp : 0 ≤ p) (hr : 0 ≤ r) (h : x ≤ y) : minl p r u m x ≤ minl p r u m y := by
  have h1 : p * x ≤ p * y := Int.mul_le_mul_of_nonneg_left h hp
  have h2 : r * x ≤ r * y := Int.mul_le_mul_of_nonneg_left h hr
  have h3 := (le_minl (p := p) (r := r) (u := u) (m := m) (t := x) (x := minl p r u m x)).1 (Int.le_refl _)
  exact le_minl.2 ⟨by omega, by omega⟩
theorem sentN_le {a s : Nat → Int} {p r u m l f t : Int} {n : Nat} (h : KP a s p r u m l n) (hl : 1 ≤ l) (hp : 0 ≤ p) (hr : 0 ≤ r) (hm : 0 ≤ m) (hu : 0 ≤ u) (ht : f ≤ t) :
    sentN a s f t n ≤ minl p r u m (t - f) := by
  have hs : ∀ i, i < n → 0 ≤ s i := fun i hi => by have := (h.1 i hi).2.2.1; omega
  rcases sentN_run (a := a) (f := f) (t := t) hs n (Nat.le_refl _) with h0 | ⟨i, j, hij, hj, hf, htj, hle⟩
  · rw [h0]
    have h1 : 0 ≤ p * (t - f) := Int.mul_nonneg hp (by omega)
    have h2 : 0 ≤ r * (t - f) := Int.mul_nonneg hr (by omega)
    exact le_minl.2 ⟨by omega, by omega⟩
  · have h1 := h.2 i j hij hj
    have h2 : minl p r u m (a j - a i) ≤ minl p r u m (t - f) := minl_later hp hr (by omega)
    omega
/-- both together are within the sum, and one Most more. -/
theorem sums_le {x y p r u m p' r' u' m' t M : Int} (hx : x ≤ minl p r u m t) (hy : y ≤ minl p' r' u' m' t) (hM : m ≤ M) (hM' : m' ≤ M) (h0 : 0 ≤ M) :
    x + y ≤ minl (p + p') (r + r') (u + u') M t + M := by
  have h1 := le_minl.1 hx
  have h2 := le_minl.1 hy
  have e1 : (p + p') * t = p * t + p' * t := Int.add_mul _ _ _
  have e2 : (r + r') * t = r * t + r' * t := Int.add_mul _ _ _
  have h3 : x + y - M ≤ minl (p + p') (r + r') (u + u') M t := le_minl.2 ⟨by rw [e1]; omega, by rw [e2]; omega⟩
  omega
theorem av_app {L : List (Int × Int)} {x : Int × Int} {i : Nat} (h : i < L.length) : av (L ++ [x]) i = av L i ∧ sv (L ++ [x]) i = sv L i := by
  simp [av, sv, List.getD_eq_getElem?_getD, List.getElem?_append_left h]
theorem av_last {L : List (Int × Int)} {x : Int × Int} : av (L ++ [x]) L.length = x.1 ∧ sv (L ++ [x]) L.length = x.2 := by
  simp [av, sv, List.getD_eq_getElem?_getD]
theorem S_app {L : List (Int × Int)} {x : Int × Int} : ∀ {i : Nat}, i ≤ L.length → S (sv (L ++ [x])) i = S (sv L) i
  | 0, _ => rfl
  | i + 1, h => by
    have := (av_app (x := x) (show i < L.length by omega)).2
    simp only [S, this, S_app (show i ≤ L.length by omega)]
/-- 2000 ticks behind the last one there is room for one more. -/
theorem greedy {p r u m l : Int} {L : List (Int × Int)} {now t : Int} (h : KP (av L) (sv L) p r u m l L.length) (hn : SM.now (av L) L.length = now) (hp : 1 ≤ p) (hr : 1 ≤ r) (hl : 1 ≤ l) (hlm : l ≤ m) (hm : m ≤ 2000) (hu : m ≤ u)
    (ht : now + 2000 ≤ t) (ht0 : 0 ≤ t) (ht1 : t ≤ 2147483647) : KP (av (L ++ [(t, m)])) (sv (L ++ [(t, m)])) p r u m l (L.length + 1) := by
  have hle : ∀ i, i < L.length → av L i ≤ now := by
    intro i hi
    have : ∀ k, i ≤ k → k < L.length → av L i ≤ av L k := by
      intro k hk hk2
      induction k with
      | zero => obtain rfl : i = 0 := by omega
                omega
      | succ k ih =>
        by_cases e : i = k + 1
        · subst e; omega
        · have h1 := ih (by omega) (by omega)
          have h2 := (h.1 (k + 1) hk2).2.2.2.2 (by omega)
          simp at h2
          omega
    have h2 := this (L.length - 1) (by omega) (by omega)
    rw [← hn]
    obtain ⟨k, hk⟩ : ∃ k, L.length = k + 1 := ⟨L.length - 1, by omega⟩
    rw [hk] at h2 ⊢
    exact h2
  refine ⟨fun i hi => ?_, fun i k hik hk => ?_⟩
  · by_cases e : i = L.length
    · subst e
      obtain ⟨e1, e2⟩ := av_last (L := L) (x := (t, m))
      refine ⟨by rw [e1]; exact ht0, by rw [e1]; exact ht1, by rw [e2]; exact hlm, by rw [e2]; exact Int.le_refl _, fun h0 => ?_⟩
      have h2 := hle (L.length - 1) (by omega)
      rw [e1, (av_app (by omega)).1]
      show av L (L.length - 1) ≤ t
      omega
    · have hi' : i < L.length := by omega
      obtain ⟨e1, e2⟩ := av_app (x := (t, m)) hi'
      have := h.1 i hi'
      refine ⟨by rw [e1]; exact this.1, by rw [e1]; exact this.2.1, by rw [e2]; exact this.2.2.1, by rw [e2]; exact this.2.2.2.1, fun h0 => ?_⟩
      rw [e1, (av_app (x := (t, m)) (show i - 1 < L.length by omega)).1]
      exact this.2.2.2.2 h0
  · by_cases e : k = L.length
    · subst e
      obtain ⟨e1, e2⟩ := av_last (L := L) (x := (t, m))
      have e3 : S (sv (L ++ [(t, m)])) (L.length + 1) = S (sv L) L.length + m := by
        have : S (sv (L ++ [(t, m)])) (L.length + 1) = S (sv (L ++ [(t, m)])) L.length + sv (L ++ [(t, m)]) L.length := rfl
        rw [this, e2, S_app (Nat.le_refl _)]
      by_cases ei : i = L.length
      · subst ei
        rw [e3, S_app (Nat.le_refl _), e1]
        have z1 : p * (t - t) = 0 := by rw [Int.sub_self, Int.mul_zero]
        have z2 : r * (t - t) = 0 := by rw [Int.sub_self, Int.mul_zero]
        exact le_minl.2 ⟨by rw [z1]; omega, by rw [z2]; omega⟩
      · have hi' : i < L.length := by omega
        rw [e3, S_app (by omega), e1, (av_app hi').1]
        dsimp only
        have h1 := h.2 i (L.length - 1) (by omega) (by omega)
        have h2 := hle (L.length - 1) (by omega)
        have h3 := hle i hi'
        have en : L.length - 1 + 1 = L.length := by omega
        rw [en] at h1
        obtain ⟨h4, h5⟩ := le_minl.1 h1
        have mono : ∀ q : Int, 1 ≤ q → q * (av L (L.length - 1) - av L i) + 2000 ≤ q * (t - av L i) := by
          intro q hq
          have a1 : q * (av L (L.length - 1) - av L i) ≤ q * (now - av L i) := Int.mul_le_mul_of_nonneg_left (by omega) (by omega)
          have a2 : q * (t - av L i) = q * (now - av L i) + q * (t - now) := by rw [← Int.mul_add]; congr 1; omega
          have a3 : 1 * 2000 ≤ q * (t - now) := Int.mul_le_mul hq (by omega) (by omega) (by omega)
          omega
        have m1 := mono p hp
        have m2 := mono r hr
        exact le_minl.2 ⟨by omega, by omega⟩
    · have hk' : k < L.length := by omega
      rw [S_app (by omega), S_app (by omega), (av_app hk').1, (av_app (show i < L.length by omega)).1]
      exact h.2 i k hik hk'
theorem S_same {L : List (Int × Int)} {m : Int} (h : ∀ x ∈ L, x.2 = m) : ∀ {i : Nat}, i ≤ L.length → S (sv L) i = i * m
  | 0, _ => by simp [S]
  | i + 1, hi => by
    have e : sv L i = m := by
      have hi' : i < L.length := by omega
      simp only [sv, List.getD_eq_getElem?_getD, List.getElem?_eq_getElem hi', Option.getD_some]
      exact h _ (List.getElem_mem hi')
    have := S_same h (show i ≤ L.length by omega)
    simp only [S, this, e]
    rw [Int.natCast_add, Int.add_mul]
    simp
/-- all of them together are what is allowed till the last one. -/
theorem greedy_all {p r u m l : Int} {L : List (Int × Int)} {now : Int} (h : KP (av L) (sv L) p r u m l L.length) (hn : SM.now (av L) L.length = now) (hs : ∀ x ∈ L, x.2 = m) (hp : 0 ≤ p) (hr : 0 ≤ r) (h1 : 1 ≤ L.length) : (L.length : Int) * m ≤ minl p r u m now := by
  have a1 := h.2 0 (L.length - 1) (by omega) (by omega)
  have en : L.length - 1 + 1 = L.length := by omega
  rw [en, S_same hs (Nat.le_refl _)] at a1
  have a2 : S (sv L) 0 = 0 := rfl
  have a3 := (h.1 0 (by omega)).1
  have a4 : av L (L.length - 1) = now := by
    rw [← hn]
    obtain ⟨k, hk⟩ : ∃ k, L.length = k + 1 := ⟨L.length - 1, by omega⟩
    rw [hk]; rfl
  rw [a4] at a1
  have a5 := minl_later (u := u) (m := m) hp hr (show now - av L 0 ≤ now by omega)
  omega
end SM
end Go.Proofs.Ythaiphkmkchhoaa
