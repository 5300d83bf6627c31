/- What is kept of a line is the run of sendings that comes nearest to it: the two ways to say who keeps to a spec are one. -/
import Derived.Test.YthaiphkmkchhoaaSpM
namespace Go.Proofs.Ythaiphkmkchhoaa
namespace SM

def minl (p r u m t : Int) : Int := if u + r * t < m + p * t then u + r * t else m + p * t
theorem le_minl {p r u m t x : Int} : x ≤ minl p r u m t ↔ x ≤ m + p * t ∧ x ≤ u + r * t := by
  unfold minl
  generalize r * t = R
  generalize p * t = P
  constructor
  · intro h; split at h <;> omega
  · intro h; split <;> omega
section
variable (a s : Nat → Int)
/-- how many bytes are sent ahead of the i-th. -/
def S : Nat → Int
  | 0 => 0
  | i + 1 => S i + s i
def now : Nat → Int
  | 0 => 0
  | i + 1 => a i
def K (rate : Int) : Nat → Int
  | 0 => 0
  | i + 1 => more rate (K rate i) (now a i) (a i) (s i)
def OkAt (m l : Int) (i : Nat) : Prop := 0 ≤ a i ∧ a i ≤ 2147483647 ∧ l ≤ s i ∧ s i ≤ m ∧ (0 < i → a (i - 1) ≤ a i)
/-- the first n keep to a spec, run by run. -/
def KP (p r u m l : Int) (n : Nat) : Prop :=
  (∀ i, i < n → OkAt a s m l i) ∧ ∀ i k, i ≤ k → k < n → S s (k + 1) - S s i ≤ minl p r u m (a k - a i)
/-- and sending by sending. -/
def Good (p r u m l : Int) (n : Nat) : Prop :=
  ∀ i, i < n → OkAt a s m l i ∧ K a s p (i + 1) ≤ m ∧ K a s r (i + 1) ≤ u
variable {a s}
theorem K_is {rate : Int} (h0 : 0 ≤ rate) {m l : Int} : ∀ k, (∀ i, i ≤ k → OkAt a s m l i) →
    (∀ i, i ≤ k → S s (k + 1) - S s i - rate * (a k - a i) ≤ K a s rate (k + 1)) ∧ ∃ i, i ≤ k ∧ K a s rate (k + 1) = S s (k + 1) - S s i - rate * (a k - a i)
  | 0, h => by
    have h1 := (h 0 (Nat.le_refl _)).1
    have h2 : 0 ≤ rate * (a 0 - 0) := Int.mul_nonneg h0 (by omega)
    have e : K a s rate (0 + 1) = s 0 := by
      simp only [K, more, now]
      omega
    have e2 : rate * (a 0 - a 0) = 0 := by rw [Int.sub_self, Int.mul_zero]
    refine ⟨fun i hi => ?_, 0, Nat.le_refl _, ?_⟩
    · obtain rfl : i = 0 := by omega
      rw [e, e2]; simp [S]
    · rw [e, e2]; simp [S]
  | k + 1, h => by
    obtain ⟨h1, j, hj, h2⟩ := K_is h0 k (fun i hi => h i (by omega))
    have hmono := (h (k + 1) (Nat.le_refl _)).2.2.2.2 (by omega)
    simp only [Nat.add_sub_cancel] at hmono
    have h3 : 0 ≤ rate * (a (k + 1) - a k) := Int.mul_nonneg h0 (by omega)
    have e : K a s rate (k + 1 + 1) = max (K a s rate (k + 1) - rate * (a (k + 1) - a k)) 0 + s (k + 1) := rfl
    have e2 : rate * (a (k + 1) - a (k + 1)) = 0 := by rw [Int.sub_self, Int.mul_zero]
    have e3 : S s (k + 1 + 1) = S s (k + 1) + s (k + 1) := rfl
    have e4 : ∀ i, rate * (a (k + 1) - a i) = rate * (a (k + 1) - a k) + rate * (a k - a i) := fun i => by
      rw [← Int.mul_add]; congr 1; omega
    refine ⟨fun i hi => ?_, ?_⟩
    · by_cases hik : i = k + 1
      · subst hik
        rw [e, e2, e3]
        omega
      · have := h1 i (by omega)
        rw [e, e3, e4 i]
        omega
    · by_cases hc : K a s rate (k + 1) - rate * (a (k + 1) - a k) ≤ 0
      · refine ⟨k + 1, Nat.le_refl _, ?_⟩
        rw [e, e2, e3]
        omega
      · refine ⟨j, by omega, ?_⟩
        rw [e, e3, e4 j]
        omega
theorem K_le {rate c : Int} (h0 : 0 ≤ rate) {m l : Int} (k : Nat) (h : ∀ i, i ≤ k → OkAt a s m l i) :
    K a s rate (k + 1) ≤ c ↔ ∀ i, i ≤ k → S s (k + 1) - S s i ≤ c + rate * (a k - a i) := by
  obtain ⟨h1, j, hj, h2⟩ := K_is h0 k h
  constructor
  · intro hc i hi
    have := h1 i hi
    omega
  · intro hc
    have := hc j hj
    omega
theorem KP_iff {p r u m l : Int} (hp : 0 ≤ p) (hr : 0 ≤ r) (n : Nat) : KP a s p r u m l n ↔ Good a s p r u m l n := by
  constructor
  · rintro ⟨h1, h2⟩ k hk
    have ho : ∀ i, i ≤ k → OkAt a s m l i := fun i hi => h1 i (by omega)
    refine ⟨h1 k hk, (K_le hp k ho).2 fun i hi => ?_, (K_le hr k ho).2 fun i hi => ?_⟩
    · exact (le_minl.1 (h2 i k hi hk)).1
    · exact (le_minl.1 (h2 i k hi hk)).2
  · intro h
    refine ⟨fun i hi => (h i hi).1, fun i k hik hk => le_minl.2 ⟨?_, ?_⟩⟩
    · exact (K_le hp k fun i hi => (h i (by omega)).1).1 (h k hk).2.1 i hik
    · exact (K_le hr k fun i hi => (h i (by omega)).1).1 (h k hk).2.2 i hik
theorem fits_iff {m l : Int} (i : Nat) : fits m l (now a i) (a i) (s i) ↔ OkAt a s m l i := by
  unfold fits OkAt
  cases i with
  | zero => simp [now]
  | succ i => simp [now]; omega
end
def av (L : List (Int × Int)) (i : Nat) : Int := (L.getD i (0, 0)).1
def sv (L : List (Int × Int)) (i : Nat) : Int := (L.getD i (0, 0)).2
theorem fb_is (p r u m l : Int) (L : List (Int × Int)) : ∀ k i, i + k = L.length → Good (av L) (sv L) p r u m l i →
    ∃ n, fb p r u m l (L.drop i) (K (av L) (sv L) p i) (K (av L) (sv L) r i) (now (av L) i) i = n ∧ n ≤ L.length ∧ Good (av L) (sv L) p r u m l n ∧ (n < L.length → ¬ Good (av L) (sv L) p r u m l (n + 1))
  | 0, i, hi, hg => ⟨i, by rw [List.drop_eq_nil_of_le (by omega)]; rfl, by omega, hg, fun h => absurd h (by omega)⟩
  | k + 1, i, hi, hg => by
    have hlt : i < L.length := by omega
    have e : L.drop i = (av L i, sv L i) :: L.drop (i + 1) := by
      have := drop_get L i hlt
      simp only [av, sv, List.getD_eq_getElem?_getD, List.getElem?_eq_getElem hlt, Option.getD_some]
      exact this
    have hstep : Good (av L) (sv L) p r u m l (i + 1) → OkAt (av L) (sv L) m l i ∧ K (av L) (sv L) p (i + 1) ≤ m ∧ K (av L) (sv L) r (i + 1) ≤ u := fun h => h i (by omega)
    rw [e]
    by_cases hf : fits m l (now (av L) i) (av L i) (sv L i)
    · by_cases h0 : more p (K (av L) (sv L) p i) (now (av L) i) (av L i) (sv L i) ≤ m
      · by_cases h1 : more r (K (av L) (sv L) r i) (now (av L) i) (av L i) (sv L i) ≤ u
        · rw [fb_on hf h0 h1]
          refine fb_is p r u m l L k (i + 1) (by omega) fun j hj => ?_
          by_cases hji : j = i
          · subst hji; exact ⟨(fits_iff _).1 hf, h0, h1⟩
          · exact hg j (by omega)
        · exact ⟨i, fb_no1 (by omega), by omega, hg, fun _ h => h1 (hstep h).2.2⟩
      · exact ⟨i, fb_no0 (by omega), by omega, hg, fun _ h => h0 (hstep h).2.1⟩
    · exact ⟨i, fb_unfit hf, by omega, hg, fun _ h => hf ((fits_iff _).2 (hstep h).1)⟩
theorem KP_mono {a s : Nat → Int} {p r u m l : Int} {n k : Nat} (h : KP a s p r u m l n) (hk : k ≤ n) : KP a s p r u m l k :=
  ⟨fun i hi => h.1 i (by omega), fun i j hij hj => h.2 i j hij (by omega)⟩
/-- the first n, and no more, keep to the spec. -/
def First (p r u m l : Int) (L : List (Int × Int)) (n : Nat) : Prop :=
  n ≤ L.length ∧ KP (av L) (sv L) p r u m l n ∧ (n < L.length → ¬ KP (av L) (sv L) p r u m l (n + 1))
theorem First.unique {p r u m l : Int} {L : List (Int × Int)} {n k : Nat} (hn : First p r u m l L n) (hk : First p r u m l L k) : n = k := by
  rcases Nat.lt_trichotomy n k with h | h | h
  · exact absurd (KP_mono hk.2.1 h) (hn.2.2 (Nat.lt_of_lt_of_le h hk.1))
  · exact h
  · exact absurd (KP_mono hn.2.1 h) (hk.2.2 (Nat.lt_of_lt_of_le h hn.1))
theorem fb_first {p r u m l : Int} (hp : 0 ≤ p) (hr : 0 ≤ r) (L : List (Int × Int)) : First p r u m l L (fb p r u m l L 0 0 0 0) := by
  obtain ⟨n, e, h1, h2, h3⟩ := fb_is p r u m l L L.length 0 (by omega) (fun i hi => absurd hi (by omega))
  have : fb p r u m l L 0 0 0 0 = n := e
  rw [this]
  exact ⟨h1, (KP_iff hp hr n).2 h2, fun h hk => h3 h ((KP_iff hp hr _).1 hk)⟩
theorem fb_all {p r u m l : Int} (hp : 0 ≤ p) (hr : 0 ≤ r) (L : List (Int × Int)) : fb p r u m l L 0 0 0 0 = L.length ↔ KP (av L) (sv L) p r u m l L.length := by
  have h := fb_first (u := u) (m := m) (l := l) hp hr L
  constructor
  · intro e; rw [e] at h; exact h.2.1
  · intro hk; exact h.unique ⟨Nat.le_refl _, hk, fun h => absurd h (by omega)⟩
end SM
end Go.Proofs.Ythaiphkmkchhoaa
