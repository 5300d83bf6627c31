/- Sums as remainders: what a sum of bytes is by the weights of its places. Plain facts. -/
import Derived.Test.YtmpiobpgjlceaaaCkG
namespace Go.Proofs.Ytmpiobpgjlceaaa
set_option linter.unusedVariables false

/-- any number, put together from numbers of 16 bits. -/
def nm (t : Int) : Int := if t = 0 then 0 else (t - 1) % 65535 + 1
theorem nm_w {t : Int} : W16 (nm t) := by unfold nm W16; split <;> omega
theorem nm_of {n : Int} (h : W16 n) : nm n = n := by unfold nm W16 at *; split <;> omega
theorem nm_put {t b : Int} (ht : 0 ≤ t) (hb : W16 b) : put (nm t) b = nm (t + b) := by
  unfold put nm W16 at *
  split <;> split <;> split <;> omega
theorem nm_full {t : Int} (ht : 0 ≤ t) : nm t = 65535 ↔ 0 < t ∧ t % 65535 = 0 := by unfold nm; split <;> omega
theorem nm_nil {t : Int} (ht : 0 ≤ t) : nm t = 0 ↔ t = 0 := by unfold nm; split <;> omega
theorem nm_mod {t : Int} (ht : 0 ≤ t) : nm t % 65535 = t % 65535 := by unfold nm; split <;> omega
theorem nm_eq {a b : Int} (ha : 0 < a) (hb : 0 < b) (h : a % 65535 = b % 65535) : nm a = nm b := by unfold nm; split <;> split <;> omega
/-- the pairs' numbers, all added. -/
def tot : List Int → Int
  | [] => 0
  | [x] => 256 * x
  | x :: y :: l => 256 * x + y + tot l
theorem tot_nonneg : ∀ {l : List Int}, Bytes l → 0 ≤ tot l
  | [], _ => by simp [tot]
  | [x], h => by have := h x (by simp); simp [tot]; omega
  | x :: y :: l, h => by
    have h1 := h x (by simp)
    have h2 := h y (by simp)
    have h3 := tot_nonneg (l := l) (fun z hz => h z (by simp [hz]))
    simp [tot]; omega
theorem sumN_tot : ∀ (l : List Int) (t : Int), 0 ≤ t → Bytes l → sumN (nm t) l = nm (t + tot l)
  | [], t, ht, _ => by simp [sumN, pairs, tot]
  | [x], t, ht, h => by
    have h1 := h x (by simp)
    simp only [sumN, pairs, tot, List.foldl_cons, List.foldl_nil]
    exact nm_put ht ⟨by omega, by omega⟩
  | x :: y :: l, t, ht, h => by
    have h1 := h x (by simp)
    have h2 := h y (by simp)
    have ih := sumN_tot l (t + (256 * x + y)) (by omega) (fun z hz => h z (by simp [hz]))
    simp only [sumN, pairs, tot, List.foldl_cons] at *
    rw [nm_put ht ⟨by omega, by omega⟩, ih]
    congr 1; omega
theorem sumR_tot {l : List Int} (h : Bytes l) : sumR l = 65535 - nm (tot l) := by
  have := sumN_tot l 0 (by omega) h
  rw [show nm 0 = 0 from rfl, Int.zero_add] at this
  unfold sumR
  rw [this]
def wt (i : Nat) : Int := if i % 2 = 0 then 256 else 1
theorem tot_set : ∀ (l : List Int) (i : Nat) (x : Int), i < l.length → tot (l.set i x) = tot l + wt i * (x - av l i)
  | [], i, x, h => by simp at h
  | [a], i, x, h => by
    obtain rfl : i = 0 := by simpa using h
    simp [tot, wt, av]; omega
  | a :: b :: l, 0, x, h => by simp [tot, wt, av]; omega
  | a :: b :: l, 1, x, h => by simp [tot, wt, av]; omega
  | a :: b :: l, i + 2, x, h => by
    have ih := tot_set l i x (by simpa using h)
    have e : av (a :: b :: l) (i + 2) = av l i := by simp [av]
    have e2 : wt (i + 2) = wt i := by simp [wt]
    rw [e, e2]
    simp only [List.set_cons_succ, tot, ih]
    omega
theorem av_set_same {l : List Int} {i : Nat} (h : i < l.length) (x : Int) : av (l.set i x) i = x := by simp [av, h]
theorem av_set_ne {l : List Int} {i j : Nat} (h : i ≠ j) (x : Int) : av (l.set i x) j = av l j := by simp [av, List.getElem?_set_ne h, List.getD_eq_getElem?_getD]
theorem wt_even {i : Nat} (h : i % 2 = 0) : wt i = 256 ∧ wt (i + 1) = 1 := by unfold wt; constructor <;> (split <;> omega)
/-- a pair at an even place is another one: its number more, the one that was there less. -/
theorem tot_pair {l : List Int} {i : Nat} (he : i % 2 = 0) (hi : i + 2 ≤ l.length) (x y : Int) : tot ((l.set i x).set (i + 1) y) = tot l - (256 * av l i + av l (i + 1)) + (256 * x + y) := by
  rw [tot_set _ _ _ (by simp; omega), tot_set _ _ _ (by omega), av_set_ne (by omega), (wt_even he).1, (wt_even he).2]
  omega
theorem tot_sealed {l : List Int} {i : Nat} (he : i % 2 = 0) (hi : i + 2 ≤ l.length) : tot (sealL l i) = tot (zeroed l i) + sumR (zeroed l i) := by
  have h1 : av (zeroed l i) i = 0 := by unfold zeroed; rw [av_set_ne (by omega), av_set_same (by omega)]
  have h2 : av (zeroed l i) (i + 1) = 0 := by unfold zeroed; rw [av_set_same (by simp; omega)]
  unfold sealL
  rw [tot_pair he (by rw [zeroed_len]; exact hi), h1, h2]
  omega
/-- sealed bytes are right. -/
theorem sealed_right {l : List Int} {i : Nat} (h : Bytes l) (he : i % 2 = 0) (hi : i + 2 ≤ l.length) : sumR (sealL l i) = 0 := by
  have hz := zeroed_bytes h i
  have hs := sealL_bytes h i
  have h0 := tot_nonneg hz
  have h1 := tot_nonneg hs
  have h2 := tot_sealed he hi
  have h3 := sumR_tot hz
  rw [sumR_tot hs]
  have h4 := nm_w (t := tot (zeroed l i))
  have h5 := nm_mod h0
  have h6 := nm_nil h0
  unfold W16 at h4
  have := (nm_full h1).2 ⟨by omega, by omega⟩
  omega
/-- with one byte another one, by a number that 65535 does not divide, they are not. -/
theorem turned_wrong {l : List Int} {k : Nat} {x : Int} (h : Bytes l) (hr : sumR l = 0) (hk : k < l.length) (hx : 0 ≤ x ∧ x ≤ 255) {d : Int} (hd : x = av l k + d) (hd2 : (wt k * d) % 65535 ≠ 0) : sumR (l.set k x) ≠ 0 := by
  have hs := set_bytes h k hx
  have h0 := tot_nonneg h
  have h1 := tot_nonneg hs
  rw [sumR_tot h] at hr
  rw [sumR_tot hs]
  have h2 := tot_set l k x hk
  have e : x - av l k = d := by omega
  rw [e] at h2
  have h3 := (nm_full h0).1 (by omega)
  intro hc
  have h4 := (nm_full h1).1 (by omega)
  omega
theorem xor_pow : ∀ x, x < 256 → ∀ j, j < 8 → (x ^^^ 2 ^ j = x + 2 ^ j ∨ (x ^^^ 2 ^ j) + 2 ^ j = x) ∧ x ^^^ 2 ^ j < 256 := by decide +kernel
theorem flip_byte (x : Int) (h : 0 ≤ x ∧ x ≤ 255) (j : Nat) (hj : j < 8) : ∃ y d : Int, bits .xor .u8 x (2 ^ j) = y ∧ (0 ≤ y ∧ y ≤ 255) ∧ y = x + d ∧ (d = 2 ^ j ∨ d = -(2 ^ j)) := by
  obtain ⟨n, rfl⟩ := Int.eq_ofNat_of_zero_le h.1
  have hn : n < 256 := by omega
  obtain ⟨h1, h2⟩ := xor_pow n hn j hj
  have hp : 2 ^ j < 256 := Nat.lt_of_lt_of_le (Nat.pow_lt_pow_right (by omega) hj) (by decide)
  have e : bits .xor .u8 (n : Int) (2 ^ j) = ((n ^^^ 2 ^ j : Nat) : Int) := by
    have c : (2 ^ j : Int) = ((2 ^ j : Nat) : Int) := by simp
    rw [c]
    simp only [bits, show IntKind.u8.bits = 8 from rfl, BitVec.ofInt_natCast, BitVec.toNat_xor, BitVec.toNat_ofNat]
    rw [Nat.mod_eq_of_lt (show n < 2 ^ 8 from hn), Nat.mod_eq_of_lt (show 2 ^ j < 2 ^ 8 from hp), IntKind.wrap_u8]
    omega
  have c : (2 ^ j : Int) = ((2 ^ j : Nat) : Int) := by simp
  rcases h1 with h1 | h1
  · exact ⟨_, 2 ^ j, e, by omega, by rw [c]; omega, .inl rfl⟩
  · exact ⟨_, -(2 ^ j), e, by omega, by rw [c]; omega, .inr rfl⟩
theorem flip_mod : ∀ j, j < 8 → ∀ s : Bool, ∀ k : Bool, ((if k then 256 else 1) * (if s then (2 : Int) ^ j else -(2 ^ j))) % 65535 ≠ 0 := by decide +kernel
theorem flip_wrong {l : List Int} {k : Nat} {j : Nat} {d x : Int} (h : Bytes l) (hr : sumR l = 0) (hk : k < l.length) (hj : j < 8) (hx : 0 ≤ x ∧ x ≤ 255) (hd : x = av l k + d) (hd2 : d = 2 ^ j ∨ d = -(2 ^ j)) : sumR (l.set k x) ≠ 0 := by
  refine turned_wrong h hr hk hx hd ?_
  have hw : wt k = (if decide (k % 2 = 0) then 256 else 1) := by unfold wt; by_cases h : k % 2 = 0 <;> simp [h]
  rw [hw]
  rcases hd2 with rfl | rfl
  · have := flip_mod j hj true (decide (k % 2 = 0)); simpa using this
  · have := flip_mod j hj false (decide (k % 2 = 0)); simpa using this
end Go.Proofs.Ytmpiobpgjlceaaa
