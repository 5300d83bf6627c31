/- Whole numbers by their digits to the base 65536: plain mathematics. -/
namespace Go.Proofs.Ytgeankdimknmiaa
namespace BM

def digs (n : Nat) : List Nat := if h : n = 0 then [] else n % 65536 :: digs (n / 65536)
termination_by n
decreasing_by omega
theorem digs_zero : digs 0 = [] := by rw [digs]; simp
theorem digs_pos {n : Nat} (h : 0 < n) : digs n = n % 65536 :: digs (n / 65536) := by
  rw [digs, dif_neg (by omega)]
def valD : List Nat → Nat
  | [] => 0
  | d :: l => d + 65536 * valD l
def Dig (l : List Nat) : Prop := ∀ d ∈ l, d < 65536
theorem Dig.nil : Dig [] := fun d h => by simp at h
theorem Dig.cons {d : Nat} {l : List Nat} (hd : d < 65536) (h : Dig l) : Dig (d :: l) := fun x hx => by
  rcases List.mem_cons.1 hx with rfl | h1
  · exact hd
  · exact h x h1
theorem Dig.snoc {d : Nat} {l : List Nat} (h : Dig l) (hd : d < 65536) : Dig (l ++ [d]) := fun x hx => by
  rcases List.mem_append.1 hx with h1 | h1
  · exact h x h1
  · simp at h1; omega
theorem Dig.take {l : List Nat} (h : Dig l) (k : Nat) : Dig (l.take k) := fun x hx => h x (List.mem_of_mem_take hx)
theorem dig_digs : ∀ n, Dig (digs n) := by
  intro n
  induction n using Nat.strongRecOn with
  | ind n ih =>
    rcases Nat.eq_zero_or_pos n with h | h
    · subst h; rw [digs_zero]; exact Dig.nil
    · rw [digs_pos h]
      exact Dig.cons (by omega) (ih _ (by omega))
theorem valD_digs : ∀ n, valD (digs n) = n := by
  intro n
  induction n using Nat.strongRecOn with
  | ind n ih =>
    rcases Nat.eq_zero_or_pos n with h | h
    · subst h; rw [digs_zero]; rfl
    · rw [digs_pos h]
      simp only [valD]
      rw [ih _ (by omega)]
      omega
theorem valD_append : ∀ l m : List Nat, valD (l ++ m) = valD l + 65536 ^ l.length * valD m
  | [], m => by simp [valD]
  | d :: l, m => by
    simp only [List.cons_append, valD, List.length_cons]
    rw [valD_append l m, Nat.pow_succ]
    generalize 65536 ^ l.length = p
    rw [Nat.mul_add, ← Nat.mul_assoc, Nat.mul_comm 65536 p]
    omega
theorem valD_lt : ∀ {l : List Nat}, Dig l → valD l < 65536 ^ l.length
  | [], _ => by simp [valD]
  | d :: l, h => by
    have h1 : d < 65536 := h d (by simp)
    have h2 := valD_lt (l := l) (fun x hx => h x (by simp [hx]))
    simp only [valD, List.length_cons, Nat.pow_succ]
    omega
theorem valD_snoc (l : List Nat) (d : Nat) : valD (l ++ [d]) = valD l + 65536 ^ l.length * d := by
  rw [valD_append]; simp [valD]
def D (l : List Nat) (i : Nat) : Nat := l.getD i 0
theorem D_lt {l : List Nat} (h : Dig l) (i : Nat) : D l i < 65536 := by
  unfold D
  rw [List.getD_eq_getElem?_getD]
  by_cases hi : i < l.length
  · rw [List.getElem?_eq_getElem hi]; exact h _ (List.getElem_mem hi)
  · rw [List.getElem?_eq_none (by omega)]; decide
theorem D_get {l : List Nat} {i : Nat} (h : i < l.length) : l[i]? = some (D l i) := by
  unfold D; rw [List.getD_eq_getElem?_getD, List.getElem?_eq_getElem h]; rfl
theorem D_out {l : List Nat} {i : Nat} (h : l.length ≤ i) : D l i = 0 := by
  unfold D; rw [List.getD_eq_getElem?_getD, List.getElem?_eq_none h]; rfl
theorem take_snoc {l : List Nat} {i : Nat} (h : i < l.length) : l.take (i + 1) = l.take i ++ [D l i] := by
  rw [List.take_add_one, D_get h]; rfl
theorem val_take (l : List Nat) (i : Nat) : valD (l.take (i + 1)) = valD (l.take i) + 65536 ^ i * D l i := by
  by_cases h : i < l.length
  · rw [take_snoc h, valD_snoc, List.length_take, Nat.min_eq_left (by omega)]
  · rw [List.take_of_length_le (by omega), List.take_of_length_le (by omega), D_out (by omega)]; simp
/-- without noughts at the end. -/
def trimL : List Nat → List Nat
  | [] => []
  | d :: l => if d = 0 ∧ trimL l = [] then [] else d :: trimL l
theorem digs_nil {n : Nat} : digs n = [] ↔ n = 0 := by
  constructor
  · intro h
    rcases Nat.eq_zero_or_pos n with h0 | h0
    · exact h0
    · rw [digs_pos h0] at h; cases h
  · rintro rfl; exact digs_zero
theorem trimL_digs : ∀ {l : List Nat}, Dig l → trimL l = digs (valD l)
  | [], _ => by simp [trimL, valD, digs_zero]
  | d :: l, h => by
    have h1 : d < 65536 := h d (by simp)
    have h2 := trimL_digs (l := l) (fun x hx => h x (by simp [hx]))
    simp only [trimL, valD]
    by_cases hz : d = 0 ∧ trimL l = []
    · rw [if_pos hz]
      obtain ⟨rfl, hl⟩ := hz
      rw [h2, digs_nil] at hl
      rw [hl]; simp [digs_zero]
    · rw [if_neg hz, h2]
      have hp : 0 < d + 65536 * valD l := by
        rcases Nat.eq_zero_or_pos (d + 65536 * valD l) with h0 | h0
        · exfalso
          refine hz ⟨by omega, ?_⟩
          rw [h2, digs_nil]; omega
        · exact h0
      rw [digs_pos hp]
      have e1 : (d + 65536 * valD l) % 65536 = d := by omega
      have e2 : (d + 65536 * valD l) / 65536 = valD l := by omega
      rw [e1, e2]
theorem trimL_zero : ∀ l : List Nat, trimL (l ++ [0]) = trimL l
  | [] => by simp [trimL]
  | d :: l => by simp only [List.cons_append, trimL, trimL_zero l]
theorem trimL_pos {d : Nat} (hd : d ≠ 0) : ∀ l : List Nat, trimL (l ++ [d]) = l ++ [d]
  | [] => by simp [trimL, hd]
  | x :: l => by
    simp only [List.cons_append, trimL, trimL_pos hd l]
    rw [if_neg (by simp)]
theorem trimL_self (n : Nat) : trimL (digs n) = digs n := by rw [trimL_digs (dig_digs n), valD_digs]
theorem trimL_prefix (l : List Nat) : ∃ k, k ≤ l.length ∧ trimL l = l.take k := by
  induction l with
  | nil => exact ⟨0, Nat.le_refl _, rfl⟩
  | cons d l ih =>
    obtain ⟨k, hk, e⟩ := ih
    simp only [trimL]
    by_cases h : d = 0 ∧ trimL l = []
    · exact ⟨0, Nat.zero_le _, by rw [if_pos h]; rfl⟩
    · exact ⟨k + 1, by simp; omega, by rw [if_neg h, e]; rfl⟩
theorem len_mono : ∀ {x y : Nat}, x ≤ y → (digs x).length ≤ (digs y).length := by
  intro x
  induction x using Nat.strongRecOn with
  | ind x ih =>
    intro y h
    rcases Nat.eq_zero_or_pos x with h0 | h0
    · subst h0; rw [digs_zero]; simp
    · rw [digs_pos h0, digs_pos (by omega : 0 < y)]
      have := ih (x / 65536) (by omega) (y := y / 65536) (Nat.div_le_div_right h)
      simp only [List.length_cons]
      omega
theorem len_le {x k : Nat} (h : x < 65536 ^ k) : (digs x).length ≤ k := by
  induction k generalizing x with
  | zero =>
    have : x = 0 := by simpa using h
    subst this; rw [digs_zero]; simp
  | succ k ih =>
    rcases Nat.eq_zero_or_pos x with h0 | h0
    · subst h0; rw [digs_zero]; simp
    · rw [digs_pos h0]
      have : x / 65536 < 65536 ^ k := by rw [Nat.pow_succ] at h; omega
      have := ih this
      simp only [List.length_cons]
      omega
theorem val_split (l : List Nat) (i : Nat) : valD l = valD (l.take i) + 65536 ^ i * valD (l.drop i) ∨ l.length < i := by
  by_cases h : i ≤ l.length
  · left
    have e := valD_append (l.take i) (l.drop i)
    rw [List.take_append_drop, List.length_take, Nat.min_eq_left h] at e
    exact e
  · right; omega
theorem drop_cons {l : List Nat} {i : Nat} (h : i < l.length) : l.drop i = D l i :: l.drop (i + 1) := by
  rw [List.drop_eq_getElem_cons h]
  congr 1
  have := D_get h
  rw [List.getElem?_eq_getElem h] at this
  injection this
theorem val_at {l : List Nat} {i : Nat} (h : i < l.length) : valD l = valD (l.take i) + 65536 ^ i * (D l i + 65536 * valD (l.drop (i + 1))) := by
  rcases val_split l i with e | e
  · rw [e]
    have : l.drop i = D l i :: l.drop (i + 1) := by
      rw [List.drop_eq_getElem_cons h]
      congr 1
      have := D_get h
      rw [List.getElem?_eq_getElem h] at this
      injection this
    rw [this]; rfl
  · omega
/-- the first digit from above that differs tells. -/
theorem val_less {a b : List Nat} {i : Nat} (ha : Dig a) (hi : i < a.length) (hl : a.length = b.length) (hd : a.drop (i + 1) = b.drop (i + 1)) (h : D a i < D b i) : valD a < valD b := by
  have e1 := val_at hi
  have e2 := val_at (l := b) (i := i) (by omega)
  rw [hd] at e1
  rw [e1, e2]
  have h1 := valD_lt (ha.take i)
  rw [List.length_take, Nat.min_eq_left (by omega)] at h1
  generalize 65536 ^ i = p at *
  generalize valD (b.drop (i + 1)) = v
  have h2 : p * (D a i + 65536 * v) + p ≤ p * (D b i + 65536 * v) := by
    have : p * (D a i + 65536 * v) + p = p * (D a i + 65536 * v + 1) := by rw [Nat.mul_add p (D a i + 65536 * v) 1, Nat.mul_one]
    rw [this]
    exact Nat.mul_le_mul_left p (by omega)
  omega
theorem less_len {x y : Nat} (h : (digs x).length < (digs y).length) : x < y := by
  rcases Nat.lt_or_ge x y with h1 | h1
  · exact h1
  · have := len_mono h1; omega
theorem same_of {a b : List Nat} (hl : a.length = b.length) (h : ∀ i, i < a.length → D a i = D b i) : a = b := by
  refine List.ext_getElem hl fun i h1 h2 => ?_
  have := h i h1
  have e1 := D_get h1
  have e2 := D_get h2
  rw [List.getElem?_eq_getElem h1] at e1
  rw [List.getElem?_eq_getElem h2] at e2
  injection e1 with e1
  injection e2 with e2
  omega
theorem digs_inj {x y : Nat} (h : digs x = digs y) : x = y := by rw [← valD_digs x, ← valD_digs y, h]

/-- one digit of a sum. -/
theorem add_step {a b L : List Nat} {i c : Nat} (hL : L.length = i) (h : valD L + c * 65536 ^ i = valD (a.take i) + valD (b.take i)) :
    valD (L ++ [(c + D a i + D b i) % 65536]) + (c + D a i + D b i) / 65536 * 65536 ^ (i + 1) = valD (a.take (i + 1)) + valD (b.take (i + 1)) := by
  rw [valD_snoc, val_take, val_take, hL, Nat.pow_succ]
  generalize 65536 ^ i = p at *
  generalize hs : c + D a i + D b i = s
  have e : p * (s % 65536) + s / 65536 * (p * 65536) = p * s := by
    have h1 := Nat.mod_add_div s 65536
    have h2 : s / 65536 * (p * 65536) = p * (65536 * (s / 65536)) := by
      rw [Nat.mul_comm (s / 65536), Nat.mul_assoc]
    rw [h2, ← Nat.mul_add, h1]
  have e2 : p * s = p * c + p * D a i + p * D b i := by rw [← hs, Nat.mul_add, Nat.mul_add]
  have e3 : c * p = p * c := Nat.mul_comm _ _
  omega
/-- one digit of a difference: the borrow 'w' and the next one. -/
theorem sub_step {a b L : List Nat} {i w w' d : Nat} (hL : L.length = i) (h : valD L + valD (b.take i) = valD (a.take i) + w * 65536 ^ i) (hd : d + D b i + w = D a i + w' * 65536) :
    valD (L ++ [d]) + valD (b.take (i + 1)) = valD (a.take (i + 1)) + w' * 65536 ^ (i + 1) := by
  rw [valD_snoc, val_take, val_take, hL, Nat.pow_succ]
  generalize 65536 ^ i = p at *
  have e1 : p * (d + D b i + w) = p * (D a i + w' * 65536) := by rw [hd]
  rw [Nat.mul_add, Nat.mul_add, Nat.mul_add] at e1
  have e2 : p * (w' * 65536) = w' * (p * 65536) := by rw [← Nat.mul_assoc, Nat.mul_comm p w', Nat.mul_assoc]
  have e3 : w * p = p * w := Nat.mul_comm _ _
  omega
theorem sub_end {a b L : List Nat} {n w : Nat} (hL : L.length = n) (hd : Dig L) (h : valD L + valD b = valD a + w * 65536 ^ n) (hle : valD b ≤ valD a) (hw : w ≤ 1) : valD L = valD a - valD b := by
  have h1 := valD_lt hd
  rw [hL] at h1
  have : w = 0 := by
    rcases Nat.eq_zero_or_pos w with h0 | h0
    · exact h0
    · have : w = 1 := by omega
      subst this
      omega
  subst this
  omega
/-- the digits told so far, and what is left. -/
theorem of_step {n : Nat} (h : 0 < n) (L : List Nat) {N : Nat} (e : digs N = L ++ digs n) : digs N = (L ++ [n % 65536]) ++ digs (n / 65536) := by
  rw [e, digs_pos h]; simp
end BM
end Go.Proofs.Ytgeankdimknmiaa
