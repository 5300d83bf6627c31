/- Texts that the claim hangs on, in one. -/
import Derived.Test.YtalhbjmhipiiiaaGreatRatM
import Derived.Test.YtalhbjmhipiiiaaGreatRatPf
import Derived.Test.YtalhbjmhipiiiaaGreatRatPg
import Derived.Test.YtalhbjmhipiiiaaGreatRatPa
import Derived.Deep.AppendLies
import Derived.Deep.RegionHeld3
import Derived.Deep.LoopGhost
import Derived.Deep.DeepCutAuto
import Derived.IntWalk
import Derived.WalkMore
import Derived.Test.YtalhbjmhipiiiaaGreatRatPk
import Derived.Test.YtalhbjmhipiiiaaGreatRows
import Derived.WalkKit
import Derived.WalkSpells
import Derived.WalkLawsBesides
import Derived.BigQuiet
import Derived.Deep.QuietTactic
import Derived.ScopeJumps
import Derived.Test.YtalhbjmhipiiiaaGreatTpU
import Derived.Test.YtalhbjmhipiiiaaGreatTpJ
/- Sums and products of fractions, as numbers: what the program works out is the fraction of the value. -/
namespace Go.Proofs.YtalhbjmhipiiiaaGreat
namespace RM

/-- the sum of two numbers with whether each is below nought. -/
def tog2 (p : Bool) (x : Nat) (q : Bool) (y : Nat) : Bool × Nat :=
  if p = q then (p, x + y) else if x < y then (q, y - x) else (p, x - y)

theorem tog2_scale (p : Bool) (x : Nat) (q : Bool) (y g : Nat) (hg : 0 < g) :
    tog2 p (x * g) q (y * g) = ((tog2 p x q y).1, (tog2 p x q y).2 * g) := by
  unfold tog2
  by_cases h : p = q
  · simp [h, Nat.add_mul]
  · by_cases h2 : x < y
    · have : x * g < y * g := Nat.mul_lt_mul_of_pos_right h2 hg
      simp [h, h2, this, Nat.sub_mul]
    · have : ¬ x * g < y * g := fun hh => h2 (Nat.lt_of_mul_lt_mul_right hh)
      simp [h, h2, this, Nat.sub_mul]
theorem tog2_or (p : Bool) (x : Nat) (q : Bool) (y : Nat) :
    (tog2 p x q y).2 = x + y ∨ (tog2 p x q y).2 + y = x ∨ (tog2 p x q y).2 + x = y := by
  unfold tog2
  by_cases h : p = q
  · simp [h]
  · by_cases h2 : x < y
    · simp [h, h2]; omega
    · simp [h, h2]; omega
theorem tog2_sgn (p : Bool) (x : Nat) (q : Bool) (y : Nat) : sgn (tog2 p x q y).1 (tog2 p x q y).2 = sgn p x + sgn q y := by
  unfold tog2
  by_cases h : p = q
  · subst h; cases p <;> simp [sgn] <;> omega
  · by_cases h2 : x < y
    · rw [if_neg h, if_pos h2]
      cases p <;> cases q <;> simp [sgn] at h ⊢ <;> omega
    · rw [if_neg h, if_neg h2]
      cases p <;> cases q <;> simp [sgn] at h ⊢ <;> omega

/-- the fraction of the sum of x by d and y by e. -/
def plusR (x d y e : Int) : Int × Int × Int :=
  fracN (tog2 (decide (x < 0)) (x.natAbs * e.natAbs) (decide (y < 0)) (y.natAbs * d.natAbs)).1
    (tog2 (decide (x < 0)) (x.natAbs * e.natAbs) (decide (y < 0)) (y.natAbs * d.natAbs)).2 (d.natAbs * e.natAbs)
def timesR (x d y e : Int) : Int × Int × Int :=
  fracN (decide (x < 0) != decide (y < 0)) (x.natAbs * y.natAbs) (d.natAbs * e.natAbs)

theorem plusR_eq (x y : Int) (d e : Nat) (hd : 0 < d) (he : 0 < e) (hx : Nat.gcd x.natAbs d = 1) (hy : Nat.gcd y.natAbs e = 1) (b : Bool) (n : Nat)
    (ht : tog2 (decide (x < 0)) (x.natAbs * (e / Nat.gcd d e)) (decide (y < 0)) (y.natAbs * (d / Nat.gcd d e)) = (b, n)) :
    plusR x d y e = fracP b (n / Nat.gcd (Nat.gcd d e) n) (d / Nat.gcd d e * (e / Nat.gcd (Nat.gcd d e) n)) := by
  have hg : 0 < Nat.gcd d e := Nat.gcd_pos_of_pos_left _ hd
  have e1 : x.natAbs * e = x.natAbs * (e / Nat.gcd d e) * Nat.gcd d e := by
    rw [Nat.mul_assoc, Nat.div_mul_cancel (Nat.gcd_dvd_right d e)]
  have e2 : y.natAbs * d = y.natAbs * (d / Nat.gcd d e) * Nat.gcd d e := by
    rw [Nat.mul_assoc, Nat.div_mul_cancel (Nat.gcd_dvd_left d e)]
  unfold plusR
  rw [Int.natAbs_natCast, Int.natAbs_natCast, e1, e2, tog2_scale _ _ _ _ _ hg, ht]
  have ho := tog2_or (decide (x < 0)) (x.natAbs * (e / Nat.gcd d e)) (decide (y < 0)) (y.natAbs * (d / Nat.gcd d e))
  rw [ht] at ho
  exact fracN_plus b x.natAbs y.natAbs d e n hd he hx hy ho
theorem timesR_eq (x y : Int) (d e : Nat) (hd : 0 < d) (he : 0 < e) (hx : Nat.gcd x.natAbs d = 1) (hy : Nat.gcd y.natAbs e = 1) :
    timesR x d y e = fracP (decide (x < 0) != decide (y < 0)) (x.natAbs / Nat.gcd x.natAbs e * (y.natAbs / Nat.gcd y.natAbs d)) (d / Nat.gcd y.natAbs d * (e / Nat.gcd x.natAbs e)) := by
  unfold timesR
  rw [Int.natAbs_natCast, Int.natAbs_natCast]
  exact fracN_times _ x.natAbs y.natAbs d e hd he hx hy

/-- what a sum, a product is, by cross products. -/
theorem plusR_ok (x d y e N D : Int) (hd : 1 ≤ d) (he : 1 ≤ e) : plusR x d y e = (N, D, 0) ↔ Right N D ∧ N * (d * e) = (x * e + y * d) * D := by
  unfold plusR
  have hp : 0 < d.natAbs * e.natAbs := Nat.mul_pos (by omega) (by omega)
  rw [fracN_ok _ _ _ hp, tog2_sgn]
  have h1 : ((d.natAbs * e.natAbs : Nat) : Int) = d * e := by rw [Int.natCast_mul, Int.natAbs_of_nonneg (by omega), Int.natAbs_of_nonneg (by omega)]
  have h2 : sgn (decide (x < 0)) (x.natAbs * e.natAbs) = x * e := by rw [sgn_mul, sgn_self, Int.natAbs_of_nonneg (by omega)]
  have h3 : sgn (decide (y < 0)) (y.natAbs * d.natAbs) = y * d := by rw [sgn_mul, sgn_self, Int.natAbs_of_nonneg (by omega)]
  rw [h1, h2, h3]
theorem sgn_xor (x y : Int) : sgn (decide (x < 0) != decide (y < 0)) (x.natAbs * y.natAbs) = x * y := by
  have e1 : x = sgn (decide (x < 0)) x.natAbs := (sgn_self x).symm
  have e2 : y = sgn (decide (y < 0)) y.natAbs := (sgn_self y).symm
  have key : ∀ (p q : Bool) (a b : Nat), sgn (p != q) (a * b) = sgn p a * sgn q b := by
    intro p q a b
    cases p <;> cases q <;> simp [sgn, Int.neg_mul, Int.mul_neg]
  rw [key, ← e1, ← e2]
theorem timesR_ok (x d y e N D : Int) (hd : 1 ≤ d) (he : 1 ≤ e) : timesR x d y e = (N, D, 0) ↔ Right N D ∧ N * (d * e) = (x * y) * D := by
  unfold timesR
  have hp : 0 < d.natAbs * e.natAbs := Nat.mul_pos (by omega) (by omega)
  rw [fracN_ok _ _ _ hp, sgn_xor]
  have h1 : ((d.natAbs * e.natAbs : Nat) : Int) = d * e := by rw [Int.natCast_mul, Int.natAbs_of_nonneg (by omega), Int.natAbs_of_nonneg (by omega)]
  rw [h1]
theorem plusR_err (x d y e : Int) (hd : 1 ≤ d) (he : 1 ≤ e) : (∃ N D, plusR x d y e = (N, D, 0)) ∨ plusR x d y e = (0, 0, 110) :=
  fracN_err _ _ _ (Nat.mul_pos (by omega) (by omega))
theorem timesR_err (x d y e : Int) (hd : 1 ≤ d) (he : 1 ≤ e) : (∃ N D, timesR x d y e = (N, D, 0)) ∨ timesR x d y e = (0, 0, 110) :=
  fracN_err _ _ _ (Nat.mul_pos (by omega) (by omega))
end RM
end Go.Proofs.YtalhbjmhipiiiaaGreat

/- The program's sum and product, of any two fractions. -/
namespace Go.Proofs.YtalhbjmhipiiiaaGreat
open Go.RowKit

theorem tog_same (p : Bool) (x : Nat) (q : Bool) (y : Nat) : tog p x q y = RM.tog2 p x q y := rfl
theorem ratEnd_same (r : Int × Int × Int) : ratEnd r = endOf r := rfl
theorem right_parts (n d : Int) (h0 : -9223372036854775808 ≤ n) (h1 : n ≤ 9223372036854775807) (h3 : d ≤ 9223372036854775807) (h : rightB n d = true) :
    Parts2 n n.natAbs d.natAbs ∧ d = (d.natAbs : Int) := by
  have := of_decide_eq_true h
  exact ⟨⟨rfl, by omega, by omega, by omega, this.2.2⟩, by omega⟩

def addR (x d y e : Int) : Int × Int × Int := if rightB x d && rightB y e then RM.plusR x d y e else (0, 0, 2)
def mulR (x d y e : Int) : Int × Int × Int := if rightB x d && rightB y e then RM.timesR x d y e else (0, 0, 2)
theorem plusR_clean (x d y e : Int) : Clean (RM.plusR x d y e) := fracN_clean _ _ _
theorem timesR_clean (x d y e : Int) : Clean (RM.timesR x d y e) := fracN_clean _ _ _
end Go.Proofs.YtalhbjmhipiiiaaGreat

/- Whole numbers by their digits to the base 65536: plain mathematics. -/
namespace Go.Proofs.YtalhbjmhipiiiaaGreat
namespace BM

def digs (n : Nat) : List Nat := if h : n = 0 then [] else n % 65536 :: digs (n / 65536)
termination_by n
decreasing_by omega
theorem digs_zero : digs 0 = [] := by rw [digs]; simp
theorem digs_pos {n : Nat} (h : 0 < n) : digs n = n % 65536 :: digs (n / 65536) := by
  rw [digs, dif_neg (by omega)]
def valD : List Nat → Nat
  | [] => 0
  | d :: l => d + 65536 * valD l
def Dig (l : List Nat) : Prop := ∀ d ∈ l, d < 65536
theorem Dig.nil : Dig [] := fun d h => by simp at h
theorem Dig.cons {d : Nat} {l : List Nat} (hd : d < 65536) (h : Dig l) : Dig (d :: l) := fun x hx => by
  rcases List.mem_cons.1 hx with rfl | h1
  · exact hd
  · exact h x h1
theorem Dig.snoc {d : Nat} {l : List Nat} (h : Dig l) (hd : d < 65536) : Dig (l ++ [d]) := fun x hx => by
  rcases List.mem_append.1 hx with h1 | h1
  · exact h x h1
  · simp at h1; omega
theorem Dig.take {l : List Nat} (h : Dig l) (k : Nat) : Dig (l.take k) := fun x hx => h x (List.mem_of_mem_take hx)
theorem dig_digs : ∀ n, Dig (digs n) := by
  intro n
  induction n using Nat.strongRecOn with
  | ind n ih =>
    rcases Nat.eq_zero_or_pos n with h | h
    · subst h; rw [digs_zero]; exact Dig.nil
    · rw [digs_pos h]
      exact Dig.cons (by omega) (ih _ (by omega))
theorem valD_digs : ∀ n, valD (digs n) = n := by
  intro n
  induction n using Nat.strongRecOn with
  | ind n ih =>
    rcases Nat.eq_zero_or_pos n with h | h
    · subst h; rw [digs_zero]; rfl
    · rw [digs_pos h]
      simp only [valD]
      rw [ih _ (by omega)]
      omega
theorem valD_append : ∀ l m : List Nat, valD (l ++ m) = valD l + 65536 ^ l.length * valD m
  | [], m => by simp [valD]
  | d :: l, m => by
    simp only [List.cons_append, valD, List.length_cons]
    rw [valD_append l m, Nat.pow_succ]
    generalize 65536 ^ l.length = p
    rw [Nat.mul_add, ← Nat.mul_assoc, Nat.mul_comm 65536 p]
    omega
theorem valD_lt : ∀ {l : List Nat}, Dig l → valD l < 65536 ^ l.length
  | [], _ => by simp [valD]
  | d :: l, h => by
    have h1 : d < 65536 := h d (by simp)
    have h2 := valD_lt (l := l) (fun x hx => h x (by simp [hx]))
    simp only [valD, List.length_cons, Nat.pow_succ]
    omega
theorem valD_snoc (l : List Nat) (d : Nat) : valD (l ++ [d]) = valD l + 65536 ^ l.length * d := by
  rw [valD_append]; simp [valD]
def D (l : List Nat) (i : Nat) : Nat := l.getD i 0
theorem D_lt {l : List Nat} (h : Dig l) (i : Nat) : D l i < 65536 := by
  unfold D
  rw [List.getD_eq_getElem?_getD]
  by_cases hi : i < l.length
  · rw [List.getElem?_eq_getElem hi]; exact h _ (List.getElem_mem hi)
  · rw [List.getElem?_eq_none (by omega)]; decide
theorem D_get {l : List Nat} {i : Nat} (h : i < l.length) : l[i]? = some (D l i) := by
  unfold D; rw [List.getD_eq_getElem?_getD, List.getElem?_eq_getElem h]; rfl
theorem D_out {l : List Nat} {i : Nat} (h : l.length ≤ i) : D l i = 0 := by
  unfold D; rw [List.getD_eq_getElem?_getD, List.getElem?_eq_none h]; rfl
theorem take_snoc {l : List Nat} {i : Nat} (h : i < l.length) : l.take (i + 1) = l.take i ++ [D l i] := by
  rw [List.take_add_one, D_get h]; rfl
theorem val_take (l : List Nat) (i : Nat) : valD (l.take (i + 1)) = valD (l.take i) + 65536 ^ i * D l i := by
  by_cases h : i < l.length
  · rw [take_snoc h, valD_snoc, List.length_take, Nat.min_eq_left (by omega)]
  · rw [List.take_of_length_le (by omega), List.take_of_length_le (by omega), D_out (by omega)]; simp
/-- without noughts at the end. -/
def trimL : List Nat → List Nat
  | [] => []
  | d :: l => if d = 0 ∧ trimL l = [] then [] else d :: trimL l
theorem digs_nil {n : Nat} : digs n = [] ↔ n = 0 := by
  constructor
  · intro h
    rcases Nat.eq_zero_or_pos n with h0 | h0
    · exact h0
    · rw [digs_pos h0] at h; cases h
  · rintro rfl; exact digs_zero
theorem trimL_digs : ∀ {l : List Nat}, Dig l → trimL l = digs (valD l)
  | [], _ => by simp [trimL, valD, digs_zero]
  | d :: l, h => by
    have h1 : d < 65536 := h d (by simp)
    have h2 := trimL_digs (l := l) (fun x hx => h x (by simp [hx]))
    simp only [trimL, valD]
    by_cases hz : d = 0 ∧ trimL l = []
    · rw [if_pos hz]
      obtain ⟨rfl, hl⟩ := hz
      rw [h2, digs_nil] at hl
      rw [hl]; simp [digs_zero]
    · rw [if_neg hz, h2]
      have hp : 0 < d + 65536 * valD l := by
        rcases Nat.eq_zero_or_pos (d + 65536 * valD l) with h0 | h0
        · exfalso
          refine hz ⟨by omega, ?_⟩
          rw [h2, digs_nil]; omega
        · exact h0
      rw [digs_pos hp]
      have e1 : (d + 65536 * valD l) % 65536 = d := by omega
      have e2 : (d + 65536 * valD l) / 65536 = valD l := by omega
      rw [e1, e2]
theorem trimL_zero : ∀ l : List Nat, trimL (l ++ [0]) = trimL l
  | [] => by simp [trimL]
  | d :: l => by simp only [List.cons_append, trimL, trimL_zero l]
theorem trimL_pos {d : Nat} (hd : d ≠ 0) : ∀ l : List Nat, trimL (l ++ [d]) = l ++ [d]
  | [] => by simp [trimL, hd]
  | x :: l => by
    simp only [List.cons_append, trimL, trimL_pos hd l]
    rw [if_neg (by simp)]
theorem trimL_self (n : Nat) : trimL (digs n) = digs n := by rw [trimL_digs (dig_digs n), valD_digs]
theorem trimL_prefix (l : List Nat) : ∃ k, k ≤ l.length ∧ trimL l = l.take k := by
  induction l with
  | nil => exact ⟨0, Nat.le_refl _, rfl⟩
  | cons d l ih =>
    obtain ⟨k, hk, e⟩ := ih
    simp only [trimL]
    by_cases h : d = 0 ∧ trimL l = []
    · exact ⟨0, Nat.zero_le _, by rw [if_pos h]; rfl⟩
    · exact ⟨k + 1, by simp; omega, by rw [if_neg h, e]; rfl⟩
theorem len_mono : ∀ {x y : Nat}, x ≤ y → (digs x).length ≤ (digs y).length := by
  intro x
  induction x using Nat.strongRecOn with
  | ind x ih =>
    intro y h
    rcases Nat.eq_zero_or_pos x with h0 | h0
    · subst h0; rw [digs_zero]; simp
    · rw [digs_pos h0, digs_pos (by omega : 0 < y)]
      have := ih (x / 65536) (by omega) (y := y / 65536) (Nat.div_le_div_right h)
      simp only [List.length_cons]
      omega
theorem len_le {x k : Nat} (h : x < 65536 ^ k) : (digs x).length ≤ k := by
  induction k generalizing x with
  | zero =>
    have : x = 0 := by simpa using h
    subst this; rw [digs_zero]; simp
  | succ k ih =>
    rcases Nat.eq_zero_or_pos x with h0 | h0
    · subst h0; rw [digs_zero]; simp
    · rw [digs_pos h0]
      have : x / 65536 < 65536 ^ k := by rw [Nat.pow_succ] at h; omega
      have := ih this
      simp only [List.length_cons]
      omega
theorem val_split (l : List Nat) (i : Nat) : valD l = valD (l.take i) + 65536 ^ i * valD (l.drop i) ∨ l.length < i := by
  by_cases h : i ≤ l.length
  · left
    have e := valD_append (l.take i) (l.drop i)
    rw [List.take_append_drop, List.length_take, Nat.min_eq_left h] at e
    exact e
  · right; omega
theorem drop_cons {l : List Nat} {i : Nat} (h : i < l.length) : l.drop i = D l i :: l.drop (i + 1) := by
  rw [List.drop_eq_getElem_cons h]
  congr 1
  have := D_get h
  rw [List.getElem?_eq_getElem h] at this
  injection this
theorem val_at {l : List Nat} {i : Nat} (h : i < l.length) : valD l = valD (l.take i) + 65536 ^ i * (D l i + 65536 * valD (l.drop (i + 1))) := by
  rcases val_split l i with e | e
  · rw [e]
    have : l.drop i = D l i :: l.drop (i + 1) := by
      rw [List.drop_eq_getElem_cons h]
      congr 1
      have := D_get h
      rw [List.getElem?_eq_getElem h] at this
      injection this
    rw [this]; rfl
  · omega
/-- the first digit from above that differs tells. -/
theorem val_less {a b : List Nat} {i : Nat} (ha : Dig a) (hi : i < a.length) (hl : a.length = b.length) (hd : a.drop (i + 1) = b.drop (i + 1)) (h : D a i < D b i) : valD a < valD b := by
  have e1 := val_at hi
  have e2 := val_at (l := b) (i := i) (by omega)
  rw [hd] at e1
  rw [e1, e2]
  have h1 := valD_lt (ha.take i)
  rw [List.length_take, Nat.min_eq_left (by omega)] at h1
  generalize 65536 ^ i = p at *
  generalize valD (b.drop (i + 1)) = v
  have h2 : p * (D a i + 65536 * v) + p ≤ p * (D b i + 65536 * v) := by
    have : p * (D a i + 65536 * v) + p = p * (D a i + 65536 * v + 1) := by rw [Nat.mul_add p (D a i + 65536 * v) 1, Nat.mul_one]
    rw [this]
    exact Nat.mul_le_mul_left p (by omega)
  omega
theorem less_len {x y : Nat} (h : (digs x).length < (digs y).length) : x < y := by
  rcases Nat.lt_or_ge x y with h1 | h1
  · exact h1
  · have := len_mono h1; omega
theorem same_of {a b : List Nat} (hl : a.length = b.length) (h : ∀ i, i < a.length → D a i = D b i) : a = b := by
  refine List.ext_getElem hl fun i h1 h2 => ?_
  have := h i h1
  have e1 := D_get h1
  have e2 := D_get h2
  rw [List.getElem?_eq_getElem h1] at e1
  rw [List.getElem?_eq_getElem h2] at e2
  injection e1 with e1
  injection e2 with e2
  omega
theorem digs_inj {x y : Nat} (h : digs x = digs y) : x = y := by rw [← valD_digs x, ← valD_digs y, h]

/-- one digit of a sum. -/
theorem add_step {a b L : List Nat} {i c : Nat} (hL : L.length = i) (h : valD L + c * 65536 ^ i = valD (a.take i) + valD (b.take i)) :
    valD (L ++ [(c + D a i + D b i) % 65536]) + (c + D a i + D b i) / 65536 * 65536 ^ (i + 1) = valD (a.take (i + 1)) + valD (b.take (i + 1)) := by
  rw [valD_snoc, val_take, val_take, hL, Nat.pow_succ]
  generalize 65536 ^ i = p at *
  generalize hs : c + D a i + D b i = s
  have e : p * (s % 65536) + s / 65536 * (p * 65536) = p * s := by
    have h1 := Nat.mod_add_div s 65536
    have h2 : s / 65536 * (p * 65536) = p * (65536 * (s / 65536)) := by
      rw [Nat.mul_comm (s / 65536), Nat.mul_assoc]
    rw [h2, ← Nat.mul_add, h1]
  have e2 : p * s = p * c + p * D a i + p * D b i := by rw [← hs, Nat.mul_add, Nat.mul_add]
  have e3 : c * p = p * c := Nat.mul_comm _ _
  omega
/-- one digit of a difference: the borrow 'w' and the next one. -/
theorem sub_step {a b L : List Nat} {i w w' d : Nat} (hL : L.length = i) (h : valD L + valD (b.take i) = valD (a.take i) + w * 65536 ^ i) (hd : d + D b i + w = D a i + w' * 65536) :
    valD (L ++ [d]) + valD (b.take (i + 1)) = valD (a.take (i + 1)) + w' * 65536 ^ (i + 1) := by
  rw [valD_snoc, val_take, val_take, hL, Nat.pow_succ]
  generalize 65536 ^ i = p at *
  have e1 : p * (d + D b i + w) = p * (D a i + w' * 65536) := by rw [hd]
  rw [Nat.mul_add, Nat.mul_add, Nat.mul_add] at e1
  have e2 : p * (w' * 65536) = w' * (p * 65536) := by rw [← Nat.mul_assoc, Nat.mul_comm p w', Nat.mul_assoc]
  have e3 : w * p = p * w := Nat.mul_comm _ _
  omega
theorem sub_end {a b L : List Nat} {n w : Nat} (hL : L.length = n) (hd : Dig L) (h : valD L + valD b = valD a + w * 65536 ^ n) (hle : valD b ≤ valD a) (hw : w ≤ 1) : valD L = valD a - valD b := by
  have h1 := valD_lt hd
  rw [hL] at h1
  have : w = 0 := by
    rcases Nat.eq_zero_or_pos w with h0 | h0
    · exact h0
    · have : w = 1 := by omega
      subst this
      omega
  subst this
  omega
/-- the digits told so far, and what is left. -/
theorem of_step {n : Nat} (h : 0 < n) (L : List Nat) {N : Nat} (e : digs N = L ++ digs n) : digs N = (L ++ [n % 65536]) ++ digs (n / 65536) := by
  rw [e, digs_pos h]; simp
end BM
end Go.Proofs.YtalhbjmhipiiiaaGreat

/- Lists in memory: read, owned, appended to; numbers by their digits in memory. -/
namespace Go.Proofs.YtalhbjmhipiiiaaGreat
set_option linter.unusedVariables false
open Go.RowKit

theorem below_step {w a b : World} (t : Below w.heap.size w a) (h : Below a.heap.size a b) : Below w.heap.size w b := t.trans (h.mono t.size)
theorem below_new {w a : World} (t : Below w.heap.size w a) (o : Obj) : Below w.heap.size w (a.alloc o) := t.alloc t.size o
theorem ret_bool {a b : Bool} (h : a = b) : Ending.returned (.bool a) = .returned (.bool b) := by rw [h]
theorem block_of_add (a : Addr) (n : Nat) : (a.add n).block = a.block := by unfold Addr.add; split <;> rfl
theorem add_of_add (a : Addr) (i j : Nat) : (a.add i).add j = a.add (i + j) := by
  unfold Addr.add
  by_cases hi : i = 0 <;> by_cases hj : j = 0 <;> simp [hi, hj, Nat.add_assoc]
/-- a list lies in memory below block B, each of it in 'sz' cells. -/
def Lie {α : Type} (f : α → List Value) (sz : Nat) (w : World) (B : Nat) (A : Option Addr) (l : List α) : Prop :=
  0 < l.length → ∃ ad, A = some ad ∧ ad.block < B ∧ ∀ i x, l[i]? = some x → ∀ j v, (f x)[j]? = some v → w.cell? (ad.add (i * sz + j)) = some v
theorem Lie.keep {α : Type} {f : α → List Value} {sz : Nat} {w w' : World} {B : Nat} {A : Option Addr} {l : List α} (h : Lie f sz w B A l) (hb : Below B w w') : Lie f sz w' B A l := fun hl => by
  obtain ⟨ad, e, hB, hc⟩ := h hl
  exact ⟨ad, e, hB, fun i x hx j v hv => (hb.cell (by rw [block_of_add]; exact hB)).trans (hc i x hx j v hv)⟩
theorem Lie.more {α : Type} {f : α → List Value} {sz : Nat} {w : World} {B B' : Nat} {A : Option Addr} {l : List α} (h : Lie f sz w B A l) (hb : B ≤ B') : Lie f sz w B' A l := fun hl => by
  obtain ⟨ad, e, hB, hc⟩ := h hl
  exact ⟨ad, e, Nat.lt_of_lt_of_le hB hb, hc⟩
theorem Lie.below {α : Type} {f : α → List Value} {sz : Nat} {w w' : World} {A : Option Addr} {l : List α} (h : Lie f sz w w.heap.size A l) (hb : Below w.heap.size w w') : Lie f sz w' w'.heap.size A l :=
  (h.keep hb).more hb.size
theorem Lie.nil {α : Type} {f : α → List Value} {sz : Nat} {w : World} {B : Nat} {A : Option Addr} : Lie f sz w B A [] := fun h => absurd h (by simp)
section
variable {α : Type} {f : α → List Value} {sz : Nat}
def rowOf (f : α → List Value) (L : List α) : List Value := L.flatMap f
theorem row_len (hf : ∀ x, (f x).length = sz) : ∀ L : List α, (rowOf f L).length = L.length * sz
  | [] => by simp [rowOf]
  | x :: L => by
    have := row_len hf L
    simp only [rowOf, List.flatMap_cons, List.length_append, List.length_cons] at *
    rw [this, hf, Nat.add_mul]
    omega
theorem row_at (hf : ∀ x, (f x).length = sz) : ∀ (L : List α) (i : Nat) (x : α), L[i]? = some x → ∀ (j : Nat) (v : Value), (f x)[j]? = some v → (rowOf f L)[i * sz + j]? = some v
  | [], i, x, h, _, _, _ => by simp at h
  | y :: L, 0, x, h, j, v, hv => by
    have : y = x := by simpa using h
    subst this
    have hj : j < (f y).length := (List.getElem?_eq_some_iff.1 hv).1
    simp only [rowOf, List.flatMap_cons]
    rw [List.getElem?_append_left (by omega)]
    simpa using hv
  | y :: L, i + 1, x, h, j, v, hv => by
    have h' : L[i]? = some x := by simpa using h
    have ih := row_at hf L i x h' j v hv
    simp only [rowOf, List.flatMap_cons] at *
    have e : (i + 1) * sz = sz + i * sz := by rw [Nat.add_mul]; omega
    rw [e, List.getElem?_append_right (by rw [hf]; omega), hf]
    have e2 : sz + i * sz + j - sz = i * sz + j := by omega
    rw [e2]
    exact ih
theorem row_snoc (f : α → List Value) (L : List α) (x : α) : rowOf f (L ++ [x]) = rowOf f L ++ f x := by
  simp [rowOf]
/-- a slice that the call owns holds a list. -/
def OwnL (f : α → List Value) (sz : Nat) (w : World) (base : Nat) (e : TypeId) (v : Value) (L : List α) : Prop := w.ownsRow base e sz v L.length (rowOf f L)
theorem OwnL.lie {w : World} {base : Nat} {e : TypeId} {v : Value} {L : List α} (h : OwnL f sz w base e v L) (hf : ∀ x, (f x).length = sz) : ∃ A c, v = .slice A L.length c ∧ L.length ≤ c ∧ c ≤ maxLen ∧ Lie f sz w w.heap.size A L := by
  rcases h.2 with ⟨rfl, h0⟩ | ⟨g, cap, cur, rfl, hb, hh, hn, hm, hsz, ht⟩
  · have : L = [] := List.eq_nil_of_length_eq_zero h0
    subst this
    exact ⟨none, 0, rfl, by simp, by simp [maxLen], Lie.nil⟩
  · refine ⟨_, cap, rfl, hn, hm, fun hl => ⟨_, rfl, ?_, fun i x hx j v hv => ?_⟩⟩
    · rcases Nat.lt_or_ge g w.heap.size with hlt | hge
      · exact hlt
      · rw [Array.getElem?_eq_none hge] at hh; cases hh
    · exact World.ownsRow.cells h (g := g) rfl _ _ (row_at hf L i x hx j v hv)
theorem OwnL.below {w w' : World} {base : Nat} {e : TypeId} {v : Value} {L : List α} (h : OwnL f sz w base e v L) (hb : Below w.heap.size w w') : OwnL f sz w' base e v L := by
  refine ⟨h.1, ?_⟩
  rcases h.2 with h0 | ⟨g, cap, cur, rfl, hbs, hh, hr⟩
  · exact .inl h0
  · refine .inr ⟨g, cap, cur, rfl, hbs, ?_, hr⟩
    rw [hb.block g]
    · exact hh
    · rcases Nat.lt_or_ge g w.heap.size with hlt | hge
      · exact hlt
      · rw [Array.getElem?_eq_none hge] at hh; cases hh
theorem OwnL.kept {w w' : World} {base : Nat} {e : TypeId} {v : Value} {L : List α} {row : Option Nat} (h : OwnL f sz w base e v L) (hg : w.grownBy w' row) (hne : v.ownBlock = none ∨ v.ownBlock ≠ row) : OwnL f sz w' base e v L :=
  World.ownsRow.kept h hg hne
theorem OwnL.alloc {w : World} {base : Nat} {e : TypeId} {v : Value} {L : List α} (h : OwnL f sz w base e v L) (o : Obj) : OwnL f sz (w.alloc o) base e v L := World.ownsRow.alloc h o
theorem OwnL.drew {w : World} {base : Nat} {e : TypeId} {v : Value} {L : List α} (h : OwnL f sz w base e v L) : OwnL f sz w.drew base e v L := h
theorem OwnL.src {w : World} {base : Nat} {e : TypeId} {A : Option Addr} {c : Nat} {L : List α} (h : OwnL f sz w base e (.slice A L.length c) L) : 0 < L.length → ∃ ad, A = some ad ∧ ∀ j u, (rowOf f L)[j]? = some u → w.cell? (ad.add j) = some u := fun hl => by
  obtain ⟨g, cap, hv, _, hlt⟩ := World.ownsRow.form h hl
  have hA : A = some ⟨g, 0, none⟩ := by injection hv
  subst hA
  exact ⟨_, rfl, World.ownsRow.cells h (g := g) rfl⟩
theorem OwnL.snoc {w : World} {base : Nat} {e : TypeId} {v : Value} {L : List α} {x : α} {n : Nat} {xs : List Value} (h : w.ownsRow base e sz v n xs) (hn : n = L.length + 1) (hx : xs = rowOf f L ++ f x) : OwnL f sz w base e v (L ++ [x]) := by
  subst hn hx
  unfold OwnL
  rw [row_snoc]
  simpa using h
theorem OwnL.nil (w : World) (base : Nat) (e : TypeId) : OwnL f sz w base e (.slice none 0 0) [] := World.ownsRow_nil w base e sz
theorem OwnL.lt {w : World} {base : Nat} {e : TypeId} {v : Value} {L : List α} (h : OwnL f sz w base e v L) : ∀ k, v.ownBlock = some k → base ≤ k ∧ k < w.heap.size := World.ownsRow.lt h
end

theorem append_empty {P : Program} (w : World) (base : Nat) (t ty e : TypeId) (i : TypeInfo) (size : Nat) (ht : P.underlying t = some (.slice e)) (hi : P.info? e = some i)
    (v : Value) (n : Nat) (xs : List Value) (hown : w.ownsRow base e size v n xs) (c : Nat) : (Builtin.append_ #[t, t] ty #[v, .slice none 0 c]).run P w = .ok v w := by
  obtain ⟨_, h⟩ := hown
  rcases h with ⟨rfl, _⟩ | ⟨g, cap, cur, rfl, _, _, hnc, _⟩
  · simp [Builtin.append_, run_underlying ht, sizeOf, typeInfo, hi, Builtin.lenOf, Builtin.firstCells]
  · simp [Builtin.append_, run_underlying ht, sizeOf, typeInfo, hi, Builtin.lenOf, Builtin.firstCells, storeCells, hnc]
/-- append of whatever lies there, nothing let in. -/
theorem run_append_some {P : Program} (w : World) (t ty : TypeId) (base : Nat) (e : TypeId) (i : TypeInfo) (z : Value) (size bytes : Nat) (ht : P.underlying t = some (.slice e)) (hi : P.info? e = some i) (hz : i.zero = some z)
    (hsize : i.size = size) (hby : i.bytes = bytes) (hzs : z.cells.size = size) (hsz : 0 < size)
    (v : Value) (n : Nat) (xs : List Value) (hown : w.ownsRow base e size v n xs)
    (A : Option Addr) (m c : Nat) (news : List Value) (hl : news.length = m * size) (hsrc : 0 < m → ∃ ad, A = some ad ∧ ∀ j u, news[j]? = some u → w.cell? (ad.add j) = some u) (h1 : ∀ u ∈ news, u.oneCell' = true)
    (h63 : n + m ≤ maxLen) (hbytes : (n + m) * bytes ≤ 140737488355328) (hbase : base ≤ w.heap.size) :
    ∃ v' w', (Builtin.append_ #[t, t] ty #[v, .slice A m c]).run P w = .ok v' w' ∧ w'.ownsRow base e size v' (n + m) (xs ++ news) ∧ w.grownBy w' v.ownBlock ∧ (v'.ownBlock = v.ownBlock ∨ v'.ownBlock = some w.heap.size) := by
  have hnil : m = 0 → news = [] := fun h => List.eq_nil_of_length_eq_zero (by rw [hl, h, Nat.zero_mul])
  cases A with
  | none =>
    have h0 : m = 0 := by
      rcases Nat.eq_zero_or_pos m with h0 | h0
      · exact h0
      · obtain ⟨ad, e, _⟩ := hsrc h0; cases e
    obtain rfl := hnil h0
    subst h0
    exact ⟨v, w, append_empty w base t ty e i size ht hi v n xs hown c, by simpa using hown, World.grownBy.refl w _, .inl rfl⟩
  | some ad =>
    have hnews : ∀ j u, news[j]? = some u → w.cell? (ad.add j) = some u := by
      intro j u hu
      rcases Nat.eq_zero_or_pos m with h0 | h0
      · rw [hnil h0] at hu; simp at hu
      · obtain ⟨ad', e, hc⟩ := hsrc h0
        obtain rfl : ad = ad' := by injection e
        exact hc j u hu
    obtain ⟨v', w', hr, h2, h3, _, h5⟩ := run_append_own_at (P := P) w base t ty e i z size bytes ht hi hz hsize hby hzs hsz v n xs hown ad m c news hl hnews h1 h63 hbytes hbase
    exact ⟨v', w', hr, h2, h3, h5⟩
theorem wp_append_some {P : Program} {w : World} {o : Oper} {a : Act} {K : Act → World → Prop} {Q : Exit → Act → World → Prop} (s x : Operand) (t : TypeId)
    (ho : o.op = .call { callee := .builtin .append, args := #[s, x], argTypes := #[t, t] })
    (base : Nat) (e : TypeId) (i : TypeInfo) (z : Value) (size bytes : Nat) (ht : P.underlying t = some (.slice e)) (hi : P.info? e = some i) (hz : i.zero = some z)
    (hsize : i.size = size) (hby : i.bytes = bytes) (hzs : z.cells.size = size) (hsz : 0 < size)
    (v : Value) (n : Nat) (xs : List Value) (hs : a.eval s = v) (hown : w.ownsRow base e size v n xs)
    (A : Option Addr) (m c : Nat) (news : List Value) (hx : a.eval x = .slice A m c) (hl : news.length = m * size) (hsrc : 0 < m → ∃ ad, A = some ad ∧ ∀ j u, news[j]? = some u → w.cell? (ad.add j) = some u) (h1 : ∀ u ∈ news, u.oneCell' = true)
    (h63 : n + m ≤ maxLen) (hbytes : (n + m) * bytes ≤ 140737488355328) (hbase : base ≤ w.heap.size)
    (h : ∀ v' w', w'.ownsRow base e size v' (n + m) (xs ++ news) → w.grownBy w' v.ownBlock → (v'.ownBlock = v.ownBlock ∨ v'.ownBlock = some w.heap.size) → K (a.put o.dst v') w') : o.wp P a w K Q := by
  obtain ⟨v', w', hr, h2, h3, h4⟩ := run_append_some (P := P) w t o.type base e i z size bytes ht hi hz hsize hby hzs hsz v n xs hown A m c news hl hsrc h1 h63 hbytes hbase
  unfold Oper.wp execOp
  simp only [ho, resolve, invoke, builtin, Sem.run_bind, Sem.run_pure, Result.andThen_ok, List.map_toArray, List.map_cons, List.map_nil, hs, hx, hr]
  exact h v' w' h2 h3 h4
theorem step_append_some {P : Program} {w : World} {ops : Array Oper} {o : Oper} {a : Act} {K : Act → World → Prop} {Q : Exit → Act → World → Prop} {E : Prop} (hgd : o.guard = none) (s x : Operand) (t : TypeId)
    (ho : o.op = .call { callee := .builtin .append, args := #[s, x], argTypes := #[t, t] })
    (base : Nat) (e : TypeId) (i : TypeInfo) (z : Value) (size bytes : Nat) (ht : P.underlying t = some (.slice e)) (hi : P.info? e = some i) (hz : i.zero = some z)
    (hsize : i.size = size) (hby : i.bytes = bytes) (hzs : z.cells.size = size) (hsz : 0 < size)
    (v : Value) (n : Nat) (xs : List Value) (hs : a.eval s = v) (hown : w.ownsRow base e size v n xs)
    (A : Option Addr) (m c : Nat) (news : List Value) (hx : a.eval x = .slice A m c) (hl : news.length = m * size) (hsrc : 0 < m → ∃ ad, A = some ad ∧ ∀ j u, news[j]? = some u → w.cell? (ad.add j) = some u) (h1 : ∀ u ∈ news, u.oneCell' = true)
    (h63 : n + m ≤ maxLen) (hbytes : (n + m) * bytes ≤ 140737488355328) (hbase : base ≤ w.heap.size)
    (h : ∀ v' w', w'.ownsRow base e size v' (n + m) (xs ++ news) → w.grownBy w' v.ownBlock → (v'.ownBlock = v.ownBlock ∨ v'.ownBlock = some w.heap.size) → K (a.put o.dst v') w') :
    if Region.wanted o (yielded ops a.tmps) = true then Oper.wp P o a w K Q else E := by
  have hw : Region.wanted o (yielded ops a.tmps) = true := by simp [Region.wanted, hgd]
  rw [if_pos hw]
  exact wp_append_some s x t ho base e i z size bytes ht hi hz hsize hby hzs hsz v n xs hs hown A m c news hx hl hsrc h1 h63 hbytes hbase h
theorem wpList_append_some {P : Program} {w : World} {ops : Array Oper} {rest : List Oper} {o : Oper} {a : Act} {Q : Exit → Act → World → Prop} (hgd : o.guard = none) (s x : Operand) (t : TypeId)
    (ho : o.op = .call { callee := .builtin .append, args := #[s, x], argTypes := #[t, t] })
    (base : Nat) (e : TypeId) (i : TypeInfo) (z : Value) (size bytes : Nat) (ht : P.underlying t = some (.slice e)) (hi : P.info? e = some i) (hz : i.zero = some z)
    (hsize : i.size = size) (hby : i.bytes = bytes) (hzs : z.cells.size = size) (hsz : 0 < size)
    (v : Value) (n : Nat) (xs : List Value) (hs : a.eval s = v) (hown : w.ownsRow base e size v n xs)
    (A : Option Addr) (m c : Nat) (news : List Value) (hx : a.eval x = .slice A m c) (hl : news.length = m * size) (hsrc : 0 < m → ∃ ad, A = some ad ∧ ∀ j u, news[j]? = some u → w.cell? (ad.add j) = some u) (h1 : ∀ u ∈ news, u.oneCell' = true)
    (h63 : n + m ≤ maxLen) (hbytes : (n + m) * bytes ≤ 140737488355328) (hbase : base ≤ w.heap.size)
    (h : ∀ v' w', w'.ownsRow base e size v' (n + m) (xs ++ news) → w.grownBy w' v.ownBlock → (v'.ownBlock = v.ownBlock ∨ v'.ownBlock = some w.heap.size) → wpList P ops Q rest (a.put o.dst v') w') : wpList P ops Q (o :: rest) a w :=
  wpList_plain hgd fun _ hK => wp_append_some s x t ho base e i z size bytes ht hi hz hsize hby hzs hsz v n xs hs hown A m c news hx hl hsrc h1 h63 hbytes hbase fun v' w' h2 h3 h4 => hK _ _ (h v' w' h2 h3 h4)
theorem rowOf_one {α : Type} {f : α → List Value} (hf : ∀ x, ∀ u ∈ f x, u.oneCell' = true) (L : List α) : ∀ u ∈ rowOf f L, u.oneCell' = true := fun u hu => by
  obtain ⟨x, _, hx⟩ := List.mem_flatMap.1 hu
  exact hf x u hx
/-- a digit in memory. -/
def dV (d : Nat) : List Value := [.int .u32 d]
theorem OwnL.from_ {α : Type} {f : α → List Value} {sz : Nat} {w : World} {base : Nat} {e : TypeId} {A : Option Addr} {n c : Nat} {L : List α} (h : OwnL f sz w base e (.slice A n c) L) : ∀ ad, A = some ad → base ≤ ad.block := fun ad e => by
  subst e
  exact (OwnL.lt h ad.block rfl).1
theorem Lie.far {α : Type} {f : α → List Value} {sz : Nat} {w : World} {B : Nat} {A : Option Addr} {l : List α} (h : Lie f sz w B A l) {p : Addr} (u : Value) (hne : ∀ ad, A = some ad → ad.block ≠ p.block) : Lie f sz (w.setCell p u) B A l := fun hl => by
  obtain ⟨ad, e, hB, hc⟩ := h hl
  refine ⟨ad, e, hB, fun i x hx j v hv => ?_⟩
  have h1 := hc i x hx j v hv
  rw [← h1]
  refine World.cell?_setCell_other w p _ u (fun e2 => ?_)
  have := hne ad e
  rw [e2, block_of_add] at this
  exact this rfl
theorem dV_len (d : Nat) : (dV d).length = 1 := rfl
theorem dV_one (d : Nat) : ∀ u ∈ dV d, u.oneCell' = true := fun u hu => by
  simp [dV] at hu; subst hu; rfl
theorem Lie.digit {w : World} {B : Nat} {A : Option Addr} {l : List Nat} (h : Lie dV 1 w B A l) (i : Nat) (hi : i < l.length) :
    ∃ ad, A = some ad ∧ ad.block < B ∧ w.cell? (ad.add i) = some (.int .u32 (BM.D l i : Nat)) := by
  obtain ⟨ad, e, hB, hc⟩ := h (by omega)
  refine ⟨ad, e, hB, ?_⟩
  have := hc i _ (BM.D_get hi) 0 _ rfl
  simpa using this
theorem Lie.take {w : World} {B : Nat} {A : Option Addr} {l : List Nat} (h : Lie dV 1 w B A l) (k : Nat) : Lie dV 1 w B A (l.take k) := fun hl => by
  obtain ⟨ad, e, hB, hc⟩ := h (by simp at hl; omega)
  refine ⟨ad, e, hB, fun i x hx j v hv => hc i x ?_ j v hv⟩
  rw [List.getElem?_take] at hx
  split at hx
  · exact hx
  · cases hx
theorem digInfo : (Tryz.prog.info? 61).map (fun i => (i.zero, i.size, i.bytes)) = some (some (.int .u32 0), 1, 4) := by kernel_rfl
/-- what a call answers that tells a number: its digits, in memory that nothing else reads. -/
def BigEnd (x : Nat) (w : World) (e : Ending) (w' : World) : Prop :=
  ∃ A c, e = .returned (.slice A (BM.digs x).length c) ∧ (BM.digs x).length ≤ c ∧ c ≤ maxLen ∧ (∀ ad, A = some ad → w.heap.size ≤ ad.block) ∧ Lie dV 1 w' w'.heap.size A (BM.digs x) ∧ Below w.heap.size w w'
end Go.Proofs.YtalhbjmhipiiiaaGreat

/- Going over a list of fractions with a step: what is gathered. -/
namespace Go.Proofs.YtalhbjmhipiiiaaGreat
set_option linter.unusedVariables false
open Go.RowKit

def foldR (f : Int × Int → Int × Int → Int × Int × Int) : Int × Int → List (Int × Int) → Int × Int × Int
  | a, [] => (a.1, a.2, 0)
  | a, x :: l => if (f a x).2.2 = 0 then foldR f ((f a x).1, (f a x).2.1) l else f a x
/-- a box of a fraction that may be written. -/
def GBox (w : World) (b : Nat) (x y : Int) : Prop :=
  b < w.heap.size ∧ w.cell? ⟨b, 0, none⟩ = some (.int .i64 x) ∧ w.cell? ⟨b, 1, none⟩ = some (.int .i64 y) ∧ w.frozen? ⟨b, 0, none⟩ = false ∧ w.frozen? ⟨b, 1, none⟩ = false
theorem GBox.step {w w' : World} {b : Nat} {x y : Int} (h : GBox w b x y) (hb : Below w.heap.size w w') : GBox w' b x y :=
  ⟨Nat.lt_of_lt_of_le h.1 hb.size, (hb.cell (p := ⟨b, 0, none⟩) h.1).trans h.2.1, (hb.cell (p := ⟨b, 1, none⟩) h.1).trans h.2.2.1, (hb.frozen (p := ⟨b, 0, none⟩) h.1).trans h.2.2.2.1, (hb.frozen (p := ⟨b, 1, none⟩) h.1).trans h.2.2.2.2⟩
theorem GBox.past {w : World} {b : Nat} {x y : Int} (h : GBox w b x y) (o : Obj) : GBox (w.alloc o) b x y := h.step ((Below.refl _ _).alloc (Nat.le_refl _) o)
theorem GBox.new {w : World} {b : Nat} (hb : w.heap.size = b) (t : TypeId) (x y : Int) : GBox (w.alloc (.cells #[.int .i64 x, .int .i64 y] t)) b x y := by
  subst hb
  exact ⟨by simp, by simp [go_sem], by simp [go_sem], by simp [go_sem], by simp [go_sem]⟩
theorem foldR_next {f : Int × Int → Int × Int → Int × Int × Int} {a : Int × Int} {l : List (Int × Int)} {i : Nat} (h : i < l.length) :
    foldR f a (l.drop i) = if (f a l[i]).2.2 = 0 then foldR f ((f a l[i]).1, (f a l[i]).2.1) (l.drop (i + 1)) else f a l[i] := by
  rw [List.drop_eq_getElem_cons h]
  rfl
/-- a list that lies in memory, or is empty. -/
def LiesO (w : World) (A : Option Addr) (l : List (Int × Int)) : Prop := 0 < l.length → ∃ ad, A = some ad ∧ ad.block < w.heap.size ∧ ∀ i (h : i < l.length), w.cell? (ad.add (i * 2)) = some (.int .i64 (l[i]'h).1) ∧ w.cell? ⟨(ad.add (i * 2)).block, (ad.add (i * 2)).off + 1, none⟩ = some (.int .i64 (l[i]'h).2)
theorem LiesO.below {w w' : World} {A : Option Addr} {l : List (Int × Int)} (h : LiesO w A l) (hb : Below w.heap.size w w') : LiesO w' A l := fun h0 => by
  obtain ⟨ad, e, hs, hl⟩ := h h0
  refine ⟨ad, e, Nat.lt_of_lt_of_le hs hb.size, fun i hi => ⟨(hb.cell (p := ad.add (i * 2)) ?_).trans (hl i hi).1, (hb.cell (p := ⟨(ad.add (i * 2)).block, _, none⟩) ?_).trans (hl i hi).2⟩⟩
  · rw [block_of_add]; exact hs
  · show (ad.add (i * 2)).block < _
    rw [block_of_add]; exact hs
theorem LiesO.nil (w : World) (A : Option Addr) : LiesO w A [] := fun h => absurd h (by simp)

end Go.Proofs.YtalhbjmhipiiiaaGreat

/- The sum of many fractions. -/
namespace Go.Proofs.YtalhbjmhipiiiaaGreat
set_option linter.unusedVariables false
open Go.RowKit

set_option maxHeartbeats 1000000 in
theorem index_list (A : Option Addr) (l : List (Int × Int)) (hw : Words l) (c : Nat) (w : World) (hl : LiesO w A l) (hm : l.length ≤ 1000000) :
    Calls Tryz.prog 143 #[.slice A l.length c, .func (Fn.func 129) #[] #[]] w (FoundEnd l w) := by
  go_enter Tryz.func143, Tryz.ntmps143
  go_wp2_with fail
  go_loopg [8] (l.length + 1) (fun k s wr => ∃ i : Nat, i ≤ l.length ∧ i + k = l.length + 1 ∧ allRight (l.take i) = true ∧ s = .int .i64 (i : Int) ∧ Below w.heap.size w wr)
  case atStart => exact ⟨0, by omega, by omega, rfl, rfl, Below.refl _ _⟩
  case round =>
    obtain ⟨i, hi, hk, ha, rfl, hbl⟩ := hrel
    have HK := hidd hk
    have HA := hidd ha
    clear hk ha
    by_cases hlt : i < l.length
    · obtain ⟨ad, rfl, hbs, hll⟩ := (hl.below hbl) (by omega)
      have hq := hll i hlt
      have hin2 : (i : Int) < (l.length : Int) := by omega
      have hi0 : (0 : Int) ≤ (i : Int) := by omega
      have hww := hw _ (List.getElem_mem hlt)
      have htk : allRight (l.take (i + 1)) = (allRight (l.take i) && rightB (l[i]'hlt).1 (l[i]'hlt).2) := by
        unfold allRight
        rw [List.take_succ_eq_append_getElem hlt, List.all_append]; simp
      have hal : rightB (l[i]'hlt).1 (l[i]'hlt).2 = false → allRight l = false := by
        intro h
        unfold allRight
        exact List.all_eq_false.2 ⟨_, List.getElem_mem hlt, by simp [h]⟩
      generalize (l[i]'hlt).1 = N at *
      generalize (l[i]'hlt).2 = D at *
      obtain ⟨c0, c1⟩ := hq
      have cn := hidd (fun W => isNone_any N D hww.1 hww.2.1 hww.2.2.1 hww.2.2.2 W)
      have HTK := hidd htk
      have HAL := hidd hal
      clear htk hal hl hww hll
      generalize rightB N D = R at *
      cases R
      · go_wp2_with fail
        refine (cn.out _).mono ?_
        rintro e w1 ⟨rfl, hb1⟩
        go_wp2_with fail
        go_ret
        exact ⟨i, rfl, by rw [HAL.out (by trivial)]; exact decide_eq_true (by omega), hbl.trans (hb1.mono hbl.size)⟩
      · go_wp2_with fail
        refine (cn.out _).mono ?_
        rintro e w1 ⟨rfl, hb1⟩
        go_wp2_with fail
        have hk := HK.out
        go_roundg (gk - 1)
        case measure => omega
        case rel => exact ⟨i + 1, by omega, by omega, by rw [HTK.out, HA.out]; rfl, by go_num, hbl.trans (hb1.mono hbl.size)⟩
    · go_wp2_with fail
      go_ret
      have hi2 : i = l.length := by omega
      have ha := HA.out
      rw [hi2, List.take_length] at ha
      exact ⟨-1, rfl, by rw [ha]; decide, hbl⟩

theorem contains_list (A : Option Addr) (l : List (Int × Int)) (hw : Words l) (c : Nat) (w : World) (hl : LiesO w A l) (hm : l.length ≤ 1000000) :
    Calls Tryz.prog 128 #[.slice A l.length c, .func (Fn.func 129) #[] #[]] w fun e w' => e = .returned (.bool (!allRight l)) ∧ Below w.heap.size w w' := by
  have ci := hidd (index_list A l hw c w hl hm)
  clear hl
  go_enter Tryz.func128, Tryz.ntmps128
  go_wp2_with fail
  refine ci.out.mono ?_
  rintro e w1 ⟨k, rfl, hk, hb1⟩
  have HK := hidd hk
  clear hk
  go_wp2_with fail
  go_ret
  exact ⟨by rw [← HK.out]; rfl, hb1⟩
/-- a list of fractions that lies in memory. -/
theorem looks_list (A : Option Addr) (l : List (Int × Int)) (c : Nat) (hw : Words l) (hm : l.length ≤ 1000000) (w : World) (hl : LiesO w A l) : Looks (.slice A l.length c) (!allRight l) w :=
  fun W hW => contains_list A l hw c W (hl.below hW) hm
def addF (a x : Int × Int) : Int × Int × Int := RM.plusR a.1 a.2 x.1 x.2
def RightW (a : Int × Int) : Prop := rightB a.1 a.2 = true ∧ -9223372036854775808 ≤ a.1 ∧ a.1 ≤ 9223372036854775807 ∧ a.2 ≤ 9223372036854775807
theorem allRight_mem {l : List (Int × Int)} (h : allRight l = true) (hw : Words l) {x : Int × Int} (hx : x ∈ l) : RightW x :=
  ⟨List.all_eq_true.1 h x hx, (hw x hx).1, (hw x hx).2.1, (hw x hx).2.2.2⟩
theorem rightW_plus {a x : Int × Int} (ha : RightW a) (hx : RightW x) (h : (addF a x).2.2 = 0) : RightW ((addF a x).1, (addF a x).2.1) := by
  have d1 := (of_decide_eq_true ha.1).1
  have d2 := (of_decide_eq_true hx.1).1
  have hp : RM.plusR a.1 a.2 x.1 x.2 = ((addF a x).1, (addF a x).2.1, 0) := by
    show addF a x = _
    rw [← h]
  obtain ⟨hr, _⟩ := (RM.plusR_ok a.1 a.2 x.1 x.2 _ _ d1 d2).1 hp
  exact ⟨decide_eq_true ⟨hr.1, by have := hr.2.2.1; omega, hr.2.2.2.2⟩, by have := hr.2.2.1; omega, hr.2.2.2.1, hr.2.1⟩
theorem foldR_clean {f : Int × Int → Int × Int → Int × Int × Int} (hf : ∀ a x, Clean (f a x)) : ∀ (l : List (Int × Int)) (a : Int × Int), Clean (foldR f a l)
  | [], a => fun h => absurd rfl h
  | x :: l, a => by
    unfold foldR
    split
    · exact foldR_clean hf l _
    · exact hf a x
def sumR (l : List (Int × Int)) : Int × Int × Int := if allRight l then foldR addF (0, 1) l else (0, 0, 2)
end Go.Proofs.YtalhbjmhipiiiaaGreat

/- The faces of rounding. -/
namespace Go.Proofs.YtalhbjmhipiiiaaGreat
open Go.RowKit

theorem right_bounds (n d : Int) (h0 : -9223372036854775808 ≤ n) (h : rightB n d = true) : 1 ≤ d ∧ -9223372036854775807 ≤ n := by
  have := of_decide_eq_true h
  exact ⟨this.1, by omega⟩

def floorR (n d : Int) : Int × Int := if rightB n d then (n / d, 0) else (0, 2)
def ceilR (n d : Int) : Int × Int := if rightB n d then (-(-n / d), 0) else (0, 2)

set_option maxHeartbeats 1000000 in
theorem ceil_any (n d : Int) (h0 : -9223372036854775808 ≤ n) (h1 : n ≤ 9223372036854775807) (h2 : -9223372036854775808 ≤ d) (h3 : d ≤ 9223372036854775807) (w : World) :
    Calls Tryz.prog 88 #[.agg #[.int .i64 n, .int .i64 d]] w fun e w' => e = .returned (.tuple #[.int .i64 (ceilR n d).1, .int .i64 (ceilR n d).2]) ∧ Below w.heap.size w w' := by
  have hmf : ∀ (fn : Fn) (first cap : Array Value) (w : World), (Instr.makeFunc fn first cap).run Tryz.prog w = .ok (.func fn first cap) w := fun _ _ _ _ => rfl
  have cl := hidd (fun b w hb hc hd c => looks_one n d h0 h1 h2 h3 b w hb hc hd c)
  by_cases hr : rightB n d = true
  · obtain ⟨g1, g2⟩ := right_bounds n d h0 hr
    have cs := hidd (fun p W => ceilStep n d g1 g2 h1 p W)
    have e1 : ceilR n d = (-(-n / d), 0) := by simp [ceilR, hr]
    rw [hr] at cl
    rw [e1]
    clear hr e1
    generalize -(-n / d) = r at *
    go_enter Tryz.func88, Tryz.ntmps88
    go_wp2_with fail
    refine (toldL_ok _ enters60 _ _ _ r (cl.out _ _ (by (first | omega | (simp; done) | (simp; omega))) (by simp [go_sem]) (by simp [go_sem]) _) (cs.out _ _ (by simp [go_sem]) (by simp [go_sem]) (by (first | omega | (simp; done) | (simp; omega))))).mono ?_
    rintro e w1 ⟨rfl, hb⟩
    go_wp2_with fail
    go_ret2
    exact ⟨rfl, by (repeat' (first | (with_reducible exact Below.refl _ _) | (with_reducible assumption) | (with_reducible apply Below.setCell) | (with_reducible apply Below.alloc) | (with_reducible apply Below.drew) | (with_reducible apply below_drewN) | (with_reducible refine Below.trans ?_ (Below.mono (by assumption) ?_)) | omega | (simp; done) | (simp; omega)))⟩
  · have hr' : rightB n d = false := by simpa using hr
    have e1 : ceilR n d = (0, 2) := by simp [ceilR, hr']
    rw [hr'] at cl
    rw [e1]
    clear hr hr' e1
    go_enter Tryz.func88, Tryz.ntmps88
    go_wp2_with fail
    refine (toldL_bad _ _ _ _ (cl.out _ _ (by (first | omega | (simp; done) | (simp; omega))) (by simp [go_sem]) (by simp [go_sem]) _)).mono ?_
    rintro e w1 ⟨rfl, hb⟩
    go_wp2_with fail
    go_ret2
    exact ⟨rfl, by (repeat' (first | (with_reducible exact Below.refl _ _) | (with_reducible assumption) | (with_reducible apply Below.setCell) | (with_reducible apply Below.alloc) | (with_reducible apply Below.drew) | (with_reducible apply below_drewN) | (with_reducible refine Below.trans ?_ (Below.mono (by assumption) ?_)) | omega | (simp; done) | (simp; omega)))⟩
end Go.Proofs.YtalhbjmhipiiiaaGreat

/- Specs: what may be one, and how many bytes it allows. -/
namespace Go.Proofs.YtalhbjmhipiiiaaGreat.Zp
open Go.RowKit

theorem hidd {p : Prop} (h : p) : Hid p := h
theorem bcell {W w1 : World} (hb : Below W.heap.size W w1) : (∀ b o, b < W.heap.size → w1.cell? ⟨b, o, none⟩ = W.cell? ⟨b, o, none⟩) ∧ (∀ b o, b < W.heap.size → w1.frozen? ⟨b, o, none⟩ = W.frozen? ⟨b, o, none⟩) :=
  ⟨fun b o h => hb.cell (p := ⟨b, o, none⟩) h, fun b o h => hb.frozen (p := ⟨b, o, none⟩) h⟩
theorem below_step {w a b : World} (t : Below w.heap.size w a) (h : Below a.heap.size a b) : Below w.heap.size w b := t.trans (h.mono t.size)
theorem below_new {w a : World} (t : Below w.heap.size w a) (o : Obj) : Below w.heap.size w (a.alloc o) := t.alloc t.size o
theorem ret_int {k : IntKind} {a b : Int} (h : a = b) : Ending.returned (.int k a) = .returned (.int k b) := by rw [h]
theorem ret_bool {a b : Bool} (h : a = b) : Ending.returned (.bool a) = .returned (.bool b) := by rw [h]

theorem wp_scope_fwd {P : Program} {a : Act} {w : World} {Q : Exit → Act → World → Prop} {c rest : Code} (l : Nat) (J : Act → World → Prop) (hf : findLabel c l = some rest)
    (first : c.wp P (Exit.jump l J Q) a w) (pass : ∀ a w, J a w → rest.wp P (Exit.noGoto Q) a w) : (Code.scope c).wp P Q a w :=
  wp_scope_jumps l J (fun _ _ => 0) hf first fun a w h => wp_mono (pass a w h) fun e a w hq => by
    cases e <;> first | exact hq | exact hq.elim

/-- may a spec be. -/
def rightB (p r u m l : Int) : Bool := decide (1 ≤ r ∧ r ≤ p ∧ p ≤ 1000000 ∧ 1 ≤ l ∧ l ≤ m ∧ m ≤ 2000 ∧ m ≤ u ∧ u ≤ 10000000)
theorem rightB_iff {p r u m l : Int} (h : rightB p r u m l = true) : 1 ≤ r ∧ r ≤ p ∧ p ≤ 1000000 ∧ 1 ≤ l ∧ l ≤ m ∧ m ≤ 2000 ∧ m ≤ u ∧ u ≤ 10000000 := of_decide_eq_true h
/-- the k-th of what it must. -/
def mustB (p r u m l : Int) : Nat → Bool
  | 0 => decide (1 ≤ r) | 1 => decide (r ≤ p) | 2 => decide (p ≤ 1000000) | 3 => decide (1 ≤ l) | 4 => decide (l ≤ m) | 5 => decide (m ≤ 2000) | 6 => decide (m ≤ u) | _ => decide (u ≤ 10000000)
theorem rightB_musts (p r u m l : Int) : rightB p r u m l = true ↔ ∀ k, k < 8 → mustB p r u m l k = true := by
  constructor
  · intro h k hk
    have := rightB_iff h
    match k, hk with
    | 0, _ | 1, _ | 2, _ | 3, _ | 4, _ | 5, _ | 6, _ | 7, _ => simp only [mustB, decide_eq_true_eq]; omega
  · intro h
    have h0 := h 0 (by omega)
    have h1 := h 1 (by omega)
    have h2 := h 2 (by omega)
    have h3 := h 3 (by omega)
    have h4 := h 4 (by omega)
    have h5 := h 5 (by omega)
    have h6 := h 6 (by omega)
    have h7 := h 7 (by omega)
    simp only [mustB, decide_eq_true_eq] at h0 h1 h2 h3 h4 h5 h6 h7
    exact decide_eq_true ⟨h0, h1, h2, h3, h4, h5, h6, h7⟩

end Go.Proofs.YtalhbjmhipiiiaaGreat.Zp

/- Is a spec one: the look over the musts. -/
namespace Go.Proofs.YtalhbjmhipiiiaaGreat.Zp
open Go.RowKit

end Go.Proofs.YtalhbjmhipiiiaaGreat.Zp

/- bound's small functions; the face of a step: what it answers, and what a step that gives up makes of it. -/
namespace Go.Proofs.YtalhbjmhipiiiaaGreat
set_option linter.unusedVariables false
open Go.RowKit

def fromB (a n b : Int) : Bool := decide (a ≤ n) && decide (n ≤ b)
theorem fromB_iff {a n b : Int} : fromB a n b = true ↔ a ≤ n ∧ n ≤ b := by unfold fromB; simp
theorem isFrom_any (a n b : Int) (w : World) : Calls Tryz.prog 72 #[.int .i64 a, .int .i64 n, .int .i64 b] w fun e w' => e = .returned (.bool (fromB a n b)) ∧ w = w' := by
  by_cases h1 : a ≤ n
  · have e1 : fromB a n b = decide (n ≤ b) := by simp [fromB, h1]
    rw [e1]
    clear e1
    go_enter Tryz.func72, Tryz.ntmps72
    go_wp2
    go_ret
    exact ⟨by simp, rfl⟩
  · have e1 : fromB a n b = false := by simp [fromB, h1]
    have h2 : decide (a ≤ n) = false := decide_eq_false h1
    rw [e1]
    clear e1
    go_enter Tryz.func72, Tryz.ntmps72
    go_wp2
    go_ret
    exact ⟨by simp, rfl⟩
def termsB (c d : Int) : Bool := fromB 0 c 10000000 && fromB 0 d 1000000
theorem isTerms_any (c d : Int) (w : World) : Calls Tryz.prog 56 #[.agg #[.int .i64 c, .int .i64 d]] w fun e w' => e = .returned (.bool (termsB c d)) ∧ Below w.heap.size w w' := by
  have ca := hidd (fun W => isFrom_any 0 c 10000000 W)
  have cb := hidd (fun W => isFrom_any 0 d 1000000 W)
  unfold termsB
  generalize fromB 0 c 10000000 = P at *
  generalize fromB 0 d 1000000 = Q at *
  cases P
  · go_enter Tryz.func56, Tryz.ntmps56
    go_wp2_with fail
    refine (ca.out _).mono ?_
    rintro e w1 ⟨rfl, rfl⟩
    go_wp2_with fail
    go_ret
    exact ⟨by simp, by (repeat' (first | (with_reducible exact Below.refl _ _) | (with_reducible assumption) | (with_reducible apply Below.setCell) | (with_reducible apply Below.alloc) | (with_reducible apply Below.drew) | (with_reducible apply below_drewN) | (with_reducible refine Below.trans ?_ (Below.mono (by assumption) ?_)) | omega | (simp; done) | (simp; omega)))⟩
  · go_enter Tryz.func56, Tryz.ntmps56
    go_wp2_with fail
    refine (ca.out _).mono ?_
    rintro e w1 ⟨rfl, rfl⟩
    go_wp2_with fail
    refine (cb.out _).mono ?_
    rintro e w1 ⟨rfl, rfl⟩
    go_wp2_with fail
    go_ret
    exact ⟨by simp, by (repeat' (first | (with_reducible exact Below.refl _ _) | (with_reducible assumption) | (with_reducible apply Below.setCell) | (with_reducible apply Below.alloc) | (with_reducible apply Below.drew) | (with_reducible apply below_drewN) | (with_reducible refine Below.trans ?_ (Below.mono (by assumption) ?_)) | omega | (simp; done) | (simp; omega)))⟩
theorem isNoTerms_any (c d : Int) (w : World) : Calls Tryz.prog 51 #[.agg #[.int .i64 c, .int .i64 d]] w fun e w' => e = .returned (.bool (!termsB c d)) ∧ Below w.heap.size w w' := by
  have ca := hidd (fun W => isTerms_any c d W)
  generalize termsB c d = P at *
  go_enter Tryz.func51, Tryz.ntmps51
  go_wp2_with fail
  refine (ca.out _).mono ?_
  rintro e w1 ⟨rfl, hb⟩
  go_wp2_with fail
  go_ret
  exact ⟨rfl, by (repeat' (first | (with_reducible exact Below.refl _ _) | (with_reducible assumption) | (with_reducible apply Below.setCell) | (with_reducible apply Below.alloc) | (with_reducible apply Below.drew) | (with_reducible apply below_drewN) | (with_reducible refine Below.trans ?_ (Below.mono (by assumption) ?_)) | omega | (simp; done) | (simp; omega)))⟩
theorem need_yes (k : Int) (w : World) : Calls Tryz.prog 55 #[.bool true, .int .i64 k] w fun e w' => e = .returned (.tuple #[]) ∧ w = w' := by
  go_enter Tryz.func55, Tryz.ntmps55
  go_wp2_with fail
  first | exact ⟨rfl, rfl, rfl⟩ | simp [bodyPost, results, Tryz.results55]
theorem need_no (k : Int) (w : World) : Calls Tryz.prog 55 #[.bool false, .int .i64 k] w fun e w' => e = errPanic k ∧ w = w' := by
  go_enter Tryz.func55, Tryz.ntmps55
  go_wp2_with fail
  exact ⟨rfl, rfl, rfl⟩
theorem mustL_ok (x : Int) (w : World) : Calls Tryz.prog 87 #[.int .i64 x, .int .i64 0] w fun e w' => e = .returned (.int .i64 x) ∧ Below w.heap.size w w' := by
  go_enter Tryz.func87, Tryz.ntmps87
  go_wp2_with fail
  refine (need_yes _ _).mono ?_
  rintro e w1 ⟨rfl, rfl⟩
  go_wp2_with fail
  go_ret
  exact ⟨rfl, by (repeat' (first | (with_reducible exact Below.refl _ _) | (with_reducible assumption) | (with_reducible apply Below.setCell) | (with_reducible apply Below.alloc) | (with_reducible apply Below.drew) | (with_reducible apply below_drewN) | (with_reducible refine Below.trans ?_ (Below.mono (by assumption) ?_)) | omega | (simp; done) | (simp; omega)))⟩
theorem mustL_no (x k : Int) (hk : ¬ k = 0) (w : World) : Calls Tryz.prog 87 #[.int .i64 x, .int .i64 k] w fun e w' => e = errPanic k ∧ Below w.heap.size w w' := by
  have h1 : (k == 0) = false := beq_eq_false_iff_ne.2 hk
  have h2 : decide (k = 0) = false := decide_eq_false hk
  go_enter Tryz.func87, Tryz.ntmps87
  go_wp2_with fail
  refine (need_no _ _).mono ?_
  rintro e w1 ⟨rfl, rfl⟩
  go_wp2_with fail
  exact ⟨rfl, rfl, by (repeat' (first | (with_reducible exact Below.refl _ _) | (with_reducible assumption) | (with_reducible apply Below.setCell) | (with_reducible apply Below.alloc) | (with_reducible apply Below.drew) | (with_reducible apply below_drewN) | (with_reducible refine Below.trans ?_ (Below.mono (by assumption) ?_)) | omega | (simp; done) | (simp; omega)))⟩
theorem mustR_ok (x y : Int) (w : World) : Calls Tryz.prog 89 #[.agg #[.int .i64 x, .int .i64 y], .int .i64 0] w fun e w' => e = .returned (.agg #[.int .i64 x, .int .i64 y]) ∧ Below w.heap.size w w' := by
  go_enter Tryz.func89, Tryz.ntmps89
  go_wp2_with fail
  refine (need_yes _ _).mono ?_
  rintro e w1 ⟨rfl, rfl⟩
  go_wp2_with fail
  exact bodyPost_ret (v := .agg #[.int .i64 x, .int .i64 y]) (by simp [results, Tryz.results89, go_sem]) rfl ⟨rfl, by (repeat' (first | (with_reducible exact Below.refl _ _) | (with_reducible assumption) | (with_reducible apply Below.setCell) | (with_reducible apply Below.alloc) | (with_reducible apply Below.drew) | (with_reducible apply below_drewN) | (with_reducible refine Below.trans ?_ (Below.mono (by assumption) ?_)) | omega | (simp; done) | (simp; omega)))⟩
theorem mustR_no (x y k : Int) (hk : ¬ k = 0) (w : World) : Calls Tryz.prog 89 #[.agg #[.int .i64 x, .int .i64 y], .int .i64 k] w fun e w' => e = errPanic k ∧ Below w.heap.size w w' := by
  have h1 : (k == 0) = false := beq_eq_false_iff_ne.2 hk
  have h2 : decide (k = 0) = false := decide_eq_false hk
  go_enter Tryz.func89, Tryz.ntmps89
  go_wp2_with fail
  refine (need_no _ _).mono ?_
  rintro e w1 ⟨rfl, rfl⟩
  go_wp2_with fail
  exact ⟨rfl, rfl, by (repeat' (first | (with_reducible exact Below.refl _ _) | (with_reducible assumption) | (with_reducible apply Below.setCell) | (with_reducible apply Below.alloc) | (with_reducible apply Below.drew) | (with_reducible apply below_drewN) | (with_reducible refine Below.trans ?_ (Below.mono (by assumption) ?_)) | omega | (simp; done) | (simp; omega)))⟩
theorem catchBT_panicking (p : Addr) (x k : Int) (older : List PanicEntry) (w : World) (hc : w.cell? p = some (.int .i64 x)) (hz : w.frozen? p = false) :
    CallsD Tryz.prog 77 #[.pointer (some p)] (.panicking ({ v := .iface 26 (.int .i64 k), recovered := false } :: older)) w fun e u' w' =>
      e = .returned (.tuple #[]) ∧ u' = .panicking ({ v := .iface 26 (.int .i64 k), recovered := true } :: older) ∧ w' = w.setCell p (.int .i64 k) := by
  refine callsD_of_wpS Tryz.func77 rfl fun c₀ cs hu => ?_
  apply wpS_seq
  apply wpS_region
  simp [wpOpsS, go_sem, recoverD, hu, Tryz.ntmps77, Exit.thenS]
  apply wpS_seq
  apply wpS_region
  simp [wpOpsS, go_sem, Exit.thenS]
  refine wpS_cond (t := true) (by simp [Act.eval, Array.replicate]) ?_
  simp only [if_true]
  apply wpS_region
  have hta : ∀ w, (Instr.typeAssert (.iface 26 (.int .i64 k)) 20 26 false).run Tryz.prog w = .ok (.int .i64 k) w := fun _ => by kernel_rfl
  simp [wpOpsS, go_sem, hc, hz, hta, bodyPostS, results, Tryz.results77]
theorem catchBT_idle (p : Addr) (w : World) :
    CallsD Tryz.prog 77 #[.pointer (some p)] .returning w fun e u' w' => e = .returned (.tuple #[]) ∧ u' = .returning ∧ w' = w := by
  refine callsD_of_wpS Tryz.func77 rfl fun c₀ cs hu => ?_
  apply wpS_seq
  apply wpS_region
  simp [wpOpsS, go_sem, recoverD, hu, Tryz.ntmps77, Exit.thenS]
  apply wpS_seq
  apply wpS_region
  simp [wpOpsS, go_sem, Exit.thenS]
  refine wpS_cond (t := false) (by simp [Act.eval, Array.replicate]) ?_
  simp only [Bool.false_eq_true, if_false]
  refine wpS_of_wp (wp_skip ?_)
  cases c₀
  simp_all [bodyPostS, results, Tryz.results77]
theorem toldBT_ok (K : Nat) (he : ∀ args w, (callFunc K args).run Tryz.prog w = .ok (.enter K args) w) (cap : Array Value) (w : World) (N D : Int) (cs : StepsTo K cap (.returned (.agg #[.int .i64 N, .int .i64 D])) w) :
    Calls Tryz.prog 52 #[.func (Fn.func K) #[] cap] w fun e w' => e = .returned (.tuple #[.agg #[.int .i64 N, .int .i64 D], .int .i64 0]) ∧ Below w.heap.size w w' := by
  have CS := hidd cs
  clear cs
  have hmf : ∀ (fn : Fn) (first cap : Array Value) (w : World), (Instr.makeFunc fn first cap).run Tryz.prog w = .ok (.func fn first cap) w := fun _ _ _ _ => rfl
  go_enter_defers Tryz.func52, Tryz.ntmps52
  go_wp2_with fail
  refine (CS.out _ (by (repeat' (first | (with_reducible exact Below.refl _ _) | (with_reducible assumption) | (with_reducible apply Below.setCell) | (with_reducible apply Below.alloc) | (with_reducible apply Below.drew) | (with_reducible apply below_drewN) | (with_reducible refine Below.trans ?_ (Below.mono (by assumption) ?_)) | omega | (simp; done) | (simp; omega))))).mono ?_
  rintro e w2 ⟨rfl, hb2⟩
  have z1 : w.heap.size + 1 < w2.heap.size := by have := hb2.size; simp at this; omega
  have z0 : w.heap.size < w2.heap.size := by omega
  obtain ⟨hc, hf⟩ := bcell hb2
  have c0 : w2.cell? ⟨w.heap.size, 0, none⟩ = some (.int .i64 0) := by rw [hc _ _ (by (first | omega | (simp; done) | (simp; omega)))]; simp [go_sem]
  have c1 : w2.cell? ⟨w.heap.size, 1, none⟩ = some (.int .i64 0) := by rw [hc _ _ (by (first | omega | (simp; done) | (simp; omega)))]; simp [go_sem]
  have c2 : w2.cell? ⟨w.heap.size + 1, 0, none⟩ = some (.int .i64 0) := by rw [hc _ _ (by (first | omega | (simp; done) | (simp; omega)))]; simp [go_sem]
  go_wp2_with fail
  refine leaves_cons (f := 77) (args := #[.pointer (some ⟨w.heap.size + 1, 0, none⟩)]) (by simp) (by simp [go_sem]) ?_
  refine (catchBT_idle ⟨w.heap.size + 1, 0, none⟩ _).mono ?_
  rintro e u' w3 ⟨rfl, rfl, rfl⟩
  simp [Leaves, settle, results, Tryz.results52, go_sem, *]
  (repeat' (first | (with_reducible exact Below.refl _ _) | (with_reducible assumption) | (with_reducible apply Below.setCell) | (with_reducible apply Below.alloc) | (with_reducible apply Below.drew) | (with_reducible apply below_drewN) | (with_reducible refine Below.trans ?_ (Below.mono (by assumption) ?_)) | omega | (simp; done) | (simp; omega)))
theorem toldBT_no (K : Nat) (he : ∀ args w, (callFunc K args).run Tryz.prog w = .ok (.enter K args) w) (cap : Array Value) (w : World) (k : Int) (cs : StepsTo K cap (errPanic k) w) :
    Calls Tryz.prog 52 #[.func (Fn.func K) #[] cap] w fun e w' => e = .returned (.tuple #[.agg #[.int .i64 0, .int .i64 0], .int .i64 k]) ∧ Below w.heap.size w w' := by
  have CS := hidd cs
  clear cs
  have hmf : ∀ (fn : Fn) (first cap : Array Value) (w : World), (Instr.makeFunc fn first cap).run Tryz.prog w = .ok (.func fn first cap) w := fun _ _ _ _ => rfl
  go_enter_defers Tryz.func52, Tryz.ntmps52
  go_wp2_with fail
  refine (CS.out _ (by (repeat' (first | (with_reducible exact Below.refl _ _) | (with_reducible assumption) | (with_reducible apply Below.setCell) | (with_reducible apply Below.alloc) | (with_reducible apply Below.drew) | (with_reducible apply below_drewN) | (with_reducible refine Below.trans ?_ (Below.mono (by assumption) ?_)) | omega | (simp; done) | (simp; omega))))).mono ?_
  rintro e w2 ⟨rfl, hb2⟩
  have z1 : w.heap.size + 1 < w2.heap.size := by have := hb2.size; simp at this; omega
  have z0 : w.heap.size < w2.heap.size := by omega
  obtain ⟨hc, hf⟩ := bcell hb2
  go_wp2_with fail
  refine leaves_cons (f := 77) (args := #[.pointer (some ⟨w.heap.size + 1, 0, none⟩)]) (by simp) (by simp [go_sem]) ?_
  refine (catchBT_panicking ⟨w.heap.size + 1, 0, none⟩ 0 k [] _ ?_ ?_).mono ?_
  · simp [go_sem, *]
  · simp [go_sem, *]
  rintro e u' w3 ⟨rfl, rfl, rfl⟩
  simp [Leaves, settle, results, Tryz.results52, go_sem, *]
  (repeat' (first | (with_reducible exact Below.refl _ _) | (with_reducible assumption) | (with_reducible apply Below.setCell) | (with_reducible apply Below.alloc) | (with_reducible apply Below.drew) | (with_reducible apply below_drewN) | (with_reducible refine Below.trans ?_ (Below.mono (by assumption) ?_)) | omega | (simp; done) | (simp; omega)))
end Go.Proofs.YtalhbjmhipiiiaaGreat

/- bound's steps: a fraction made, rounded up, the bound. -/
namespace Go.Proofs.YtalhbjmhipiiiaaGreat
set_option linter.unusedVariables false
open Go.RowKit

theorem boundBy_ok (n d N D : Int) (h0 : -9223372036854775808 ≤ n) (h1 : n ≤ 9223372036854775807) (h2 : -9223372036854775808 ≤ d) (h3 : d ≤ 9223372036854775807) (hm : makeR n d = (N, D, 0)) (w : World) :
    Calls Tryz.prog 75 #[.int .i64 n, .int .i64 d] w fun e w' => e = .returned (.agg #[.int .i64 N, .int .i64 D]) ∧ Below w.heap.size w w' := by
  have cm := fun W => make_any n d h0 h1 h2 h3 W
  rw [hm] at cm
  unfold pairOf at cm
  dsimp only at cm
  have CM := hidd cm
  clear cm hm
  go_enter Tryz.func75, Tryz.ntmps75
  go_wp2_with fail
  refine (CM.out _).mono ?_
  rintro e w1 ⟨rfl, hb1⟩
  have HB1 := hidd (below_step (below_new (Below.refl w.heap.size w) _) hb1)
  have z1 : w.heap.size < w1.heap.size := by have := hb1.size; simp at this; omega
  obtain ⟨bc, bf⟩ := bcell hb1
  clear hb1
  go_wp2_with fail
  refine (mustR_ok N D _).mono ?_
  rintro e w2 ⟨rfl, hb2⟩
  have z2 : w.heap.size < w2.heap.size := Nat.lt_of_lt_of_le z1 hb2.size
  have q0 : w2.cell? ⟨w.heap.size, 0, none⟩ = some (.int .i64 0) := by rw [hb2.cell (by (first | omega | (simp; done) | (simp; omega))), bc _ _ (by (first | omega | (simp; done) | (simp; omega)))]; simp [go_sem]
  have q1 : w2.cell? ⟨w.heap.size, 1, none⟩ = some (.int .i64 0) := by rw [hb2.cell (by (first | omega | (simp; done) | (simp; omega))), bc _ _ (by (first | omega | (simp; done) | (simp; omega)))]; simp [go_sem]
  have q2 : w2.frozen? ⟨w.heap.size, 0, none⟩ = false := by rw [hb2.frozen (by (first | omega | (simp; done) | (simp; omega))), bf _ _ (by (first | omega | (simp; done) | (simp; omega)))]; simp [go_sem]
  have q3 : w2.frozen? ⟨w.heap.size, 1, none⟩ = false := by rw [hb2.frozen (by (first | omega | (simp; done) | (simp; omega))), bf _ _ (by (first | omega | (simp; done) | (simp; omega)))]; simp [go_sem]
  have HB2 := hidd (below_step HB1.out hb2)
  clear bc bf hb2
  go_wp2_with fail
  exact bodyPost_ret (v := .agg #[.int .i64 N, .int .i64 D]) (by simp [results, Tryz.results75, go_sem, *]) rfl ⟨rfl, by have := HB2.out; (repeat' (first | (with_reducible exact Below.refl _ _) | (with_reducible assumption) | (with_reducible apply Below.setCell) | (with_reducible apply Below.alloc) | (with_reducible apply Below.drew) | (with_reducible apply below_drewN) | (with_reducible refine Below.trans ?_ (Below.mono (by assumption) ?_)) | omega | (simp; done) | (simp; omega)))⟩
theorem up_ok (n d : Int) (h0 : -9223372036854775808 ≤ n) (h1 : n ≤ 9223372036854775807) (h3 : d ≤ 9223372036854775807) (hr : rightB n d = true) (w : World) :
    Calls Tryz.prog 74 #[.agg #[.int .i64 n, .int .i64 d]] w fun e w' => e = .returned (.int .i64 (-(-n / d))) ∧ Below w.heap.size w w' := by
  have hd := (right_bounds n d h0 hr).1
  have cm := fun W => ceil_any n d h0 h1 (by omega) h3 W
  have e1 : ceilR n d = (-(-n / d), 0) := by simp [ceilR, hr]
  rw [e1] at cm
  dsimp only at cm
  generalize -(-n / d) = u at *
  have CM := hidd cm
  clear cm e1 hr
  go_enter Tryz.func74, Tryz.ntmps74
  go_wp2_with fail
  refine (CM.out _).mono ?_
  rintro e w1 ⟨rfl, hb1⟩
  have HB1 := hidd (below_step (below_new (Below.refl w.heap.size w) _) hb1)
  clear hb1
  go_wp2_with fail
  refine (mustL_ok u _).mono ?_
  rintro e w2 ⟨rfl, hb2⟩
  have HB2 := hidd (below_step HB1.out hb2)
  clear hb2
  go_wp2_with fail
  go_ret
  exact ⟨rfl, HB2.out⟩
end Go.Proofs.YtalhbjmhipiiiaaGreat

/- The bound of a spec, a rate and terms, worked out. -/
namespace Go.Proofs.YtalhbjmhipiiiaaGreat
set_option linter.unusedVariables false
open Go.RowKit

/-- a spec's five numbers, terms' two, the result's box, as they lie in the call's own memory. -/
def LateAt (W : World) (b : Nat) (p r u m l c d : Int) : Prop :=
  (b < W.heap.size ∧ W.cell? ⟨b, 0, none⟩ = some (.int .i64 p) ∧ W.cell? ⟨b, 1, none⟩ = some (.int .i64 r) ∧ W.cell? ⟨b, 2, none⟩ = some (.int .i64 u) ∧ W.cell? ⟨b, 3, none⟩ = some (.int .i64 m)) ∧ GBox W (b + 1) c d ∧ GBox W (b + 1 + 1) 0 0
theorem LateAt.step {W W' : World} {b : Nat} {p r u m l c d : Int} (h : LateAt W b p r u m l c d) (hb : Below W.heap.size W W') : LateAt W' b p r u m l c d :=
  ⟨⟨Nat.lt_of_lt_of_le h.1.1 hb.size, (hb.cell (p := ⟨b, 0, none⟩) h.1.1).trans h.1.2.1, (hb.cell (p := ⟨b, 1, none⟩) h.1.1).trans h.1.2.2.1, (hb.cell (p := ⟨b, 2, none⟩) h.1.1).trans h.1.2.2.2.1, (hb.cell (p := ⟨b, 3, none⟩) h.1.1).trans h.1.2.2.2.2⟩, h.2.1.step hb, h.2.2.step hb⟩
theorem GBox.put {W : World} {b : Nat} {u v : Int} (h : GBox W b u v) (x y : Int) : GBox ((W.setCell ⟨b, 0, none⟩ (.int .i64 x)).setCell ⟨b, 1, none⟩ (.int .i64 y)) b x y := by
  obtain ⟨h0, h1, h2, h3, h4⟩ := h
  exact ⟨by simpa using h0, by simp [go_sem, *], by simp [go_sem, *], by simp [go_sem, *], by simp [go_sem, *]⟩
theorem GBox.far {W : World} {b c : Nat} {u v : Int} (hne : ¬ c = b) (h : GBox W c u v) (x y : Int) : GBox ((W.setCell ⟨b, 0, none⟩ (.int .i64 x)).setCell ⟨b, 1, none⟩ (.int .i64 y)) c u v := by
  obtain ⟨h0, h1, h2, h3, h4⟩ := h
  exact ⟨by simpa using h0, by simp [go_sem, *], by simp [go_sem, *], by simp [go_sem, *], by simp [go_sem, *]⟩
theorem below_set {w W : World} {b : Nat} (h : Below w.heap.size w W) (hb : w.heap.size ≤ b) (x y : Int) : Below w.heap.size w ((W.setCell ⟨b, 0, none⟩ (.int .i64 x)).setCell ⟨b, 1, none⟩ (.int .i64 y)) := (h.setCell (by simpa using hb) _).setCell (by simpa using hb) _
theorem LateAt.far {W : World} {b k : Nat} {p r u m l c d : Int} (hk : b + 1 + 1 < k) (h : LateAt W b p r u m l c d) (x y : Int) : LateAt ((W.setCell ⟨k, 0, none⟩ (.int .i64 x)).setCell ⟨k, 1, none⟩ (.int .i64 y)) b p r u m l c d := by
  obtain ⟨⟨h0, h1, h2, h3, h4⟩, h5, h6⟩ := h
  have n0 : ¬ b = k := by omega
  exact ⟨⟨by simpa using h0, by simp [go_sem, *], by simp [go_sem, *], by simp [go_sem, *], by simp [go_sem, *]⟩, GBox.far (by omega) h5 x y, GBox.far (by omega) h6 x y⟩
theorem lies3 (V : World) (T : TypeId) (a b c d e f : Int) : LiesO (V.alloc (.cells #[.int .i64 a, .int .i64 b, .int .i64 c, .int .i64 d, .int .i64 e, .int .i64 f] T)) (some ⟨V.heap.size, 0, none⟩) [(a, b), (c, d), (e, f)] := fun _ => by
  refine ⟨_, rfl, by simp, fun i hi => ?_⟩
  have hi2 : i = 0 ∨ i = 1 ∨ i = 2 := by simp at hi; omega
  rcases hi2 with rfl | rfl | rfl <;> exact ⟨by simp [Addr.add, go_sem], by simp [Addr.add, go_sem]⟩
/-- what the bound is worked out of: each part is a fraction that fits. -/
def LateOk (p r u m l R c d N D : Int) : Prop := ∃ n1 d1 n2 d2 n3 d3 : Int, makeR (m + c) R = (n1, d1, 0) ∧ makeR d 1 = (n2, d2, 0) ∧ ((R < p ∧ makeR ((u - m) * (p - R)) (R * (p - r)) = (n3, d3, 0)) ∨ (¬ R < p ∧ n3 = 0 ∧ d3 = 1)) ∧ sumR [(n1, d1), (n2, d2), (n3, d3)] = (N, D, 0) ∧ Words [(n1, d1), (n2, d2), (n3, d3)]
theorem words3 {a b c d e f : Int} (h : Words [(a, b), (c, d), (e, f)]) : True := trivial
def SpecIn (p r u m : Int) : Prop := 1 ≤ r ∧ r ≤ p ∧ p ≤ 1000000 ∧ 1 ≤ m ∧ m ≤ 2000 ∧ m ≤ u ∧ u ≤ 10000000
theorem late_prods {p r u m R : Int} (h : SpecIn p r u m) (h1 : 1 ≤ R) (h2 : R ≤ 1000000) (h3 : R < p) : (0 ≤ (u - m) * (p - R) ∧ (u - m) * (p - R) ≤ 10000000000000) ∧ 0 ≤ R * (p - r) ∧ R * (p - r) ≤ 1000000000000 := by
  obtain ⟨a1, a2, a3, a4, a5, a6, a7⟩ := h
  have e1 : (u - m) * (p - R) ≤ 10000000 * 1000000 := Int.mul_le_mul (by omega) (by omega) (by omega) (by decide)
  have e2 : R * (p - r) ≤ 1000000 * 1000000 := Int.mul_le_mul (by omega) (by omega) (by omega) (by decide)
  exact ⟨⟨Int.mul_nonneg (by omega) (by omega), by omega⟩, Int.mul_nonneg (by omega) (by omega), by omega⟩
theorem wrap_both3 {x : Int} (h0 : -9223372036854775808 ≤ x) (h1 : x ≤ 9223372036854775807) : IntKind.i64.wrap x = x ∧ wrap64 x = x := by
  have e1 : IntKind.i64.wrap x = x := IntWalk.i64_in _ (by omega)
  refine ⟨e1, ?_⟩
  conv => rhs; rw [← e1]
  simp [IntKind.wrap_i64, wrap64]
end Go.Proofs.YtalhbjmhipiiiaaGreat

/- The faces of the bound: Bound, Room, where all is right. -/
namespace Go.Proofs.YtalhbjmhipiiiaaGreat
set_option linter.unusedVariables false
open Go.RowKit

def hasB (p r u m l R c d : Int) : Bool := Zp.rightB p r u m l && termsB c d && fromB r R 1000000
/-- a spec, a rate and terms in three boxes. -/
def AskAt (W : World) (a b e : Nat) (p r u m l R c d : Int) : Prop :=
  (a < W.heap.size ∧ W.cell? ⟨a, 0, none⟩ = some (.int .i64 p) ∧ W.cell? ⟨a, 1, none⟩ = some (.int .i64 r) ∧ W.cell? ⟨a, 2, none⟩ = some (.int .i64 u) ∧ W.cell? ⟨a, 3, none⟩ = some (.int .i64 m) ∧ W.cell? ⟨a, 4, none⟩ = some (.int .i64 l)) ∧
  (b < W.heap.size ∧ W.cell? ⟨b, 0, none⟩ = some (.int .i64 R)) ∧ e < W.heap.size ∧ W.cell? ⟨e, 0, none⟩ = some (.int .i64 c) ∧ W.cell? ⟨e, 1, none⟩ = some (.int .i64 d)
theorem AskAt.step {W W' : World} {a b e : Nat} {p r u m l R c d : Int} (h : AskAt W a b e p r u m l R c d) (hb : Below W.heap.size W W') : AskAt W' a b e p r u m l R c d :=
  ⟨⟨Nat.lt_of_lt_of_le h.1.1 hb.size, (hb.cell (p := ⟨a, 0, none⟩) h.1.1).trans h.1.2.1, (hb.cell (p := ⟨a, 1, none⟩) h.1.1).trans h.1.2.2.1, (hb.cell (p := ⟨a, 2, none⟩) h.1.1).trans h.1.2.2.2.1, (hb.cell (p := ⟨a, 3, none⟩) h.1.1).trans h.1.2.2.2.2.1, (hb.cell (p := ⟨a, 4, none⟩) h.1.1).trans h.1.2.2.2.2.2⟩,
   ⟨Nat.lt_of_lt_of_le h.2.1.1 hb.size, (hb.cell (p := ⟨b, 0, none⟩) h.2.1.1).trans h.2.1.2⟩, Nat.lt_of_lt_of_le h.2.2.1 hb.size, (hb.cell (p := ⟨e, 0, none⟩) h.2.2.1).trans h.2.2.2.1, (hb.cell (p := ⟨e, 1, none⟩) h.2.2.1).trans h.2.2.2.2⟩
end Go.Proofs.YtalhbjmhipiiiaaGreat

/- The faces Room and Rate, where all is right. -/
namespace Go.Proofs.YtalhbjmhipiiiaaGreat
set_option linter.unusedVariables false
open Go.RowKit

def upV (N D : Int) : Int := -(-N / D)
/-- the bound told, and all of it fits. -/
def Told (p r u m l R c d N D : Int) : Prop := (1 ≤ R ∧ R ≤ 1000000) ∧ LateOk p r u m l R c d N D ∧ (-9223372036854775808 ≤ N ∧ N ≤ 9223372036854775807 ∧ D ≤ 9223372036854775807) ∧ rightB N D = true
/-- the search by halves. -/
def search (does : Int → Bool) : Nat → Int → Int → Int
  | 0, lo, _ => lo
  | n + 1, lo, hi => if lo < hi then (if does (lo + (hi - lo) / 2) then search does n lo (lo + (hi - lo) / 2) else search does n (lo + (hi - lo) / 2 + 1) hi) else lo
def searchOk (okk does : Int → Bool) : Nat → Int → Int → Bool
  | 0, _, _ => true
  | n + 1, lo, hi => if lo < hi then okk (lo + (hi - lo) / 2) && (if does (lo + (hi - lo) / 2) then searchOk okk does n lo (lo + (hi - lo) / 2) else searchOk okk does n (lo + (hi - lo) / 2 + 1) hi) else true
def wordB (x : Int) : Bool := decide (-9223372036854775808 ≤ x) && decide (x ≤ 9223372036854775807)
theorem wordB_iff {x : Int} (h : wordB x = true) : -9223372036854775808 ≤ x ∧ x ≤ 9223372036854775807 := by unfold wordB at h; simpa using h
def partA (m c R : Int) : Int × Int × Int := makeR (m + c) R
def partG (p r u m R : Int) : Int × Int × Int := if R < p then makeR ((u - m) * (p - R)) (R * (p - r)) else (0, 1, 0)
def lateF (p r u m c d R : Int) : Int × Int × Int := sumR [((partA m c R).1, (partA m c R).2.1), ((makeR d 1).1, (makeR d 1).2.1), ((partG p r u m R).1, (partG p r u m R).2.1)]
def okF (p r u m c d R : Int) : Bool :=
  (decide (1 ≤ R) && decide (R ≤ 1000000)) && (decide ((partA m c R).2.2 = 0) && decide ((makeR d 1).2.2 = 0) && decide ((partG p r u m R).2.2 = 0) && decide ((lateF p r u m c d R).2.2 = 0)) &&
  (wordB (partA m c R).1 && wordB (partA m c R).2.1 && wordB (makeR d 1).1 && wordB (makeR d 1).2.1 && wordB (partG p r u m R).1 && wordB (partG p r u m R).2.1) && (wordB (lateF p r u m c d R).1 && wordB (lateF p r u m c d R).2.1) && rightB (lateF p r u m c d R).1 (lateF p r u m c d R).2.1
theorem told_of {p r u m l c d R : Int} (h : okF p r u m c d R = true) : Told p r u m l R c d (lateF p r u m c d R).1 (lateF p r u m c d R).2.1 := by
  unfold okF at h
  simp only [Bool.and_eq_true, decide_eq_true_eq] at h
  obtain ⟨⟨⟨⟨⟨h1, h2⟩, ⟨⟨h3, h4⟩, h5⟩, h6⟩, ⟨⟨⟨⟨w1, w2⟩, w3⟩, w4⟩, w5⟩, w6⟩, w7, w8⟩, h7⟩ := h
  refine ⟨⟨h1, h2⟩, ⟨(partA m c R).1, (partA m c R).2.1, (makeR d 1).1, (makeR d 1).2.1, (partG p r u m R).1, (partG p r u m R).2.1, ?_, ?_, ?_, ?_, ?_⟩, ⟨(wordB_iff w7).1, (wordB_iff w7).2, (wordB_iff w8).2⟩, h7⟩
  · rw [← h3]; rfl
  · rw [← h4]
  · unfold partG at h5 ⊢
    by_cases hp : R < p
    · rw [if_pos hp] at h5 ⊢
      exact .inl ⟨hp, by rw [← h5]⟩
    · rw [if_neg hp]
      exact .inr ⟨hp, rfl, rfl⟩
  · rw [← h6]; rfl
  · intro x hx
    simp only [List.mem_cons, List.not_mem_nil, or_false] at hx
    rcases hx with rfl | rfl | rfl
    · exact ⟨(wordB_iff w1).1, (wordB_iff w1).2, (wordB_iff w2).1, (wordB_iff w2).2⟩
    · exact ⟨(wordB_iff w3).1, (wordB_iff w3).2, (wordB_iff w4).1, (wordB_iff w4).2⟩
    · exact ⟨(wordB_iff w5).1, (wordB_iff w5).2, (wordB_iff w6).1, (wordB_iff w6).2⟩
def inTime (p r u m c d T R : Int) : Bool := decide (upV (lateF p r u m c d R).1 (lateF p r u m c d R).2.1 ≤ T)
end Go.Proofs.YtalhbjmhipiiiaaGreat

/- The faces Rate (where all is right) and Link (of any three numbers). -/
namespace Go.Proofs.YtalhbjmhipiiiaaGreat
set_option linter.unusedVariables false
open Go.RowKit

/-- a fraction of two numbers from 1 on fits, and rounds up as they do. -/
theorem make_fits (n d : Int) (h0 : 0 ≤ n) (h1 : n ≤ 9223372036854775807) (h2 : 1 ≤ d) (h3 : d ≤ 9223372036854775807) : ∃ N D, makeR n d = (N, D, 0) ∧ rightB N D = true ∧ (-9223372036854775808 ≤ N ∧ N ≤ 9223372036854775807 ∧ D ≤ 9223372036854775807) ∧ -(-N / D) = -(-n / d) := by
  have hd : 0 < d.natAbs := by omega
  rcases RM.fracN_err (decide (n < 0) != decide (d < 0)) n.natAbs d.natAbs hd with ⟨N, D, h⟩ | h
  · refine ⟨N, D, h, ?_, ?_, ?_⟩
    · obtain ⟨hr, _⟩ := (RM.fracN_ok _ _ _ hd N D).1 h
      exact decide_eq_true ⟨hr.1, by have := hr.2.2.1; omega, hr.2.2.2.2⟩
    · obtain ⟨hr, _⟩ := (RM.fracN_ok _ _ _ hd N D).1 h
      exact ⟨by have := hr.2.2.1; omega, hr.2.2.2.1, hr.2.1⟩
    · obtain ⟨hr, he⟩ := (RM.fracN_ok _ _ _ hd N D).1 h
      have e0 : (decide (n < 0) != decide (d < 0)) = false := by
        have g1 : decide (n < 0) = false := decide_eq_false (by omega)
        have g2 : decide (d < 0) = false := decide_eq_false (by omega)
        rw [g1, g2]; rfl
      rw [e0] at he
      have e1 : RM.sgn false n.natAbs = n := by unfold RM.sgn; simp; omega
      have e2 : ((d.natAbs : Nat) : Int) = d := by omega
      rw [e1, e2] at he
      have hD : 0 < D := by have := hr.1; omega
      have g1 : -N / D = (d * -N) / (d * D) := (Int.mul_ediv_mul_of_pos _ _ (by omega)).symm
      have g2 : -n / d = (D * -n) / (D * d) := (Int.mul_ediv_mul_of_pos _ _ hD).symm
      have g3 : d * -N = D * -n := by rw [Int.mul_neg, Int.mul_neg, Int.mul_comm d N, Int.mul_comm D n, he]
      rw [g1, g2, g3, Int.mul_comm d D]
  · exfalso
    unfold RM.fracN RM.fracP at h
    rw [if_neg (by omega)] at h
    have l1 : n.natAbs / Nat.gcd n.natAbs d.natAbs ≤ n.natAbs := Nat.div_le_self _ _
    have l2 : d.natAbs / Nat.gcd n.natAbs d.natAbs ≤ d.natAbs := Nat.div_le_self _ _
    rw [if_pos ⟨by omega, by omega⟩] at h
    simp at h
def upZ (n d : Int) : Int := -(-n / d)
theorem upZ_bd {n d : Int} (h0 : 0 ≤ n) (h2 : 1 ≤ d) : 0 ≤ upZ n d ∧ upZ n d ≤ n := by
  unfold upZ
  have h1 : -n ≤ -n / d := by
    refine (Int.le_ediv_iff_mul_le (by omega)).2 ?_
    have : n * 1 ≤ n * d := Int.mul_le_mul_of_nonneg_left h2 h0
    rw [Int.neg_mul]; omega
  have h3 : -n / d ≤ 0 := by have := Int.ediv_le_ediv (c := d) (by omega) (show -n ≤ 0 by omega); simpa using this
  omega
theorem entersLink1 : ∀ args w, (callFunc 73 args).run Tryz.prog w = .ok (.enter 73 args) w := fun args w => by simp [callFunc, Tryz.func73, Tryz.f73, mark]
set_option maxRecDepth 100000 in
set_option maxHeartbeats 4000000 in
theorem linkStep (rate most far : Int) (r1 : 1 ≤ rate) (r2 : rate ≤ 1000000) (m1 : 1 ≤ most) (m2 : most ≤ 2000) (f1 : 0 ≤ far) (f2 : far ≤ 100000) (a b e : Nat) (w : World)
    (ha : a < w.heap.size ∧ w.cell? ⟨a, 0, none⟩ = some (.int .i64 most)) (hb : b < w.heap.size ∧ w.cell? ⟨b, 0, none⟩ = some (.int .i64 rate)) (he : e < w.heap.size ∧ w.cell? ⟨e, 0, none⟩ = some (.int .i64 far)) :
    StepsTo 73 #[.pointer (some ⟨a, 0, none⟩), .pointer (some ⟨b, 0, none⟩), .pointer (some ⟨e, 0, none⟩)] (.returned (.agg #[.int .i64 most, .int .i64 (upZ most rate + 1 + far)])) w := by
  intro W hW
  have x1 : W.cell? ⟨a, 0, none⟩ = some (.int .i64 most) := (hW.cell (p := ⟨a, 0, none⟩) ha.1).trans ha.2
  have x2 : W.cell? ⟨b, 0, none⟩ = some (.int .i64 rate) := (hW.cell (p := ⟨b, 0, none⟩) hb.1).trans hb.2
  have x3 : W.cell? ⟨e, 0, none⟩ = some (.int .i64 far) := (hW.cell (p := ⟨e, 0, none⟩) he.1).trans he.2
  have a1 : a < W.heap.size := Nat.lt_of_lt_of_le ha.1 hW.size
  have b1 : b < W.heap.size := Nat.lt_of_lt_of_le hb.1 hW.size
  have e1 : e < W.heap.size := Nat.lt_of_lt_of_le he.1 hW.size
  obtain ⟨N, D, hm, hr, ⟨w1, w2, w3⟩, hu⟩ := make_fits most rate (by omega) (by omega) r1 (by omega)
  have cb := hidd (fun W => boundBy_ok most rate N D (by omega) (by omega) (by omega) (by omega) hm W)
  have cu := fun W => up_ok N D w1 w2 w3 hr W
  rw [hu] at cu
  have hz := upZ_bd (n := most) (d := rate) (by omega) r1
  have hz2 : -(-most / rate) = upZ most rate := rfl
  rw [hz2] at cu
  generalize upZ most rate = U at *
  have CU := hidd cu
  have g1 : IntKind.i64.wrap (U + 1) = U + 1 := IntWalk.i64_in _ (by omega)
  have g2 : IntKind.i64.wrap (U + 1 + far) = U + 1 + far := IntWalk.i64_in _ (by omega)
  have hal : Below W.heap.size W (W.alloc (.cells #[.int .i64 0, .int .i64 0] 42)) := below_new (Below.refl _ _) _
  have KEEP := hidd (fun W' (hb : Below (W.alloc (.cells #[.int .i64 0, .int .i64 0] 42)).heap.size (W.alloc (.cells #[.int .i64 0, .int .i64 0] 42)) W') => (show (W'.cell? ⟨a, 0, none⟩ = some (.int .i64 most) ∧ W'.cell? ⟨b, 0, none⟩ = some (.int .i64 rate) ∧ W'.cell? ⟨e, 0, none⟩ = some (.int .i64 far)) ∧ GBox W' W.heap.size 0 0 from
    ⟨⟨(hb.cell (p := ⟨a, 0, none⟩) (by simp; omega)).trans ((hal.cell (p := ⟨a, 0, none⟩) a1).trans x1), (hb.cell (p := ⟨b, 0, none⟩) (by simp; omega)).trans ((hal.cell (p := ⟨b, 0, none⟩) b1).trans x2), (hb.cell (p := ⟨e, 0, none⟩) (by simp; omega)).trans ((hal.cell (p := ⟨e, 0, none⟩) e1).trans x3)⟩, (GBox.new rfl _ 0 0).step hb⟩))
  have na : ¬ a = W.heap.size := by omega
  have nb : ¬ b = W.heap.size := by omega
  have ne : ¬ e = W.heap.size := by omega
  clear hm hr hu cu hz2 ha hb he hW hal
  obtain ⟨⟨k0, k1, k2⟩, _⟩ := KEEP.out _ (Below.refl _ _)
  go_enter Tryz.func73, Tryz.ntmps73
  go_wp2_with fail
  go_region_held3 (fun w' => w'.cell? ⟨a, 0, none⟩ = some (.int .i64 most) ∧ w'.cell? ⟨b, 0, none⟩ = some (.int .i64 rate) ∧ w'.cell? ⟨e, 0, none⟩ = some (.int .i64 far))
    ((first | exact (KEEP.out _ cum2).1 | exact (KEEP.out _ cum1).1 | exact ⟨k0, k1, k2⟩ | (obtain ⟨⟨j0, j1, j2⟩, _⟩ := KEEP.out _ cum2; refine ⟨?_, ?_, ?_⟩ <;> simp [go_sem, *]; done) | go_keep))
    ((first
      | (go_at_call 75; refine (cb.out _).mono ?_; rintro E1 v1 ⟨rfl, l1⟩; have cum1 : Below ((W.alloc (.cells #[.int .i64 0, .int .i64 0] 42))).heap.size ((W.alloc (.cells #[.int .i64 0, .int .i64 0] 42))) v1 := (by first | exact below_step (Below.drew (Below.refl _ _)) l1 | exact below_step (Below.refl _ _) l1))
      | (go_at_call 74; refine (CU.out _).mono ?_; rintro E2 v2 ⟨rfl, l2⟩; have cum2 : Below ((W.alloc (.cells #[.int .i64 0, .int .i64 0] 42))).heap.size ((W.alloc (.cells #[.int .i64 0, .int .i64 0] 42))) v2 := (by first | exact below_step cum1 l2); obtain ⟨_, r0, r1', r2', r3', r4'⟩ := KEEP.out _ cum2; have hsz2 := Below.size cum2)))
  all_goals go_wp2_with fail
  all_goals exact bodyPost_ret (v := .agg #[.int .i64 most, .int .i64 (U + 1 + far)]) (by simp [results, Tryz.results73, go_sem, *]) rfl ⟨rfl, by have hq : Below W.heap.size W v2 := (below_new (Below.refl W.heap.size W) (.cells #[.int .i64 0, .int .i64 0] 42)).trans (cum2.mono (by simp)); (repeat' (first | (with_reducible exact Below.refl _ _) | (with_reducible assumption) | (with_reducible apply Below.setCell) | (with_reducible apply Below.alloc) | (with_reducible apply Below.drew) | (with_reducible apply below_drewN) | (with_reducible refine Below.trans ?_ (Below.mono (by assumption) ?_)) | omega | (simp; done) | (simp; omega)))⟩
def linkB (rate most far : Int) : Bool := fromB 1 rate 1000000 && fromB 1 most 2000 && fromB 0 far 100000
set_option maxRecDepth 100000 in
set_option maxHeartbeats 4000000 in
theorem Link_any (rate most far : Int) (w : World) :
    Calls Tryz.prog 49 #[.int .i64 rate, .int .i64 most, .int .i64 far] w fun e w' => e = .returned (if linkB rate most far then .tuple #[.agg #[.int .i64 most, .int .i64 (upZ most rate + 1 + far)], .int .i64 0] else .tuple #[.agg #[.int .i64 0, .int .i64 0], .int .i64 2]) ∧ Below w.heap.size w w' := by
  have hmf : ∀ (fn : Fn) (first cap : Array Value) (w : World), (Instr.makeFunc fn first cap).run Tryz.prog w = .ok (.func fn first cap) w := fun _ _ _ _ => rfl
  have c1 := hidd (fun W => isFrom_any 1 rate 1000000 W)
  have c2 := hidd (fun W => isFrom_any 1 most 2000 W)
  have c3 := hidd (fun W => isFrom_any 0 far 100000 W)
  have st := hidd (fun (h : linkB rate most far = true) => by
    unfold linkB at h
    rw [Bool.and_eq_true, Bool.and_eq_true] at h
    have h1 := fromB_iff.1 h.1.1
    have h2 := fromB_iff.1 h.1.2
    have h3 := fromB_iff.1 h.2
    exact fun a b e W ha hb he => linkStep rate most far h1.1 h1.2 h2.1 h2.2 h3.1 h3.2 a b e W ha hb he)
  obtain ⟨B, hB⟩ : ∃ B, linkB rate most far = B := ⟨_, rfl⟩
  have hB2 := hB
  unfold linkB at hB2
  rw [hB] at st ⊢
  generalize fromB 1 rate 1000000 = P1 at *
  generalize fromB 1 most 2000 = P2 at *
  generalize fromB 0 far 100000 = P3 at *
  generalize upZ most rate + 1 + far = U at *
  clear hB
  go_enter Tryz.func49, Tryz.ntmps49
  go_wp2_with fail
  refine Zp.wp_scope_fwd 0 (fun a' w' => B = false ∧ Below w.heap.size w w' ∧ GBox w' (w.heap.size + 1 + 1 + 1) 0 0 ∧ ∃ v0 v1 v2 v3 v4 v5 v7 v8 v9 v10 v11 v12 v13 v14 v15 v16 v17 v18 v19 v20 v21 : Value, a' = { tmps := #[v0, v1, v2, v3, v4, v5, .pointer (some ⟨w.heap.size + 1 + 1 + 1, 0, none⟩), v7, v8, v9, v10, v11, v12, v13, v14, v15, v16, v17, v18, v19, v20, v21], defers := [] }) rfl ?_ ?_
  case refine_2 =>
    rintro a' w' ⟨rfl, hb, ⟨g0, g1, g2, g3, g4⟩, v0, v1, v2, v3, v4, v5, v7, v8, v9, v10, v11, v12, v13, v14, v15, v16, v17, v18, v19, v20, v21, rfl⟩
    go_wp2_with fail
    (try rw [Exit.noGoto_ret])
    exact bodyPost_ret (v := .tuple #[.agg #[.int .i64 0, .int .i64 0], .int .i64 2]) (by simp [results, Tryz.results49, go_sem, *]) rfl ⟨by simp, by (repeat' (first | (with_reducible exact Below.refl _ _) | (with_reducible assumption) | (with_reducible apply Below.setCell) | (with_reducible apply Below.alloc) | (with_reducible apply Below.drew) | (with_reducible apply below_drewN) | (with_reducible refine Below.trans ?_ (Below.mono (by assumption) ?_)) | omega | (simp; done) | (simp; omega)))⟩
  have HG := hidd (GBox.new (by simp : (((w.alloc (.cells #[.int .i64 rate] 2)).alloc (.cells #[.int .i64 most] 2)).alloc (.cells #[.int .i64 far] 2)).heap.size = w.heap.size + 1 + 1 + 1) 42 0 0)
  have hx1 : (((((w.alloc (.cells #[.int .i64 rate] 2)).alloc (.cells #[.int .i64 most] 2)).alloc (.cells #[.int .i64 far] 2)).alloc (.cells #[.int .i64 0, .int .i64 0] 42))).cell? ⟨w.heap.size, 0, none⟩ = some (.int .i64 rate) := by simp [go_sem]
  have hx2 : (((((w.alloc (.cells #[.int .i64 rate] 2)).alloc (.cells #[.int .i64 most] 2)).alloc (.cells #[.int .i64 far] 2)).alloc (.cells #[.int .i64 0, .int .i64 0] 42))).cell? ⟨w.heap.size + 1, 0, none⟩ = some (.int .i64 most) := by simp [go_sem]
  have hx3 : (((((w.alloc (.cells #[.int .i64 rate] 2)).alloc (.cells #[.int .i64 most] 2)).alloc (.cells #[.int .i64 far] 2)).alloc (.cells #[.int .i64 0, .int .i64 0] 42))).cell? ⟨w.heap.size + 1 + 1, 0, none⟩ = some (.int .i64 far) := by simp [go_sem]
  cases P1
  · have hBf : B = false := by rw [← hB2]; simp
    clear hB2
    go_wp2_with fail
    refine (c1.out _).mono ?_
    rintro e w1 ⟨rfl, rfl⟩
    go_wp2_with fail
    go_step3
    exact ⟨rfl, hBf, by (repeat' (first | (with_reducible exact Below.refl _ _) | (with_reducible assumption) | (with_reducible apply Below.setCell) | (with_reducible apply Below.alloc) | (with_reducible apply Below.drew) | (with_reducible apply below_drewN) | (with_reducible refine Below.trans ?_ (Below.mono (by assumption) ?_)) | omega | (simp; done) | (simp; omega))), HG.out, _, _, _, _, _, _, _, _, _, _, _, _, _, _, _, _, _, _, _, _, _, rfl⟩
  · cases P2
    · have hBf : B = false := by rw [← hB2]; simp
      clear hB2
      go_wp2_with fail
      refine (c1.out _).mono ?_
      rintro e w1 ⟨rfl, rfl⟩
      go_wp2_with fail
      refine (c2.out _).mono ?_
      rintro e w1 ⟨rfl, rfl⟩
      go_wp2_with fail
      go_step3
      exact ⟨rfl, hBf, by (repeat' (first | (with_reducible exact Below.refl _ _) | (with_reducible assumption) | (with_reducible apply Below.setCell) | (with_reducible apply Below.alloc) | (with_reducible apply Below.drew) | (with_reducible apply below_drewN) | (with_reducible refine Below.trans ?_ (Below.mono (by assumption) ?_)) | omega | (simp; done) | (simp; omega))), HG.out, _, _, _, _, _, _, _, _, _, _, _, _, _, _, _, _, _, _, _, _, _, rfl⟩
    · cases P3
      · have hBf : B = false := by rw [← hB2]; simp
        clear hB2
        go_wp2_with fail
        refine (c1.out _).mono ?_
        rintro e w1 ⟨rfl, rfl⟩
        go_wp2_with fail
        refine (c2.out _).mono ?_
        rintro e w1 ⟨rfl, rfl⟩
        go_wp2_with fail
        refine (c3.out _).mono ?_
        rintro e w1 ⟨rfl, rfl⟩
        go_wp2_with fail
        go_step3
        exact ⟨rfl, hBf, by (repeat' (first | (with_reducible exact Below.refl _ _) | (with_reducible assumption) | (with_reducible apply Below.setCell) | (with_reducible apply Below.alloc) | (with_reducible apply Below.drew) | (with_reducible apply below_drewN) | (with_reducible refine Below.trans ?_ (Below.mono (by assumption) ?_)) | omega | (simp; done) | (simp; omega))), HG.out, _, _, _, _, _, _, _, _, _, _, _, _, _, _, _, _, _, _, _, _, _, rfl⟩
      · obtain rfl : B = true := by rw [← hB2]; rfl
        have stt := hidd (st.out rfl (w.heap.size + 1) w.heap.size (w.heap.size + 1 + 1) (((((w.alloc (.cells #[.int .i64 rate] 2)).alloc (.cells #[.int .i64 most] 2)).alloc (.cells #[.int .i64 far] 2)).alloc (.cells #[.int .i64 0, .int .i64 0] 42))) ⟨by (first | omega | (simp; done) | (simp; omega)), hx2⟩ ⟨by (first | omega | (simp; done) | (simp; omega)), hx1⟩ ⟨by (first | omega | (simp; done) | (simp; omega)), hx3⟩)
        clear hB2
        go_wp2_with fail
        refine (c1.out _).mono ?_
        rintro e w1 ⟨rfl, rfl⟩
        go_wp2_with fail
        refine (c2.out _).mono ?_
        rintro e w1 ⟨rfl, rfl⟩
        go_wp2_with fail
        refine (c3.out _).mono ?_
        rintro e w1 ⟨rfl, rfl⟩
        go_wp2_with fail
        refine (toldBT_ok _ entersLink1 _ _ most U stt.out).mono ?_
        rintro e w2 ⟨rfl, hb2⟩
        obtain ⟨g0, g1, g2, g3, g4⟩ := HG.out.step hb2
        have HB2 := hidd (below_step (below_new (below_new (below_new (below_new (Below.refl w.heap.size w) _) _) _) _) hb2)
        clear hb2
        go_wp2_with fail
        (try simp only [Exit.jump])
        exact bodyPost_ret (v := .tuple #[.agg #[.int .i64 most, .int .i64 U], .int .i64 0]) (by simp [results, Tryz.results49, go_sem, *]) rfl ⟨by simp, by have := HB2.out; (repeat' (first | (with_reducible exact Below.refl _ _) | (with_reducible assumption) | (with_reducible apply Below.setCell) | (with_reducible apply Below.alloc) | (with_reducible apply Below.drew) | (with_reducible apply below_drewN) | (with_reducible refine Below.trans ?_ (Below.mono (by assumption) ?_)) | omega | (simp; done) | (simp; omega)))⟩
end Go.Proofs.YtalhbjmhipiiiaaGreat

/- What every law of the layer looks at besides; the document's terms of a link. -/
namespace Go.Proofs.YtalhbjmhipiiiaaGreat
set_option linter.unusedVariables false
open Go.RowKit

theorem terms_eq_same (a b : Int) (w : World) : (binOp .eql 42 (.agg #[.int .i64 a, .int .i64 b]) (.agg #[.int .i64 a, .int .i64 b])).run Tryz.prog w = .ok (.bool true) w := by
  simp [go_sem, Op.eqFields]
theorem ratB_eq_same (a b : Int) (w : World) : (binOp .eql 133 (.agg #[.int .i64 a, .int .i64 b]) (.agg #[.int .i64 a, .int .i64 b])).run Tryz.prog w = .ok (.bool true) w := by
  simp [go_sem, Op.eqFields]
theorem refTerms_any (c d : Int) (w : World) : Calls Tryz.prog 58 #[.agg #[.int .i64 c, .int .i64 d]] w fun e w' => e = .returned (.bool (termsB c d)) ∧ Below w.heap.size w w' := by
  by_cases h1 : 0 ≤ c
  · by_cases h2 : c ≤ 10000000
    · by_cases h3 : 0 ≤ d
      · have e1 : termsB c d = decide (d ≤ 1000000) := by simp [termsB, fromB, h1, h2, h3]
        rw [e1]
        clear e1
        go_enter Tryz.func58, Tryz.ntmps58
        go_wp2
        go_ret
        exact ⟨by simp, by (repeat' (first | (with_reducible exact Below.refl _ _) | (with_reducible assumption) | (with_reducible apply Below.setCell) | (with_reducible apply Below.alloc) | (with_reducible apply Below.drew) | (with_reducible apply below_drewN) | (with_reducible refine Below.trans ?_ (Below.mono (by assumption) ?_)) | omega | (simp; done) | (simp; omega)))⟩
      · have e1 : termsB c d = false := by simp [termsB, fromB, h3]
        have h3d : decide (0 ≤ d) = false := decide_eq_false h3
        rw [e1]
        clear e1
        go_enter Tryz.func58, Tryz.ntmps58
        go_wp2
        go_ret
        exact ⟨by simp, by (repeat' (first | (with_reducible exact Below.refl _ _) | (with_reducible assumption) | (with_reducible apply Below.setCell) | (with_reducible apply Below.alloc) | (with_reducible apply Below.drew) | (with_reducible apply below_drewN) | (with_reducible refine Below.trans ?_ (Below.mono (by assumption) ?_)) | omega | (simp; done) | (simp; omega)))⟩
    · have e1 : termsB c d = false := by simp [termsB, fromB, h2]
      have h3d : decide (c ≤ 10000000) = false := decide_eq_false h2
      rw [e1]
      clear e1
      go_enter Tryz.func58, Tryz.ntmps58
      go_wp2
      go_ret
      exact ⟨by simp, by (repeat' (first | (with_reducible exact Below.refl _ _) | (with_reducible assumption) | (with_reducible apply Below.setCell) | (with_reducible apply Below.alloc) | (with_reducible apply Below.drew) | (with_reducible apply below_drewN) | (with_reducible refine Below.trans ?_ (Below.mono (by assumption) ?_)) | omega | (simp; done) | (simp; omega)))⟩
  · have e1 : termsB c d = false := by simp [termsB, fromB, h1]
    have h3d : decide (0 ≤ c) = false := decide_eq_false h1
    rw [e1]
    clear e1
    go_enter Tryz.func58, Tryz.ntmps58
    go_wp2
    go_ret
    exact ⟨by simp, by (repeat' (first | (with_reducible exact Below.refl _ _) | (with_reducible assumption) | (with_reducible apply Below.setCell) | (with_reducible apply Below.alloc) | (with_reducible apply Below.drew) | (with_reducible apply below_drewN) | (with_reducible refine Below.trans ?_ (Below.mono (by assumption) ?_)) | omega | (simp; done) | (simp; omega)))⟩
theorem upZ_eq {n d : Int} (h0 : 0 ≤ n) (hd : 1 ≤ d) : upZ n d = if 0 < n % d then n / d + 1 else n / d := by
  unfold upZ
  have h1 := Int.emod_add_mul_ediv n d
  have h2 := Int.emod_nonneg n (show d ≠ 0 by omega)
  have h3 := Int.emod_lt_of_pos n (show 0 < d by omega)
  by_cases h : 0 < n % d
  · rw [if_pos h]
    have := ((Int.ediv_emod_unique (a := -n) (q := -(n / d) - 1) (r := d - n % d) (show 0 < d by omega)).2 ⟨by
      have : d * (-(n / d) - 1) = -(d * (n / d)) - d := by rw [Int.mul_sub, Int.mul_neg, Int.mul_one]
      omega, by omega, by omega⟩).1
    omega
  · rw [if_neg h]
    have := ((Int.ediv_emod_unique (a := -n) (q := -(n / d)) (r := 0) (show 0 < d by omega)).2 ⟨by
      have : d * (-(n / d)) = -(d * (n / d)) := Int.mul_neg _ _
      omega, by omega, by omega⟩).1
    omega
theorem refUp_any (n d : Int) (h0 : 0 ≤ n) (h1 : n ≤ 1000000) (hd : 1 ≤ d) (hd1 : d ≤ 1000000) (w : World) : Calls Tryz.prog 57 #[.int .i64 n, .int .i64 d] w fun e w' => e = .returned (.int .i64 (upZ n d)) ∧ Below w.heap.size w w' := by
  have hu := upZ_eq h0 hd
  have hb := upZ_bd h0 hd
  have hn0 : ¬ d = 0 := by omega
  have hq0 : 0 ≤ n / d := Int.ediv_nonneg h0 (by omega)
  have hm : n.tmod d = n % d := Int.tmod_eq_emod_of_nonneg h0
  have hq : n.tdiv d = n / d := Int.tdiv_eq_ediv_of_nonneg h0
  generalize upZ n d = U at *
  generalize n / d = q at *
  generalize n % d = t at *
  by_cases h : 0 < t
  · rw [if_pos h] at hu
    subst hu
    go_enter Tryz.func57, Tryz.ntmps57
    go_wp2_with fail
    go_ret
    exact ⟨by first | rfl | simp, by (repeat' (first | (with_reducible exact Below.refl _ _) | (with_reducible assumption) | (with_reducible apply Below.setCell) | (with_reducible apply Below.alloc) | (with_reducible apply Below.drew) | (with_reducible apply below_drewN) | (with_reducible refine Below.trans ?_ (Below.mono (by assumption) ?_)) | omega | (simp; done) | (simp; omega)))⟩
  · rw [if_neg h] at hu
    subst hu
    go_enter Tryz.func57, Tryz.ntmps57
    go_wp2_with fail
    go_ret
    exact ⟨by first | rfl | simp, by (repeat' (first | (with_reducible exact Below.refl _ _) | (with_reducible assumption) | (with_reducible apply Below.setCell) | (with_reducible apply Below.alloc) | (with_reducible apply Below.drew) | (with_reducible apply below_drewN) | (with_reducible refine Below.trans ?_ (Below.mono (by assumption) ?_)) | omega | (simp; done) | (simp; omega)))⟩
end Go.Proofs.YtalhbjmhipiiiaaGreat

/- The terms of a way; the document's terms of a link and of a way. -/
namespace Go.Proofs.YtalhbjmhipiiiaaGreat
set_option linter.unusedVariables false
open Go.RowKit

def allT (l : List (Int × Int)) : Bool := l.all fun x => termsB x.1 x.2
def FoundT (l : List (Int × Int)) (w : World) (e : Ending) (w' : World) : Prop :=
  ∃ k : Int, e = .returned (.int .i64 k) ∧ decide (0 ≤ k) = !allT l ∧ Below w.heap.size w w'
theorem allT_step {l : List (Int × Int)} {i : Nat} (hlt : i < l.length) : allT (l.take (i + 1)) = (allT (l.take i) && termsB (l[i]'hlt).1 (l[i]'hlt).2) := by
  unfold allT
  rw [List.take_succ_eq_append_getElem hlt, List.all_append]; simp
theorem allT_no {l : List (Int × Int)} {i : Nat} (hlt : i < l.length) (h : termsB (l[i]'hlt).1 (l[i]'hlt).2 = false) : allT l = false := by
  unfold allT
  exact List.all_eq_false.2 ⟨_, List.getElem_mem hlt, by simp [h]⟩
set_option maxHeartbeats 1000000 in
theorem indexT_any (A : Option Addr) (l : List (Int × Int)) (c : Nat) (w : World) (hl : LiesO w A l) (hm : l.length ≤ 1000000) :
    Calls Tryz.prog 76 #[.slice A l.length c, .func (Fn.func 51) #[] #[]] w (FoundT l w) := by
  go_enter Tryz.func76, Tryz.ntmps76
  go_wp2_with fail
  go_loopg [8] (l.length + 1) (fun k s wr => ∃ i : Nat, i ≤ l.length ∧ i + k = l.length + 1 ∧ allT (l.take i) = true ∧ s = .int .i64 (i : Int) ∧ Below w.heap.size w wr)
  case atStart => exact ⟨0, by omega, by omega, rfl, rfl, Below.refl _ _⟩
  case round =>
    obtain ⟨i, hi, hk, ha, rfl, hbl⟩ := hrel
    have HK := hidd hk
    have HA := hidd ha
    clear hk ha
    by_cases hlt : i < l.length
    · obtain ⟨ad, rfl, hbs, hll⟩ := (hl.below hbl) (by omega)
      have hq := hll i hlt
      have hin2 : (i : Int) < (l.length : Int) := by omega
      have hi0 : (0 : Int) ≤ (i : Int) := by omega
      have htk := allT_step hlt
      have hal := allT_no hlt
      generalize (l[i]'hlt).1 = N at *
      generalize (l[i]'hlt).2 = D at *
      obtain ⟨c0, c1⟩ := hq
      have cn := hidd (fun W => isNoTerms_any N D W)
      have HTK := hidd htk
      have HAL := hidd hal
      clear htk hal hl hll
      generalize termsB N D = R at *
      cases R
      · go_wp2_with fail
        refine (cn.out _).mono ?_
        rintro e w1 ⟨rfl, hb1⟩
        go_wp2_with fail
        go_ret
        exact ⟨i, rfl, by rw [HAL.out (by trivial)]; exact decide_eq_true (by omega), hbl.trans (hb1.mono hbl.size)⟩
      · go_wp2_with fail
        refine (cn.out _).mono ?_
        rintro e w1 ⟨rfl, hb1⟩
        go_wp2_with fail
        have hk := HK.out
        go_roundg (gk - 1)
        case measure => omega
        case rel => exact ⟨i + 1, by omega, by omega, by rw [HTK.out, HA.out]; rfl, by go_num, hbl.trans (hb1.mono hbl.size)⟩
    · go_wp2_with fail
      go_ret
      have hi2 : i = l.length := by omega
      have ha := HA.out
      rw [hi2, List.take_length] at ha
      exact ⟨-1, rfl, by rw [ha]; decide, hbl⟩
theorem containsT_any (A : Option Addr) (l : List (Int × Int)) (c : Nat) (w : World) (hl : LiesO w A l) (hm : l.length ≤ 1000000) :
    Calls Tryz.prog 50 #[.slice A l.length c, .func (Fn.func 51) #[] #[]] w fun e w' => e = .returned (.bool (!allT l)) ∧ Below w.heap.size w w' := by
  have ci := hidd (indexT_any A l c w hl hm)
  clear hl
  go_enter Tryz.func50, Tryz.ntmps50
  go_wp2_with fail
  refine ci.out.mono ?_
  rintro e w1 ⟨k, rfl, hk, hb1⟩
  have HK := hidd hk
  clear hk
  go_wp2_with fail
  go_ret
  exact ⟨by rw [← HK.out]; rfl, hb1⟩
def sumC (l : List (Int × Int)) : Int := (l.map fun x => x.1).sum
def sumD (l : List (Int × Int)) : Int := (l.map fun x => x.2).sum
theorem sum_step {l : List (Int × Int)} {i : Nat} (hlt : i < l.length) : sumC (l.take (i + 1)) = sumC (l.take i) + (l[i]'hlt).1 ∧ sumD (l.take (i + 1)) = sumD (l.take i) + (l[i]'hlt).2 := by
  unfold sumC sumD
  rw [List.take_succ_eq_append_getElem hlt, List.map_append, List.map_append, List.sum_append, List.sum_append]
  simp only [List.map_cons, List.map_nil, List.sum_cons, List.sum_nil, Int.add_zero]
  exact ⟨trivial, trivial⟩
theorem allT_at {l : List (Int × Int)} (h : allT l = true) {i : Nat} (hlt : i < l.length) : (0 ≤ (l[i]'hlt).1 ∧ (l[i]'hlt).1 ≤ 10000000) ∧ 0 ≤ (l[i]'hlt).2 ∧ (l[i]'hlt).2 ≤ 1000000 := by
  have := List.all_eq_true.1 h _ (List.getElem_mem hlt)
  unfold termsB at this
  rw [Bool.and_eq_true] at this
  exact ⟨fromB_iff.1 this.1, fromB_iff.1 this.2⟩
set_option maxRecDepth 100000 in
set_option maxHeartbeats 4000000 in
theorem togetherT_any (A : Option Addr) (l : List (Int × Int)) (c : Nat) (hm : l.length ≤ 1000) (ha : allT l = true) (w : World) (hl : LiesO w A l) :
    Calls Tryz.prog 54 #[.slice A l.length c] w fun e w' => e = .returned (.agg #[.int .i64 (sumC l), .int .i64 (sumD l)]) ∧ Below w.heap.size w w' := by
  have HL := hidd hl
  have HA := hidd ha
  clear hl ha
  go_enter Tryz.func54, Tryz.ntmps54
  go_wp2_with fail
  go_loopg [8] (l.length + 1) (fun g s8 wr => ∃ (i : Nat) (C D : Int), i ≤ l.length ∧ i + g = l.length + 1 ∧ s8 = .int .i64 (i : Int) ∧ (C = sumC (l.take i) ∧ D = sumD (l.take i)) ∧ ((0 ≤ C ∧ C ≤ i * 10000000) ∧ 0 ≤ D ∧ D ≤ i * 1000000) ∧ Below w.heap.size w wr ∧ GBox wr (w.heap.size + 1) C D ∧ GBox wr w.heap.size 0 0)
  case atStart => exact ⟨0, 0, 0, by omega, by omega, by first | rfl | simp, ⟨rfl, rfl⟩, by omega, by (repeat' (first | (with_reducible exact Below.refl _ _) | (with_reducible assumption) | (with_reducible apply Below.setCell) | (with_reducible apply Below.alloc) | (with_reducible apply Below.drew) | (with_reducible apply below_drewN) | (with_reducible refine Below.trans ?_ (Below.mono (by assumption) ?_)) | omega | (simp; done) | (simp; omega))), GBox.new (by simp) _ 0 0, (GBox.new rfl _ 0 0).past _⟩
  case round =>
    obtain ⟨i, C, D, hi1, hg, rfl, hCD, ⟨⟨hC0, hC1⟩, hD0, hD1⟩, hB, hX, hZ⟩ := hrel
    have HG := hidd hg
    have HCD := hidd hCD
    have HB := hidd hB
    have HX := hidd hX
    have HZ := hidd hZ
    have hs := hB.size
    clear hg hCD hB hX hZ
    obtain ⟨xz, q0, q1, q2, q3⟩ := HX.out
    by_cases hlt : i < l.length
    · obtain ⟨ad, rfl, hbs, hll⟩ := (HL.out.below HB.out) (by omega)
      have hbs2 : (ad.add (i * 2)).block < wr.heap.size := by rw [block_of_add]; exact hbs
      obtain ⟨p0, p1⟩ := hll i hlt
      obtain ⟨⟨t0, t1⟩, t2, t3⟩ := allT_at HA.out hlt
      have hst := hidd (sum_step hlt)
      have hin2 : (i : Int) < (l.length : Int) := by omega
      have hi0 : (0 : Int) ≤ (i : Int) := by omega
      generalize (l[i]'hlt).1 = u at *
      generalize (l[i]'hlt).2 = v at *
      have e1 : IntKind.i64.wrap (C + u) = C + u := IntWalk.i64_in _ (by omega)
      have e2 : IntKind.i64.wrap (D + v) = D + v := IntWalk.i64_in _ (by omega)
      clear hll
      go_wp2_with fail
      have hg := HG.out
      have hX1 := (HX.out.put (C + u) (D + v)).past (.cells #[.int .i64 u, .int .i64 v] 42)
      have hZ1 := (GBox.far (b := w.heap.size + 1) (by omega) HZ.out (C + u) (D + v)).past (.cells #[.int .i64 u, .int .i64 v] 42)
      go_roundg (gk - 1)
      case measure => omega
      case rel => exact ⟨i + 1, C + u, D + v, by omega, by omega, by go_num, ⟨by rw [hst.out.1, HCD.out.1], by rw [hst.out.2, HCD.out.2]⟩, by omega, by have := HB.out; (repeat' (first | (with_reducible exact Below.refl _ _) | (with_reducible assumption) | (with_reducible apply Below.setCell) | (with_reducible apply Below.alloc) | (with_reducible apply Below.drew) | (with_reducible apply below_drewN) | (with_reducible refine Below.trans ?_ (Below.mono (by assumption) ?_)) | omega | (simp; done) | (simp; omega))), hX1, hZ1⟩
    · obtain rfl : i = l.length := by omega
      obtain ⟨zz, z0, z1, z2, z3⟩ := HZ.out
      have hE := hidd (show C = sumC l ∧ D = sumD l by have := HCD.out; rwa [List.take_length] at this)
      clear HCD HX HZ
      go_wp2_with fail
      exact bodyPost_ret (v := .agg #[.int .i64 C, .int .i64 D]) (by simp [results, Tryz.results54, go_sem, *]) rfl ⟨by rw [← hE.out.1, ← hE.out.2], by have := HB.out; (repeat' (first | (with_reducible exact Below.refl _ _) | (with_reducible assumption) | (with_reducible apply Below.setCell) | (with_reducible apply Below.alloc) | (with_reducible apply Below.drew) | (with_reducible apply below_drewN) | (with_reducible refine Below.trans ?_ (Below.mono (by assumption) ?_)) | omega | (simp; done) | (simp; omega)))⟩
end Go.Proofs.YtalhbjmhipiiiaaGreat

/- Ways: the program's and the document's; the document's link. -/
namespace Go.Proofs.YtalhbjmhipiiiaaGreat
set_option linter.unusedVariables false
open Go.RowKit

theorem entersWay1 : ∀ args w, (callFunc 53 args).run Tryz.prog w = .ok (.enter 53 args) w := fun args w => by simp [callFunc, Tryz.func53, Tryz.f53, mark]
def wayE (C D : Int) : Ending := if termsB C D then .returned (.agg #[.int .i64 C, .int .i64 D]) else errPanic 3
set_option maxRecDepth 100000 in
set_option maxHeartbeats 4000000 in
theorem wayStep (A : Option Addr) (l : List (Int × Int)) (c : Nat) (hm : l.length ≤ 1000) (ha : allT l = true) (p : Nat) (w : World) (hl : LiesO w A l) (hp : p < w.heap.size) (hc : w.cell? ⟨p, 0, none⟩ = some (.slice A l.length c)) :
    StepsTo 53 #[.pointer (some ⟨p, 0, none⟩)] (wayE (sumC l) (sumD l)) w := by
  intro W hW
  have c1 : W.cell? ⟨p, 0, none⟩ = some (.slice A l.length c) := (hW.cell (p := ⟨p, 0, none⟩) hp).trans hc
  have hp' : p < W.heap.size := Nat.lt_of_lt_of_le hp hW.size
  have hp1 : p < W.heap.size + 1 := by omega
  have hp2 : ¬ p = W.heap.size := by omega
  have ct := hidd (fun V (hV : Below W.heap.size W V) => togetherT_any A l c hm ha V ((hl.below hW).below hV))
  have ci := hidd (fun V => isTerms_any (sumC l) (sumD l) V)
  unfold wayE
  generalize sumC l = C at *
  generalize sumD l = D at *
  generalize termsB C D = P at *
  generalize l.length = n at *
  clear hW hc hp hl ha hm
  cases P
  · simp only [Bool.false_eq_true, if_false]
    go_enter Tryz.func53, Tryz.ntmps53
    go_wp2_with fail
    refine (ct.out _ (by (repeat' (first | (with_reducible exact Below.refl _ _) | (with_reducible assumption) | (with_reducible apply Below.setCell) | (with_reducible apply Below.alloc) | (with_reducible apply Below.drew) | (with_reducible apply below_drewN) | (with_reducible refine Below.trans ?_ (Below.mono (by assumption) ?_)) | omega | (simp; done) | (simp; omega))))).mono ?_
    rintro E1 w1 ⟨rfl, hb1⟩
    have HB1 := hidd (below_step (below_new (Below.refl W.heap.size W) _) hb1)
    clear hb1
    go_wp2_with fail
    refine (ci.out _).mono ?_
    rintro E2 w2 ⟨rfl, hb2⟩
    have HB2 := hidd (below_step (below_new HB1.out _) hb2)
    clear hb2
    go_wp2_with fail
    refine (need_no _ _).mono ?_
    rintro E3 w3 ⟨rfl, rfl⟩
    go_wp2_with fail
    exact ⟨rfl, rfl, HB2.out⟩
  · simp only [if_true]
    go_enter Tryz.func53, Tryz.ntmps53
    go_wp2_with fail
    refine (ct.out _ (by (repeat' (first | (with_reducible exact Below.refl _ _) | (with_reducible assumption) | (with_reducible apply Below.setCell) | (with_reducible apply Below.alloc) | (with_reducible apply Below.drew) | (with_reducible apply below_drewN) | (with_reducible refine Below.trans ?_ (Below.mono (by assumption) ?_)) | omega | (simp; done) | (simp; omega))))).mono ?_
    rintro E1 w1 ⟨rfl, hb1⟩
    have HB1 := hidd (below_step (below_new (Below.refl W.heap.size W) _) hb1)
    have HR1 := hidd ((GBox.new (rfl : W.heap.size = W.heap.size) 42 0 0).step hb1)
    clear hb1
    go_wp2_with fail
    refine (ci.out _).mono ?_
    rintro E2 w2 ⟨rfl, hb2⟩
    have HB2 := hidd (below_step (below_new HB1.out _) hb2)
    obtain ⟨r0, r1, r2, r3, r4⟩ := (HR1.out.past _).step hb2
    obtain ⟨s0, s1, s2, _, _⟩ := (GBox.new (rfl : w1.heap.size = w1.heap.size) 42 C D).step hb2
    clear hb2
    go_wp2_with fail
    refine (need_yes _ _).mono ?_
    rintro E3 w3 ⟨rfl, rfl⟩
    go_wp2_with fail
    exact bodyPost_ret (v := .agg #[.int .i64 C, .int .i64 D]) (by simp [results, Tryz.results53, go_sem, *]) rfl ⟨rfl, by have := HB2.out; (repeat' (first | (with_reducible exact Below.refl _ _) | (with_reducible assumption) | (with_reducible apply Below.setCell) | (with_reducible apply Below.alloc) | (with_reducible apply Below.drew) | (with_reducible apply below_drewN) | (with_reducible refine Below.trans ?_ (Below.mono (by assumption) ?_)) | omega | (simp; done) | (simp; omega)))⟩
/-- what a way's terms are: two numbers, an error. -/
def wayR (l : List (Int × Int)) : Int × Int × Int := if allT l then (if termsB (sumC l) (sumD l) then (sumC l, sumD l, 0) else (0, 0, 3)) else (0, 0, 2)
set_option maxRecDepth 100000 in
set_option maxHeartbeats 4000000 in
theorem Way_any (A : Option Addr) (l : List (Int × Int)) (c : Nat) (hm : l.length ≤ 1000) (w : World) (hl : LiesO w A l) :
    Calls Tryz.prog 31 #[.slice A l.length c] w fun e w' => e = .returned (pairOf (wayR l)) ∧ Below w.heap.size w w' := by
  have hmf : ∀ (fn : Fn) (first cap : Array Value) (w : World), (Instr.makeFunc fn first cap).run Tryz.prog w = .ok (.func fn first cap) w := fun _ _ _ _ => rfl
  have cc := hidd (fun V (hV : Below w.heap.size w V) => containsT_any A l c V (hl.below hV) (by omega))
  obtain ⟨B, hB⟩ : ∃ B, allT l = B := ⟨_, rfl⟩
  rw [hB] at cc
  have st := hidd (fun (h : B = true) p V (hV : Below w.heap.size w V) => wayStep A l c hm (hB.trans h) p V (hl.below hV))
  have hr : wayR l = if B then (if termsB (sumC l) (sumD l) then (sumC l, sumD l, 0) else (0, 0, 3)) else (0, 0, 2) := by unfold wayR; rw [hB]
  rw [hr]
  unfold wayE at st
  generalize sumC l = C at *
  generalize sumD l = D at *
  generalize termsB C D = P at *
  generalize l.length = n at *
  unfold pairOf
  clear hB hr hl hm
  go_enter Tryz.func31, Tryz.ntmps31
  go_wp2_with fail
  have HG := hidd (GBox.new (by simp : (w.alloc (.cells #[.slice A n c] 90)).heap.size = w.heap.size + 1) 42 0 0)
  refine Zp.wp_scope_fwd 0 (fun a' w' => B = false ∧ Below w.heap.size w w' ∧ GBox w' (w.heap.size + 1) 0 0 ∧ ∃ v0 v1 v3 v4 v5 v6 v7 v8 v9 v10 : Value, a' = { tmps := #[v0, v1, .pointer (some ⟨w.heap.size + 1, 0, none⟩), v3, v4, v5, v6, v7, v8, v9, v10], defers := [] }) rfl ?_ ?_
  case refine_2 =>
    rintro a' w' ⟨rfl, hb, ⟨g0, g1, g2, g3, g4⟩, v0, v1, v3, v4, v5, v6, v7, v8, v9, v10, rfl⟩
    go_wp2_with fail
    (try rw [Exit.noGoto_ret])
    exact bodyPost_ret (v := .tuple #[.agg #[.int .i64 0, .int .i64 0], .int .i64 2]) (by simp [results, Tryz.results31, go_sem, *]) rfl ⟨by simp, by (repeat' (first | (with_reducible exact Below.refl _ _) | (with_reducible assumption) | (with_reducible apply Below.setCell) | (with_reducible apply Below.alloc) | (with_reducible apply Below.drew) | (with_reducible apply below_drewN) | (with_reducible refine Below.trans ?_ (Below.mono (by assumption) ?_)) | omega | (simp; done) | (simp; omega)))⟩
  go_wp2_with fail
  refine (cc.out _ (by (repeat' (first | (with_reducible exact Below.refl _ _) | (with_reducible assumption) | (with_reducible apply Below.setCell) | (with_reducible apply Below.alloc) | (with_reducible apply Below.drew) | (with_reducible apply below_drewN) | (with_reducible refine Below.trans ?_ (Below.mono (by assumption) ?_)) | omega | (simp; done) | (simp; omega))))).mono ?_
  rintro e w1 ⟨rfl, hb1⟩
  have hx : w1.cell? ⟨w.heap.size, 0, none⟩ = some (.slice A n c) := by rw [hb1.cell (by simp; omega)]; simp [go_sem]
  have HG1 := hidd (HG.out.step hb1)
  have HB1 := hidd (below_step (below_new (below_new (Below.refl w.heap.size w) _) _) hb1)
  have hz : w.heap.size < w1.heap.size := by have := hb1.size; simp at this; omega
  clear hb1 HG
  cases B
  · go_wp2_with fail
    go_step3
    exact ⟨rfl, rfl, HB1.out, HG1.out, _, _, _, _, _, _, _, _, _, _, rfl⟩
  · cases P
    · have stt := hidd (st.out rfl w.heap.size w1 HB1.out hz hx)
      go_wp2_with fail
      refine (toldBT_no _ entersWay1 _ _ 3 stt.out).mono ?_
      rintro e w2 ⟨rfl, hb2⟩
      obtain ⟨g0, g1, g2, g3, g4⟩ := HG1.out.step hb2
      have HB2 := hidd (below_step HB1.out hb2)
      clear hb2
      go_wp2_with fail
      (try simp only [Exit.jump])
      exact bodyPost_ret (v := .tuple #[.agg #[.int .i64 0, .int .i64 0], .int .i64 3]) (by simp [results, Tryz.results31, go_sem, *]) rfl ⟨by simp, by have := HB2.out; (repeat' (first | (with_reducible exact Below.refl _ _) | (with_reducible assumption) | (with_reducible apply Below.setCell) | (with_reducible apply Below.alloc) | (with_reducible apply Below.drew) | (with_reducible apply below_drewN) | (with_reducible refine Below.trans ?_ (Below.mono (by assumption) ?_)) | omega | (simp; done) | (simp; omega)))⟩
    · have stt := hidd (st.out rfl w.heap.size w1 HB1.out hz hx)
      go_wp2_with fail
      refine (toldBT_ok _ entersWay1 _ _ C D stt.out).mono ?_
      rintro e w2 ⟨rfl, hb2⟩
      obtain ⟨g0, g1, g2, g3, g4⟩ := HG1.out.step hb2
      have HB2 := hidd (below_step HB1.out hb2)
      clear hb2
      go_wp2_with fail
      (try simp only [Exit.jump])
      exact bodyPost_ret (v := .tuple #[.agg #[.int .i64 C, .int .i64 D], .int .i64 0]) (by simp [results, Tryz.results31, go_sem, *]) rfl ⟨by simp, by have := HB2.out; (repeat' (first | (with_reducible exact Below.refl _ _) | (with_reducible assumption) | (with_reducible apply Below.setCell) | (with_reducible apply Below.alloc) | (with_reducible apply Below.drew) | (with_reducible apply below_drewN) | (with_reducible refine Below.trans ?_ (Below.mono (by assumption) ?_)) | omega | (simp; done) | (simp; omega)))⟩
theorem linkB_no {rate most far : Int} (h : ¬ linkB rate most far = true) : rate < 1 ∨ (¬ rate < 1 ∧ 1000000 < rate) ∨ ((¬ rate < 1 ∧ ¬ 1000000 < rate) ∧ most < 1) ∨ ((¬ rate < 1 ∧ ¬ 1000000 < rate) ∧ ¬ most < 1 ∧ 2000 < most) ∨ ((¬ rate < 1 ∧ ¬ 1000000 < rate) ∧ (¬ most < 1 ∧ ¬ 2000 < most) ∧ far < 0) ∨ ((¬ rate < 1 ∧ ¬ 1000000 < rate) ∧ (¬ most < 1 ∧ ¬ 2000 < most) ∧ ¬ far < 0 ∧ 100000 < far) := by
  unfold linkB fromB at h
  simp only [Bool.and_eq_true, decide_eq_true_eq] at h
  omega
theorem linkB_yes {rate most far : Int} (h : linkB rate most far = true) : (1 ≤ rate ∧ rate ≤ 1000000) ∧ (1 ≤ most ∧ most ≤ 2000) ∧ 0 ≤ far ∧ far ≤ 100000 := by
  unfold linkB at h
  rw [Bool.and_eq_true, Bool.and_eq_true] at h
  exact ⟨fromB_iff.1 h.1.1, fromB_iff.1 h.1.2, fromB_iff.1 h.2⟩
set_option maxRecDepth 100000 in
theorem refLink_any (rate most far : Int) (w : World) :
    Calls Tryz.prog 34 #[.int .i64 rate, .int .i64 most, .int .i64 far] w fun e w' => e = .returned (if linkB rate most far then .tuple #[.agg #[.int .i64 most, .int .i64 (upZ most rate + 1 + far)], .bool true] else .tuple #[.agg #[.int .i64 0, .int .i64 0], .bool false]) ∧ Below w.heap.size w w' := by
  by_cases h : linkB rate most far = true
  · rw [if_pos h]
    obtain ⟨⟨a1, a2⟩, ⟨a3, a4⟩, a5, a6⟩ := linkB_yes h
    have cu := fun W => refUp_any most rate (by omega) (by omega) a1 a2 W
    have hz := upZ_bd (n := most) (d := rate) (by omega) a1
    generalize upZ most rate = U at *
    have CU := hidd cu
    have n1 : decide (rate < 1) = false := decide_eq_false (by omega)
    have n2 : decide (1000000 < rate) = false := decide_eq_false (by omega)
    have n3 : decide (most < 1) = false := decide_eq_false (by omega)
    have n4 : decide (2000 < most) = false := decide_eq_false (by omega)
    have n5 : decide (far < 0) = false := decide_eq_false (by omega)
    have n6 : decide (100000 < far) = false := decide_eq_false (by omega)
    clear h cu
    go_enter Tryz.func34, Tryz.ntmps34
    go_wp2_with fail
    refine (CU.out _).mono ?_
    rintro e w1 ⟨rfl, hb1⟩
    obtain ⟨g0, g1, g2, g3, g4⟩ := (GBox.new (rfl : w.heap.size = w.heap.size) 42 0 0).step hb1
    have HB1 := hidd (below_step (below_new (Below.refl w.heap.size w) _) hb1)
    clear hb1
    go_wp2_with fail
    exact bodyPost_ret (v := .tuple #[.agg #[.int .i64 most, .int .i64 (U + 1 + far)], .bool true]) (by simp [results, Tryz.results34, go_sem, *]) rfl ⟨rfl, by have := HB1.out; (repeat' (first | (with_reducible exact Below.refl _ _) | (with_reducible assumption) | (with_reducible apply Below.setCell) | (with_reducible apply Below.alloc) | (with_reducible apply Below.drew) | (with_reducible apply below_drewN) | (with_reducible refine Below.trans ?_ (Below.mono (by assumption) ?_)) | omega | (simp; done) | (simp; omega)))⟩
  · rw [if_neg h]
    rcases linkB_no h with h1 | ⟨h1, h2⟩ | ⟨⟨h1, h2⟩, h3⟩ | ⟨⟨h1, h2⟩, h3, h4⟩ | ⟨⟨h1, h2⟩, ⟨h3, h4⟩, h5⟩ | ⟨⟨h1, h2⟩, ⟨h3, h4⟩, h5, h6⟩
    all_goals
      clear h
      go_enter Tryz.func34, Tryz.ntmps34
      go_wp2_with fail
      exact bodyPost_ret (v := .tuple #[.agg #[.int .i64 0, .int .i64 0], .bool false]) (by simp [results, Tryz.results34, go_sem, *]) rfl ⟨rfl, by (repeat' (first | (with_reducible exact Below.refl _ _) | (with_reducible assumption) | (with_reducible apply Below.setCell) | (with_reducible apply Below.alloc) | (with_reducible apply Below.drew) | (with_reducible apply below_drewN) | (with_reducible refine Below.trans ?_ (Below.mono (by assumption) ?_)) | omega | (simp; done) | (simp; omega)))⟩
end Go.Proofs.YtalhbjmhipiiiaaGreat

/- Maps: the terms of a link that is there. -/
namespace Go.Proofs.YtalhbjmhipiiiaaGreat.Tp
set_option linter.unusedVariables false
open Go.RowKit Go.Maps

theorem right_link {n : Int} {x : Lk} (h : rightB n x = true) : linkB (rt x) (mo x) (fa x) = true := by
  have h' := (rightB_iff n x).1 h
  unfold linkB
  rw [Bool.and_eq_true, Bool.and_eq_true]
  exact ⟨⟨fromB_iff.2 (by omega), fromB_iff.2 (by omega)⟩, fromB_iff.2 (by omega)⟩
theorem linkC_any (rate most far : Int) (h : linkB rate most far = true) (w : World) : Calls Tryz.prog 49 #[.int .i64 rate, .int .i64 most, .int .i64 far] w fun e w' => e = .returned (.tuple #[.agg #[.int .i64 most, .int .i64 (upZ most rate + 1 + far)], .int .i64 0]) ∧ Below w.heap.size w w' := by
  have := Link_any rate most far w
  rw [if_pos h] at this
  exact this
theorem refLinkC_any (rate most far : Int) (h : linkB rate most far = true) (w : World) : Calls Tryz.prog 34 #[.int .i64 rate, .int .i64 most, .int .i64 far] w fun e w' => e = .returned (.tuple #[.agg #[.int .i64 most, .int .i64 (upZ most rate + 1 + far)], .bool true]) ∧ Below w.heap.size w w' := by
  have := refLink_any rate most far w
  rw [if_pos h] at this
  exact this
set_option maxHeartbeats 2000000 in
theorem Terms_in (m : Nat) (n : Int) (hn : 1 ≤ n) (L : List Lk) (hL : L.length ≤ 1000000) (i : Nat) (hi : i < L.length) (hr : rightB n (lkAt L i) = true) (w : World) (h : MapAt w m n L) : Calls Tryz.prog 30 #[.pointer (some ⟨m, 0, none⟩), .int .i64 (i : Int)] w fun e w' => e = .returned (.tuple #[.agg #[.int .i64 (mo (lkAt L i)), .int .i64 (upZ (mo (lkAt L i)) (rt (lkAt L i)) + 1 + fa (lkAt L i))], .int .i64 0]) ∧ Below w.heap.size w w' := by
  have c := hidd (fun (W : World) (hW : Below w.heap.size w W) => Link_in m n hn L hL i hi W (h.below hW))
  have cl := hidd (fun W => linkC_any (rt (lkAt L i)) (mo (lkAt L i)) (fa (lkAt L i)) (right_link hr) W)
  have hb0 : Below w.heap.size w (w.alloc (.cells #[.int .i64 0, .int .i64 0] 42)) := by (repeat' (first | (with_reducible exact Below.refl _ _) | (with_reducible assumption) | (with_reducible apply Below.setCell) | (with_reducible apply Below.alloc) | (with_reducible apply Below.drew) | (with_reducible apply below_drewN) | (with_reducible refine Below.trans ?_ (Below.mono (by assumption) ?_)) | omega | (simp; done) | (simp; omega)))
  have HB0 := hidd hb0
  unfold linkA at c
  generalize upZ (mo (lkAt L i)) (rt (lkAt L i)) + 1 + fa (lkAt L i) = U at *
  generalize fr (lkAt L i) = a0 at *
  generalize tw (lkAt L i) = a1 at *
  generalize rt (lkAt L i) = a2 at *
  generalize sh (lkAt L i) = a3 at *
  generalize fa (lkAt L i) = a4 at *
  generalize mo (lkAt L i) = a5 at *
  generalize ro (lkAt L i) = a6 at *
  generalize fi (lkAt L i) = a7 at *
  clear h hi hb0 hr
  go_enter Tryz.func30, Tryz.ntmps30
  go_wp2_with fail
  refine (c.out _ HB0.out).mono ?_
  rintro e w1 ⟨rfl, hb⟩
  have hbs := hb.size
  obtain ⟨bc, bf⟩ := bcell hb
  have z : w.heap.size < w1.heap.size := by simp at hbs; omega
  have HB := hidd (below_step HB0.out hb)
  have c0 : w1.cell? ⟨w.heap.size, 0, none⟩ = some (.int .i64 0) := by rw [bc _ _ (by (first | omega | (simp; done) | (simp; omega)))]; simp [go_sem]
  have c1 : w1.cell? ⟨w.heap.size, 1, none⟩ = some (.int .i64 0) := by rw [bc _ _ (by (first | omega | (simp; done) | (simp; omega)))]; simp [go_sem]
  have f0 : w1.frozen? ⟨w.heap.size, 0, none⟩ = false := by rw [bf _ _ (by (first | omega | (simp; done) | (simp; omega)))]; simp [go_sem]
  have f1 : w1.frozen? ⟨w.heap.size, 1, none⟩ = false := by rw [bf _ _ (by (first | omega | (simp; done) | (simp; omega)))]; simp [go_sem]
  have nz : ¬ w1.heap.size = w.heap.size := by omega
  clear bc bf hb hbs
  go_wp2_with fail
  refine (cl.out _).mono ?_
  rintro e w2 ⟨rfl, hb2⟩
  have hbs2 := hb2.size
  simp at hbs2
  have z2 : w.heap.size < w2.heap.size := by omega
  have y0 : w2.cell? ⟨w.heap.size, 0, none⟩ = some (.int .i64 0) := (hb2.cell (p := ⟨w.heap.size, 0, none⟩) (by simp; omega)).trans (by simp [go_sem, *])
  have y1 : w2.cell? ⟨w.heap.size, 1, none⟩ = some (.int .i64 0) := (hb2.cell (p := ⟨w.heap.size, 1, none⟩) (by simp; omega)).trans (by simp [go_sem, *])
  have g0 : w2.frozen? ⟨w.heap.size, 0, none⟩ = false := (hb2.frozen (p := ⟨w.heap.size, 0, none⟩) (by simp; omega)).trans (by simp [go_sem, *])
  have g1 : w2.frozen? ⟨w.heap.size, 1, none⟩ = false := (hb2.frozen (p := ⟨w.heap.size, 1, none⟩) (by simp; omega)).trans (by simp [go_sem, *])
  have HB2 := hidd (below_step (below_new HB.out _) hb2)
  clear hb2 hbs2
  go_wp2_with fail
  exact bodyPost_ret (v := .tuple #[.agg #[.int .i64 a5, .int .i64 U], .int .i64 0]) (by simp [results, Tryz.results30, go_sem, *]) rfl ⟨rfl, by have q := HB2.out; (repeat' (first | (with_reducible exact Below.refl _ _) | (with_reducible assumption) | (with_reducible apply Below.setCell) | (with_reducible apply Below.alloc) | (with_reducible apply Below.drew) | (with_reducible apply below_drewN) | (with_reducible refine Below.trans ?_ (Below.mono (by assumption) ?_)) | omega | (simp; done) | (simp; omega)))⟩
end Go.Proofs.YtalhbjmhipiiiaaGreat.Tp

/- The document's terms of a way; the walk of BoundWays. -/
namespace Go.Proofs.YtalhbjmhipiiiaaGreat
set_option linter.unusedVariables false
open Go.RowKit

set_option maxRecDepth 100000 in
set_option maxHeartbeats 4000000 in
theorem refWay_any (A : Option Addr) (l : List (Int × Int)) (c : Nat) (hm : l.length ≤ 1000) (w : World) (hl : LiesO w A l) :
    Calls Tryz.prog 35 #[.slice A l.length c] w fun e w' => e = .returned (pairOf (wayR l)) ∧ Below w.heap.size w w' := by
  have HL := hidd hl
  obtain ⟨R, hR⟩ : ∃ R, wayR l = R := ⟨_, rfl⟩
  have HR := hidd hR
  rw [hR]
  obtain ⟨R1, R2, R3⟩ := R
  unfold pairOf
  dsimp only
  have cR := hidd (fun c d W => refTerms_any c d W)
  clear hl hR
  go_enter Tryz.func35, Tryz.ntmps35
  go_wp2_with fail
  go_loopg [4] (l.length + 1) (fun g s4 wr => ∃ i : Nat, i ≤ l.length ∧ i + g = l.length + 1 ∧ s4 = .int .i64 (i : Int) ∧ allT (l.take i) = true ∧ Below w.heap.size w wr ∧ GBox wr w.heap.size 0 0)
  case atStart => exact ⟨0, by omega, by omega, by first | rfl | simp, rfl, by (repeat' (first | (with_reducible exact Below.refl _ _) | (with_reducible assumption) | (with_reducible apply Below.setCell) | (with_reducible apply Below.alloc) | (with_reducible apply Below.drew) | (with_reducible apply below_drewN) | (with_reducible refine Below.trans ?_ (Below.mono (by assumption) ?_)) | omega | (simp; done) | (simp; omega))), GBox.new rfl _ 0 0⟩
  case round =>
    obtain ⟨i, hi1, hg, rfl, ha, hB, hZ⟩ := hrel
    have HG := hidd hg
    have HA := hidd ha
    have HB := hidd hB
    have HZ := hidd hZ
    clear hg ha hB hZ
    by_cases hlt : i < l.length
    · obtain ⟨ad, rfl, hbs, hll⟩ := (HL.out.below HB.out) (by omega)
      obtain ⟨p0, p1⟩ := hll i hlt
      have hin2 : (i : Int) < (l.length : Int) := by omega
      have hi0 : (0 : Int) ≤ (i : Int) := by omega
      have HTK := hidd (allT_step hlt)
      have HAL := hidd (allT_no hlt)
      have cr := hidd (cR.out (l[i]'hlt).1 (l[i]'hlt).2)
      generalize (l[i]'hlt).1 = N at *
      generalize (l[i]'hlt).2 = D at *
      generalize termsB N D = P at *
      clear hll
      cases P
      · have hr := hidd (HAL.out rfl)
        go_wp2_with fail
        refine (cr.out _).mono ?_
        rintro e w1 ⟨rfl, hb1⟩
        have HB1 := hidd (below_step HB.out hb1)
        obtain ⟨g0, g1, g2, g3, g4⟩ := HZ.out.step hb1
        clear hb1 p0 p1
        obtain ⟨rfl, rfl, rfl⟩ : R1 = 0 ∧ R2 = 0 ∧ R3 = 2 := by
          have := HR.out
          unfold wayR at this
          rw [hr.out] at this
          simp at this
          omega
        go_wp2_with fail
        exact bodyPost_ret (v := .tuple #[.agg #[.int .i64 0, .int .i64 0], .int .i64 2]) (by simp [results, Tryz.results35, go_sem, *]) rfl ⟨rfl, by have := HB1.out; (repeat' (first | (with_reducible exact Below.refl _ _) | (with_reducible assumption) | (with_reducible apply Below.setCell) | (with_reducible apply Below.alloc) | (with_reducible apply Below.drew) | (with_reducible apply below_drewN) | (with_reducible refine Below.trans ?_ (Below.mono (by assumption) ?_)) | omega | (simp; done) | (simp; omega)))⟩
      · go_wp2_with fail
        refine (cr.out _).mono ?_
        rintro e w1 ⟨rfl, hb1⟩
        have HB1 := hidd (below_step HB.out hb1)
        have HZ1 := hidd (HZ.out.step hb1)
        clear hb1
        go_wp2_with fail
        have hg := HG.out
        go_roundg (gk - 1)
        case measure => omega
        case rel => exact ⟨i + 1, by omega, by omega, by go_num, by rw [HTK.out, HA.out]; rfl, HB1.out, HZ1.out⟩
    · obtain rfl : i = l.length := by omega
      have hal : allT l = true := by have := HA.out; rwa [List.take_length] at this
      have HAA := hidd hal
      have HR2 := hidd (show (if termsB (sumC l) (sumD l) then (sumC l, sumD l, 0) else (0, 0, 3)) = (R1, R2, R3) by have := HR.out; unfold wayR at this; rwa [hal, if_pos rfl] at this)
      clear hal HR HA HG
      go_wp2_with fail
      go_loopg [5, 6, 7] (l.length + 1) (fun g s5 s6 s7 wr => ∃ (i : Nat) (C D : Int), i ≤ l.length ∧ i + g = l.length + 1 ∧ s7 = .int .i64 (i : Int) ∧ s5 = .int .i64 C ∧ s6 = .int .i64 D ∧ (C = sumC (l.take i) ∧ D = sumD (l.take i)) ∧ ((0 ≤ C ∧ C ≤ i * 10000000) ∧ 0 ≤ D ∧ D ≤ i * 1000000) ∧ Below w.heap.size w wr ∧ GBox wr w.heap.size 0 0)
      case atStart => exact ⟨0, 0, 0, by omega, by omega, by first | rfl | simp, by first | rfl | simp, by first | rfl | simp, ⟨rfl, rfl⟩, by omega, HB.out, HZ.out⟩
      case round =>
        clear HB HZ
        obtain ⟨i, C, D, hi1, hg, rfl, rfl, rfl, hCD, ⟨⟨hC0, hC1⟩, hD0, hD1⟩, hB, hZ⟩ := hrel
        have HG := hidd hg
        have HCD := hidd hCD
        have HB := hidd hB
        have HZ := hidd hZ
        clear hg hCD hB hZ
        by_cases hlt : i < l.length
        · obtain ⟨ad, rfl, hbs, hll⟩ := (HL.out.below HB.out) (by omega)
          obtain ⟨p0, p1⟩ := hll i hlt
          obtain ⟨⟨t0, t1⟩, t2, t3⟩ := allT_at HAA.out hlt
          have hst := hidd (sum_step hlt)
          have hin2 : (i : Int) < (l.length : Int) := by omega
          have hi0 : (0 : Int) ≤ (i : Int) := by omega
          generalize (l[i]'hlt).1 = u at *
          generalize (l[i]'hlt).2 = v at *
          have e1 : IntKind.i64.wrap (C + u) = C + u := IntWalk.i64_in _ (by omega)
          have e2 : IntKind.i64.wrap (D + v) = D + v := IntWalk.i64_in _ (by omega)
          clear hll
          go_wp2_with fail
          go_quiet (fail)
          go_wp2_with fail
          have hg := HG.out
          have hZ := HZ.out
          go_roundg (gk - 1)
          case measure => omega
          case rel => exact ⟨i + 1, C + u, D + v, by omega, by omega, by go_num, rfl, rfl, ⟨by rw [hst.out.1, HCD.out.1], by rw [hst.out.2, HCD.out.2]⟩, by omega, by have := HB.out; (repeat' (first | (with_reducible exact Below.refl _ _) | (with_reducible assumption) | (with_reducible apply Below.setCell) | (with_reducible apply Below.alloc) | (with_reducible apply Below.drew) | (with_reducible apply below_drewN) | (with_reducible refine Below.trans ?_ (Below.mono (by assumption) ?_)) | omega | (simp; done) | (simp; omega))), hZ.step (by (repeat' (first | (with_reducible exact Below.refl _ _) | (with_reducible assumption) | (with_reducible apply Below.setCell) | (with_reducible apply Below.alloc) | (with_reducible apply Below.drew) | (with_reducible apply below_drewN) | (with_reducible refine Below.trans ?_ (Below.mono (by assumption) ?_)) | omega | (simp; done) | (simp; omega))))⟩
        · obtain rfl : i = l.length := by omega
          obtain ⟨zz, z0, z1, z2, z3⟩ := HZ.out
          have hE := hidd (show C = sumC l ∧ D = sumD l by have := HCD.out; rwa [List.take_length] at this)
          have cr := hidd (cR.out C D)
          have hRR := HR2.out
          rw [← hE.out.1, ← hE.out.2] at hRR
          generalize termsB C D = P at *
          clear HCD cR HR2
          cases P
          · obtain ⟨rfl, rfl, rfl⟩ : R1 = 0 ∧ R2 = 0 ∧ R3 = 3 := by simp at hRR; omega
            clear hRR
            go_wp2_with fail
            refine (cr.out _).mono ?_
            rintro e w1 ⟨rfl, hb1⟩
            have HB1 := hidd (below_step HB.out hb1)
            obtain ⟨g0, g1, g2, g3, g4⟩ := HZ.out.step hb1
            clear hb1 z0 z1 z2 z3
            go_wp2_with fail
            exact bodyPost_ret (v := .tuple #[.agg #[.int .i64 0, .int .i64 0], .int .i64 3]) (by simp [results, Tryz.results35, go_sem, *]) rfl ⟨rfl, by have := HB1.out; (repeat' (first | (with_reducible exact Below.refl _ _) | (with_reducible assumption) | (with_reducible apply Below.setCell) | (with_reducible apply Below.alloc) | (with_reducible apply Below.drew) | (with_reducible apply below_drewN) | (with_reducible refine Below.trans ?_ (Below.mono (by assumption) ?_)) | omega | (simp; done) | (simp; omega)))⟩
          · obtain ⟨rfl, rfl, rfl⟩ : C = R1 ∧ D = R2 ∧ R3 = 0 := by simp at hRR; omega
            clear hRR
            go_wp2_with fail
            refine (cr.out _).mono ?_
            rintro e w1 ⟨rfl, hb1⟩
            have HB1 := hidd (below_step HB.out hb1)
            obtain ⟨g0, g1, g2, g3, g4⟩ := HZ.out.step hb1
            clear hb1 z0 z1 z2 z3
            go_wp2_with fail
            exact bodyPost_ret (v := .tuple #[.agg #[.int .i64 C, .int .i64 D], .int .i64 0]) (by simp [results, Tryz.results35, go_sem, *]) rfl ⟨rfl, by have := HB1.out; (repeat' (first | (with_reducible exact Below.refl _ _) | (with_reducible assumption) | (with_reducible apply Below.setCell) | (with_reducible apply Below.alloc) | (with_reducible apply Below.drew) | (with_reducible apply below_drewN) | (with_reducible refine Below.trans ?_ (Below.mono (by assumption) ?_)) | omega | (simp; done) | (simp; omega)))⟩
end Go.Proofs.YtalhbjmhipiiiaaGreat

