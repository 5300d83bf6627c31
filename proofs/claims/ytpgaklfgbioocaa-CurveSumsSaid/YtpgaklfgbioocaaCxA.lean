/- Two curves together: the pairs of lines that a merge of their bends visits. Plain mathematics. -/
import Derived.Test.YtpgaklfgbioocaaCvF
import Derived.Test.YtpgaklfgbioocaaCvD
namespace Go.Proofs.Ytpgaklfgbioocaa
namespace CM
set_option linter.unusedVariables false

/-- where the i-th line ends; never, if it is the last one. -/
def nb (L : List (Int × Int)) (i : Nat) : Int × Int := if i + 1 < L.length then (bp L (i + 1), bq L (i + 1)) else (1, 0)
def wh (L M : List (Int × Int)) (i j : Nat) : Int := cmpV ((nb L i).1 * (nb M j).2) ((nb M j).1 * (nb L i).2)
def pr (L M : List (Int × Int)) (i j : Nat) : Int × Int := (SM.av L i + SM.av M j, SM.sv L i + SM.sv M j)
def ni (L M : List (Int × Int)) (i j : Nat) : Nat := if wh L M i j ≤ 0 then i + 1 else i
def nj (L M : List (Int × Int)) (i j : Nat) : Nat := if 0 ≤ wh L M i j then j + 1 else j
def togF (L M : List (Int × Int)) : Nat → Nat → Nat → List (Int × Int)
  | 0, _, _ => []
  | k + 1, i, j => if i + 1 < L.length ∨ j + 1 < M.length then pr L M (ni L M i j) (nj L M i j) :: togF L M k (ni L M i j) (nj L M i j) else []
def tog (L M : List (Int × Int)) : List (Int × Int) := pr L M 0 0 :: togF L M (L.length + M.length) 0 0
theorem togF_len (L M : List (Int × Int)) : ∀ k i j, (togF L M k i j).length ≤ k
  | 0, _, _ => Nat.le_refl _
  | k + 1, i, j => by
    unfold togF
    split
    · have := togF_len L M k (ni L M i j) (nj L M i j)
      simp
      exact this
    · simp
theorem tog_len (L M : List (Int × Int)) : (tog L M).length ≤ L.length + M.length + 1 := by
  have := togF_len L M (L.length + M.length) 0 0
  unfold tog
  simp
  exact this
theorem tog_pos (L M : List (Int × Int)) : 0 < (tog L M).length := by unfold tog; simp
theorem cmp_le {x y : Int} : cmpV x y ≤ 0 ↔ x ≤ y := by
  unfold cmpV
  split
  · simp; omega
  · split <;> simp <;> omega
theorem cmp_ge {x y : Int} : 0 ≤ cmpV x y ↔ y ≤ x := by
  unfold cmpV
  split
  · simp; omega
  · split <;> simp <;> omega
theorem nb_pos {L : List (Int × Int)} (h : AllN L) (i : Nat) : 0 < (nb L i).1 ∧ 0 ≤ (nb L i).2 ∧ (i + 1 < L.length → 0 < (nb L i).2) ∧ (¬ i + 1 < L.length → nb L i = (1, 0)) := by
  unfold nb
  by_cases g : i + 1 < L.length
  · rw [if_pos g]
    obtain ⟨h1, h2⟩ := bend_pos h (by omega : 1 ≤ i + 1) g
    exact ⟨h1, by show 0 ≤ bq L (i + 1); omega, fun _ => h2, fun n => absurd g n⟩
  · rw [if_neg g]
    exact ⟨by decide, by decide, fun n => absurd n g, fun _ => rfl⟩
theorem nb_next {L : List (Int × Int)} (h : AllN L) {i : Nat} (g : i + 1 < L.length) : (nb L i).1 * (nb L (i + 1)).2 < (nb L (i + 1)).1 * (nb L i).2 := by
  have e : nb L i = (bp L (i + 1), bq L (i + 1)) := by unfold nb; rw [if_pos g]
  by_cases k : i + 1 + 1 < L.length
  · have e2 : nb L (i + 1) = (bp L (i + 1 + 1), bq L (i + 1 + 1)) := by unfold nb; rw [if_pos k]
    rw [e, e2]
    exact bend_chain h (by omega : 1 ≤ i + 1) 0 k
  · rw [(nb_pos h (i + 1)).2.2.2 k]
    have := (nb_pos h i).2.2.1 g
    show (nb L i).1 * 0 < 1 * (nb L i).2
    omega
theorem wh_le {L M : List (Int × Int)} {i j : Nat} : wh L M i j ≤ 0 ↔ (nb L i).1 * (nb M j).2 ≤ (nb M j).1 * (nb L i).2 := cmp_le
theorem wh_ge {L M : List (Int × Int)} {i j : Nat} : 0 ≤ wh L M i j ↔ (nb M j).1 * (nb L i).2 ≤ (nb L i).1 * (nb M j).2 := cmp_ge
/-- the next pair: which of both goes on, and that it can. -/
theorem tog_next {L M : List (Int × Int)} (hL : AllN L) (hM : AllN M) {i j : Nat} (hi : i < L.length) (hj : j < M.length) (hc : i + 1 < L.length ∨ j + 1 < M.length) :
    (ni L M i j = i + 1 ∧ nj L M i j = j ∧ i + 1 < L.length ∧ (nb L i).1 * (nb M j).2 < (nb M j).1 * (nb L i).2) ∨
    (ni L M i j = i ∧ nj L M i j = j + 1 ∧ j + 1 < M.length ∧ (nb M j).1 * (nb L i).2 < (nb L i).1 * (nb M j).2) ∨
    (ni L M i j = i + 1 ∧ nj L M i j = j + 1 ∧ i + 1 < L.length ∧ j + 1 < M.length ∧ (nb L i).1 * (nb M j).2 = (nb M j).1 * (nb L i).2) := by
  obtain ⟨p1, p2, p3, p4⟩ := nb_pos hL i
  obtain ⟨q1, q2, q3, q4⟩ := nb_pos hM j
  have k1 : i + 1 < L.length ∨ (nb M j).1 * (nb L i).2 = 0 := by
    by_cases g : i + 1 < L.length
    · exact .inl g
    · right; rw [p4 g]; simp
  have k2 : j + 1 < M.length ∨ (nb L i).1 * (nb M j).2 = 0 := by
    by_cases g : j + 1 < M.length
    · exact .inl g
    · right; rw [q4 g]; simp
  have k3 : i + 1 < L.length → 0 < (nb M j).1 * (nb L i).2 := fun g => Int.mul_pos q1 (p3 g)
  have k4 : j + 1 < M.length → 0 < (nb L i).1 * (nb M j).2 := fun g => Int.mul_pos p1 (q3 g)
  unfold ni nj
  rcases Int.lt_trichotomy ((nb L i).1 * (nb M j).2) ((nb M j).1 * (nb L i).2) with h | h | h
  · left
    rw [if_pos (wh_le.2 (by omega)), if_neg (fun g => by have := wh_ge.1 g; omega)]
    refine ⟨rfl, rfl, ?_, h⟩
    rcases k1 with g | g
    · exact g
    · have : 0 ≤ (nb L i).1 * (nb M j).2 := Int.mul_nonneg (by omega) q2
      omega
  · right; right
    rw [if_pos (wh_le.2 (by omega)), if_pos (wh_ge.2 (by omega))]
    refine ⟨rfl, rfl, ?_, ?_, h⟩
    · rcases k1 with g | g
      · exact g
      · rcases hc with c | c
        · exact c
        · have := k4 c; omega
    · rcases k2 with g | g
      · exact g
      · rcases hc with c | c
        · have := k3 c; omega
        · exact c
  · right; left
    rw [if_neg (fun g => by have := wh_le.1 g; omega), if_pos (wh_ge.2 (by omega))]
    refine ⟨rfl, rfl, ?_, h⟩
    rcases k2 with g | g
    · exact g
    · have : 0 ≤ (nb M j).1 * (nb L i).2 := Int.mul_nonneg (by omega) p2
      omega
theorem tog_fuel {L M : List (Int × Int)} (hL : AllN L) (hM : AllN M) (P : Nat → Nat → List (Int × Int) → Prop)
    (hs : ∀ i j R, i < L.length → j < M.length → (i + 1 < L.length ∨ j + 1 < M.length) → P i j R → P (ni L M i j) (nj L M i j) (R ++ [pr L M (ni L M i j) (nj L M i j)])) :
    ∀ k i j R, i < L.length → j < M.length → L.length + M.length ≤ i + j + k → P i j R → ∃ i' j', i' + 1 = L.length ∧ j' + 1 = M.length ∧ P i' j' (R ++ togF L M k i j)
  | 0, i, j, R, hi, hj, hk, h => absurd hk (by omega)
  | k + 1, i, j, R, hi, hj, hk, h => by
    unfold togF
    by_cases hc : i + 1 < L.length ∨ j + 1 < M.length
    · rw [if_pos hc]
      have hn := hs i j R hi hj hc h
      have hr : ni L M i j < L.length ∧ nj L M i j < M.length ∧ i + j + 1 ≤ ni L M i j + nj L M i j := by
        rcases tog_next hL hM hi hj hc with ⟨a, b, c, d⟩ | ⟨a, b, c, d⟩ | ⟨a, b, c, d, e⟩ <;> rw [a, b] <;> omega
      have := tog_fuel hL hM P hs k _ _ _ hr.1 hr.2.1 (by omega) hn
      rwa [List.append_assoc, List.singleton_append] at this
    · rw [if_neg hc, List.append_nil]
      exact ⟨i, j, by omega, by omega, h⟩
theorem tog_ind {L M : List (Int × Int)} (hL : Nrm L) (hM : Nrm M) (P : Nat → Nat → List (Int × Int) → Prop) (h0 : P 0 0 [pr L M 0 0])
    (hs : ∀ i j R, i < L.length → j < M.length → (i + 1 < L.length ∨ j + 1 < M.length) → P i j R → P (ni L M i j) (nj L M i j) (R ++ [pr L M (ni L M i j) (nj L M i j)])) :
    ∃ i j, i + 1 = L.length ∧ j + 1 = M.length ∧ P i j (tog L M) :=
  tog_fuel hL.2 hM.2 P hs (L.length + M.length) 0 0 [pr L M 0 0] hL.1 hM.1 (by omega) h0
theorem av_app {R : List (Int × Int)} {x : Int × Int} {i : Nat} (h : i < R.length) : SM.av (R ++ [x]) i = SM.av R i ∧ SM.sv (R ++ [x]) i = SM.sv R i := by
  unfold SM.av SM.sv
  simp [List.getElem?_append_left h]
theorem av_end {R : List (Int × Int)} {x : Int × Int} : SM.av (R ++ [x]) R.length = x.1 ∧ SM.sv (R ++ [x]) R.length = x.2 := by
  unfold SM.av SM.sv
  simp
theorem snoc_nrm {R : List (Int × Int)} (hR : AllN R) (h0 : 0 < R.length) (b1 b2 : Int) (hb1 : 0 < b1) (hb2 : 0 < b2) (x : Int × Int) (hx : x.1 = SM.av R (R.length - 1) + b1) (hy : x.2 = SM.sv R (R.length - 1) - b2)
    (hr : 2 ≤ R.length → bp R (R.length - 1) * b2 < b1 * bq R (R.length - 1)) : AllN (R ++ [x]) ∧ bp (R ++ [x]) R.length = b1 ∧ bq (R ++ [x]) R.length = b2 := by
  obtain ⟨e1, e2⟩ := av_end (R := R) (x := x)
  obtain ⟨f1, f2⟩ := av_app (R := R) (x := x) (i := R.length - 1) (by omega)
  have k1 : bp (R ++ [x]) R.length = b1 := by unfold bp; rw [e1, f1, hx]; omega
  have k2 : bq (R ++ [x]) R.length = b2 := by unfold bq; rw [e2, f2, hy]; omega
  refine ⟨fun i h1 h2 => ?_, k1, k2⟩
  by_cases hi : i < R.length
  · exact (nrm_app hi).2 (hR i h1 hi)
  · have hi2 : i = R.length := by simp at h2; omega
    subst hi2
    refine ⟨⟨by rw [e1, f1]; omega, by rw [e2, f2]; omega⟩, fun h => ?_⟩
    obtain ⟨g1, g2⟩ := av_app (R := R) (x := x) (i := R.length - 2) (by omega)
    have q := hr h
    have k3 : SM.av (R ++ [x]) R.length - SM.av (R ++ [x]) (R.length - 1) = b1 := k1
    have k4 : SM.sv (R ++ [x]) (R.length - 1) - SM.sv (R ++ [x]) R.length = b2 := k2
    unfold bp bq at q
    rw [k3, k4, f1, f2, g1, g2]
    have e : R.length - 1 - 1 = R.length - 2 := by omega
    rw [e] at q
    exact q
theorem bend_eq {p1 p2 q1 q2 r1 r2 : Int} (hp : 0 < p2) (hq : 0 < q2) (h : p1 * q2 = q1 * p2) (g : p1 * r2 < r1 * p2) : q1 * r2 < r1 * q2 := by
  have k : q1 * r2 * p2 < r1 * q2 * p2 := by
    have e1 : q1 * r2 * p2 = p1 * r2 * q2 := by
      have : q1 * r2 * p2 = (q1 * p2) * r2 := by grind
      rw [this, ← h]; grind
    have e2 : r1 * q2 * p2 = r1 * p2 * q2 := by grind
    rw [e1, e2]
    exact Int.mul_lt_mul_of_pos_right g hq
  exact Int.lt_of_mul_lt_mul_right k (by omega)
def TogInv (L M : List (Int × Int)) (i j : Nat) (R : List (Int × Int)) : Prop :=
  0 < R.length ∧ (SM.av R (R.length - 1) = SM.av L i + SM.av M j ∧ SM.sv R (R.length - 1) = SM.sv L i + SM.sv M j) ∧ AllN R ∧
  (2 ≤ R.length → bp R (R.length - 1) * (nb L i).2 < (nb L i).1 * bq R (R.length - 1) ∧ bp R (R.length - 1) * (nb M j).2 < (nb M j).1 * bq R (R.length - 1))
theorem nb_step {L : List (Int × Int)} {i : Nat} (h : i + 1 < L.length) : SM.av L (i + 1) = SM.av L i + (nb L i).1 ∧ SM.sv L (i + 1) = SM.sv L i - (nb L i).2 := by
  unfold nb
  rw [if_pos h]
  unfold bp bq
  simp only [Nat.add_sub_cancel]
  omega
theorem tog_inv {L M : List (Int × Int)} (hL : Nrm L) (hM : Nrm M) : ∃ i j, i + 1 = L.length ∧ j + 1 = M.length ∧ TogInv L M i j (tog L M) := by
  refine tog_ind hL hM (TogInv L M) ?_ ?_
  · refine ⟨by simp, by simp [pr, SM.av, SM.sv], fun i h1 h2 => absurd h2 (by simp; omega), fun h => absurd h (by simp)⟩
  · rintro i j R hi hj hc ⟨h0, ⟨ha, hs⟩, hR, hb⟩
    obtain ⟨p1, p2, p3, p4⟩ := nb_pos hL.2 i
    obtain ⟨q1, q2, q3, q4⟩ := nb_pos hM.2 j
    have hlast : ∀ x, (R ++ [x]).length - 1 = R.length := fun x => by simp
    rcases tog_next hL.2 hM.2 hi hj hc with ⟨a, b, c, d⟩ | ⟨a, b, c, d⟩ | ⟨a, b, c, e, d⟩
    · rw [a, b]
      obtain ⟨s1, s2⟩ := nb_step c
      obtain ⟨k1, k2, k3⟩ := snoc_nrm hR h0 (nb L i).1 (nb L i).2 p1 (p3 c) (pr L M (i + 1) j) (by unfold pr; rw [ha]; simp only; omega) (by unfold pr; rw [hs]; simp only; omega) (fun h => (hb h).1)
      refine ⟨by simp, ?_, k1, fun _ => ?_⟩
      · rw [hlast, av_end.1, av_end.2]; exact ⟨rfl, rfl⟩
      · rw [hlast, k2, k3]; exact ⟨nb_next hL.2 c, d⟩
    · rw [a, b]
      obtain ⟨s1, s2⟩ := nb_step c
      obtain ⟨k1, k2, k3⟩ := snoc_nrm hR h0 (nb M j).1 (nb M j).2 q1 (q3 c) (pr L M i (j + 1)) (by unfold pr; rw [ha]; simp only; omega) (by unfold pr; rw [hs]; simp only; omega) (fun h => (hb h).2)
      refine ⟨by simp, ?_, k1, fun _ => ?_⟩
      · rw [hlast, av_end.1, av_end.2]; exact ⟨rfl, rfl⟩
      · rw [hlast, k2, k3]; exact ⟨d, nb_next hM.2 c⟩
    · rw [a, b]
      obtain ⟨s1, s2⟩ := nb_step c
      obtain ⟨t1, t2⟩ := nb_step e
      have n1 := nb_next hL.2 c
      have n2 := nb_next hM.2 e
      have m1 := bend_eq (p3 c) (q3 e) d n1
      have m2 := bend_eq (q3 e) (p3 c) d.symm n2
      obtain ⟨k1, k2, k3⟩ := snoc_nrm hR h0 ((nb L i).1 + (nb M j).1) ((nb L i).2 + (nb M j).2) (by omega) (by have := p3 c; have := q3 e; omega) (pr L M (i + 1) (j + 1)) (by unfold pr; rw [ha]; simp only; omega) (by unfold pr; rw [hs]; simp only; omega) (fun h => by
        have := hb h
        rw [Int.mul_add, Int.add_mul]
        omega)
      refine ⟨by simp, ?_, k1, fun _ => ?_⟩
      · rw [hlast, av_end.1, av_end.2]; exact ⟨rfl, rfl⟩
      · rw [hlast, k2, k3, Int.add_mul, Int.mul_add, Int.add_mul, Int.mul_add]; exact ⟨by omega, by omega⟩
theorem tog_nrm {L M : List (Int × Int)} (hL : Nrm L) (hM : Nrm M) : Nrm (tog L M) := by
  obtain ⟨i, j, hi, hj, h0, _, h, _⟩ := tog_inv hL hM
  exact ⟨h0, h⟩
theorem tog_last {L M : List (Int × Int)} (hL : Nrm L) (hM : Nrm M) : SM.av (tog L M) ((tog L M).length - 1) = SM.av L (L.length - 1) + SM.av M (M.length - 1) ∧ SM.sv (tog L M) ((tog L M).length - 1) = SM.sv L (L.length - 1) + SM.sv M (M.length - 1) := by
  obtain ⟨i, j, hi, hj, h0, h, _, _⟩ := tog_inv hL hM
  have e1 : L.length - 1 = i := by omega
  have e2 : M.length - 1 = j := by omega
  rw [e1, e2]
  exact h
theorem tog_mem {L M : List (Int × Int)} (hL : Nrm L) (hM : Nrm M) : ∀ x ∈ tog L M, ∃ i j, i < L.length ∧ j < M.length ∧ x = pr L M i j := by
  obtain ⟨i, j, _, _, h⟩ := tog_ind hL hM (fun _ _ R => ∀ x ∈ R, ∃ i j, i < L.length ∧ j < M.length ∧ x = pr L M i j) (fun x hx => ⟨0, 0, hL.1, hM.1, by simpa using hx⟩) (fun i j R hi hj hc h x hx => by
    rcases List.mem_append.1 hx with g | g
    · exact h x g
    · refine ⟨_, _, ?_, ?_, by simpa using g⟩
      · rcases tog_next hL.2 hM.2 hi hj hc with ⟨a, b, c, d⟩ | ⟨a, b, c, d⟩ | ⟨a, b, c, e, d⟩ <;> rw [a] <;> omega
      · rcases tog_next hL.2 hM.2 hi hj hc with ⟨a, b, c, d⟩ | ⟨a, b, c, d⟩ | ⟨a, b, c, e, d⟩ <;> rw [b] <;> omega)
  exact h
def dbl (x : Int × Int) : Int × Int := (2 * x.1, 2 * x.2)
theorem tog_self {L : List (Int × Int)} (hL : Nrm L) : tog L L = L.map dbl := by
  obtain ⟨i, j, hi, hj, rfl, h⟩ := tog_ind hL hL (fun i j R => i = j ∧ R = (L.take (i + 1)).map dbl) (by
    refine ⟨rfl, ?_⟩
    have := hL.1
    obtain ⟨x, xs, rfl⟩ : ∃ x xs, L = x :: xs := by cases L with | nil => simp at this | cons x xs => exact ⟨x, xs, rfl⟩
    simp [pr, dbl, SM.av, SM.sv]
    omega) (by
    rintro i j R hi hj hc ⟨rfl, rfl⟩
    have hc' : i + 1 < L.length := by omega
    have a : ni L L i i = i + 1 := by unfold ni; rw [if_pos (wh_le.2 (Int.le_refl _))]
    have b : nj L L i i = i + 1 := by unfold nj; rw [if_pos (wh_ge.2 (Int.le_refl _))]
    refine ⟨by rw [a, b], ?_⟩
    rw [a, b, List.take_succ_eq_append_getElem hc', List.map_append]
    congr 1
    simp [pr, dbl, (at_get hc').1, (at_get hc').2]
    omega)
  rw [h, hi, List.take_length]
theorem tog_zero {M : List (Int × Int)} (hM : Nrm M) : tog [(0, 0)] M = M := by
  have hZ : Nrm [((0 : Int), (0 : Int))] := ⟨by simp, fun i h1 h2 => absurd h2 (by simp; omega)⟩
  obtain ⟨i, j, hi, hj, rfl, h⟩ := tog_ind hZ hM (fun i j R => i = 0 ∧ R = M.take (j + 1)) (by
    refine ⟨rfl, ?_⟩
    have := hM.1
    obtain ⟨x, xs, rfl⟩ : ∃ x xs, M = x :: xs := by cases M with | nil => simp at this | cons x xs => exact ⟨x, xs, rfl⟩
    simp [pr, SM.av, SM.sv]) (by
    rintro i j R hi hj hc ⟨rfl, rfl⟩
    have hc' : j + 1 < M.length := by simpa using hc
    rcases tog_next hZ.2 hM.2 hi hj hc with ⟨a, b, c, d⟩ | ⟨a, b, c, d⟩ | ⟨a, b, c, e, d⟩
    · simp at c
    · refine ⟨a, ?_⟩
      rw [a, b, List.take_succ_eq_append_getElem hc']
      congr 1
      unfold pr
      rw [(at_get hc').1, (at_get hc').2]
      simp [SM.av, SM.sv]
    · simp at c)
  rw [h, hj, List.take_length]
theorem min_dbl {L : List (Int × Int)} {N D v : Int} (h : IsMin L N D v) : IsMin (L.map dbl) N D (2 * v) := by
  obtain ⟨⟨x, hx, rfl⟩, h2⟩ := h
  refine ⟨⟨dbl x, List.mem_map_of_mem hx, ?_⟩, fun y hy => ?_⟩
  · unfold val dbl; grind
  · obtain ⟨z, hz, rfl⟩ := List.mem_map.1 hy
    have := h2 z hz
    have e : val (dbl z) N D = 2 * val z N D := by unfold val dbl; grind
    omega
theorem nrm_mono {L : List (Int × Int)} (h : AllN L) : ∀ k i, i + k < L.length → SM.av L i ≤ SM.av L (i + k) ∧ SM.sv L (i + k) ≤ SM.sv L i
  | 0, i, _ => ⟨Int.le_refl _, Int.le_refl _⟩
  | k + 1, i, hk => by
    have := nrm_mono h k i (by omega)
    have g := (h (i + k + 1) (by omega) (by omega)).1
    simp only [Nat.add_sub_cancel] at g
    rw [← Nat.add_assoc]
    omega
end CM
end Go.Proofs.Ytpgaklfgbioocaa
