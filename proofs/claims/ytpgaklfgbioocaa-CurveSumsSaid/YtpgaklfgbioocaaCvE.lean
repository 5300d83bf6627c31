/- Curves: what stays of lines, held against those ahead of them: plain mathematics. -/
import Derived.Test.YtpgaklfgbioocaaCvC
namespace Go.Proofs.Ytpgaklfgbioocaa
set_option linter.unusedVariables false
namespace CM
open SM
/-- of the list's first n lines and one more: those that stay. -/
def keep (L : List (Int × Int)) (x : Int × Int) : Nat → List (Int × Int)
  | 0 => [x]
  | n + 1 => if sv L n ≤ x.2 then L.take (n + 1)
    else if n = 0 ∨ (av L n - av L (n - 1)) * (sv L n - x.2) < (x.1 - av L n) * (sv L (n - 1) - sv L n) then L.take (n + 1) ++ [x]
    else keep L x n
def hull (l : List (Int × Int)) : List (Int × Int) := l.foldl (fun c x => keep c x c.length) []
theorem hull_snoc (l : List (Int × Int)) (x : Int × Int) : hull (l ++ [x]) = keep (hull l) x (hull l).length := by simp [hull]

theorem av_take {L : List (Int × Int)} {n i : Nat} (h : i < n) : av (L.take n) i = av L i ∧ sv (L.take n) i = sv L i := by
  unfold av sv
  rw [List.getD_eq_getElem?_getD, List.getD_eq_getElem?_getD, List.getElem?_take_of_lt h]
  exact ⟨rfl, rfl⟩
theorem nrm_take {L : List (Int × Int)} {n i : Nat} (h : i < n) : NrmAt (L.take n) i ↔ NrmAt L i := by
  unfold NrmAt
  rw [(av_take (L := L) h).1, (av_take (L := L) h).2, (av_take (L := L) (show i - 1 < n by omega)).1, (av_take (L := L) (show i - 1 < n by omega)).2, (av_take (L := L) (show i - 2 < n by omega)).1, (av_take (L := L) (show i - 2 < n by omega)).2]
theorem nrm_app {L : List (Int × Int)} {x : Int × Int} {i : Nat} (h : i < L.length) : NrmAt (L ++ [x]) i ↔ NrmAt L i := by
  unfold NrmAt
  rw [(av_app (L := L) h).1, (av_app (L := L) h).2, (av_app (L := L) (show i - 1 < L.length by omega)).1, (av_app (L := L) (show i - 1 < L.length by omega)).2, (av_app (L := L) (show i - 2 < L.length by omega)).1, (av_app (L := L) (show i - 2 < L.length by omega)).2]
theorem take_len {L : List (Int × Int)} {n : Nat} (h : n ≤ L.length) : (L.take n).length = n := by simp; omega
/-- the next one behind the first n + 1. -/
theorem nrm_next {L : List (Int × Int)} {x : Int × Int} {n : Nat} (hn : n < L.length) : NrmAt (L.take (n + 1) ++ [x]) (n + 1) ↔
    (av L n < x.1 ∧ x.2 < sv L n) ∧ (1 ≤ n → (av L n - av L (n - 1)) * (sv L n - x.2) < (x.1 - av L n) * (sv L (n - 1) - sv L n)) := by
  have hl : (L.take (n + 1)).length = n + 1 := take_len (by omega)
  have e0 := av_last (L := L.take (n + 1)) (x := x)
  rw [hl] at e0
  have e1 := av_app (L := L.take (n + 1)) (x := x) (i := n) (by omega)
  have e2 := av_app (L := L.take (n + 1)) (x := x) (i := n - 1) (by omega)
  rw [(av_take (L := L) (show n < n + 1 by omega)).1, (av_take (L := L) (show n < n + 1 by omega)).2] at e1
  rw [(av_take (L := L) (show n - 1 < n + 1 by omega)).1, (av_take (L := L) (show n - 1 < n + 1 by omega)).2] at e2
  unfold NrmAt
  rw [show n + 1 - 1 = n by omega, show n + 1 - 2 = n - 1 by omega, e0.1, e0.2, e1.1, e1.2, e2.1, e2.2]
  constructor
  · exact fun h => ⟨h.1, fun h1 => h.2 (by omega)⟩
  · exact fun h => ⟨h.1, fun h1 => h.2 (by omega)⟩
def AllN (L : List (Int × Int)) : Prop := ∀ i, 1 ≤ i → i < L.length → NrmAt L i
theorem AllN.take {L : List (Int × Int)} (h : AllN L) (n : Nat) : AllN (L.take n) := fun i h1 h2 => by
  have h3 : i < n ∧ i < L.length := by simp at h2; omega
  exact (nrm_take h3.1).2 (h i h1 h3.2)
/-- by Burst, then by Rate. -/
def le (a b : Int × Int) : Bool := decide (a.1 < b.1 ∨ a.1 = b.1 ∧ a.2 ≤ b.2)
theorem keep_nrm {L : List (Int × Int)} (x : Int × Int) (h : AllN L) (hle : ∀ y ∈ L, le y x = true) : ∀ n, n ≤ L.length → (n = 0 → L = []) → AllN (keep L x n) ∧ keep L x n ≠ []
  | 0, _, h0 => by
    refine ⟨fun i h1 h2 => ?_, by simp [keep]⟩
    simp [keep] at h2; omega
  | n + 1, hn, _ => by
    have hm := hle L[n] (List.getElem_mem (by omega))
    have ha : av L n = L[n].1 ∧ sv L n = L[n].2 := by
      unfold av sv; rw [List.getD_eq_getElem?_getD, List.getElem?_eq_getElem (show n < L.length by omega)]; exact ⟨rfl, rfl⟩
    unfold keep
    by_cases h1 : sv L n ≤ x.2
    · rw [if_pos h1]
      refine ⟨h.take _, fun e => ?_⟩
      have := take_len (L := L) hn
      rw [e] at this; simp at this
    · rw [if_neg h1]
      have hlt : av L n < x.1 := by
        have := of_decide_eq_true hm
        have e1 := ha.1
        have e2 := ha.2
        omega
      by_cases h2 : n = 0 ∨ (av L n - av L (n - 1)) * (sv L n - x.2) < (x.1 - av L n) * (sv L (n - 1) - sv L n)
      · rw [if_pos h2]
        refine ⟨fun i i1 i2 => ?_, by simp⟩
        rw [List.length_append, take_len hn] at i2
        simp at i2
        by_cases hi : i < n + 1
        · rw [nrm_app (by rw [take_len hn]; exact hi)]
          exact (nrm_take hi).2 (h i i1 (by omega))
        · obtain rfl : i = n + 1 := by omega
          rw [nrm_next (by omega)]
          exact ⟨⟨hlt, by omega⟩, fun h3 => h2.resolve_left (by omega)⟩
      · rw [if_neg h2]
        exact keep_nrm x h hle n (by omega) (fun h3 => absurd (Or.inl h3) h2)
theorem keep_mem {L : List (Int × Int)} (x : Int × Int) : ∀ n, ∀ y ∈ keep L x n, y ∈ L ∨ y = x
  | 0, y, hy => by simp [keep] at hy; exact .inr hy
  | n + 1, y, hy => by
    unfold keep at hy
    split at hy
    · exact .inl (List.mem_of_mem_take hy)
    · split at hy
      · rcases List.mem_append.1 hy with h | h
        · exact .inl (List.mem_of_mem_take h)
        · exact .inr (by simpa using h)
      · exact keep_mem x n y hy
theorem keep_len {L : List (Int × Int)} (x : Int × Int) : ∀ n, (keep L x n).length ≤ n + 1
  | 0 => by simp [keep]
  | n + 1 => by
    unfold keep
    split
    · simp; omega
    · split
      · simp; omega
      · have := keep_len (L := L) x n; omega
theorem hull_mem : ∀ (l : List (Int × Int)), ∀ y ∈ hull l, y ∈ l := by
  intro l
  have : ∀ (l c : List (Int × Int)), ∀ y ∈ l.foldl (fun c x => keep c x c.length) c, y ∈ l ∨ y ∈ c := by
    intro l
    induction l with
    | nil => intro c y hy; exact .inr hy
    | cons x l ih =>
      intro c y hy
      rcases ih _ y hy with h | h
      · exact .inl (by simp [h])
      · rcases keep_mem x _ y h with h | h
        · exact .inr h
        · exact .inl (by simp [h])
  intro y hy
  rcases this l [] y hy with h | h
  · exact h
  · simp at h
theorem hull_len (l : List (Int × Int)) : (hull l).length ≤ l.length := by
  have : ∀ (l c : List (Int × Int)), (l.foldl (fun c x => keep c x c.length) c).length ≤ l.length + c.length := by
    intro l
    induction l with
    | nil => intro c; simp
    | cons x l ih =>
      intro c
      have h1 := ih (keep c x c.length)
      have h2 := keep_len (L := c) x c.length
      simp only [List.foldl_cons, List.length_cons]
      omega
  have h := this l []
  simpa [hull] using h
/-- rising lines: what stays is a curve's. -/
theorem hull_nrm (l : List (Int × Int)) (hs : l.Pairwise (fun a b => le a b = true)) (h0 : l ≠ []) : Nrm (hull l) := by
  have : ∀ (l c : List (Int × Int)), l.Pairwise (fun a b => le a b = true) → (∀ y ∈ c, ∀ x ∈ l, le y x = true) → AllN c → (l ≠ [] ∨ c ≠ []) → AllN (l.foldl (fun c x => keep c x c.length) c) ∧ l.foldl (fun c x => keep c x c.length) c ≠ [] := by
    intro l
    induction l with
    | nil => intro c _ _ h1 h2; exact ⟨h1, by simpa using h2⟩
    | cons x l ih =>
      intro c hp hc h1 _
      obtain ⟨k1, k2⟩ := keep_nrm x h1 (fun y hy => hc y hy x (by simp)) c.length (Nat.le_refl _) (fun h => List.eq_nil_of_length_eq_zero h)
      rw [List.pairwise_cons] at hp
      exact ih _ hp.2 (fun y hy z hz => by
        rcases keep_mem x _ y hy with h | rfl
        · exact hc y h z (by simp [hz])
        · exact hp.1 z hz) k1 (.inr k2)
  obtain ⟨h1, h2⟩ := this l [] hs (by simp) (fun i _ h => by simp at h) (.inl h0)
  exact ⟨List.length_pos_iff.2 h2, h1⟩
theorem keep_all {L : List (Int × Int)} {x : Int × Int} (h : NrmAt (L ++ [x]) L.length) (h0 : 0 < L.length) : keep L x L.length = L ++ [x] := by
  obtain ⟨n, hn⟩ : ∃ n, L.length = n + 1 := ⟨L.length - 1, by omega⟩
  have ht : L.take (n + 1) = L := List.take_of_length_le (by omega)
  have hx := nrm_next (L := L) (x := x) (n := n) (by omega)
  rw [ht] at hx
  rw [hn] at h ⊢
  have hy := hx.1 h
  unfold keep
  rw [if_neg (by omega), if_pos, ht]
  by_cases h1 : n = 0
  · exact .inl h1
  · exact .inr (hy.2 (by omega))
theorem hull_take {L : List (Int × Int)} (h : AllN L) : ∀ n, n ≤ L.length → hull (L.take n) = L.take n
  | 0, _ => by simp [hull]
  | n + 1, hn => by
    have e : L.take (n + 1) = L.take n ++ [L[n]] := by rw [List.take_add_one, List.getElem?_eq_getElem (show n < L.length by omega)]; rfl
    rw [e, hull_snoc, hull_take h n (by omega)]
    have hl : (L.take n).length = n := take_len (by omega)
    by_cases h0 : n = 0
    · subst h0; simp [keep]
    · refine keep_all ?_ (by omega)
      rw [← e, hl]
      exact (nrm_take (by omega)).2 (h n (by omega) (by omega))
theorem hull_self {L : List (Int × Int)} (h : Nrm L) : hull L = L := by
  have := hull_take (L := L) h.2 L.length (Nat.le_refl _)
  rwa [List.take_length] at this
def sortL (l : List (Int × Int)) : List (Int × Int) := l.mergeSort le
theorem le_trans (a b c : Int × Int) (h1 : le a b = true) (h2 : le b c = true) : le a c = true := by
  have := of_decide_eq_true h1
  have := of_decide_eq_true h2
  exact decide_eq_true (by omega)
theorem le_total (a b : Int × Int) : (le a b || le b a) = true := by
  rw [Bool.or_eq_true]
  by_cases h : a.1 < b.1 ∨ a.1 = b.1 ∧ a.2 ≤ b.2
  · exact .inl (decide_eq_true h)
  · exact .inr (decide_eq_true (by omega))
theorem sortL_perm (l : List (Int × Int)) : (sortL l).Perm l := List.mergeSort_perm l le
theorem sortL_up (l : List (Int × Int)) : (sortL l).Pairwise (fun a b => le a b = true) := List.pairwise_mergeSort le_trans le_total l
def low (l : List (Int × Int)) : List (Int × Int) := hull (sortL l)
theorem low_mem {l : List (Int × Int)} {y : Int × Int} (h : y ∈ low l) : y ∈ l := (sortL_perm l).mem_iff.1 (hull_mem _ y h)
theorem low_len (l : List (Int × Int)) : (low l).length ≤ l.length := Nat.le_trans (hull_len _) (Nat.le_of_eq (sortL_perm l).length_eq)
theorem low_nrm {l : List (Int × Int)} (h : l ≠ []) : Nrm (low l) := hull_nrm _ (sortL_up l) (fun e => h (by have := (sortL_perm l).length_eq; rw [e] at this; exact List.eq_nil_of_length_eq_zero this.symm))
theorem nrm_up {L : List (Int × Int)} (h : Nrm L) : L.Pairwise (fun a b => le a b = true) := by
  rw [List.pairwise_iff_getElem]
  intro i j hi hj hij
  have key : ∀ k, i + 1 + k < L.length → SM.av L i < SM.av L (i + 1 + k) := by
    intro k
    induction k with
    | zero => intro hk; have := (h.2 (i + 1) (by omega) hk).1.1; rwa [Nat.add_sub_cancel] at this
    | succ k ih =>
      intro hk
      have h1 := ih (by omega)
      have h2 := (h.2 (i + 1 + k + 1) (by omega) hk).1.1
      rw [Nat.add_sub_cancel] at h2
      exact Int.lt_trans h1 h2
  have h3 := key (j - i - 1) (by omega)
  rw [show i + 1 + (j - i - 1) = j by omega] at h3
  unfold SM.av at h3
  rw [List.getD_eq_getElem?_getD, List.getD_eq_getElem?_getD, List.getElem?_eq_getElem hi, List.getElem?_eq_getElem hj] at h3
  exact decide_eq_true (.inl h3)
theorem low_self {L : List (Int × Int)} (h : Nrm L) : low L = L := by
  unfold low sortL
  rw [List.mergeSort_of_pairwise (nrm_up h), hull_self h]
theorem low_iff {L : List (Int × Int)} : (low L = L ∧ L ≠ []) ↔ Nrm L := by
  constructor
  · rintro ⟨h, h0⟩; rw [← h]; exact low_nrm h0
  · intro h; exact ⟨low_self h, fun e => by have := h.1; rw [e] at this; simp at this⟩
end CM
end Go.Proofs.Ytpgaklfgbioocaa
