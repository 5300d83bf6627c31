/- Maps: mathematics: what is right with links together; in another order. -/
import Derived.Test.YtalhbjmhipiiiaaGreatTpH
namespace Go.Proofs.YtalhbjmhipiiiaaGreat.Tp
set_option linter.unusedVariables false

/-- links that may be together. -/
structure Valid (n : Int) (L : List Lk) : Prop where
  lo : 1 ≤ n
  hi : n ≤ 16
  all : ∀ x ∈ L, rightB n x = true
  len : L.length ≤ 48
  nod : (endsL L).Nodup
  back : ∀ x ∈ L, (tw x, fr x) ∈ endsL L
theorem fault_zero {n : Int} {L : List Lk} (h : errN n L = 0) : ∀ k, k < 4 → faultE n L k = 0 := by
  unfold errN at h
  by_cases h0 : faultE n L 0 = 0
  · by_cases h1 : faultE n L 1 = 0
    · by_cases h2 : faultE n L 2 = 0
      · simp [h0, h1, h2] at h
        intro k hk
        match k, hk with
        | 0, _ => exact h0
        | 1, _ => exact h1
        | 2, _ => exact h2
        | 3, _ => exact h
      · simp [h0, h1, h2] at h
    · simp [h0, h1] at h
  · simp [h0] at h
theorem valid_of {n : Int} {L : List Lk} (h : errN n L = 0) : Valid n L := by
  have h0 := fault_zero h 0 (by omega)
  have h1 := fault_zero h 1 (by omega)
  have h2 := fault_zero h 2 (by omega)
  have h3 := fault_zero h 3 (by omega)
  simp only [faultE] at h0 h1 h2 h3
  have g0 : (nodesB n && !(L.any (wrongP n))) = true := by
    cases e : (nodesB n && !(L.any (wrongP n)))
    · rw [e] at h0; simp at h0
    · rfl
  have g1 : L.length ≤ 48 := by
    by_cases e : L.length ≤ 48
    · exact e
    · rw [if_neg e] at h1; omega
  have g2 : (endsL L).Nodup := by
    by_cases e : (endsL L).Nodup
    · exact e
    · rw [if_neg e] at h2; omega
  have g3 : L.any (noBack (endsL L)) = false := by
    cases e : L.any (noBack (endsL L))
    · rfl
    · rw [e] at h3; simp at h3
  rw [Bool.and_eq_true] at g0
  have gn := inB_iff.1 g0.1
  have ga : L.any (wrongP n) = false := by simpa using g0.2
  rw [List.any_eq_false] at ga g3
  refine ⟨gn.1, gn.2, fun x hx => ?_, g1, g2, fun x hx => ?_⟩
  · have := ga x hx
    unfold wrongP at this
    simpa using this
  · have := g3 x hx
    unfold noBack at this
    simpa using this
theorem valid_to {n : Int} {L : List Lk} (h : Valid n L) : errN n L = 0 := by
  refine errN_zero (fun j hj => ?_)
  match j, hj with
  | 0, _ =>
    have g : (nodesB n && !(L.any (wrongP n))) = true := by
      rw [Bool.and_eq_true]
      refine ⟨inB_iff.2 ⟨h.lo, h.hi⟩, ?_⟩
      have : L.any (wrongP n) = false := by
        rw [List.any_eq_false]
        intro x hx
        unfold wrongP
        rw [h.all x hx]
        decide
      rw [this]
      rfl
    simp only [faultE]
    rw [if_pos g]
  | 1, _ => simp only [faultE]; rw [if_pos h.len]
  | 2, _ => simp only [faultE]; rw [if_pos h.nod]
  | 3, _ =>
    have : L.any (noBack (endsL L)) = false := by
      rw [List.any_eq_false]
      intro x hx
      unfold noBack
      rw [decide_eq_true (h.back x hx)]
      decide
    simp only [faultE]
    rw [this]
    rfl
theorem nodup_rev {l : List (Int × Int)} : l.reverse.Nodup ↔ l.Nodup := by
  unfold List.Nodup
  rw [List.pairwise_reverse]
  exact ⟨fun h => h.imp Ne.symm, fun h => h.imp Ne.symm⟩
theorem endsL_reverse (L : List Lk) : endsL L.reverse = (endsL L).reverse := by simp [endsL]
theorem errN_reverse (n : Int) (L : List Lk) : errN n L.reverse = errN n L := by
  have h : ∀ k, faultE n L.reverse k = faultE n L k := fun k => by
    match k with
    | 0 => simp only [faultE, List.any_reverse]
    | 1 => simp only [faultE, List.length_reverse]
    | 2 => simp only [faultE, endsL_reverse, nodup_rev]
    | k + 3 =>
      have e : noBack (endsL L.reverse) = noBack (endsL L) := by
        funext x
        unfold noBack
        rw [endsL_reverse]
        simp only [List.mem_reverse]
      simp only [faultE, e, List.any_reverse]
  unfold errN
  rw [h 0, h 1, h 2, h 3]
theorem lastAt_of {E : List (Int × Int)} (hnd : E.Nodup) {p : Int × Int} {k : Nat} (hk : k < E.length) (h : ge E k = p) : ∀ m, k < m → m ≤ E.length → lastAt E p m = k
  | 0, h1, _ => by omega
  | m + 1, h1, h2 => by
    unfold lastAt
    by_cases e : ge E m = p
    · rw [if_pos e]
      rw [← h, ge_at hk, ge_at (by omega)] at e
      have := (List.getElem_inj hnd).1 e
      omega
    · rw [if_neg e]
      have : k ≠ m := fun e2 => e (e2 ▸ h)
      exact lastAt_of hnd hk h m (by omega) (by omega)
theorem lastAt_eq {E : List (Int × Int)} (hnd : E.Nodup) {p : Int × Int} {k : Nat} (hk : k < E.length) (h : ge E k = p) : lastAt E p E.length = k := lastAt_of hnd hk h _ hk (Nat.le_refl _)
theorem lastAt_none {E : List (Int × Int)} {p : Int × Int} (h : p ∉ E) : ∀ m, m ≤ E.length → lastAt E p m = 0
  | 0, _ => rfl
  | m + 1, h2 => by
    unfold lastAt
    rw [if_neg (fun e : ge E m = p => h (e ▸ ge_mem (by omega)))]
    exact lastAt_none h m (by omega)
theorem mem_ge {E : List (Int × Int)} {p : Int × Int} (h : p ∈ E) : ∃ k, k < E.length ∧ ge E k = p := by
  obtain ⟨k, hk, e⟩ := List.getElem_of_mem h
  exact ⟨k, hk, by rw [ge_at hk]; exact e⟩
theorem Valid.more {n : Int} {L : List Lk} (h : Valid n L) (hn : n < 16) : Valid (n + 1) L := by
  refine ⟨by have := h.lo; omega, by omega, fun x hx => ?_, h.len, h.nod, h.back⟩
  have := (rightB_iff n x).1 (h.all x hx)
  rw [rightB_iff]
  omega
theorem errN_17 (L : List Lk) : errN 17 L ≠ 0 := by
  have : faultE 17 L 0 = 2 := by
    simp only [faultE]
    rw [if_neg]
    simp [nodesB, inB]
  unfold errN
  rw [this, if_pos (by decide)]
  decide
theorem lkAt_rev {L : List Lk} {k : Nat} (h : k < L.length) : lkAt L.reverse (L.length - 1 - k) = lkAt L k := by
  rw [lkAt_get (by rw [List.length_reverse]; omega), lkAt_get h, List.getElem_reverse]
  congr 1
  omega
theorem rev_take {L : List Lk} {k d : Nat} (hk : d + k + 1 = L.length) : L.reverse.take (k + 1) = L.reverse.take k ++ [lkAt L d] := by
  rw [List.take_add_one, List.getElem?_eq_getElem (by rw [List.length_reverse]; omega), List.getElem_reverse, lkAt_get (by omega)]
  have : L.length - 1 - k = d := by omega
  simp [this]
theorem WideL.reverse {L : List Lk} (h : WideL L) : WideL L.reverse := fun x hx => h x (List.mem_reverse.1 hx)
/-- where two nodes' link is in a turned list. -/
theorem lastAt_rev {n : Int} {L : List Lk} (h : Valid n L) {p : Int × Int} (hp : p ∈ endsL L) : ∃ k, k < L.length ∧ ends1 (lkAt L k) = p ∧ lastAt (endsL L) p (endsL L).length = (k : Int) ∧ lastAt (endsL L.reverse) p (endsL L.reverse).length = ((L.length - 1 - k : Nat) : Int) := by
  obtain ⟨k, hk, e⟩ := mem_ge hp
  have hk' : k < L.length := by rw [endsL_len] at hk; exact hk
  rw [ge_endsL hk'] at e
  refine ⟨k, hk', e, lastAt_eq h.nod hk (by rw [ge_endsL hk']; exact e), ?_⟩
  refine lastAt_eq (by rw [endsL_reverse, nodup_rev]; exact h.nod) (by rw [endsL_len, List.length_reverse]; omega) ?_
  rw [ge_endsL (by rw [List.length_reverse]; omega), lkAt_rev hk']
  exact e
theorem mem_rev {L : List Lk} {p : Int × Int} : p ∈ endsL L.reverse ↔ p ∈ endsL L := by rw [endsL_reverse, List.mem_reverse]
end Go.Proofs.YtalhbjmhipiiiaaGreat.Tp
