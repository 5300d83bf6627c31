/- Maps: mathematics: the document's way to a node's links is the program's. -/
import Derived.Test.YtalhbjmhipiiiaaGreatTpU
import Derived.Test.YtalhbjmhipiiiaaGreatTpS
namespace Go.Proofs.YtalhbjmhipiiiaaGreat.Tp
set_option linter.unusedVariables false

/-- the number of the first one that is p; -1: there is none. -/
def betN (E : List (Int × Int)) (p : Int × Int) : Nat := E.findIdx (fun q => decide (q = p))
def bet (E : List (Int × Int)) (p : Int × Int) : Int := if betN E p < E.length then (betN E p : Int) else -1
theorem bet_found {E : List (Int × Int)} {p : Int × Int} (i : Nat) (hi : i < E.length) (h : ge E i = p) (hl : ∀ j, j < i → ge E j ≠ p) : bet E p = i := by
  have e : betN E p = i := by
    unfold betN
    rw [List.findIdx_eq hi]
    refine ⟨by rw [← ge_at hi]; exact decide_eq_true h, fun j hj => ?_⟩
    have := hl j hj
    rw [ge_at (by omega)] at this
    exact decide_eq_false this
  unfold bet
  rw [e, if_pos hi]
theorem bet_none {E : List (Int × Int)} {p : Int × Int} (h : ∀ j, j < E.length → ge E j ≠ p) : bet E p = -1 := by
  have e : betN E p = E.length := by
    unfold betN
    rw [List.findIdx_eq_length]
    intro x hx
    obtain ⟨j, hj, rfl⟩ := List.getElem_of_mem hx
    have := h j hj
    rw [ge_at hj] at this
    exact decide_eq_false this
  unfold bet
  rw [e, if_neg (by omega)]
theorem bet_cases (E : List (Int × Int)) (p : Int × Int) : (p ∉ E ∧ bet E p = -1) ∨ ∃ k, k < E.length ∧ ge E k = p ∧ (∀ j, j < k → ge E j ≠ p) ∧ bet E p = (k : Int) := by
  by_cases hp : p ∈ E
  · have hlt : betN E p < E.length := by
      unfold betN
      exact List.findIdx_lt_length_of_exists ⟨p, hp, by simp⟩
    refine .inr ⟨betN E p, hlt, ?_, ?_, by unfold bet; rw [if_pos hlt]⟩
    · have := List.findIdx_getElem (xs := E) (p := fun q => decide (q = p)) (w := hlt)
      rw [ge_at hlt]
      exact of_decide_eq_true this
    · intro j hj
      have := List.not_of_lt_findIdx (xs := E) (p := fun q => decide (q = p)) (i := j) hj
      rw [ge_at (by omega)]
      intro e
      exact absurd (decide_eq_true e) (by simpa using this)
  · refine .inl ⟨hp, bet_none (fun j hj e => hp (e ▸ ge_mem hj))⟩
theorem bet_last {E : List (Int × Int)} (hnd : E.Nodup) {p : Int × Int} (hp : p ∈ E) : bet E p = lastAt E p E.length := by
  rcases bet_cases E p with ⟨h, _⟩ | ⟨k, hk, he, _, hb⟩
  · exact absurd hp h
  · rw [hb, lastAt_eq hnd hk he]
theorem bet_lo (E : List (Int × Int)) (p : Int × Int) : -1 ≤ bet E p := by
  rcases bet_cases E p with ⟨_, h⟩ | ⟨k, _, _, _, h⟩ <;> omega
theorem bet_hi (E : List (Int × Int)) (p : Int × Int) : bet E p ≤ E.length := by
  rcases bet_cases E p with ⟨_, h⟩ | ⟨k, _, _, _, h⟩ <;> omega
/-- a node's links, by the nodes to which they go, of the first k. -/
def outK (E : List (Int × Int)) (node : Int) : Nat → List Int
  | 0 => []
  | k + 1 => if 0 ≤ bet E (node, (k : Int)) then outK E node k ++ [bet E (node, (k : Int))] else outK E node k
theorem outK_len (E : List (Int × Int)) (node : Int) : ∀ k, (outK E node k).length ≤ k
  | 0 => Nat.le_refl _
  | k + 1 => by
    have := outK_len E node k
    unfold outK
    split
    · simp; omega
    · omega
theorem outK_mem (E : List (Int × Int)) (node z : Int) : ∀ k, z ∈ outK E node k ↔ ∃ t : Nat, t < k ∧ 0 ≤ bet E (node, (t : Int)) ∧ z = bet E (node, (t : Int))
  | 0 => by simp [outK]
  | k + 1 => by
    have ih := outK_mem E node z k
    unfold outK
    split
    · rename_i h
      rw [List.mem_append, ih, List.mem_singleton]
      constructor
      · rintro (⟨t, h1, h2, h3⟩ | h1)
        · exact ⟨t, by omega, h2, h3⟩
        · exact ⟨k, by omega, h, h1⟩
      · rintro ⟨t, h1, h2, h3⟩
        by_cases e : t = k
        · subst e; exact .inr h3
        · exact .inl ⟨t, by omega, h2, h3⟩
    · rename_i h
      rw [ih]
      constructor
      · rintro ⟨t, h1, h2, h3⟩
        exact ⟨t, by omega, h2, h3⟩
      · rintro ⟨t, h1, h2, h3⟩
        have : t ≠ k := fun e => h (e ▸ h2)
        exact ⟨t, by omega, h2, h3⟩
theorem sorted_ext (f : Int → Int) : ∀ l l' : List Int, l.Pairwise (fun a b => f a < f b) → l'.Pairwise (fun a b => f a < f b) → (∀ x, x ∈ l ↔ x ∈ l') → l = l'
  | [], [], _, _, _ => rfl
  | [], b :: l', _, _, h => absurd ((h b).2 (by simp)) (by simp)
  | a :: l, [], _, _, h => absurd ((h a).1 (by simp)) (by simp)
  | a :: l, b :: l', h1, h2, h => by
    obtain ⟨p1, q1⟩ := List.pairwise_cons.1 h1
    obtain ⟨p2, q2⟩ := List.pairwise_cons.1 h2
    have hab : a = b := by
      have ha := (h a).1 (by simp)
      have hb := (h b).2 (by simp)
      rcases List.mem_cons.1 ha with e | e
      · exact e
      · rcases List.mem_cons.1 hb with e' | e'
        · exact e'.symm
        · have := p1 b e'
          have := p2 a e
          omega
    subst hab
    have hn1 : a ∉ l := fun e => by have := p1 a e; omega
    have hn2 : a ∉ l' := fun e => by have := p2 a e; omega
    rw [sorted_ext f l l' q1 q2 (fun x => by
      constructor
      · intro hx
        rcases List.mem_cons.1 ((h x).1 (by simp [hx])) with e | e
        · exact absurd (e ▸ hx) hn1
        · exact e
      · intro hx
        rcases List.mem_cons.1 ((h x).2 (by simp [hx])) with e | e
        · exact absurd (e ▸ hx) hn2
        · exact e)]
theorem fromK_nodup (L : List Lk) (node : Int) : ∀ k, (fromK L node k).Nodup
  | 0 => List.Pairwise.nil
  | k + 1 => by
    have ih := fromK_nodup L node k
    unfold fromK
    split
    · rename_i h
      rw [List.nodup_append]
      refine ⟨ih, by simp, fun a ha b hb => ?_⟩
      rw [List.mem_singleton] at hb
      subst hb
      intro e
      have := (fromK_mem L node a k).1 ha
      rw [e] at this
      simp at this
    · exact ih
/-- in a map, no two links of a node go to one. -/
theorem Valid.apart {n : Int} {L : List Lk} (h : Valid n L) (node : Int) : ∀ x y : NodeIx L node, tw (lkAt L x.1) = tw (lkAt L y.1) → x = y := fun x y e => by
  have hx := x.2
  have hy := y.2
  have h1 : ge (endsL L) x.1 = ge (endsL L) y.1 := by
    rw [ge_endsL hx.1, ge_endsL hy.1]
    unfold ends1
    rw [hx.2, hy.2, e]
  rw [ge_at (by rw [endsL_len]; exact hx.1), ge_at (by rw [endsL_len]; exact hy.1)] at h1
  exact Subtype.ext ((List.getElem_inj h.nod).1 h1)
def toOf (L : List Lk) (z : Int) : Int := tw (lkAt L z.toNat)
def Shelf_lt {L : List Lk} {node : Int} (x y : NodeIx L node) : Bool := decide (tw (lkAt L x.1) < tw (lkAt L y.1))
theorem outs_sorted {n : Int} {L : List Lk} (h : Valid n L) (node : Int) : (outs L node).Pairwise (fun a b => toOf L a < toOf L b) := by
  unfold outs ixL
  rw [List.pairwise_map]
  have hs : (ixSort (fromK L node L.length)).Pairwise (fun a b => tw (lkAt L a.1) ≤ tw (lkAt L b.1)) := by
    have := List.pairwise_mergeSort (le := fun x y : NodeIx L node => !(Shelf_lt y x)) (trans := fun a b c h1 h2 => by simp [Shelf_lt] at *; omega) (total := fun a b => by simp [Shelf_lt]; omega) (fromK L node L.length)
    have e : (fun x y : NodeIx L node => !(Shelf_lt y x)) = (fun x y : NodeIx L node => !(Go.Proofs.ltOf ixC) y x) := by
      funext x y
      rw [ltC]
      rfl
    rw [e] at this
    refine List.Pairwise.imp (fun {a b} hab => ?_) this
    simp only [Shelf_lt] at hab
    simpa using hab
  have hn : (ixSort (fromK L node L.length)).Nodup := (ixSort_perm _).symm.nodup (fromK_nodup L node _)
  refine List.Pairwise.imp (fun {a b} hab => ?_) (hs.and hn)
  have h1 := hab.1
  have h2 : tw (lkAt L a.1) ≠ tw (lkAt L b.1) := fun e => hab.2 (h.apart node a b e)
  simp only [toOf, Int.toNat_natCast]
  omega
theorem bet_of {L : List Lk} (hnd : (endsL L).Nodup) {i : Nat} (hi : i < L.length) {p : Int × Int} (h : ends1 (lkAt L i) = p) : bet (endsL L) p = i := by
  refine bet_found i (by rw [endsL_len]; exact hi) (by rw [ge_endsL hi]; exact h) (fun j hj e => ?_)
  have h1 : ge (endsL L) j = ge (endsL L) i := by rw [e, ge_endsL hi, h]
  rw [ge_at (by rw [endsL_len]; omega), ge_at (by rw [endsL_len]; exact hi)] at h1
  have := (List.getElem_inj hnd).1 h1
  omega
theorem bet_is {L : List Lk} {p : Int × Int} (h : 0 ≤ bet (endsL L) p) : ∃ i, i < L.length ∧ ends1 (lkAt L i) = p ∧ bet (endsL L) p = (i : Int) := by
  rcases bet_cases (endsL L) p with ⟨_, e⟩ | ⟨k, hk, he, _, hb⟩
  · omega
  · rw [endsL_len] at hk
    exact ⟨k, hk, by rw [← ge_endsL hk]; exact he, hb⟩
theorem outK_sorted (L : List Lk) (node : Int) : ∀ k, (outK (endsL L) node k).Pairwise (fun a b => toOf L a < toOf L b)
  | 0 => List.Pairwise.nil
  | k + 1 => by
    have ih := outK_sorted L node k
    unfold outK
    split
    · rename_i h
      rw [List.pairwise_append]
      refine ⟨ih, by simp, fun a ha b hb => ?_⟩
      rw [List.mem_singleton] at hb
      subst hb
      obtain ⟨t, ht, h0, rfl⟩ := (outK_mem _ _ _ k).1 ha
      obtain ⟨i, hi, he, hb⟩ := bet_is h0
      obtain ⟨j, hj, he', hb'⟩ := bet_is h
      unfold toOf
      rw [hb, hb', Int.toNat_natCast, Int.toNat_natCast]
      have e1 : tw (lkAt L i) = (t : Int) := congrArg Prod.snd he
      have e2 : tw (lkAt L j) = (k : Int) := congrArg Prod.snd he'
      omega
    · exact ih
/-- the document's is the program's. -/
theorem outs_eq {n : Int} {L : List Lk} (h : Valid n L) (node : Int) : outK (endsL L) node n.toNat = outs L node := by
  refine sorted_ext (toOf L) _ _ (outK_sorted L node _) (outs_sorted h node) (fun z => ?_)
  rw [outK_mem]
  have hm : z ∈ outs L node ↔ ∃ x : NodeIx L node, z = (x.1 : Int) := by
    unfold outs ixL
    rw [List.mem_map]
    constructor
    · rintro ⟨x, _, e⟩
      exact ⟨x, e.symm⟩
    · rintro ⟨x, e⟩
      exact ⟨x, (ixSort_perm _).mem_iff.2 ((fromK_mem L node x _).2 x.2.1), e.symm⟩
  rw [hm]
  constructor
  · rintro ⟨t, ht, h0, rfl⟩
    obtain ⟨i, hi, he, hb⟩ := bet_is h0
    exact ⟨⟨i, hi, congrArg Prod.fst he⟩, hb⟩
  · rintro ⟨x, rfl⟩
    have hr := (rightB_iff n (lkAt L x.1)).1 (h.all _ (lkAt_mem x.2.1))
    have ht : (((tw (lkAt L x.1)).toNat : Nat) : Int) = tw (lkAt L x.1) := Int.toNat_of_nonneg hr.2.2.1.1
    have hb : bet (endsL L) (node, (((tw (lkAt L x.1)).toNat : Nat) : Int)) = (x.1 : Int) := bet_of h.nod x.2.1 (by rw [ht]; unfold ends1; rw [x.2.2])
    exact ⟨(tw (lkAt L x.1)).toNat, by omega, by omega, hb.symm⟩
end Go.Proofs.YtalhbjmhipiiiaaGreat.Tp
