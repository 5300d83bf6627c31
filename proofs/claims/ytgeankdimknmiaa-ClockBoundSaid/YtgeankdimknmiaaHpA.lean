/- Heaps, the mathematics: items, which goes ahead, a tree in a list that is in order but at one place. -/
namespace Go.Proofs.Ytgeankdimknmiaa.Hp
set_option linter.unusedVariables false

/-- an item: ID, Key's N and D, Turn. -/
abbrev It := Int × Int × Int × Int
def iD (x : It) : Int := x.1
def kN (x : It) : Int := x.2.1
def kD (x : It) : Int := x.2.2.1
def tN (x : It) : Int := x.2.2.2
def zI : It := (0, 0, 0, 0)
/-- x goes ahead of y. -/
def Lt (x y : It) : Prop := kN x * kD y < kN y * kD x ∨ (kN x * kD y = kN y * kD x ∧ tN x < tN y)
instance (x y : It) : Decidable (Lt x y) := by unfold Lt; infer_instance
theorem lt_irrefl (x : It) : ¬ Lt x x := by unfold Lt; omega
theorem lt_asymm {x y : It} (h : Lt x y) : ¬ Lt y x := by unfold Lt at *; omega
theorem mul_lt3 {a b d : Int} (hd : 0 < d) : a * d < b * d ↔ a < b := by
  constructor
  · intro h; exact Int.lt_of_mul_lt_mul_right h (Int.le_of_lt hd)
  · intro h; exact Int.mul_lt_mul_of_pos_right h hd
theorem mul_le3 {a b d : Int} (hd : 0 < d) : a * d ≤ b * d ↔ a ≤ b := by
  constructor
  · intro h; exact Int.le_of_mul_le_mul_right h hd
  · intro h; exact Int.mul_le_mul_of_nonneg_right h (Int.le_of_lt hd)
/-- 'not behind': x's key is at most y's .. -/
def Le (x y : It) : Prop := ¬ Lt y x
theorem le_iff {x y : It} : Le x y ↔ kN x * kD y < kN y * kD x ∨ (kN x * kD y = kN y * kD x ∧ tN x ≤ tN y) := by unfold Le Lt; omega
theorem le_refl (x : It) : Le x x := lt_irrefl x
theorem le_of_lt {x y : It} (h : Lt x y) : Le x y := lt_asymm h
theorem key_trans {x y z : It} (hx : 0 < kD x) (hy : 0 < kD y) (hz : 0 < kD z) (h1 : kN x * kD y ≤ kN y * kD x) (h2 : kN y * kD z ≤ kN z * kD y) :
    kN x * kD z ≤ kN z * kD x ∧ (kN x * kD z = kN z * kD x → kN x * kD y = kN y * kD x ∧ kN y * kD z = kN z * kD y) := by
  have a1 : (kN x * kD y) * kD z ≤ (kN y * kD x) * kD z := (mul_le3 hz).2 h1
  have a2 : (kN y * kD z) * kD x ≤ (kN z * kD y) * kD x := (mul_le3 hx).2 h2
  have e1 : (kN x * kD y) * kD z = (kN x * kD z) * kD y := by grind
  have e2 : (kN y * kD x) * kD z = (kN y * kD z) * kD x := by grind
  have e3 : (kN z * kD y) * kD x = (kN z * kD x) * kD y := by grind
  constructor
  · exact (mul_le3 hy).1 (by omega)
  · intro h
    have b : (kN x * kD z) * kD y = (kN z * kD x) * kD y := by rw [h]
    constructor
    · have : (kN y * kD x) * kD z ≤ (kN x * kD y) * kD z := by omega
      have := (mul_le3 hz).1 this
      omega
    · have : (kN z * kD y) * kD x ≤ (kN y * kD z) * kD x := by omega
      have := (mul_le3 hx).1 this
      omega
theorem le_trans {x y z : It} (hx : 0 < kD x) (hy : 0 < kD y) (hz : 0 < kD z) (h1 : Le x y) (h2 : Le y z) : Le x z := by
  rw [le_iff] at *
  obtain ⟨k1, k2⟩ := key_trans hx hy hz (by omega) (by omega)
  rcases Int.lt_or_eq_of_le k1 with h | h
  · exact .inl h
  · have := k2 h
    exact .inr ⟨h, by omega⟩
theorem lt_of_lt_of_le {x y z : It} (hx : 0 < kD x) (hy : 0 < kD y) (hz : 0 < kD z) (h1 : Lt x y) (h2 : Le y z) : Lt x z := by
  rw [le_iff] at h2
  unfold Lt at *
  obtain ⟨k1, k2⟩ := key_trans hx hy hz (by omega) (by omega)
  rcases Int.lt_or_eq_of_le k1 with h | h
  · exact .inl h
  · have := k2 h
    exact .inr ⟨h, by omega⟩
theorem le_total (x y : It) : Le x y ∨ Le y x := by unfold Le Lt; omega

/-! ### lists by places -/
def gI (L : List It) (i : Nat) : It := L.getD i zI
theorem gI_at {L : List It} {i : Nat} (h : i < L.length) : gI L i = L[i] := by simp [gI, h]
theorem gI_mem {L : List It} {i : Nat} (h : i < L.length) : gI L i ∈ L := by rw [gI_at h]; exact List.getElem_mem h
theorem mem_gI {L : List It} {x : It} (h : x ∈ L) : ∃ i, i < L.length ∧ gI L i = x := by
  obtain ⟨i, hi, e⟩ := List.getElem_of_mem h
  exact ⟨i, hi, by rw [gI_at hi, e]⟩
theorem gI_set {L : List It} {i j : Nat} {x : It} (hi : i < L.length) : gI (L.set i x) j = if j = i then x else gI L j := by
  unfold gI
  rw [List.getD_eq_getElem?_getD, List.getD_eq_getElem?_getD, List.getElem?_set]
  by_cases e : i = j
  · subst e; simp [hi]
  · rw [if_neg e, if_neg (fun h => e h.symm)]
theorem gI_take {L : List It} {n j : Nat} (h : j < n) : gI (L.take n) j = gI L j := by
  unfold gI
  rw [List.getD_eq_getElem?_getD, List.getD_eq_getElem?_getD, List.getElem?_take_of_lt h]
theorem gI_snoc {L : List It} {x : It} {j : Nat} : gI (L ++ [x]) j = if j < L.length then gI L j else if j = L.length then x else zI := by
  unfold gI
  rw [List.getD_eq_getElem?_getD, List.getD_eq_getElem?_getD]
  by_cases h : j < L.length
  · rw [if_pos h, List.getElem?_append_left h]
  · rw [if_neg h, List.getElem?_append_right (by omega)]
    by_cases e : j = L.length
    · subst e; simp
    · rw [if_neg e, List.getElem?_eq_none (by simp; omega)]; rfl
def swp (L : List It) (a b : Nat) : List It := (L.set a (gI L b)).set b (gI L a)
theorem swp_len (L : List It) (a b : Nat) : (swp L a b).length = L.length := by simp [swp]
theorem gI_swp {L : List It} {a b j : Nat} (ha : a < L.length) (hb : b < L.length) : gI (swp L a b) j = if j = b then gI L a else if j = a then gI L b else gI L j := by
  unfold swp
  rw [gI_set (by simpa using hb), gI_set ha]
theorem swp_perm {L : List It} {a b : Nat} (ha : a < L.length) (hb : b < L.length) : (swp L a b).Perm L := by
  rw [List.perm_iff_count]
  intro x
  unfold swp
  rw [List.count_set (by simpa using hb), List.count_set ha, gI_at ha, gI_at hb, List.getElem_set]
  have c1 : 1 ≤ L.count L[a] := List.count_pos_iff.2 (List.getElem_mem ha)
  have c2 : 1 ≤ L.count L[b] := List.count_pos_iff.2 (List.getElem_mem hb)
  by_cases e : a = b
  · subst e
    simp
    by_cases h : L[a] = x
    · subst h; simp
    · simp [h]
  · rw [if_neg e]
    by_cases h1 : L[a] = x <;> by_cases h2 : L[b] = x
    · subst h1; simp [h2]
    · subst h1; simp [h2]
    · subst h2; simp [h1]
    · simp [h1, h2]

/-! ### a tree in a list -/
def Ord (L : List It) (i : Nat) : Prop := Le (gI L ((i - 1) / 2)) (gI L i)
def Heap (L : List It) : Prop := ∀ i, 1 ≤ i → i < L.length → Ord L i
/-- in order, but at n. -/
def Off (L : List It) (n : Nat) : Prop := (∀ i, 1 ≤ i → i < L.length → i ≠ n → (i - 1) / 2 ≠ n → Ord L i) ∧ ∀ c, 1 ≤ c → c < L.length → (c - 1) / 2 = n → 1 ≤ n → Le (gI L ((n - 1) / 2)) (gI L c)
def PosD (L : List It) : Prop := ∀ x ∈ L, 0 < kD x
theorem PosD.at_ {L : List It} (h : PosD L) {i : Nat} (hi : i < L.length) : 0 < kD (gI L i) := h _ (gI_mem hi)
theorem PosD.perm {L L' : List It} (h : PosD L) (hp : L'.Perm L) : PosD L' := fun x hx => h x (hp.mem_iff.1 hx)
/-- the item at n rises. -/
theorem Off.up {L : List It} {n : Nat} (h : Off L n) (hP : PosD L) (h1 : 1 ≤ n) (hn : n < L.length) (hl : Lt (gI L n) (gI L ((n - 1) / 2))) : Off (swp L n ((n - 1) / 2)) ((n - 1) / 2) := by
  have ha : (n - 1) / 2 < L.length := by omega
  generalize hp : (n - 1) / 2 = p at *
  have hG := fun j => gI_swp (j := j) hn ha
  have hpn : p < n := by omega
  constructor
  · intro i i1 i2 i3 i4
    rw [swp_len] at i2
    unfold Ord
    rw [hG, hG]
    by_cases e1 : i = n
    · subst e1
      exact absurd hp i4
    · rw [if_neg i4, if_neg i3, if_neg e1]
      by_cases e2 : (i - 1) / 2 = n
      · rw [if_pos e2]
        rw [← hp]
        exact hp ▸ h.2 i i1 i2 e2 h1
      · rw [if_neg e2]
        exact h.1 i i1 i2 e1 e2
  · intro c c1 c2 c3 p1
    rw [swp_len] at c2
    have hpp : (p - 1) / 2 < L.length := by omega
    rw [hG, hG]
    rw [if_neg (show ¬ (p - 1) / 2 = p by omega), if_neg (show ¬ (p - 1) / 2 = n by omega), if_neg (show ¬ c = p by omega)]
    have o1 : Ord L p := h.1 p p1 (by omega) (by omega) (by omega)
    by_cases e : c = n
    · rw [if_pos e]; exact o1
    · rw [if_neg e]
      have o2 : Ord L c := h.1 c c1 c2 e (by omega)
      unfold Ord at o1 o2
      rw [c3] at o2
      exact le_trans (hP.at_ hpp) (hP.at_ ha) (hP.at_ c2) o1 o2
/-- the item at n sinks to under, which goes ahead of the other one there. -/
theorem Off.down {L : List It} {n u : Nat} (h : Off L n) (hP : PosD L) (hn : n < L.length) (hu : u < L.length) (hun : (u - 1) / 2 = n) (u1 : 1 ≤ u) (hl : Lt (gI L u) (gI L n)) (hs : ∀ c, 1 ≤ c → c < L.length → (c - 1) / 2 = n → Le (gI L u) (gI L c))
    (hup : 1 ≤ n → Ord L n) : Off (swp L n u) u ∧ (1 ≤ u → Ord (swp L n u) u) := by
  have hG := fun j => gI_swp (j := j) hn hu
  have hlt : n < u := by omega
  refine ⟨⟨?_, ?_⟩, ?_⟩
  · intro i i1 i2 i3 i4
    rw [swp_len] at i2
    unfold Ord
    rw [hG, hG, if_neg i4, if_neg i3]
    by_cases e1 : i = n
    · subst e1
      rw [if_pos rfl, if_neg (show ¬ (i - 1) / 2 = i by omega)]
      have q1 := hup i1
      exact h.2 u u1 hu hun i1
    · rw [if_neg e1]
      by_cases e2 : (i - 1) / 2 = n
      · rw [if_pos e2]
        exact hs i i1 i2 e2
      · rw [if_neg e2]
        exact h.1 i i1 i2 e1 e2
  · intro c c1 c2 c3 _
    rw [swp_len] at c2
    rw [hG, hG, hun, if_neg (show ¬ n = u by omega), if_pos rfl, if_neg (show ¬ c = u by omega), if_neg (show ¬ c = n by omega)]
    have o := h.1 c c1 c2 (by omega) (by omega)
    unfold Ord at o
    rw [c3] at o
    exact o
  · intro _
    unfold Ord
    rw [hG, hG, hun, if_neg (show ¬ n = u by omega), if_pos rfl, if_pos rfl]
    exact le_of_lt hl
/-- where nothing under it goes ahead of it, all is in order. -/
theorem Off.whole {L : List It} {n : Nat} (h : Off L n) (hup : 1 ≤ n → Ord L n) (hd : ∀ c, 1 ≤ c → c < L.length → (c - 1) / 2 = n → Le (gI L n) (gI L c)) : Heap L := fun i i1 i2 => by
  by_cases e1 : i = n
  · subst e1; exact hup i1
  · by_cases e2 : (i - 1) / 2 = n
    · unfold Ord; rw [e2]; exact hd i i1 i2 e2
    · exact h.1 i i1 i2 e1 e2
/-- the first one is the least. -/
theorem Heap.least {L : List It} (h : Heap L) (hP : PosD L) : ∀ i, i < L.length → Le (gI L 0) (gI L i) := fun i => by
  induction i using Nat.strongRecOn with
  | _ i ih =>
    intro hi
    by_cases e : i = 0
    · subst e; exact le_refl _
    · exact le_trans (hP.at_ (by omega)) (hP.at_ (by omega)) (hP.at_ hi) (ih ((i - 1) / 2) (by omega) (by omega)) (h i (by omega) hi)
theorem Heap.nil : Heap [] := fun i _ h => by simp at h
/-- an item more, at the end. -/
theorem Heap.snoc {L : List It} (h : Heap L) (x : It) : Off (L ++ [x]) L.length := by
  constructor
  · intro i i1 i2 i3 i4
    have i5 : i < L.length := by simp at i2; omega
    unfold Ord
    rw [gI_snoc, gI_snoc, if_pos (by omega), if_pos i5]
    exact h i i1 i5
  · intro c c1 c2 c3 _
    simp at c2
    omega
/-- another item at n. -/
theorem Heap.setAt {L : List It} (h : Heap L) (hP : PosD L) {n : Nat} (hn : n < L.length) (x : It) : Off (L.set n x) n := by
  constructor
  · intro i i1 i2 i3 i4
    rw [List.length_set] at i2
    unfold Ord
    rw [gI_set hn, gI_set hn, if_neg i4, if_neg i3]
    exact h i i1 i2
  · intro c c1 c2 c3 n1
    rw [List.length_set] at c2
    rw [gI_set hn, gI_set hn, if_neg (by omega), if_neg (by omega)]
    have o1 := h n n1 hn
    have o2 := h c c1 c2
    unfold Ord at o1 o2
    rw [c3] at o2
    exact le_trans (hP.at_ (by omega)) (hP.at_ hn) (hP.at_ c2) o1 o2
/-- the item at n goes, the last one comes there. -/
def gone (L : List It) (n : Nat) : List It := (swp L n (L.length - 1)).take (L.length - 1)
theorem gone_len {L : List It} {n : Nat} : (gone L n).length = L.length - 1 := by simp [gone, swp_len]
theorem gI_gone {L : List It} {n j : Nat} (hn : n < L.length) (hj : j < L.length - 1) : gI (gone L n) j = if j = n then gI L (L.length - 1) else gI L j := by
  unfold gone
  rw [gI_take hj, gI_swp hn (by omega), if_neg (by omega)]
theorem Heap.goneAt {L : List It} (h : Heap L) (hP : PosD L) {n : Nat} (hn : n < L.length) : Off (gone L n) n := by
  constructor
  · intro i i1 i2 i3 i4
    rw [gone_len] at i2
    unfold Ord
    rw [gI_gone hn i2, gI_gone hn (by omega), if_neg i4, if_neg i3]
    exact h i i1 (by omega)
  · intro c c1 c2 c3 n1
    rw [gone_len] at c2
    rw [gI_gone hn (by omega), gI_gone hn (by omega), if_neg (by omega), if_neg (by omega)]
    have o1 := h n n1 hn
    have o2 := h c c1 (by omega)
    unfold Ord at o1 o2
    rw [c3] at o2
    exact le_trans (hP.at_ (by omega)) (hP.at_ hn) (hP.at_ (by omega)) o1 o2
theorem Heap.goneLast {L : List It} (h : Heap L) (hn : 0 < L.length) : Heap (gone L (L.length - 1)) := fun i i1 i2 => by
  rw [gone_len] at i2
  unfold Ord
  rw [gI_gone (by omega) i2, gI_gone (by omega) (by omega), if_neg (by omega), if_neg (by omega)]
  exact h i i1 (by omega)
theorem gone_perm {L : List It} {n : Nat} (hn : n < L.length) : L.Perm (gI L n :: gone L n) := by
  have e : swp L n (L.length - 1) = gone L n ++ [gI L n] := by
    unfold gone
    have h1 : (swp L n (L.length - 1)).take (L.length - 1 + 1) = swp L n (L.length - 1) := List.take_of_length_le (by rw [swp_len]; omega)
    conv => lhs; rw [← h1]
    have h2 : L.length - 1 < (swp L n (L.length - 1)).length := by rw [swp_len]; omega
    rw [List.take_add_one, List.getElem?_eq_getElem h2, ← gI_at h2, gI_swp hn (by omega), if_pos rfl]
    rfl
  have p := (swp_perm hn (show L.length - 1 < L.length by omega)).symm
  rw [e] at p
  exact p.trans (List.perm_append_comm.trans (by simp))
end Go.Proofs.Ytgeankdimknmiaa.Hp
