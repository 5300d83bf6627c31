/- Routes: mathematics: how far nodes are, and the way. -/
import Derived.Test.YtalhbjmhipiiiaaGreatTpW
namespace Go.Proofs.YtalhbjmhipiiiaaGreat.Tp
set_option linter.unusedVariables false

/-- a way of so many links. -/
def Wk (L : List Lk) : Nat → Int → Int → Prop
  | 0, x, y => x = y
  | k + 1, x, y => ∃ i, i < L.length ∧ fr (lkAt L i) = x ∧ Wk L k (tw (lkAt L i)) y
/-- the least number of links of a way. -/
def Lw (L : List Lk) (k : Nat) (x y : Int) : Prop := Wk L k x y ∧ ∀ j, j < k → ¬ Wk L j x y
theorem Lw.one {L : List Lk} {j k : Nat} {x y : Int} (h : Lw L j x y) (h' : Lw L k x y) : j = k := by
  by_cases a : j < k
  · exact absurd h.1 (h'.2 j a)
  · by_cases b : k < j
    · exact absurd h'.1 (h.2 k b)
    · omega
theorem Lw.least {L : List Lk} {x y : Int} : ∀ k, Wk L k x y → ∃ j, j ≤ k ∧ Lw L j x y := fun k => by
  induction k using Nat.strongRecOn with
  | ind k ih =>
    intro h
    by_cases e : ∃ j, j < k ∧ Wk L j x y
    · obtain ⟨j, hj, hw⟩ := e
      obtain ⟨i, hi, hl⟩ := ih j hj hw
      exact ⟨i, by omega, hl⟩
    · exact ⟨k, Nat.le_refl _, h, fun j hj hw => e ⟨j, hj, hw⟩⟩
theorem Wk.snoc {L : List Lk} {y : Int} {i : Nat} (hi : i < L.length) (h2 : fr (lkAt L i) = y) : ∀ {k : Nat} {x : Int}, Wk L k x y → Wk L (k + 1) x (tw (lkAt L i))
  | 0, x, h => ⟨i, hi, by rw [h2]; exact (show x = y from h).symm, rfl⟩
  | k + 1, x, ⟨j, hj, hf, hw⟩ => ⟨j, hj, hf, Wk.snoc hi h2 hw⟩
theorem Wk.last {L : List Lk} : ∀ {k : Nat} {x y : Int}, Wk L (k + 1) x y → ∃ i, i < L.length ∧ tw (lkAt L i) = y ∧ Wk L k x (fr (lkAt L i))
  | 0, x, y, ⟨i, hi, hf, hw⟩ => ⟨i, hi, hw, hf.symm⟩
  | k + 1, x, y, ⟨j, hj, hf, hw⟩ => by
    obtain ⟨i, hi, ht, hk⟩ := Wk.last hw
    exact ⟨i, hi, ht, j, hj, hf, hk⟩
theorem Wk.join {L : List Lk} {b : Nat} {y z : Int} (h : Wk L b y z) : ∀ {a : Nat} {x : Int}, Wk L a x y → Wk L (a + b) x z
  | 0, x, e => by
    have e' : x = y := e
    subst e'
    rw [Nat.zero_add]
    exact h
  | a + 1, x, ⟨i, hi, hf, hw⟩ => by
    rw [Nat.add_right_comm]
    exact ⟨i, hi, hf, h.join hw⟩
theorem Valid.linkBack {n : Int} {L : List Lk} (h : Valid n L) {i : Nat} (hi : i < L.length) : ∃ j, j < L.length ∧ fr (lkAt L j) = tw (lkAt L i) ∧ tw (lkAt L j) = fr (lkAt L i) := by
  have hb := h.back _ (lkAt_mem hi)
  unfold endsL at hb
  obtain ⟨x, hx, e⟩ := List.mem_map.1 hb
  obtain ⟨j, hj, e2⟩ := List.getElem_of_mem hx
  refine ⟨j, hj, ?_⟩
  have e3 : lkAt L j = x := by rw [lkAt_get hj]; exact e2
  rw [e3]
  unfold ends1 at e
  exact ⟨congrArg Prod.fst e, congrArg Prod.snd e⟩
theorem Wk.back {n : Int} {L : List Lk} (hv : Valid n L) : ∀ {k : Nat} {x y : Int}, Wk L k x y → Wk L k y x
  | 0, x, y, h => (show x = y from h).symm
  | k + 1, x, y, ⟨i, hi, hf, hw⟩ => by
    have h1 := Wk.back hv hw
    obtain ⟨j, hj, e1, e2⟩ := hv.linkBack hi
    have h2 := Wk.snoc hj e1 h1
    rw [e2, hf] at h2
    exact h2
theorem Lw.back {n : Int} {L : List Lk} (hv : Valid n L) {k : Nat} {x y : Int} (h : Lw L k x y) : Lw L k y x := ⟨h.1.back hv, fun j hj hw => h.2 j hj (hw.back hv)⟩
theorem Valid.ends {n : Int} {L : List Lk} (h : Valid n L) {i : Nat} (hi : i < L.length) : (0 ≤ fr (lkAt L i) ∧ fr (lkAt L i) < n) ∧ (0 ≤ tw (lkAt L i) ∧ tw (lkAt L i) < n) := by
  have h' := (rightB_iff n _).1 (h.all _ (lkAt_mem hi))
  omega
theorem pigeon : ∀ (n m : Nat) (g : Nat → Nat), (∀ i, i < m → g i < n) → (∀ i j, i < m → j < m → g i = g j → i = j) → m ≤ n
  | 0, 0, _, _, _ => Nat.le_refl _
  | 0, m + 1, g, h, _ => absurd (h 0 (by omega)) (by omega)
  | n + 1, 0, _, _, _ => Nat.zero_le _
  | n + 1, m + 1, g, h, hi => by
    have := pigeon n m (fun i => if g i = n then g m else g i) (fun i hm => by
      have h1 := h i (by omega)
      have h2 := h m (by omega)
      show (if g i = n then g m else g i) < n
      by_cases e : g i = n
      · rw [if_pos e]
        by_cases e2 : g m = n
        · exact absurd (hi i m (by omega) (by omega) (by omega)) (by omega)
        · omega
      · rw [if_neg e]; omega) (fun i j hm hj e => by
      have e : (if g i = n then g m else g i) = (if g j = n then g m else g j) := e
      by_cases e1 : g i = n
      · by_cases e2 : g j = n
        · exact hi i j (by omega) (by omega) (by omega)
        · rw [if_pos e1, if_neg e2] at e
          exact absurd (hi m j (by omega) (by omega) e) (by omega)
      · by_cases e2 : g j = n
        · rw [if_neg e1, if_pos e2] at e
          exact absurd (hi i m (by omega) (by omega) e) (by omega)
        · rw [if_neg e1, if_neg e2] at e
          exact hi i j (by omega) (by omega) e)
    omega
theorem Lw.tail {L : List Lk} {k i : Nat} {x t : Int} (h : Lw L (k + 1) x t) (hi : i < L.length) (hf : fr (lkAt L i) = x) (hw : Wk L k (tw (lkAt L i)) t) : Lw L k (tw (lkAt L i)) t :=
  ⟨hw, fun j hj hw2 => h.2 (j + 1) (by omega) ⟨i, hi, hf, hw2⟩⟩
theorem Lw.layers {n : Int} {L : List Lk} (hv : Valid n L) {t : Int} : ∀ {k : Nat} {x : Int}, 0 ≤ x → x < n → Lw L k x t → ∀ j, j ≤ k → ∃ y : Int, 0 ≤ y ∧ y < n ∧ Lw L j y t
  | 0, x, h0, h1, h, j, hj => ⟨x, h0, h1, by rw [show j = 0 from by omega]; exact h⟩
  | k + 1, x, h0, h1, h, j, hj => by
    by_cases e : j = k + 1
    · exact ⟨x, h0, h1, by rw [e]; exact h⟩
    · obtain ⟨i, hi, hf, hw⟩ := h.1
      have he := hv.ends hi
      exact Lw.layers hv he.2.1 he.2.2 (h.tail hi hf hw) j (by omega)
/-- no way that may not be shorter has as many links as there are nodes. -/
theorem Lw.lt {n : Int} {L : List Lk} (hv : Valid n L) {k : Nat} {x t : Int} (h0 : 0 ≤ x) (h1 : x < n) (h : Lw L k x t) : k < n.toNat := by
  have hl := h.layers hv h0 h1
  have hg : ∀ j, ∃ y : Int, j ≤ k → (0 ≤ y ∧ y < n ∧ Lw L j y t) := fun j => by
    by_cases e : j ≤ k
    · obtain ⟨y, hy⟩ := hl j e
      exact ⟨y, fun _ => hy⟩
    · exact ⟨0, fun h => absurd h e⟩
  let g : Nat → Nat := fun j => (Classical.choose (hg j)).toNat
  have hs : ∀ j, j ≤ k → (0 ≤ Classical.choose (hg j) ∧ Classical.choose (hg j) < n ∧ Lw L j (Classical.choose (hg j)) t) := fun j hj => Classical.choose_spec (hg j) hj
  have := pigeon n.toNat (k + 1) g (fun i hi => by
    have := hs i (by omega)
    show (Classical.choose (hg i)).toNat < n.toNat
    omega) (fun i j hi hj e => by
    have a := hs i (by omega)
    have b := hs j (by omega)
    have e' : Classical.choose (hg i) = Classical.choose (hg j) := by
      have : (Classical.choose (hg i)).toNat = (Classical.choose (hg j)).toNat := e
      omega
    exact Lw.one (e' ▸ a.2.2) b.2.2)
  omega
/-- the numbers of a node's links. -/
theorem outs_mem (L : List Lk) (x z : Int) : z ∈ outs L x ↔ ∃ i, i < L.length ∧ fr (lkAt L i) = x ∧ z = (i : Int) := by
  unfold outs ixL
  rw [List.mem_map]
  constructor
  · rintro ⟨y, hy, e⟩
    exact ⟨y.1, y.2.1, y.2.2, e.symm⟩
  · rintro ⟨i, hi, hf, e⟩
    refine ⟨⟨i, hi, hf⟩, ?_, e.symm⟩
    rw [(ixSort_perm _).mem_iff, fromK_mem]
    exact hi
/-- where a link leads to, of any number; 0 of a number that is none's. -/
def toF (L : List Lk) (z : Int) : Int := if 0 ≤ z ∧ z < (L.length : Int) then tw (lkAt L z.toNat) else 0
theorem toF_nat {L : List Lk} {i : Nat} (hi : i < L.length) : toF L (i : Int) = tw (lkAt L i) := by
  unfold toF
  rw [if_pos ⟨by omega, by omega⟩]
  rfl
theorem toF_in {n : Int} {L : List Lk} (hv : Valid n L) (z : Int) : 0 ≤ toF L z ∧ toF L z < n := by
  unfold toF
  have := hv.lo
  split
  · rename_i h
    exact (hv.ends (i := z.toNat) (by omega)).2
  · omega
/-- how far a node is from node t, behind so many rounds; 16: not reached. -/
def dR (L : List Lk) (t : Int) : Nat → Int → Nat
  | 0, x => if x = t then 0 else 16
  | f + 1, x => if dR L t f x < f + 1 then dR L t f x else if (outs L x).any (fun z => decide (dR L t f (toF L z) = f)) then f + 1 else dR L t f x
theorem dR_spec (L : List Lk) (t : Int) : ∀ f, f ≤ 15 → ∀ x, (∀ k, k ≤ f → (dR L t f x = k ↔ Lw L k x t)) ∧ (dR L t f x ≤ f ∨ dR L t f x = 16)
  | 0, _, x => by
    unfold dR
    by_cases e : x = t
    · rw [if_pos e]
      refine ⟨fun k hk => ⟨fun h => ?_, fun _ => by omega⟩, .inl (Nat.le_refl _)⟩
      rw [← h]
      exact ⟨e, fun j hj => absurd hj (by omega)⟩
    · rw [if_neg e]
      refine ⟨fun k hk => ⟨fun h => by omega, fun h => ?_⟩, .inr rfl⟩
      have : k = 0 := by omega
      subst this
      exact absurd h.1 e
  | f + 1, hf, x => by
    have ih := dR_spec L t f (by omega)
    unfold dR
    by_cases h1 : dR L t f x < f + 1
    · rw [if_pos h1]
      have hd : Lw L (dR L t f x) x t := ((ih x).1 _ (by omega)).1 rfl
      exact ⟨fun k hk => ⟨fun h => h ▸ hd, fun h => hd.one h⟩, .inl (by omega)⟩
    · rw [if_neg h1]
      have h16 : dR L t f x = 16 := by
        rcases (ih x).2 with h | h
        · omega
        · exact h
      have hno : ∀ k, k ≤ f → ¬ Wk L k x t := fun k hk hw => by
        obtain ⟨j, hj, hl⟩ := Lw.least k hw
        have := ((ih x).1 j (by omega)).2 hl
        omega
      by_cases h2 : (outs L x).any (fun z => decide (dR L t f (toF L z) = f)) = true
      · rw [if_pos h2]
        obtain ⟨z, hz, hd⟩ := List.any_eq_true.1 h2
        obtain ⟨i, hi, hfr, rfl⟩ := (outs_mem L x z).1 hz
        have hd' := of_decide_eq_true hd
        rw [toF_nat hi] at hd'
        have hw := (((ih _).1 f (Nat.le_refl _)).1 hd').1
        have hl : Lw L (f + 1) x t := ⟨⟨i, hi, hfr, hw⟩, fun j hj => hno j (by omega)⟩
        exact ⟨fun k hk => ⟨fun h => h ▸ hl, fun h => hl.one h⟩, .inl (Nat.le_refl _)⟩
      · rw [if_neg h2]
        refine ⟨fun k hk => ⟨fun h => by omega, fun h => ?_⟩, .inr h16⟩
        exfalso
        by_cases e : k ≤ f
        · exact hno k e h.1
        · have : k = f + 1 := by omega
          subst this
          obtain ⟨i, hi, hfr, hw⟩ := h.1
          refine h2 (List.any_eq_true.2 ⟨(i : Int), (outs_mem L x _).2 ⟨i, hi, hfr, rfl⟩, decide_eq_true ?_⟩)
          rw [toF_nat hi]
          exact ((ih _).1 f (Nat.le_refl _)).2 (h.tail hi hfr hw)
/-- how far; 16: there is no way. -/
def dist (n : Int) (L : List Lk) (t x : Int) : Nat := dR L t (n.toNat - 1) x
theorem dist_iff {n : Int} {L : List Lk} (hv : Valid n L) {x : Int} (h0 : 0 ≤ x) (h1 : x < n) (t : Int) (k : Nat) (hk : k < 16) : dist n L t x = k ↔ Lw L k x t := by
  have hlo := hv.lo
  have hhi := hv.hi
  have hs := dR_spec L t (n.toNat - 1) (by omega) x
  unfold dist
  constructor
  · intro h
    rcases hs.2 with h2 | h2
    · exact (hs.1 k (by omega)).1 h
    · omega
  · intro h
    have := h.lt hv h0 h1
    exact (hs.1 k (by omega)).2 h
theorem dist_le {n : Int} {L : List Lk} (hv : Valid n L) (x t : Int) : dist n L t x < n.toNat ∨ dist n L t x = 16 := by
  have hlo := hv.lo
  have hhi := hv.hi
  rcases (dR_spec L t (n.toNat - 1) (by omega) x).2 with h | h
  · exact .inl (by unfold dist; omega)
  · exact .inr h
theorem dist_lw {n : Int} {L : List Lk} (hv : Valid n L) {x : Int} (h0 : 0 ≤ x) (h1 : x < n) (t : Int) (h : dist n L t x ≠ 16) : Lw L (dist n L t x) x t := by
  have hhi := hv.hi
  rcases dist_le hv x t with h2 | h2
  · exact (dist_iff hv h0 h1 t _ (by omega)).1 rfl
  · exact absurd h2 h
theorem dist_of {n : Int} {L : List Lk} (hv : Valid n L) {x : Int} (h0 : 0 ≤ x) (h1 : x < n) {t : Int} {k : Nat} (h : Wk L k x t) : dist n L t x ≠ 16 ∧ dist n L t x ≤ k := by
  have hhi := hv.hi
  obtain ⟨j, hj, hl⟩ := Lw.least k h
  have hlt := hl.lt hv h0 h1
  have := (dist_iff hv h0 h1 t j (by omega)).2 hl
  omega
theorem dist_self {n : Int} {L : List Lk} (hv : Valid n L) {x : Int} (h0 : 0 ≤ x) (h1 : x < n) : dist n L x x = 0 := by
  have := (dist_of hv h0 h1 (t := x) (k := 0) rfl).2
  omega
theorem dist_zero {n : Int} {L : List Lk} (hv : Valid n L) {x t : Int} (h0 : 0 ≤ x) (h1 : x < n) (h : dist n L t x = 0) : x = t := ((dist_iff hv h0 h1 t 0 (by omega)).1 h).1
theorem dist_back {n : Int} {L : List Lk} (hv : Valid n L) {x y : Int} (h0 : 0 ≤ x) (h1 : x < n) (h2 : 0 ≤ y) (h3 : y < n) : dist n L y x = dist n L x y := by
  have hhi := hv.hi
  by_cases h : dist n L y x = 16
  · by_cases h' : dist n L x y = 16
    · rw [h, h']
    · have := (dist_lw hv h2 h3 x h').back hv
      exact absurd h (dist_of hv h0 h1 this.1).1
  · have := (dist_lw hv h0 h1 y h).back hv
    refine ((dist_iff hv h2 h3 x _ ?_).2 this).symm
    rcases dist_le hv x y with h4 | h4
    · omega
    · exact absurd h4 h
theorem dist_tri {n : Int} {L : List Lk} (hv : Valid n L) {x y z : Int} (h0 : 0 ≤ x) (h1 : x < n) (h2 : 0 ≤ y) (h3 : y < n) (ha : dist n L y x ≠ 16) (hb : dist n L z y ≠ 16) : dist n L z x ≠ 16 ∧ dist n L z x ≤ dist n L y x + dist n L z y :=
  dist_of hv h0 h1 (Wk.join (dist_lw hv h2 h3 z hb).1 (dist_lw hv h0 h1 y ha).1)
/-- the nodes that are near one lie no nearer than a link less. -/
theorem near_ge {n : Int} {L : List Lk} (hv : Valid n L) {t x : Int} (h0 : 0 ≤ x) (h1 : x < n) {k : Nat} (hk : k < 16) (h : dist n L t x = k + 1) : ∀ z ∈ outs L x, k ≤ dist n L t (toF L z) := fun z hz => by
  obtain ⟨i, hi, hf, rfl⟩ := (outs_mem L x z).1 hz
  rw [toF_nat hi]
  have he := hv.ends hi
  by_cases e : dist n L t (tw (lkAt L i)) < k
  · have hl := dist_lw hv he.2.1 he.2.2 t (by omega)
    have := (dist_of hv h0 h1 (t := t) (k := dist n L t (tw (lkAt L i)) + 1) ⟨i, hi, hf, hl.1⟩).2
    omega
  · omega
theorem near_some {n : Int} {L : List Lk} (hv : Valid n L) {t x : Int} (h0 : 0 ≤ x) (h1 : x < n) {k : Nat} (hk : k + 1 < 16) (h : dist n L t x = k + 1) : ∃ z ∈ outs L x, dist n L t (toF L z) = k := by
  have hl := (dist_iff hv h0 h1 t (k + 1) hk).1 h
  obtain ⟨i, hi, hf, hw⟩ := hl.1
  have he := hv.ends hi
  exact ⟨(i : Int), (outs_mem L x _).2 ⟨i, hi, hf, rfl⟩, by rw [toF_nat hi]; exact (dist_iff hv he.2.1 he.2.2 t k (by omega)).2 (hl.tail hi hf hw)⟩
/-- the first link of the way from a node that is k + 1 links far. -/
def firstL (n : Int) (L : List Lk) (t x : Int) (k : Nat) : Int := ((outs L x).find? (fun z => decide (dist n L t (toF L z) = k))).getD 0
/-- the way. -/
def wayL (n : Int) (L : List Lk) (t : Int) : Nat → Int → List Int
  | 0, _ => []
  | k + 1, x => firstL n L t x k :: wayL n L t k (toF L (firstL n L t x k))
theorem wayL_len (n : Int) (L : List Lk) (t : Int) : ∀ k x, (wayL n L t k x).length = k
  | 0, _ => rfl
  | k + 1, x => by simp [wayL, wayL_len n L t k]
theorem first_find {n : Int} {L : List Lk} (hv : Valid n L) {t x : Int} (h0 : 0 ≤ x) (h1 : x < n) {k : Nat} (hk : k + 1 < 16) (h : dist n L t x = k + 1) :
    (outs L x).find? (fun z => decide (dist n L t (toF L z) = k)) = some (firstL n L t x k) := by
  obtain ⟨z, hz, hd⟩ := near_some hv h0 h1 hk h
  unfold firstL
  cases e : (outs L x).find? (fun z => decide (dist n L t (toF L z) = k)) with
  | some b => rfl
  | none => exact absurd (decide_eq_true hd) (List.find?_eq_none.1 e z hz)
theorem first_is {n : Int} {L : List Lk} (hv : Valid n L) {t x : Int} (h0 : 0 ≤ x) (h1 : x < n) {k : Nat} (hk : k + 1 < 16) (h : dist n L t x = k + 1) :
    ∃ i, i < L.length ∧ firstL n L t x k = (i : Int) ∧ fr (lkAt L i) = x ∧ dist n L t (tw (lkAt L i)) = k := by
  have hf := first_find hv h0 h1 hk h
  obtain ⟨i, hi, hfr, e⟩ := (outs_mem L x _).1 (List.mem_of_find?_eq_some hf)
  have hd0 : decide (dist n L t (toF L (firstL n L t x k)) = k) = true := List.find?_some (p := fun z => decide (dist n L t (toF L z) = k)) hf
  have hd := of_decide_eq_true hd0
  rw [e, toF_nat hi] at hd
  exact ⟨i, hi, e, hfr, hd⟩
/-- all of a way's links are links. -/
theorem wayL_in {n : Int} {L : List Lk} (hv : Valid n L) (t : Int) : ∀ k x, 0 ≤ x → x < n → k < 16 → dist n L t x = k → ∀ z ∈ wayL n L t k x, ∃ i, i < L.length ∧ z = (i : Int)
  | 0, x, _, _, _, _, z, hz => by simp [wayL] at hz
  | k + 1, x, h0, h1, hk, h, z, hz => by
    obtain ⟨i, hi, e, hfr, hd⟩ := first_is hv h0 h1 hk h
    simp only [wayL, List.mem_cons] at hz
    have he := hv.ends hi
    rcases hz with rfl | hz
    · exact ⟨i, hi, e⟩
    · rw [e, toF_nat hi] at hz
      exact wayL_in hv t k _ he.2.1 he.2.2 (by omega) hd z hz
/-- of what came so far, the first one of the least. -/
def bst (g : Int → Nat) : List Int → Option Int → Option Int
  | [], o => o
  | z :: l, none => bst g l (some z)
  | z :: l, some b => bst g l (some (if g z < g b then z else b))
theorem bst_snoc (g : Int → Nat) (z : Int) : ∀ (l : List Int) (o : Option Int), bst g (l ++ [z]) o = match bst g l o with
    | none => some z
    | some b => some (if g z < g b then z else b)
  | [], none => rfl
  | [], some b => rfl
  | y :: l, none => bst_snoc g z l (some y)
  | y :: l, some b => bst_snoc g z l _
theorem bst_hit (g : Int → Nat) (k : Nat) : ∀ (l : List Int) (b : Int), g b = k → (∀ z ∈ l, k ≤ g z) → bst g l (some b) = some b
  | [], b, _, _ => rfl
  | z :: l, b, hb, h => by
    have hz := h z (by simp)
    show bst g l (some (if g z < g b then z else b)) = some b
    rw [if_neg (by omega)]
    exact bst_hit g k l b hb (fun y hy => h y (by simp [hy]))
theorem bst_find (g : Int → Nat) (k : Nat) (x : Int) : ∀ (l : List Int) (o : Option Int), (∀ b, o = some b → k < g b) → (∀ z ∈ l, k ≤ g z) → l.find? (fun z => decide (g z = k)) = some x → bst g l o = some x
  | [], o, _, _, h => by simp at h
  | z :: l, o, ho, hl, h => by
    have hz := hl z (by simp)
    by_cases e : g z = k
    · rw [List.find?_cons_of_pos (by simpa using e)] at h
      have hzx : z = x := Option.some.inj h
      rw [← hzx]
      cases o with
      | none => exact bst_hit g k l _ e (fun y hy => hl y (by simp [hy]))
      | some b =>
        have := ho b rfl
        show bst g l (some (if g z < g b then z else b)) = some z
        rw [if_pos (by omega)]
        exact bst_hit g k l _ e (fun y hy => hl y (by simp [hy]))
    · rw [List.find?_cons_of_neg (by simpa using e)] at h
      cases o with
      | none => exact bst_find g k x l (some z) (fun b hb => by cases hb; omega) (fun y hy => hl y (by simp [hy])) h
      | some b =>
        have hb := ho b rfl
        refine bst_find g k x l (some _) (fun c hc => ?_) (fun y hy => hl y (by simp [hy])) h
        cases hc
        split <;> omega
theorem bst_first {n : Int} {L : List Lk} (hv : Valid n L) {t x : Int} (h0 : 0 ≤ x) (h1 : x < n) {k : Nat} (hk : k + 1 < 16) (h : dist n L t x = k + 1) :
    bst (fun z => dist n L t (toF L z)) (outs L x) none = some (firstL n L t x k) :=
  bst_find _ k _ _ none (fun b hb => by cases hb) (near_ge hv h0 h1 (by omega) h) (first_find hv h0 h1 hk h)
end Go.Proofs.YtalhbjmhipiiiaaGreat.Tp
