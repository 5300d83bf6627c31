/- Texts that the claim hangs on, in one. -/
import Derived.Test.YtnjkfpjccedkjaaHpS
import Derived.Test.YtnjkfpjccedkjaaHpR
/- Heaps: each call of the law's, of the heap and of the document's list, in one contract each. -/
namespace Go.Proofs.Ytnjkfpjccedkjaa.Hp
set_option linter.unusedVariables false
open Go.RowKit Go.Maps Go.Sort Go.Proofs.Ytnjkfpjccedkjaa.Tp

def Has (M : List It) (id : Int) : Prop := ∃ x ∈ M, iD x = id
def HPut (M : List It) (T id n d : Int) (M' : List It) (T' er : Int) : Prop :=
  (mayB id n d = false ∧ M' = M ∧ T' = T ∧ er = 2) ∨ (mayB id n d = true ∧ Has M id ∧ M' = M ∧ T' = T ∧ er = 210) ∨ (mayB id n d = true ∧ ¬ Has M id ∧ M' = M ++ [(id, n, d, T + 1)] ∧ T' = T + 1 ∧ er = 0)
def HSet (M : List It) (id n d : Int) (M' : List It) (er : Int) : Prop :=
  (mayB id n d = false ∧ M' = M ∧ er = 2) ∨ (mayB id n d = true ∧ ¬ Has M id ∧ M' = M ∧ er = 5) ∨ (mayB id n d = true ∧ ∃ x ∈ M, iD x = id ∧ M' = M.erase x ++ [keyed x n d] ∧ er = 0)
def HDrop (M : List It) (id : Int) (M' : List It) (er : Int) : Prop :=
  (¬ Has M id ∧ M' = M ∧ er = 5) ∨ (∃ x ∈ M, iD x = id ∧ M' = M.erase x ∧ er = 0)
def HTake (M : List It) (M' : List It) (y : It) (is : Bool) : Prop :=
  (M = [] ∧ M' = [] ∧ y = zI ∧ is = false) ∨ (MinOf M y ∧ M' = M.erase y ∧ is = true)
/-- where an item is laid. -/
def At (G : List It) (x : It) (k : Nat) : Prop := k ≤ G.length ∧ (∀ j, j < k → ¬ Lt x (gI G j)) ∧ (k < G.length → Lt x (gI G k))
def RPut (G : List It) (T id n d : Int) (G' : List It) (T' er : Int) : Prop :=
  (mayB id n d = false ∧ G' = G ∧ T' = T ∧ er = 2) ∨ (mayB id n d = true ∧ Has G id ∧ G' = G ∧ T' = T ∧ er = 210) ∨ (mayB id n d = true ∧ ¬ Has G id ∧ (∃ k, At G (id, n, d, T + 1) k ∧ G' = putA G (id, n, d, T + 1) k) ∧ T' = T + 1 ∧ er = 0)
def RSet (G : List It) (id n d : Int) (G' : List It) (er : Int) : Prop :=
  (mayB id n d = false ∧ G' = G ∧ er = 2) ∨ (mayB id n d = true ∧ ¬ Has G id ∧ G' = G ∧ er = 5) ∨ (mayB id n d = true ∧ (∃ i k, i < G.length ∧ iD (gI G i) = id ∧ At (wo G i) (keyed (gI G i) n d) k ∧ G' = putA (wo G i) (keyed (gI G i) n d) k) ∧ er = 0)
def RDrop (G : List It) (id : Int) (G' : List It) (er : Int) : Prop :=
  (¬ Has G id ∧ G' = G ∧ er = 5) ∨ ((∃ i, i < G.length ∧ iD (gI G i) = id ∧ G' = wo G i) ∧ er = 0)
def RTake (G : List It) (G' : List It) (y : It) (is : Bool) : Prop :=
  (G = [] ∧ G' = [] ∧ y = zI ∧ is = false) ∨ (0 < G.length ∧ y = gI G 0 ∧ G' = wo G 0 ∧ is = true)
theorem posI_neg {G : List It} {id : Int} (h : ¬ Has G id) : posI G id = -1 := by exact if_neg h
theorem posI_pos {G : List It} {id : Int} (h : Has G id) : ∃ i : Nat, i < G.length ∧ iD (gI G i) = id ∧ posI G id = (i : Int) := by
  obtain ⟨x, hx, e⟩ := h
  have hlt : G.findIdx (fun x => decide (iD x = id)) < G.length := List.findIdx_lt_length_of_exists ⟨x, hx, by simp [e]⟩
  refine ⟨_, hlt, ?_, by unfold posI; rw [if_pos ⟨x, hx, e⟩]⟩
  have := List.findIdx_getElem (xs := G) (p := fun x => decide (iD x = id)) (w := hlt)
  rw [gI_at hlt]
  simpa using this
section
variable {R : Nat → Prop} {w : World} {h : Nat} {M : List It} {T : Int}
theorem hr_same (H : HR R w h M T) {w' : World} (hb : Below w.heap.size w w') : HR R w' h M T ∧ Sav R w w' ∧ Nxt R R w := ⟨H.below hb, Sav.of hb, Nxt.refl R w⟩
theorem putH (H : HR R w h M T) {id n d : Int} (h0 : -9223372036854775808 ≤ n) (h1 : n ≤ 9223372036854775807) (h2 : -9223372036854775808 ≤ d) (h3 : d ≤ 9223372036854775807) (hL : M.length < 100000) (hT0 : 0 ≤ T) (hT1 : T < 1000000) :
    Calls Try.prog 22 #[.pointer (some ⟨h, 0, none⟩), .int .i64 id, .agg #[.int .i64 n, .int .i64 d]] w fun e w' => ∃ er R' M' T', e = .returned (.int .i64 er) ∧ HPut M T id n d M' T' er ∧ HR R' w' h M' T' ∧ Sav R w w' ∧ Nxt R R' w := by
  by_cases hb : mayB id n d = true
  · by_cases hi : Has M id
    · exact (putR_twice H h0 h1 h2 h3 hb hi).mono fun e w' ⟨he, hbl⟩ => ⟨_, R, M, T, he, .inr (.inl ⟨hb, hi, rfl, rfl, rfl⟩), hr_same H hbl⟩
    · exact (putR_ok H h0 h1 h2 h3 hb hi hL hT0 hT1).mono fun e w' ⟨he, R', hR, hS, hN⟩ => ⟨_, R', _, _, he, .inr (.inr ⟨hb, hi, rfl, rfl, rfl⟩), hR, hS, hN⟩
  · have hb' : mayB id n d = false := by simpa using hb
    exact (putR_bad H h0 h1 h2 h3 hb').mono fun e w' ⟨he, hbl⟩ => ⟨_, R, M, T, he, .inl ⟨hb', rfl, rfl, rfl⟩, hr_same H hbl⟩
theorem setH (H : HR R w h M T) {id n d : Int} (h0 : -9223372036854775808 ≤ n) (h1 : n ≤ 9223372036854775807) (h2 : -9223372036854775808 ≤ d) (h3 : d ≤ 9223372036854775807) :
    Calls Try.prog 23 #[.pointer (some ⟨h, 0, none⟩), .int .i64 id, .agg #[.int .i64 n, .int .i64 d]] w fun e w' => ∃ er R' M', e = .returned (.int .i64 er) ∧ HSet M id n d M' er ∧ HR R' w' h M' T ∧ Sav R w w' ∧ Nxt R R' w := by
  by_cases hb : mayB id n d = true
  · by_cases hi : Has M id
    · obtain ⟨x, hx, rfl⟩ := hi
      exact (setR_ok H hx h0 h1 h2 h3 ((mayB_iff _ _ _).1 hb).2.2).mono fun e w' ⟨he, R', hR, hS, hN⟩ => ⟨_, R', _, he, .inr (.inr ⟨hb, x, hx, rfl, rfl, rfl⟩), hR, hS, hN⟩
    · exact (setR_none H h0 h1 h2 h3 hb hi).mono fun e w' ⟨he, hbl⟩ => ⟨_, R, M, he, .inr (.inl ⟨hb, hi, rfl, rfl⟩), hr_same H hbl⟩
  · have hb' : mayB id n d = false := by simpa using hb
    exact (setR_bad H h0 h1 h2 h3 hb').mono fun e w' ⟨he, hbl⟩ => ⟨_, R, M, he, .inl ⟨hb', rfl, rfl⟩, hr_same H hbl⟩
theorem dropH (H : HR R w h M T) {id : Int} (i0 : -9223372036854775808 ≤ id) (i1 : id ≤ 9223372036854775807) :
    Calls Try.prog 24 #[.pointer (some ⟨h, 0, none⟩), .int .i64 id] w fun e w' => ∃ er R' M', e = .returned (.int .i64 er) ∧ HDrop M id M' er ∧ HR R' w' h M' T ∧ Sav R w w' ∧ Nxt R R' w := by
  by_cases hi : Has M id
  · obtain ⟨x, hx, rfl⟩ := hi
    exact (dropR_ok H hx).mono fun e w' ⟨he, R', hR, hS, hN⟩ => ⟨_, R', _, he, .inr ⟨x, hx, rfl, rfl, rfl⟩, hR, hS, hN⟩
  · exact (dropR_none H i0 i1 hi).mono fun e w' ⟨he, hw⟩ => ⟨_, R, M, he, .inl ⟨hi, rfl, rfl⟩, hr_same H (hw ▸ Below.refl _ _)⟩
theorem HR.min_ex (H : HR R w h M T) (hM : M ≠ []) : ∃ x, MinOf M x := by
  obtain ⟨ht, mb, v, L, D, q, hH, hR⟩ := H
  have hl : 0 < L.length := by rw [q.length_eq]; exact List.length_pos_iff.2 hM
  exact ⟨_, Hp.min q hH hl⟩
theorem takeH (H : HR R w h M T) :
    Calls Try.prog 16 #[.pointer (some ⟨h, 0, none⟩)] w fun e w' => ∃ y is R' M', e = .returned (.tuple #[agI y, .bool is]) ∧ HTake M M' y is ∧ HR R' w' h M' T ∧ Sav R w w' ∧ Nxt R R' w := by
  by_cases hM : M = []
  · subst hM
    exact (takeR_nil H).mono fun e w' ⟨he, hbl⟩ => ⟨zI, false, R, [], he, .inl ⟨rfl, rfl, rfl, rfl⟩, hr_same H hbl⟩
  · obtain ⟨x, hx⟩ := H.min_ex hM
    exact (takeR H hx).mono fun e w' ⟨he, R', hR, hS, hN⟩ => ⟨x, true, R', _, he, .inr ⟨hx, rfl, rfl⟩, hR, hS, hN⟩
theorem leastH (H : HR R w h M T) :
    Calls Try.prog 15 #[.pointer (some ⟨h, 0, none⟩)] w fun e w' => (∃ y is M', e = .returned (.tuple #[agI y, .bool is]) ∧ HTake M M' y is) ∧ Below w.heap.size w w' := by
  by_cases hM : M = []
  · subst hM
    exact (leastR_nil H).mono fun e w' ⟨he, hbl⟩ => ⟨⟨zI, false, [], he, .inl ⟨rfl, rfl, rfl, rfl⟩⟩, hbl⟩
  · obtain ⟨x, hx⟩ := H.min_ex hM
    exact (leastR H hx).mono fun e w' ⟨he, hbl⟩ => ⟨⟨x, true, _, he, .inr ⟨hx, rfl, rfl⟩⟩, hbl⟩
theorem getH (H : HR R w h M T) {id : Int} (i0 : -9223372036854775808 ≤ id) (i1 : id ≤ 9223372036854775807) :
    Calls Try.prog 12 #[.pointer (some ⟨h, 0, none⟩), .int .i64 id] w fun e w' => (∃ y is, e = .returned (.tuple #[agI y, .bool is]) ∧ ((is = true ∧ y ∈ M ∧ iD y = id) ∨ (is = false ∧ y = zI ∧ ¬ Has M id))) ∧ Below w.heap.size w w' := by
  by_cases hi : Has M id
  · obtain ⟨x, hx, rfl⟩ := hi
    exact (getR H hx).mono fun e w' ⟨he, hbl⟩ => ⟨⟨x, true, he, .inl ⟨rfl, hx, rfl⟩⟩, hbl⟩
  · exact (getR_none H i0 i1 hi).mono fun e w' ⟨he, hbl⟩ => ⟨⟨zI, false, he, .inr ⟨rfl, rfl, hi⟩⟩, hbl⟩
end
/-- what the document's call hands back: an elder list, or a new one. -/
def New (w : World) (v v' : Value) : Prop := ∀ q, v'.ownBlock = some q → v.ownBlock = some q ∨ w.heap.size ≤ q
section
variable {w : World} {v : Value} {G : List It} {T : Int}
theorem new_own {w' : World} {v' : Value} {G' : List It} (hO : OwnL itV 4 w' w.heap.size 37 v' G') : RL w' v' G' ∧ New w v v' := ⟨OwnL.base' hO 0 (Nat.zero_le _), fun q e => .inr (OwnL.lt hO q e).1⟩
theorem putG (H : RL w v G) (hO : OkL G) {id n d : Int} (h0 : -9223372036854775808 ≤ n) (h1 : n ≤ 9223372036854775807) (h2 : -9223372036854775808 ≤ d) (h3 : d ≤ 9223372036854775807) (hL : G.length < 100000) (hT0 : 0 ≤ T) (hT1 : T < 1000000) :
    Calls Try.prog 26 #[.agg #[v, .int .i64 T], .int .i64 id, .agg #[.int .i64 n, .int .i64 d]] w fun e w' => (∃ v' T' er G', e = .returned (.tuple #[.agg #[v', .int .i64 T'], .int .i64 er]) ∧ RPut G T id n d G' T' er ∧ RL w' v' G' ∧ New w v v') ∧ Below w.heap.size w w' := by
  by_cases hb : mayB id n d = true
  · by_cases hi : Has G id
    · obtain ⟨i, hil, _, hp⟩ := posI_pos hi
      exact (rput_twice v G T id n d h0 h1 h2 h3 hb (by omega) (by omega) w H).mono fun e w' ⟨he, hbl⟩ => ⟨⟨v, T, _, G, he, .inr (.inl ⟨hb, hi, rfl, rfl, rfl⟩), H.below hbl, fun q e => .inl e⟩, hbl⟩
    · exact (rput_ok v G T id n d h0 h1 h2 h3 hb (posI_neg hi) hL hT0 hT1 hO w H).mono fun e w' ⟨⟨v', k, a, b, c, he, hO'⟩, hbl⟩ => ⟨⟨v', T + 1, _, _, he, .inr (.inr ⟨hb, hi, ⟨k, ⟨a, b, c⟩, rfl⟩, rfl, rfl⟩), new_own hO'⟩, hbl⟩
  · have hb' : mayB id n d = false := by simpa using hb
    exact (rput_bad v G T id n d h0 h1 h2 h3 hb' w H).mono fun e w' ⟨he, hbl⟩ => ⟨⟨v, T, _, G, he, .inl ⟨hb', rfl, rfl, rfl⟩, H.below hbl, fun q e => .inl e⟩, hbl⟩
theorem setG (H : RL w v G) (hO : OkL G) {id n d : Int} (h0 : -9223372036854775808 ≤ n) (h1 : n ≤ 9223372036854775807) (h2 : -9223372036854775808 ≤ d) (h3 : d ≤ 9223372036854775807) (hL : G.length ≤ 1000000) :
    Calls Try.prog 27 #[.agg #[v, .int .i64 T], .int .i64 id, .agg #[.int .i64 n, .int .i64 d]] w fun e w' => (∃ v' er G', e = .returned (.tuple #[.agg #[v', .int .i64 T], .int .i64 er]) ∧ RSet G id n d G' er ∧ RL w' v' G' ∧ New w v v') ∧ Below w.heap.size w w' := by
  by_cases hb : mayB id n d = true
  · by_cases hi : Has G id
    · obtain ⟨i, hil, hid, hp⟩ := posI_pos hi
      exact (rset_ok v G T id n d h0 h1 h2 h3 hb i hil hp hL hO w H).mono fun e w' ⟨⟨v', k, a, b, c, he, hO'⟩, hbl⟩ => ⟨⟨v', _, _, he, .inr (.inr ⟨hb, ⟨i, k, hil, hid, ⟨a, b, c⟩, rfl⟩, rfl⟩), new_own hO'⟩, hbl⟩
    · exact (rset_none v G T id n d h0 h1 h2 h3 hb (posI_neg hi) hL w H).mono fun e w' ⟨he, hbl⟩ => ⟨⟨v, _, G, he, .inr (.inl ⟨hb, hi, rfl, rfl⟩), H.below hbl, fun q e => .inl e⟩, hbl⟩
  · have hb' : mayB id n d = false := by simpa using hb
    exact (rset_bad v G T id n d h0 h1 h2 h3 hb' hL w H).mono fun e w' ⟨he, hbl⟩ => ⟨⟨v, _, G, he, .inl ⟨hb', rfl, rfl⟩, H.below hbl, fun q e => .inl e⟩, hbl⟩
theorem dropG (H : RL w v G) {id : Int} (hL : G.length ≤ 1000000) :
    Calls Try.prog 28 #[.agg #[v, .int .i64 T], .int .i64 id] w fun e w' => (∃ v' er G', e = .returned (.tuple #[.agg #[v', .int .i64 T], .int .i64 er]) ∧ RDrop G id G' er ∧ RL w' v' G' ∧ New w v v') ∧ Below w.heap.size w w' := by
  by_cases hi : Has G id
  · obtain ⟨i, hil, hid, hp⟩ := posI_pos hi
    exact (rdrop_ok v G T id i hil hp hL w H).mono fun e w' ⟨⟨v', he, hO'⟩, hbl⟩ => ⟨⟨v', _, _, he, .inr ⟨⟨i, hil, hid, rfl⟩, rfl⟩, new_own hO'⟩, hbl⟩
  · exact (rdrop_none v G T id (posI_neg hi) hL w H).mono fun e w' ⟨he, hbl⟩ => ⟨⟨v, _, G, he, .inl ⟨hi, rfl, rfl⟩, H.below hbl, fun q e => .inl e⟩, hbl⟩
theorem takeG (H : RL w v G) (hL : G.length ≤ 1000000) :
    Calls Try.prog 29 #[.agg #[v, .int .i64 T]] w fun e w' => (∃ v' y is G', e = .returned (.tuple #[.agg #[v', .int .i64 T], agI y, .bool is]) ∧ RTake G G' y is ∧ RL w' v' G' ∧ New w v v') ∧ Below w.heap.size w w' := by
  by_cases hG : G = []
  · subst hG
    exact (rtake_nil v T w H).mono fun e w' ⟨he, hbl⟩ => ⟨⟨v, zI, false, [], he, .inl ⟨rfl, rfl, rfl, rfl⟩, H.below hbl, fun q e => .inl e⟩, hbl⟩
  · have hl : 0 < G.length := List.length_pos_iff.2 hG
    exact (rtake_ok v G T hl hL w H).mono fun e w' ⟨⟨v', he, hO'⟩, hbl⟩ => ⟨⟨v', _, true, _, he, .inr ⟨hl, rfl, rfl, rfl⟩, new_own hO'⟩, hbl⟩
end
end Go.Proofs.Ytnjkfpjccedkjaa.Hp

/- Heaps: one call of the law's, of the heap and of the document's list. -/
namespace Go.Proofs.Ytnjkfpjccedkjaa.Hp
set_option linter.unusedVariables false
open Go.RowKit Go.Maps Go.Sort Go.Proofs.Ytnjkfpjccedkjaa.Tp

def Step1 (id n d : Int) (M : List It) (T : Int) (M' : List It) (T' : Int) (G : List It) (TG : Int) (G' : List It) (TG' : Int) (B : Bool) : Prop := ∃ er eg, HPut M T id n d M' T' er ∧ RPut G TG id n d G' TG' eg ∧ B = (er == eg)
def Step2 (id n d : Int) (M : List It) (T : Int) (M' : List It) (T' : Int) (G : List It) (TG : Int) (G' : List It) (TG' : Int) (B : Bool) : Prop := T' = T ∧ TG' = TG ∧ ∃ er eg, HSet M id n d M' er ∧ RSet G id n d G' eg ∧ B = (er == eg)
def Step3 (id : Int) (M : List It) (T : Int) (M' : List It) (T' : Int) (G : List It) (TG : Int) (G' : List It) (TG' : Int) (B : Bool) : Prop := T' = T ∧ TG' = TG ∧ ∃ er eg, HDrop M id M' er ∧ RDrop G id G' eg ∧ B = (er == eg)
def Step4 (M : List It) (T : Int) (M' : List It) (T' : Int) (G : List It) (TG : Int) (G' : List It) (TG' : Int) (B : Bool) : Prop := T' = T ∧ TG' = TG ∧ ∃ y is z it, HTake M M' y is ∧ RTake G G' z it ∧ (B = true ↔ y = z ∧ is = it)
def StepK (kind id n d : Int) (M : List It) (T : Int) (M' : List It) (T' : Int) (G : List It) (TG : Int) (G' : List It) (TG' : Int) (B : Bool) : Prop :=
  (kind = 1 ∧ Step1 id n d M T M' T' G TG G' TG' B) ∨ (kind = 2 ∧ Step2 id n d M T M' T' G TG G' TG' B) ∨ (kind = 3 ∧ Step3 id M T M' T' G TG G' TG' B) ∨ (kind = 4 ∧ Step4 M T M' T' G TG G' TG' B) ∨ (¬ (kind = 1 ∨ kind = 2 ∨ kind = 3 ∨ kind = 4) ∧ M' = M ∧ T' = T ∧ G' = G ∧ TG' = TG ∧ B = true)
/-- what stands behind a call. -/
structure Behind (R : Nat → Prop) (w : World) (h : Nat) (v : Value) (R' : Nat → Prop) (w' : World) (M' : List It) (T' : Int) (v' : Value) (G' : List It) : Prop where
  hr : HR R' w' h M' T'
  rl : RL w' v' G'
  sav : Sav R w w'
  nxt : Nxt R R' w
  new : New w v v'
  sep : ∀ q, v'.ownBlock = some q → ¬ R' q
theorem heap_setb (W : World) (p o : Nat) (v : Value) {k : Nat} (h : k ≠ p) : (W.setCell ⟨p, o, none⟩ v).heap[k]? = W.heap[k]? := Below.heap_setCell _ _ _ _ h
set_option maxRecDepth 100000 in
set_option maxHeartbeats 8000000 in
theorem does_1 {R : Nat → Prop} {w : World} {h : Nat} {M : List It} {T : Int} (H : HR R w h M T) {v : Value} {G : List It} {TG : Int} (HG : RL w v G) (hO : OkL G) (hsep : ∀ q, v.ownBlock = some q → ¬ R q) {id n d : Int} (i0 : -9223372036854775808 ≤ id) (i1 : id ≤ 9223372036854775807) (h0 : -9223372036854775808 ≤ n) (h1 : n ≤ 9223372036854775807) (h2 : -9223372036854775808 ≤ d) (h3 : d ≤ 9223372036854775807)
    (hL : M.length < 100000) (hT0 : 0 ≤ T) (hT1 : T < 1000000) (hLG : G.length < 100000) (hG0 : 0 ≤ TG) (hG1 : TG < 1000000) :
    Calls Try.prog 10 #[.pointer (some ⟨h, 0, none⟩), .agg #[v, .int .i64 TG], .agg #[.int .i64 1, .int .i64 id, .int .i64 n, .int .i64 d]] w fun e w' => ∃ R' M' T' v' G' TG' B, e = .returned (.tuple #[.agg #[v', .int .i64 TG'], .bool B]) ∧ Step1 id n d M T M' T' G TG G' TG' B ∧ Behind R w h v R' w' M' T' v' G' := by
  obtain ⟨A, c, hv, _⟩ := OwnL.lie HG itV_len
  have cG := hidd (fun W H' => putG (w := W) (v := v) (G := G) (T := TG) (id := id) H' hO h0 h1 h2 h3 hLG hG0 hG1)
  have cH := hidd (fun W (H' : HR R W h M T) => putH (id := id) H' h0 h1 h2 h3 hL hT0 hT1)
  have HL := hidd H.lt
  have HH := hidd (fun W (b : Below w.heap.size w W) => H.below b)
  have HHG := hidd (fun W (b : Below w.heap.size w W) => HG.below b)
  have HSEP := hidd hsep
  clear H HG hO hsep hL hLG hT0 hT1 hG0 hG1 i0 i1 h0 h1 h2 h3
  subst hv
  generalize hN : G.length = N at *
  clear hN
  go_enter Try.func10, Try.ntmps10
  go_wp2_with fail
  refine (cG.out _ (HHG.out _ (by (repeat' (first | (with_reducible exact Below.refl _ _) | (with_reducible assumption) | (with_reducible apply Below.setCell) | (with_reducible apply Below.alloc) | (with_reducible apply Below.drew) | (with_reducible apply below_drewN) | (with_reducible refine Below.trans ?_ (Below.mono (by assumption) ?_)) | omega | (simp; done) | (simp; omega)))))).mono ?_
  rintro e w1 ⟨⟨v1, T1, eg, G1, rfl, hstep, hRL, hnew⟩, hb1⟩
  obtain ⟨A1, c1, hv1, _⟩ := OwnL.lie hRL itV_len
  subst hv1
  generalize hl1 : G1.length = N1 at *
  clear hl1
  obtain ⟨bc, bf⟩ := bcell hb1
  have hs := hb1.size
  have l2 : w.heap.size + 1 + 1 < w1.heap.size := by simp at hs; omega
  have l1 : w.heap.size + 1 < w1.heap.size := by omega
  have l0 : w.heap.size < w1.heap.size := by omega
  have e00 : w1.cell? ⟨w.heap.size, 0, none⟩ = some (.slice A N c) := (bc _ _ (by first | (simp; done) | (simp; omega))).trans (by simp [go_sem])
  have e01 : w1.cell? ⟨w.heap.size, 1, none⟩ = some (.int .i64 TG) := (bc _ _ (by first | (simp; done) | (simp; omega))).trans (by simp [go_sem])
  have e0f : ∀ o, w1.frozen? ⟨w.heap.size, o, none⟩ = false := fun o => (bf _ _ (by first | (simp; done) | (simp; omega))).trans (by simp [go_sem])
  have e10 : w1.cell? ⟨w.heap.size + 1, 0, none⟩ = some (.int .i64 1) := (bc _ _ (by first | (simp; done) | (simp; omega))).trans (by simp [go_sem])
  have e11 : w1.cell? ⟨w.heap.size + 1, 1, none⟩ = some (.int .i64 id) := (bc _ _ (by first | (simp; done) | (simp; omega))).trans (by simp [go_sem])
  have e12 : w1.cell? ⟨w.heap.size + 1, 2, none⟩ = some (.int .i64 n) := (bc _ _ (by first | (simp; done) | (simp; omega))).trans (by simp [go_sem])
  have e13 : w1.cell? ⟨w.heap.size + 1, 3, none⟩ = some (.int .i64 d) := (bc _ _ (by first | (simp; done) | (simp; omega))).trans (by simp [go_sem])
  have e20 : w1.cell? ⟨w.heap.size + 1 + 1, 0, none⟩ = some (.slice none 0 0) := (bc _ _ (by first | (simp; done) | (simp; omega))).trans (by simp [go_sem])
  have e21 : w1.cell? ⟨w.heap.size + 1 + 1, 1, none⟩ = some (.int .i64 0) := (bc _ _ (by first | (simp; done) | (simp; omega))).trans (by simp [go_sem])
  have e2f : ∀ o, w1.frozen? ⟨w.heap.size + 1 + 1, o, none⟩ = false := fun o => (bf _ _ (by first | (simp; done) | (simp; omega))).trans (by simp [go_sem])
  have B1 : Hid (Below w.heap.size w w1) := hidd (by (repeat' (first | (with_reducible exact Below.refl _ _) | (with_reducible assumption) | (with_reducible apply Below.setCell) | (with_reducible apply Below.alloc) | (with_reducible apply Below.drew) | (with_reducible apply below_drewN) | (with_reducible refine Below.trans ?_ (Below.mono (by assumption) ?_)) | omega | (simp; done) | (simp; omega))))
  have HRL := hidd hRL
  have HNEW := hidd hnew
  have HSTEP := hidd hstep
  have hbx : Hid (∀ q, (Value.slice A1 N1 c1).ownBlock = some q → q < w1.heap.size ∧ (q < w.heap.size ∨ w.heap.size + 1 + 1 < q)) := hidd (fun q e => ⟨(OwnL.lt hRL q e).2, by
    rcases hnew q e with r | r
    · exact .inl (OwnL.lt (HHG.out w (Below.refl _ _)) q r).2
    · exact .inr (by simp at r; omega)⟩)
  clear bc bf hb1 hs hRL hnew hstep
  go_wp2_with fail
  obtain ⟨W2, hW2⟩ : ∃ W2, (w1.setCell ⟨w.heap.size, 0, none⟩ (.slice A1 N1 c1)).setCell ⟨w.heap.size, 1, none⟩ (.int .i64 T1) = W2 := ⟨_, rfl⟩
  rw [hW2]
  have x00 : W2.cell? ⟨w.heap.size, 0, none⟩ = some (.slice A1 N1 c1) := by rw [← hW2]; rw [set_other _ (by omega)]; exact World.cell?_setCell_same' _ _ _ (by rw [e00]; rfl)
  have x01 : W2.cell? ⟨w.heap.size, 1, none⟩ = some (.int .i64 T1) := by rw [← hW2]; exact World.cell?_setCell_same' _ _ _ (by rw [set_other _ (by omega), e01]; rfl)
  have x20 : W2.cell? ⟨w.heap.size + 1 + 1, 0, none⟩ = some (.slice none 0 0) := by rw [← hW2]; simp [go_sem, e20]
  have x21 : W2.cell? ⟨w.heap.size + 1 + 1, 1, none⟩ = some (.int .i64 0) := by rw [← hW2]; simp [go_sem, e21]
  have x2f : ∀ o, W2.frozen? ⟨w.heap.size + 1 + 1, o, none⟩ = false := fun o => by rw [← hW2, World.frozen?_setCell, World.frozen?_setCell]; exact e2f o
  have B2 : Hid (Below w.heap.size w W2) := hidd (by have b := B1.out; rw [← hW2]; (repeat' (first | (with_reducible exact Below.refl _ _) | (with_reducible assumption) | (with_reducible apply Below.setCell) | (with_reducible apply Below.alloc) | (with_reducible apply Below.drew) | (with_reducible apply below_drewN) | (with_reducible refine Below.trans ?_ (Below.mono (by assumption) ?_)) | omega | (simp; done) | (simp; omega))))
  have hs2 : W2.heap.size = w1.heap.size := by rw [← hW2]; simp [World.setCell]
  have HRL2 : Hid (RL W2 (.slice A1 N1 c1) G1) := hidd (by rw [← hW2]; exact OwnL.to HRL.out (fun q e => by have := hbx.out q e; exact heap_set2 _ _ _ _ _ _ (by omega)))
  have m2 : w.heap.size + 1 + 1 < W2.heap.size := by omega
  have m0 : w.heap.size < W2.heap.size := by omega
  have hbx2 : Hid (∀ q, (Value.slice A1 N1 c1).ownBlock = some q → q < W2.heap.size ∧ (q < w.heap.size ∨ w.heap.size + 1 + 1 < q)) := hidd (fun q e => by have := hbx.out q e; omega)
  clear hW2 hs2 e00 e01 e0f e10 e11 e12 e13 e20 e21 e2f hbx HRL
  refine (cH.out _ (HH.out _ B2.out)).mono ?_
  rintro e w3 ⟨er, R3, M3, T3, rfl, hst, hHR, hS, hN⟩
  have nR : ∀ k, w.heap.size ≤ k → ¬ R k := fun k hk q => by have := HL.out k q; omega
  have y00 := (hS.cell (p := ⟨w.heap.size, 0, none⟩) m0 (nR _ (Nat.le_refl _))).trans x00
  have y01 := (hS.cell (p := ⟨w.heap.size, 1, none⟩) m0 (nR _ (Nat.le_refl _))).trans x01
  have y20 := (hS.cell (p := ⟨w.heap.size + 1 + 1, 0, none⟩) m2 (nR _ (by show w.heap.size ≤ w.heap.size + 1 + 1; omega))).trans x20
  have y21 := (hS.cell (p := ⟨w.heap.size + 1 + 1, 1, none⟩) m2 (nR _ (by show w.heap.size ≤ w.heap.size + 1 + 1; omega))).trans x21
  have y2f := fun o => (World.frozen?_of_block (a := ⟨w.heap.size + 1 + 1, o, none⟩) (hS.block (w.heap.size + 1 + 1) m2 (nR _ (by omega)))).trans (x2f o)
  have hs3 := hS.size
  have q2 : w.heap.size + 1 + 1 < w3.heap.size := by omega
  have q0 : w.heap.size < w3.heap.size := by omega
  have S3 : Hid (Sav R w w3) := hidd ((Sav.of B2.out).tr hS)
  have N3 : Hid (Nxt R R3 w) := hidd (fun k hk e => hN k (by have := B2.out.size; omega) e)
  have SEP : Hid (∀ q, (Value.slice A1 N1 c1).ownBlock = some q → ¬ R3 q) := hidd (fun q e r => by
    have r' := hN q (hbx2.out q e).1 r
    rcases HNEW.out q e with z | z
    · exact HSEP.out q z r'
    · have := HL.out q r'; simp at z; omega)
  have RL3 : Hid (RL w3 (.slice A1 N1 c1) G1) := hidd (OwnL.to HRL2.out (fun q e => hS.block q (hbx2.out q e).1 (fun r => by
    rcases HNEW.out q e with z | z
    · exact HSEP.out q z r
    · have := HL.out q r; simp at z; omega)))
  have HNEW2 : Hid (New w (.slice A N c) (.slice A1 N1 c1)) := hidd (fun q e => by
    rcases HNEW.out q e with z | z
    · exact .inl z
    · exact .inr (by simp at z; omega))
  have NR3 : Hid (R3 (w.heap.size + 1 + 1) → False) := hidd (fun r => nR _ (by omega) (hN _ m2 r))
  have HST := hidd hst
  have HHR := hidd hHR
  clear hS hN hst hHR x00 x01 x20 x21 x2f nR
  go_wp2_with fail
  refine bodyPost_ret (v := .tuple #[.agg #[.slice A1 N1 c1, .int .i64 T1], .bool (er == eg)]) (by simp [results, Try.results10, go_sem, *]) rfl ⟨R3, M3, T3, _, G1, T1, _, rfl, ⟨er, eg, HST.out, HSTEP.out, by first | rfl | simp⟩, ?_⟩
  obtain ⟨W4, hW4⟩ : ∃ W4, (w3.setCell ⟨w.heap.size + 1 + 1, 0, none⟩ (.slice A1 N1 c1)).setCell ⟨w.heap.size + 1 + 1, 1, none⟩ (.int .i64 T1) = W4 := ⟨_, rfl⟩
  have hk : ∀ k, k ≠ w.heap.size + 1 + 1 → W4.heap[k]? = w3.heap[k]? := fun k hk => by rw [← hW4]; exact heap_set2 _ _ _ _ _ _ hk
  have hz : w3.heap.size = W4.heap.size := by rw [← hW4]; simp [World.setCell]
  have BB : Below w.heap.size w3 W4 := by rw [← hW4]; (repeat' (first | (with_reducible exact Below.refl _ _) | (with_reducible assumption) | (with_reducible apply Below.setCell) | (with_reducible apply Below.alloc) | (with_reducible apply Below.drew) | (with_reducible apply below_drewN) | (with_reducible refine Below.trans ?_ (Below.mono (by assumption) ?_)) | omega | (simp; done) | (simp; omega)))
  show Behind R w h _ R3 ((w3.setCell ⟨w.heap.size + 1 + 1, 0, none⟩ (.slice A1 N1 c1)).setCell ⟨w.heap.size + 1 + 1, 1, none⟩ (.int .i64 T1)) M3 T3 _ G1
  rw [hW4]
  refine ⟨HHR.out.keep (fun k hk' => hk k (fun e => ?_)), OwnL.to RL3.out (fun q e => hk q ?_), S3.out.trans (Sav.mk BB.os BB.tape BB.output BB.size (fun k hk' hn => ?_) : Sav (fun k => w.heap.size ≤ k) w3 W4) (fun j hj e => by omega), N3.out, HNEW2.out, SEP.out⟩
  · subst e
    exact NR3.out hk'
  · have := hbx2.out q e; omega
  · exact BB.block k (by omega)
set_option maxRecDepth 100000 in
set_option maxHeartbeats 8000000 in
theorem does_2 {R : Nat → Prop} {w : World} {h : Nat} {M : List It} {T : Int} (H : HR R w h M T) {v : Value} {G : List It} {TG : Int} (HG : RL w v G) (hO : OkL G) (hsep : ∀ q, v.ownBlock = some q → ¬ R q) {id n d : Int} (i0 : -9223372036854775808 ≤ id) (i1 : id ≤ 9223372036854775807) (h0 : -9223372036854775808 ≤ n) (h1 : n ≤ 9223372036854775807) (h2 : -9223372036854775808 ≤ d) (h3 : d ≤ 9223372036854775807)
    (hL : M.length < 100000) (hT0 : 0 ≤ T) (hT1 : T < 1000000) (hLG : G.length < 100000) (hG0 : 0 ≤ TG) (hG1 : TG < 1000000) :
    Calls Try.prog 10 #[.pointer (some ⟨h, 0, none⟩), .agg #[v, .int .i64 TG], .agg #[.int .i64 2, .int .i64 id, .int .i64 n, .int .i64 d]] w fun e w' => ∃ R' M' T' v' G' TG' B, e = .returned (.tuple #[.agg #[v', .int .i64 TG'], .bool B]) ∧ Step2 id n d M T M' T' G TG G' TG' B ∧ Behind R w h v R' w' M' T' v' G' := by
  obtain ⟨A, c, hv, _⟩ := OwnL.lie HG itV_len
  have cG := hidd (fun W H' => setG (w := W) (v := v) (G := G) (T := TG) (id := id) H' hO h0 h1 h2 h3 (by omega))
  have cH := hidd (fun W (H' : HR R W h M T) => setH (id := id) H' h0 h1 h2 h3)
  have HL := hidd H.lt
  have HH := hidd (fun W (b : Below w.heap.size w W) => H.below b)
  have HHG := hidd (fun W (b : Below w.heap.size w W) => HG.below b)
  have HSEP := hidd hsep
  clear H HG hO hsep hL hLG hT0 hT1 hG0 hG1 i0 i1 h0 h1 h2 h3
  subst hv
  generalize hN : G.length = N at *
  clear hN
  go_enter Try.func10, Try.ntmps10
  go_wp2_with fail
  refine (cG.out _ (HHG.out _ (by (repeat' (first | (with_reducible exact Below.refl _ _) | (with_reducible assumption) | (with_reducible apply Below.setCell) | (with_reducible apply Below.alloc) | (with_reducible apply Below.drew) | (with_reducible apply below_drewN) | (with_reducible refine Below.trans ?_ (Below.mono (by assumption) ?_)) | omega | (simp; done) | (simp; omega)))))).mono ?_
  rintro e w1 ⟨⟨v1, eg, G1, rfl, hstep, hRL, hnew⟩, hb1⟩
  obtain ⟨A1, c1, hv1, _⟩ := OwnL.lie hRL itV_len
  subst hv1
  generalize hl1 : G1.length = N1 at *
  clear hl1
  obtain ⟨bc, bf⟩ := bcell hb1
  have hs := hb1.size
  have l2 : w.heap.size + 1 + 1 < w1.heap.size := by simp at hs; omega
  have l1 : w.heap.size + 1 < w1.heap.size := by omega
  have l0 : w.heap.size < w1.heap.size := by omega
  have e00 : w1.cell? ⟨w.heap.size, 0, none⟩ = some (.slice A N c) := (bc _ _ (by first | (simp; done) | (simp; omega))).trans (by simp [go_sem])
  have e01 : w1.cell? ⟨w.heap.size, 1, none⟩ = some (.int .i64 TG) := (bc _ _ (by first | (simp; done) | (simp; omega))).trans (by simp [go_sem])
  have e0f : ∀ o, w1.frozen? ⟨w.heap.size, o, none⟩ = false := fun o => (bf _ _ (by first | (simp; done) | (simp; omega))).trans (by simp [go_sem])
  have e10 : w1.cell? ⟨w.heap.size + 1, 0, none⟩ = some (.int .i64 2) := (bc _ _ (by first | (simp; done) | (simp; omega))).trans (by simp [go_sem])
  have e11 : w1.cell? ⟨w.heap.size + 1, 1, none⟩ = some (.int .i64 id) := (bc _ _ (by first | (simp; done) | (simp; omega))).trans (by simp [go_sem])
  have e12 : w1.cell? ⟨w.heap.size + 1, 2, none⟩ = some (.int .i64 n) := (bc _ _ (by first | (simp; done) | (simp; omega))).trans (by simp [go_sem])
  have e13 : w1.cell? ⟨w.heap.size + 1, 3, none⟩ = some (.int .i64 d) := (bc _ _ (by first | (simp; done) | (simp; omega))).trans (by simp [go_sem])
  have e20 : w1.cell? ⟨w.heap.size + 1 + 1, 0, none⟩ = some (.slice none 0 0) := (bc _ _ (by first | (simp; done) | (simp; omega))).trans (by simp [go_sem])
  have e21 : w1.cell? ⟨w.heap.size + 1 + 1, 1, none⟩ = some (.int .i64 0) := (bc _ _ (by first | (simp; done) | (simp; omega))).trans (by simp [go_sem])
  have e2f : ∀ o, w1.frozen? ⟨w.heap.size + 1 + 1, o, none⟩ = false := fun o => (bf _ _ (by first | (simp; done) | (simp; omega))).trans (by simp [go_sem])
  have B1 : Hid (Below w.heap.size w w1) := hidd (by (repeat' (first | (with_reducible exact Below.refl _ _) | (with_reducible assumption) | (with_reducible apply Below.setCell) | (with_reducible apply Below.alloc) | (with_reducible apply Below.drew) | (with_reducible apply below_drewN) | (with_reducible refine Below.trans ?_ (Below.mono (by assumption) ?_)) | omega | (simp; done) | (simp; omega))))
  have HRL := hidd hRL
  have HNEW := hidd hnew
  have HSTEP := hidd hstep
  have hbx : Hid (∀ q, (Value.slice A1 N1 c1).ownBlock = some q → q < w1.heap.size ∧ (q < w.heap.size ∨ w.heap.size + 1 + 1 < q)) := hidd (fun q e => ⟨(OwnL.lt hRL q e).2, by
    rcases hnew q e with r | r
    · exact .inl (OwnL.lt (HHG.out w (Below.refl _ _)) q r).2
    · exact .inr (by simp at r; omega)⟩)
  clear bc bf hb1 hs hRL hnew hstep
  go_wp2_with fail
  obtain ⟨W2, hW2⟩ : ∃ W2, (w1.setCell ⟨w.heap.size, 0, none⟩ (.slice A1 N1 c1)).setCell ⟨w.heap.size, 1, none⟩ (.int .i64 TG) = W2 := ⟨_, rfl⟩
  rw [hW2]
  have x00 : W2.cell? ⟨w.heap.size, 0, none⟩ = some (.slice A1 N1 c1) := by rw [← hW2]; rw [set_other _ (by omega)]; exact World.cell?_setCell_same' _ _ _ (by rw [e00]; rfl)
  have x01 : W2.cell? ⟨w.heap.size, 1, none⟩ = some (.int .i64 TG) := by rw [← hW2]; exact World.cell?_setCell_same' _ _ _ (by rw [set_other _ (by omega), e01]; rfl)
  have x20 : W2.cell? ⟨w.heap.size + 1 + 1, 0, none⟩ = some (.slice none 0 0) := by rw [← hW2]; simp [go_sem, e20]
  have x21 : W2.cell? ⟨w.heap.size + 1 + 1, 1, none⟩ = some (.int .i64 0) := by rw [← hW2]; simp [go_sem, e21]
  have x2f : ∀ o, W2.frozen? ⟨w.heap.size + 1 + 1, o, none⟩ = false := fun o => by rw [← hW2, World.frozen?_setCell, World.frozen?_setCell]; exact e2f o
  have B2 : Hid (Below w.heap.size w W2) := hidd (by have b := B1.out; rw [← hW2]; (repeat' (first | (with_reducible exact Below.refl _ _) | (with_reducible assumption) | (with_reducible apply Below.setCell) | (with_reducible apply Below.alloc) | (with_reducible apply Below.drew) | (with_reducible apply below_drewN) | (with_reducible refine Below.trans ?_ (Below.mono (by assumption) ?_)) | omega | (simp; done) | (simp; omega))))
  have hs2 : W2.heap.size = w1.heap.size := by rw [← hW2]; simp [World.setCell]
  have HRL2 : Hid (RL W2 (.slice A1 N1 c1) G1) := hidd (by rw [← hW2]; exact OwnL.to HRL.out (fun q e => by have := hbx.out q e; exact heap_set2 _ _ _ _ _ _ (by omega)))
  have m2 : w.heap.size + 1 + 1 < W2.heap.size := by omega
  have m0 : w.heap.size < W2.heap.size := by omega
  have hbx2 : Hid (∀ q, (Value.slice A1 N1 c1).ownBlock = some q → q < W2.heap.size ∧ (q < w.heap.size ∨ w.heap.size + 1 + 1 < q)) := hidd (fun q e => by have := hbx.out q e; omega)
  clear hW2 hs2 e00 e01 e0f e10 e11 e12 e13 e20 e21 e2f hbx HRL
  refine (cH.out _ (HH.out _ B2.out)).mono ?_
  rintro e w3 ⟨er, R3, M3, rfl, hst, hHR, hS, hN⟩
  have nR : ∀ k, w.heap.size ≤ k → ¬ R k := fun k hk q => by have := HL.out k q; omega
  have y00 := (hS.cell (p := ⟨w.heap.size, 0, none⟩) m0 (nR _ (Nat.le_refl _))).trans x00
  have y01 := (hS.cell (p := ⟨w.heap.size, 1, none⟩) m0 (nR _ (Nat.le_refl _))).trans x01
  have y20 := (hS.cell (p := ⟨w.heap.size + 1 + 1, 0, none⟩) m2 (nR _ (by show w.heap.size ≤ w.heap.size + 1 + 1; omega))).trans x20
  have y21 := (hS.cell (p := ⟨w.heap.size + 1 + 1, 1, none⟩) m2 (nR _ (by show w.heap.size ≤ w.heap.size + 1 + 1; omega))).trans x21
  have y2f := fun o => (World.frozen?_of_block (a := ⟨w.heap.size + 1 + 1, o, none⟩) (hS.block (w.heap.size + 1 + 1) m2 (nR _ (by omega)))).trans (x2f o)
  have hs3 := hS.size
  have q2 : w.heap.size + 1 + 1 < w3.heap.size := by omega
  have q0 : w.heap.size < w3.heap.size := by omega
  have S3 : Hid (Sav R w w3) := hidd ((Sav.of B2.out).tr hS)
  have N3 : Hid (Nxt R R3 w) := hidd (fun k hk e => hN k (by have := B2.out.size; omega) e)
  have SEP : Hid (∀ q, (Value.slice A1 N1 c1).ownBlock = some q → ¬ R3 q) := hidd (fun q e r => by
    have r' := hN q (hbx2.out q e).1 r
    rcases HNEW.out q e with z | z
    · exact HSEP.out q z r'
    · have := HL.out q r'; simp at z; omega)
  have RL3 : Hid (RL w3 (.slice A1 N1 c1) G1) := hidd (OwnL.to HRL2.out (fun q e => hS.block q (hbx2.out q e).1 (fun r => by
    rcases HNEW.out q e with z | z
    · exact HSEP.out q z r
    · have := HL.out q r; simp at z; omega)))
  have HNEW2 : Hid (New w (.slice A N c) (.slice A1 N1 c1)) := hidd (fun q e => by
    rcases HNEW.out q e with z | z
    · exact .inl z
    · exact .inr (by simp at z; omega))
  have NR3 : Hid (R3 (w.heap.size + 1 + 1) → False) := hidd (fun r => nR _ (by omega) (hN _ m2 r))
  have HST := hidd hst
  have HHR := hidd hHR
  clear hS hN hst hHR x00 x01 x20 x21 x2f nR
  go_wp2_with fail
  refine bodyPost_ret (v := .tuple #[.agg #[.slice A1 N1 c1, .int .i64 TG], .bool (er == eg)]) (by simp [results, Try.results10, go_sem, *]) rfl ⟨R3, M3, T, _, G1, TG, _, rfl, ⟨rfl, rfl, er, eg, HST.out, HSTEP.out, by first | rfl | simp⟩, ?_⟩
  obtain ⟨W4, hW4⟩ : ∃ W4, (w3.setCell ⟨w.heap.size + 1 + 1, 0, none⟩ (.slice A1 N1 c1)).setCell ⟨w.heap.size + 1 + 1, 1, none⟩ (.int .i64 TG) = W4 := ⟨_, rfl⟩
  have hk : ∀ k, k ≠ w.heap.size + 1 + 1 → W4.heap[k]? = w3.heap[k]? := fun k hk => by rw [← hW4]; exact heap_set2 _ _ _ _ _ _ hk
  have hz : w3.heap.size = W4.heap.size := by rw [← hW4]; simp [World.setCell]
  have BB : Below w.heap.size w3 W4 := by rw [← hW4]; (repeat' (first | (with_reducible exact Below.refl _ _) | (with_reducible assumption) | (with_reducible apply Below.setCell) | (with_reducible apply Below.alloc) | (with_reducible apply Below.drew) | (with_reducible apply below_drewN) | (with_reducible refine Below.trans ?_ (Below.mono (by assumption) ?_)) | omega | (simp; done) | (simp; omega)))
  show Behind R w h _ R3 ((w3.setCell ⟨w.heap.size + 1 + 1, 0, none⟩ (.slice A1 N1 c1)).setCell ⟨w.heap.size + 1 + 1, 1, none⟩ (.int .i64 TG)) M3 T _ G1
  rw [hW4]
  refine ⟨HHR.out.keep (fun k hk' => hk k (fun e => ?_)), OwnL.to RL3.out (fun q e => hk q ?_), S3.out.trans (Sav.mk BB.os BB.tape BB.output BB.size (fun k hk' hn => ?_) : Sav (fun k => w.heap.size ≤ k) w3 W4) (fun j hj e => by omega), N3.out, HNEW2.out, SEP.out⟩
  · subst e
    exact NR3.out hk'
  · have := hbx2.out q e; omega
  · exact BB.block k (by omega)
set_option maxRecDepth 100000 in
set_option maxHeartbeats 8000000 in
theorem does_3 {R : Nat → Prop} {w : World} {h : Nat} {M : List It} {T : Int} (H : HR R w h M T) {v : Value} {G : List It} {TG : Int} (HG : RL w v G) (hO : OkL G) (hsep : ∀ q, v.ownBlock = some q → ¬ R q) {id n d : Int} (i0 : -9223372036854775808 ≤ id) (i1 : id ≤ 9223372036854775807) (h0 : -9223372036854775808 ≤ n) (h1 : n ≤ 9223372036854775807) (h2 : -9223372036854775808 ≤ d) (h3 : d ≤ 9223372036854775807)
    (hL : M.length < 100000) (hT0 : 0 ≤ T) (hT1 : T < 1000000) (hLG : G.length < 100000) (hG0 : 0 ≤ TG) (hG1 : TG < 1000000) :
    Calls Try.prog 10 #[.pointer (some ⟨h, 0, none⟩), .agg #[v, .int .i64 TG], .agg #[.int .i64 3, .int .i64 id, .int .i64 n, .int .i64 d]] w fun e w' => ∃ R' M' T' v' G' TG' B, e = .returned (.tuple #[.agg #[v', .int .i64 TG'], .bool B]) ∧ Step3 id M T M' T' G TG G' TG' B ∧ Behind R w h v R' w' M' T' v' G' := by
  obtain ⟨A, c, hv, _⟩ := OwnL.lie HG itV_len
  have cG := hidd (fun W H' => dropG (w := W) (v := v) (G := G) (T := TG) (id := id) H' (by omega))
  have cH := hidd (fun W (H' : HR R W h M T) => dropH H' i0 i1)
  have HL := hidd H.lt
  have HH := hidd (fun W (b : Below w.heap.size w W) => H.below b)
  have HHG := hidd (fun W (b : Below w.heap.size w W) => HG.below b)
  have HSEP := hidd hsep
  clear H HG hO hsep hL hLG hT0 hT1 hG0 hG1 i0 i1 h0 h1 h2 h3
  subst hv
  generalize hN : G.length = N at *
  clear hN
  go_enter Try.func10, Try.ntmps10
  go_wp2_with fail
  refine (cG.out _ (HHG.out _ (by (repeat' (first | (with_reducible exact Below.refl _ _) | (with_reducible assumption) | (with_reducible apply Below.setCell) | (with_reducible apply Below.alloc) | (with_reducible apply Below.drew) | (with_reducible apply below_drewN) | (with_reducible refine Below.trans ?_ (Below.mono (by assumption) ?_)) | omega | (simp; done) | (simp; omega)))))).mono ?_
  rintro e w1 ⟨⟨v1, eg, G1, rfl, hstep, hRL, hnew⟩, hb1⟩
  obtain ⟨A1, c1, hv1, _⟩ := OwnL.lie hRL itV_len
  subst hv1
  generalize hl1 : G1.length = N1 at *
  clear hl1
  obtain ⟨bc, bf⟩ := bcell hb1
  have hs := hb1.size
  have l2 : w.heap.size + 1 + 1 < w1.heap.size := by simp at hs; omega
  have l1 : w.heap.size + 1 < w1.heap.size := by omega
  have l0 : w.heap.size < w1.heap.size := by omega
  have e00 : w1.cell? ⟨w.heap.size, 0, none⟩ = some (.slice A N c) := (bc _ _ (by first | (simp; done) | (simp; omega))).trans (by simp [go_sem])
  have e01 : w1.cell? ⟨w.heap.size, 1, none⟩ = some (.int .i64 TG) := (bc _ _ (by first | (simp; done) | (simp; omega))).trans (by simp [go_sem])
  have e0f : ∀ o, w1.frozen? ⟨w.heap.size, o, none⟩ = false := fun o => (bf _ _ (by first | (simp; done) | (simp; omega))).trans (by simp [go_sem])
  have e10 : w1.cell? ⟨w.heap.size + 1, 0, none⟩ = some (.int .i64 3) := (bc _ _ (by first | (simp; done) | (simp; omega))).trans (by simp [go_sem])
  have e11 : w1.cell? ⟨w.heap.size + 1, 1, none⟩ = some (.int .i64 id) := (bc _ _ (by first | (simp; done) | (simp; omega))).trans (by simp [go_sem])
  have e12 : w1.cell? ⟨w.heap.size + 1, 2, none⟩ = some (.int .i64 n) := (bc _ _ (by first | (simp; done) | (simp; omega))).trans (by simp [go_sem])
  have e13 : w1.cell? ⟨w.heap.size + 1, 3, none⟩ = some (.int .i64 d) := (bc _ _ (by first | (simp; done) | (simp; omega))).trans (by simp [go_sem])
  have e20 : w1.cell? ⟨w.heap.size + 1 + 1, 0, none⟩ = some (.slice none 0 0) := (bc _ _ (by first | (simp; done) | (simp; omega))).trans (by simp [go_sem])
  have e21 : w1.cell? ⟨w.heap.size + 1 + 1, 1, none⟩ = some (.int .i64 0) := (bc _ _ (by first | (simp; done) | (simp; omega))).trans (by simp [go_sem])
  have e2f : ∀ o, w1.frozen? ⟨w.heap.size + 1 + 1, o, none⟩ = false := fun o => (bf _ _ (by first | (simp; done) | (simp; omega))).trans (by simp [go_sem])
  have B1 : Hid (Below w.heap.size w w1) := hidd (by (repeat' (first | (with_reducible exact Below.refl _ _) | (with_reducible assumption) | (with_reducible apply Below.setCell) | (with_reducible apply Below.alloc) | (with_reducible apply Below.drew) | (with_reducible apply below_drewN) | (with_reducible refine Below.trans ?_ (Below.mono (by assumption) ?_)) | omega | (simp; done) | (simp; omega))))
  have HRL := hidd hRL
  have HNEW := hidd hnew
  have HSTEP := hidd hstep
  have hbx : Hid (∀ q, (Value.slice A1 N1 c1).ownBlock = some q → q < w1.heap.size ∧ (q < w.heap.size ∨ w.heap.size + 1 + 1 < q)) := hidd (fun q e => ⟨(OwnL.lt hRL q e).2, by
    rcases hnew q e with r | r
    · exact .inl (OwnL.lt (HHG.out w (Below.refl _ _)) q r).2
    · exact .inr (by simp at r; omega)⟩)
  clear bc bf hb1 hs hRL hnew hstep
  go_wp2_with fail
  obtain ⟨W2, hW2⟩ : ∃ W2, (w1.setCell ⟨w.heap.size, 0, none⟩ (.slice A1 N1 c1)).setCell ⟨w.heap.size, 1, none⟩ (.int .i64 TG) = W2 := ⟨_, rfl⟩
  rw [hW2]
  have x00 : W2.cell? ⟨w.heap.size, 0, none⟩ = some (.slice A1 N1 c1) := by rw [← hW2]; rw [set_other _ (by omega)]; exact World.cell?_setCell_same' _ _ _ (by rw [e00]; rfl)
  have x01 : W2.cell? ⟨w.heap.size, 1, none⟩ = some (.int .i64 TG) := by rw [← hW2]; exact World.cell?_setCell_same' _ _ _ (by rw [set_other _ (by omega), e01]; rfl)
  have x20 : W2.cell? ⟨w.heap.size + 1 + 1, 0, none⟩ = some (.slice none 0 0) := by rw [← hW2]; simp [go_sem, e20]
  have x21 : W2.cell? ⟨w.heap.size + 1 + 1, 1, none⟩ = some (.int .i64 0) := by rw [← hW2]; simp [go_sem, e21]
  have x2f : ∀ o, W2.frozen? ⟨w.heap.size + 1 + 1, o, none⟩ = false := fun o => by rw [← hW2, World.frozen?_setCell, World.frozen?_setCell]; exact e2f o
  have B2 : Hid (Below w.heap.size w W2) := hidd (by have b := B1.out; rw [← hW2]; (repeat' (first | (with_reducible exact Below.refl _ _) | (with_reducible assumption) | (with_reducible apply Below.setCell) | (with_reducible apply Below.alloc) | (with_reducible apply Below.drew) | (with_reducible apply below_drewN) | (with_reducible refine Below.trans ?_ (Below.mono (by assumption) ?_)) | omega | (simp; done) | (simp; omega))))
  have hs2 : W2.heap.size = w1.heap.size := by rw [← hW2]; simp [World.setCell]
  have HRL2 : Hid (RL W2 (.slice A1 N1 c1) G1) := hidd (by rw [← hW2]; exact OwnL.to HRL.out (fun q e => by have := hbx.out q e; exact heap_set2 _ _ _ _ _ _ (by omega)))
  have m2 : w.heap.size + 1 + 1 < W2.heap.size := by omega
  have m0 : w.heap.size < W2.heap.size := by omega
  have hbx2 : Hid (∀ q, (Value.slice A1 N1 c1).ownBlock = some q → q < W2.heap.size ∧ (q < w.heap.size ∨ w.heap.size + 1 + 1 < q)) := hidd (fun q e => by have := hbx.out q e; omega)
  clear hW2 hs2 e00 e01 e0f e10 e11 e12 e13 e20 e21 e2f hbx HRL
  refine (cH.out _ (HH.out _ B2.out)).mono ?_
  rintro e w3 ⟨er, R3, M3, rfl, hst, hHR, hS, hN⟩
  have nR : ∀ k, w.heap.size ≤ k → ¬ R k := fun k hk q => by have := HL.out k q; omega
  have y00 := (hS.cell (p := ⟨w.heap.size, 0, none⟩) m0 (nR _ (Nat.le_refl _))).trans x00
  have y01 := (hS.cell (p := ⟨w.heap.size, 1, none⟩) m0 (nR _ (Nat.le_refl _))).trans x01
  have y20 := (hS.cell (p := ⟨w.heap.size + 1 + 1, 0, none⟩) m2 (nR _ (by show w.heap.size ≤ w.heap.size + 1 + 1; omega))).trans x20
  have y21 := (hS.cell (p := ⟨w.heap.size + 1 + 1, 1, none⟩) m2 (nR _ (by show w.heap.size ≤ w.heap.size + 1 + 1; omega))).trans x21
  have y2f := fun o => (World.frozen?_of_block (a := ⟨w.heap.size + 1 + 1, o, none⟩) (hS.block (w.heap.size + 1 + 1) m2 (nR _ (by omega)))).trans (x2f o)
  have hs3 := hS.size
  have q2 : w.heap.size + 1 + 1 < w3.heap.size := by omega
  have q0 : w.heap.size < w3.heap.size := by omega
  have S3 : Hid (Sav R w w3) := hidd ((Sav.of B2.out).tr hS)
  have N3 : Hid (Nxt R R3 w) := hidd (fun k hk e => hN k (by have := B2.out.size; omega) e)
  have SEP : Hid (∀ q, (Value.slice A1 N1 c1).ownBlock = some q → ¬ R3 q) := hidd (fun q e r => by
    have r' := hN q (hbx2.out q e).1 r
    rcases HNEW.out q e with z | z
    · exact HSEP.out q z r'
    · have := HL.out q r'; simp at z; omega)
  have RL3 : Hid (RL w3 (.slice A1 N1 c1) G1) := hidd (OwnL.to HRL2.out (fun q e => hS.block q (hbx2.out q e).1 (fun r => by
    rcases HNEW.out q e with z | z
    · exact HSEP.out q z r
    · have := HL.out q r; simp at z; omega)))
  have HNEW2 : Hid (New w (.slice A N c) (.slice A1 N1 c1)) := hidd (fun q e => by
    rcases HNEW.out q e with z | z
    · exact .inl z
    · exact .inr (by simp at z; omega))
  have NR3 : Hid (R3 (w.heap.size + 1 + 1) → False) := hidd (fun r => nR _ (by omega) (hN _ m2 r))
  have HST := hidd hst
  have HHR := hidd hHR
  clear hS hN hst hHR x00 x01 x20 x21 x2f nR
  go_wp2_with fail
  refine bodyPost_ret (v := .tuple #[.agg #[.slice A1 N1 c1, .int .i64 TG], .bool (er == eg)]) (by simp [results, Try.results10, go_sem, *]) rfl ⟨R3, M3, T, _, G1, TG, _, rfl, ⟨rfl, rfl, er, eg, HST.out, HSTEP.out, by first | rfl | simp⟩, ?_⟩
  obtain ⟨W4, hW4⟩ : ∃ W4, (w3.setCell ⟨w.heap.size + 1 + 1, 0, none⟩ (.slice A1 N1 c1)).setCell ⟨w.heap.size + 1 + 1, 1, none⟩ (.int .i64 TG) = W4 := ⟨_, rfl⟩
  have hk : ∀ k, k ≠ w.heap.size + 1 + 1 → W4.heap[k]? = w3.heap[k]? := fun k hk => by rw [← hW4]; exact heap_set2 _ _ _ _ _ _ hk
  have hz : w3.heap.size = W4.heap.size := by rw [← hW4]; simp [World.setCell]
  have BB : Below w.heap.size w3 W4 := by rw [← hW4]; (repeat' (first | (with_reducible exact Below.refl _ _) | (with_reducible assumption) | (with_reducible apply Below.setCell) | (with_reducible apply Below.alloc) | (with_reducible apply Below.drew) | (with_reducible apply below_drewN) | (with_reducible refine Below.trans ?_ (Below.mono (by assumption) ?_)) | omega | (simp; done) | (simp; omega)))
  show Behind R w h _ R3 ((w3.setCell ⟨w.heap.size + 1 + 1, 0, none⟩ (.slice A1 N1 c1)).setCell ⟨w.heap.size + 1 + 1, 1, none⟩ (.int .i64 TG)) M3 T _ G1
  rw [hW4]
  refine ⟨HHR.out.keep (fun k hk' => hk k (fun e => ?_)), OwnL.to RL3.out (fun q e => hk q ?_), S3.out.trans (Sav.mk BB.os BB.tape BB.output BB.size (fun k hk' hn => ?_) : Sav (fun k => w.heap.size ≤ k) w3 W4) (fun j hj e => by omega), N3.out, HNEW2.out, SEP.out⟩
  · subst e
    exact NR3.out hk'
  · have := hbx2.out q e; omega
  · exact BB.block k (by omega)
end Go.Proofs.Ytnjkfpjccedkjaa.Hp

/- Heaps: one call of the law's: Take, and what is no call. -/
namespace Go.Proofs.Ytnjkfpjccedkjaa.Hp
set_option linter.unusedVariables false
open Go.RowKit Go.Maps Go.Sort Go.Proofs.Ytnjkfpjccedkjaa.Tp

/-- are two items the same. -/
def eqB (x y : It) : Bool := iD x == iD y && kN x == kN y && kD x == kD y && tN x == tN y
theorem eqB_iff {x y : It} : eqB x y = true ↔ x = y := by
  unfold eqB iD kN kD tN
  constructor
  · intro h
    simp at h
    exact Prod.ext h.1.1.1 (Prod.ext h.1.1.2 (Prod.ext h.1.2 h.2))
  · rintro rfl; simp
theorem item_run (a0 a1 a2 a3 b0 b1 b2 b3 : Int) (w : World) :
    (Op.equalIn 10000 37 (.agg #[.int .i64 a0, .int .i64 a1, .int .i64 a2, .int .i64 a3]) (.agg #[.int .i64 b0, .int .i64 b1, .int .i64 b2, .int .i64 b3])).run Try.prog w = .ok (eqB (a0, a1, a2, a3) (b0, b1, b2, b3)) w := by
  unfold eqB iD kN kD tN
  by_cases h0 : a0 = b0 <;> by_cases h1 : a1 = b1 <;> by_cases h2 : a2 = b2 <;> by_cases h3 : a3 = b3 <;> simp [go_sem, Op.eqFields, *]
theorem item_bin (a0 a1 a2 a3 b0 b1 b2 b3 : Int) (w : World) :
    (binOp .eql 37 (.agg #[.int .i64 a0, .int .i64 a1, .int .i64 a2, .int .i64 a3]) (.agg #[.int .i64 b0, .int .i64 b1, .int .i64 b2, .int .i64 b3])).run Try.prog w = .ok (.bool (eqB (a0, a1, a2, a3) (b0, b1, b2, b3))) w := by
  rw [run_eql_struct, item_run]; rfl
set_option maxRecDepth 100000 in
set_option maxHeartbeats 8000000 in
theorem does_other {R : Nat → Prop} {w : World} {h : Nat} {M : List It} {T : Int} (H : HR R w h M T) {v : Value} {G : List It} {TG : Int} (HG : RL w v G) (hO : OkL G) (hsep : ∀ q, v.ownBlock = some q → ¬ R q) {id n d : Int} (i0 : -9223372036854775808 ≤ id) (i1 : id ≤ 9223372036854775807) (h0 : -9223372036854775808 ≤ n) (h1 : n ≤ 9223372036854775807) (h2 : -9223372036854775808 ≤ d) (h3 : d ≤ 9223372036854775807)
    (hL : M.length < 100000) (hT0 : 0 ≤ T) (hT1 : T < 1000000) (hLG : G.length < 100000) (hG0 : 0 ≤ TG) (hG1 : TG < 1000000) (kind : Int) (hk : ¬ (kind = 1 ∨ kind = 2 ∨ kind = 3 ∨ kind = 4)) :
    Calls Try.prog 10 #[.pointer (some ⟨h, 0, none⟩), .agg #[v, .int .i64 TG], .agg #[.int .i64 kind, .int .i64 id, .int .i64 n, .int .i64 d]] w fun e w' => e = .returned (.tuple #[.agg #[v, .int .i64 TG], .bool true]) ∧ Below w.heap.size w w' := by
  obtain ⟨A, c, hv, _⟩ := OwnL.lie HG itV_len
  subst hv
  have k1 : ¬ kind = 1 := fun e => hk (.inl e)
  have k2 : ¬ kind = 2 := fun e => hk (.inr (.inl e))
  have k3 : ¬ kind = 3 := fun e => hk (.inr (.inr (.inl e)))
  have k4 : ¬ kind = 4 := fun e => hk (.inr (.inr (.inr e)))
  clear H HG hO hsep hL hLG hT0 hT1 hG0 hG1 i0 i1 h0 h1 h2 h3 hk
  generalize hN : G.length = N at *
  clear hN
  go_enter Try.func10, Try.ntmps10
  go_wp2_with fail
  exact bodyPost_ret (v := .tuple #[.agg #[.slice A N c, .int .i64 TG], .bool true]) (by simp [results, Try.results10, go_sem, *]) rfl ⟨rfl, by (repeat' (first | (with_reducible exact Below.refl _ _) | (with_reducible assumption) | (with_reducible apply Below.setCell) | (with_reducible apply Below.alloc) | (with_reducible apply Below.drew) | (with_reducible apply below_drewN) | (with_reducible refine Below.trans ?_ (Below.mono (by assumption) ?_)) | omega | (simp; done) | (simp; omega)))⟩
def P4 (R : Nat → Prop) (w : World) (h : Nat) (M : List It) (T : Int) (G : List It) (TG : Int) (v : Value) (e : Ending) (w' : World) : Prop := ∃ R' M' T' v' G' TG' B, e = .returned (.tuple #[.agg #[v', .int .i64 TG'], .bool B]) ∧ Step4 M T M' T' G TG G' TG' B ∧ Behind R w h v R' w' M' T' v' G'
set_option maxRecDepth 100000 in
set_option maxHeartbeats 8000000 in
theorem does_4' {R : Nat → Prop} {w : World} {h : Nat} {M : List It} {T : Int} (H : HR R w h M T) {v : Value} {G : List It} {TG : Int} (HG : RL w v G) (hO : OkL G) (hsep : ∀ q, v.ownBlock = some q → ¬ R q) {id n d : Int} (i0 : -9223372036854775808 ≤ id) (i1 : id ≤ 9223372036854775807) (h0 : -9223372036854775808 ≤ n) (h1 : n ≤ 9223372036854775807) (h2 : -9223372036854775808 ≤ d) (h3 : d ≤ 9223372036854775807)
    (hL : M.length < 100000) (hT0 : 0 ≤ T) (hT1 : T < 1000000) (hLG : G.length < 100000) (hG0 : 0 ≤ TG) (hG1 : TG < 1000000) :
    Calls Try.prog 10 #[.pointer (some ⟨h, 0, none⟩), .agg #[v, .int .i64 TG], .agg #[.int .i64 4, .int .i64 id, .int .i64 n, .int .i64 d]] w fun e w' => P4 R w h M T G TG v e w' := by
  obtain ⟨A, c, hv, _⟩ := OwnL.lie HG itV_len
  have cG := hidd (fun W H' => takeG (w := W) (v := v) (G := G) (T := TG) H' (by omega))
  have cH := hidd (fun W (H' : HR R W h M T) => takeH H')
  have HL := hidd H.lt
  have HH := hidd (fun W (b : Below w.heap.size w W) => H.below b)
  have HHG := hidd (fun W (b : Below w.heap.size w W) => HG.below b)
  have HSEP := hidd hsep
  have HLV := hidd (OwnL.lt HG)
  clear H HG hO hsep hL hLG hT0 hT1 hG0 hG1 i0 i1 h0 h1 h2 h3
  subst hv
  generalize hN : G.length = N at *
  clear hN
  go_enter Try.func10, Try.ntmps10
  go_wp2_with fail
  obtain ⟨W0, hW0⟩ : ∃ W0, ((w.alloc (.cells #[.slice A N c, .int .i64 TG] 28)).alloc (.cells #[.int .i64 4, .int .i64 id, .int .i64 n, .int .i64 d] 34)).alloc (.cells #[.slice none 0 0, .int .i64 0] 28) = W0 := ⟨_, rfl⟩
  rw [hW0]
  have e00 : W0.cell? ⟨w.heap.size, 0, none⟩ = some (.slice A N c) := by rw [← hW0]; simp [go_sem]
  have e01 : W0.cell? ⟨w.heap.size, 1, none⟩ = some (.int .i64 TG) := by rw [← hW0]; simp [go_sem]
  have e20 : W0.cell? ⟨w.heap.size + 1 + 1, 0, none⟩ = some (.slice none 0 0) := by rw [← hW0]; simp [go_sem]
  have e21 : W0.cell? ⟨w.heap.size + 1 + 1, 1, none⟩ = some (.int .i64 0) := by rw [← hW0]; simp [go_sem]
  have e2f : ∀ o, W0.frozen? ⟨w.heap.size + 1 + 1, o, none⟩ = false := fun o => by rw [← hW0]; simp [go_sem]
  have m2 : w.heap.size + 1 + 1 < W0.heap.size := by rw [← hW0]; simp
  have m0 : w.heap.size < W0.heap.size := by omega
  have B0 : Hid (Below w.heap.size w W0) := hidd (by rw [← hW0]; (repeat' (first | (with_reducible exact Below.refl _ _) | (with_reducible assumption) | (with_reducible apply Below.setCell) | (with_reducible apply Below.alloc) | (with_reducible apply Below.drew) | (with_reducible apply below_drewN) | (with_reducible refine Below.trans ?_ (Below.mono (by assumption) ?_)) | omega | (simp; done) | (simp; omega))))
  clear hW0
  refine (cH.out _ (HH.out _ B0.out)).mono ?_
  rintro e w1 ⟨y, is, R3, M3, rfl, hst, hHR, hS, hN⟩
  have nR : ∀ k, w.heap.size ≤ k → ¬ R k := fun k hk q => by have := HL.out k q; omega
  have y00 := (hS.cell (p := ⟨w.heap.size, 0, none⟩) m0 (nR _ (Nat.le_refl _))).trans e00
  have y01 := (hS.cell (p := ⟨w.heap.size, 1, none⟩) m0 (nR _ (Nat.le_refl _))).trans e01
  have y20 := (hS.cell (p := ⟨w.heap.size + 1 + 1, 0, none⟩) m2 (nR _ (by show w.heap.size ≤ w.heap.size + 1 + 1; omega))).trans e20
  have y21 := (hS.cell (p := ⟨w.heap.size + 1 + 1, 1, none⟩) m2 (nR _ (by show w.heap.size ≤ w.heap.size + 1 + 1; omega))).trans e21
  have y2f := fun o => (World.frozen?_of_block (a := ⟨w.heap.size + 1 + 1, o, none⟩) (hS.block (w.heap.size + 1 + 1) m2 (nR _ (by omega)))).trans (e2f o)
  have q2 : w.heap.size + 1 + 1 < w1.heap.size := by have := hS.size; omega
  have q0 : w.heap.size < w1.heap.size := by omega
  have S1 : Hid (Sav R w w1) := hidd ((Sav.of B0.out).tr hS)
  have N1 : Hid (Nxt R R3 w) := hidd (fun k hk e => hN k (by have := B0.out.size; omega) e)
  have NR3 : Hid (∀ k, w.heap.size ≤ k → k < W0.heap.size → ¬ R3 k) := hidd (fun k a b r => nR k a (hN k b r))
  have RL1 : Hid (RL w1 (.slice A N c) G) := hidd (OwnL.to (HHG.out _ B0.out) (fun q e => hS.block q (by have := HLV.out q e; have := B0.out.size; omega) (HSEP.out q e)))
  have HST := hidd hst
  have HHR := hidd hHR
  have HL3 := hidd hHR.lt
  clear hS hN hst hHR e00 e01 e20 e21 e2f nR
  unfold agI at *
  generalize hy0 : iD y = a0 at *
  generalize hy1 : kN y = a1 at *
  generalize hy2 : kD y = a2 at *
  generalize hy3 : tN y = a3 at *
  have HY := hidd (⟨hy0, hy1, hy2, hy3⟩ : iD y = a0 ∧ kN y = a1 ∧ kD y = a2 ∧ tN y = a3)
  clear hy0 hy1 hy2 hy3
  go_wp2_with fail
  have hRLc := hidd (RL1.out.below (below_new (Below.refl _ _) (.cells #[.int .i64 a0, .int .i64 a1, .int .i64 a2, .int .i64 a3] 37)))
  refine (cG.out _ hRLc.out).mono ?_
  rintro e w2 ⟨⟨v2, z, it, G1, rfl, hrt, hRL, hnew⟩, hb2⟩
  obtain ⟨A1, c1, hv1, _⟩ := OwnL.lie hRL itV_len
  subst hv1
  generalize hl1 : G1.length = N1' at *
  clear hl1
  have hs2 := hb2.size
  have p1 : w1.heap.size < w2.heap.size := by simp at hs2; omega
  have p2 : w.heap.size + 1 + 1 < w2.heap.size := by omega
  have p0 : w.heap.size < w2.heap.size := by omega
  have x20 := (hb2.cell (p := ⟨w.heap.size + 1 + 1, 0, none⟩) (by simp; omega)).trans (show _ = some (Value.slice none 0 0) by simp [go_sem, y20, q2])
  have x21 := (hb2.cell (p := ⟨w.heap.size + 1 + 1, 1, none⟩) (by simp; omega)).trans (show _ = some (Value.int .i64 0) by simp [go_sem, y21, q2])
  have x2f := fun o => (hb2.frozen (p := ⟨w.heap.size + 1 + 1, o, none⟩) (by simp; omega)).trans (show _ = false by simp [go_sem, y2f, q2])
  have u0 := (hb2.cell (p := ⟨w1.heap.size, 0, none⟩) (by simp)).trans (show _ = some (Value.int .i64 a0) by simp [go_sem])
  have u1 := (hb2.cell (p := ⟨w1.heap.size, 1, none⟩) (by simp)).trans (show _ = some (Value.int .i64 a1) by simp [go_sem])
  have u2 := (hb2.cell (p := ⟨w1.heap.size, 2, none⟩) (by simp)).trans (show _ = some (Value.int .i64 a2) by simp [go_sem])
  have u3 := (hb2.cell (p := ⟨w1.heap.size, 3, none⟩) (by simp)).trans (show _ = some (Value.int .i64 a3) by simp [go_sem])
  have B2 : Hid (Below w1.heap.size w1 w2) := hidd (below_step (below_new (Below.refl _ _) _) hb2)
  have HRL := hidd hRL
  have HNEW := hidd hnew
  have HRT := hidd hrt
  clear hb2 hs2 hRL hnew hrt y00 y01 y20 y21 y2f
  have eqq := fun W => item_run a0 a1 a2 a3 (iD z) (kN z) (kD z) (tN z) W
  have eqb := fun W => item_bin a0 a1 a2 a3 (iD z) (kN z) (kD z) (tN z) W
  have EB : Hid (eqB (a0, a1, a2, a3) (iD z, kN z, kD z, tN z) = true ↔ y = z) := hidd (by
    obtain ⟨q0, q1, q2, q3⟩ := HY.out
    subst q0 q1 q2 q3
    rw [← it_eta, ← it_eta]; exact eqB_iff)
  unfold agI at *
  generalize eqB (a0, a1, a2, a3) (iD z, kN z, kD z, tN z) = EQ at *
  generalize iD z = b0 at *
  generalize kN z = b1 at *
  generalize kD z = b2 at *
  generalize tN z = b3 at *
  go_wp2_with fail
  obtain ⟨W4, hW4⟩ : ∃ W4, (w2.alloc (.cells #[.slice A1 N1' c1, .int .i64 TG] 28)).alloc (.cells #[.int .i64 b0, .int .i64 b1, .int .i64 b2, .int .i64 b3] 37) = W4 := ⟨_, rfl⟩
  rw [hW4]
  have z0 : W4.cell? ⟨w2.heap.size, 0, none⟩ = some (.slice A1 N1' c1) := by rw [← hW4]; simp [go_sem]
  have z1 : W4.cell? ⟨w2.heap.size, 1, none⟩ = some (.int .i64 TG) := by rw [← hW4]; simp [go_sem]
  have z2 : W4.cell? ⟨w2.heap.size + 1, 0, none⟩ = some (.int .i64 b0) := by rw [← hW4]; simp [go_sem]
  have z3 : W4.cell? ⟨w2.heap.size + 1, 1, none⟩ = some (.int .i64 b1) := by rw [← hW4]; simp [go_sem]
  have z4 : W4.cell? ⟨w2.heap.size + 1, 2, none⟩ = some (.int .i64 b2) := by rw [← hW4]; simp [go_sem]
  have z5 : W4.cell? ⟨w2.heap.size + 1, 3, none⟩ = some (.int .i64 b3) := by rw [← hW4]; simp [go_sem]
  have B4 : Hid (Below w2.heap.size w2 W4) := hidd (by rw [← hW4]; (repeat' (first | (with_reducible exact Below.refl _ _) | (with_reducible assumption) | (with_reducible apply Below.setCell) | (with_reducible apply Below.alloc) | (with_reducible apply Below.drew) | (with_reducible apply below_drewN) | (with_reducible refine Below.trans ?_ (Below.mono (by assumption) ?_)) | omega | (simp; done) | (simp; omega))))
  have v20 := (B4.out.cell (p := ⟨w.heap.size + 1 + 1, 0, none⟩) p2).trans x20
  have v21 := (B4.out.cell (p := ⟨w.heap.size + 1 + 1, 1, none⟩) p2).trans x21
  have v2f := fun o => (B4.out.frozen (p := ⟨w.heap.size + 1 + 1, o, none⟩) p2).trans (x2f o)
  have v0 := (B4.out.cell (p := ⟨w1.heap.size, 0, none⟩) p1).trans u0
  have v1 := (B4.out.cell (p := ⟨w1.heap.size, 1, none⟩) p1).trans u1
  have v2 := (B4.out.cell (p := ⟨w1.heap.size, 2, none⟩) p1).trans u2
  have v3 := (B4.out.cell (p := ⟨w1.heap.size, 3, none⟩) p1).trans u3
  clear hW4 x20 x21 x2f u0 u1 u2 u3
  have FIN : Hid (∀ W6 : World, (∀ k, k ≠ w.heap.size + 1 + 1 → W6.heap[k]? = W4.heap[k]?) → W6.heap.size = W4.heap.size → W6.os = W4.os → W6.tape = W4.tape → W6.output = W4.output → Behind R w h (.slice A N c) R3 W6 M3 T (.slice A1 N1' c1) G1) := hidd (fun W6 hk hz ho ht hu => by
    have b2 := B2.out
    have b4 := B4.out
    have l4 := b4.size
    have b24 : Below w1.heap.size w1 W4 := b2.trans (b4.mono (by omega))
    have hbox : ∀ q, (Value.slice A1 N1' c1).ownBlock = some q → q ≠ w.heap.size + 1 + 1 := fun q e => by
      rcases HNEW.out q e with r | r
      · have := HLV.out q r; omega
      · simp at r; omega
    refine ⟨HHR.out.keep (fun k hk' => ?_), OwnL.to HRL.out (fun q e => ?_), S1.out.trans (Sav.mk (ho.trans b24.os) (ht.trans b24.tape) (hu.trans b24.output) (by have := b24.size; omega) (fun k hk' hn => ?_) : Sav (fun k => w.heap.size ≤ k) w1 W6) (fun j hj e => by omega), N1.out, fun q e => ?_, fun q e r => ?_⟩
    · have a1 : k < w1.heap.size := HL3.out k hk'
      rw [hk k (fun e => NR3.out _ (by omega) m2 (e ▸ hk')), b24.block k a1]
    · have := OwnL.lt HRL.out q e
      rw [hk q (hbox q e), b4.block q (by omega)]
    · rw [hk k (by omega), b24.block k (by omega)]
    · rcases HNEW.out q e with z | z
      · exact .inl z
      · exact .inr (by simp at z; omega)
    · rcases HNEW.out q e with z | z
      · have := N1.out q (by have := HLV.out q z; omega) r
        exact HSEP.out q z this
      · have := HL3.out q r
        simp at z
        omega)
  clear N1 NR3 S1 HNEW HRL HHR B2 B4 HL3 HLV HSEP HL HH HHG cG cH
  cases EQ
  case true =>
    go_region_law (fail)
    all_goals
      go_wp2_with fail
      exact bodyPost_ret (v := .tuple #[.agg #[.slice A1 N1' c1, .int .i64 TG], .bool (is == it)]) (by simp [results, Try.results10, go_sem, *]) rfl ⟨R3, M3, T, _, G1, TG, _, rfl, ⟨rfl, rfl, y, is, z, it, HST.out, HRT.out, by have := EB.out; simp at this; simp [this]⟩, FIN.out _ (fun k hk => heap_set2 _ _ _ _ _ _ hk) (by simp [World.setCell]) rfl rfl rfl⟩
  case false =>
    go_region
    go_wp2_with fail
    exact bodyPost_ret (v := .tuple #[.agg #[.slice A1 N1' c1, .int .i64 TG], .bool false]) (by simp [results, Try.results10, go_sem, *]) rfl ⟨R3, M3, T, _, G1, TG, _, rfl, ⟨rfl, rfl, y, is, z, it, HST.out, HRT.out, by have := EB.out; simp at this; simp [this]⟩, FIN.out _ (fun k hk => heap_set2 _ _ _ _ _ _ hk) (by simp [World.setCell]) rfl rfl rfl⟩
theorem does_4 {R : Nat → Prop} {w : World} {h : Nat} {M : List It} {T : Int} (H : HR R w h M T) {v : Value} {G : List It} {TG : Int} (HG : RL w v G) (hO : OkL G) (hsep : ∀ q, v.ownBlock = some q → ¬ R q) {id n d : Int} (i0 : -9223372036854775808 ≤ id) (i1 : id ≤ 9223372036854775807) (h0 : -9223372036854775808 ≤ n) (h1 : n ≤ 9223372036854775807) (h2 : -9223372036854775808 ≤ d) (h3 : d ≤ 9223372036854775807)
    (hL : M.length < 100000) (hT0 : 0 ≤ T) (hT1 : T < 1000000) (hLG : G.length < 100000) (hG0 : 0 ≤ TG) (hG1 : TG < 1000000) :
    Calls Try.prog 10 #[.pointer (some ⟨h, 0, none⟩), .agg #[v, .int .i64 TG], .agg #[.int .i64 4, .int .i64 id, .int .i64 n, .int .i64 d]] w fun e w' => ∃ R' M' T' v' G' TG' B, e = .returned (.tuple #[.agg #[v', .int .i64 TG'], .bool B]) ∧ Step4 M T M' T' G TG G' TG' B ∧ Behind R w h v R' w' M' T' v' G' := (does_4' H HG hO hsep i0 i1 h0 h1 h2 h3 hL hT0 hT1 hLG hG0 hG1).mono fun e w' h => h
end Go.Proofs.Ytnjkfpjccedkjaa.Hp

/- Heaps: HeapDrains' walk. -/
namespace Go.Proofs.Ytnjkfpjccedkjaa.Hp
set_option linter.unusedVariables false
open Go.RowKit Go.Maps Go.Sort Go.Proofs.Ytnjkfpjccedkjaa.Tp

theorem len1 {id n d : Int} {M M' : List It} {T T' er : Int} (h : HPut M T id n d M' T' er) : M'.length ≤ M.length + 1 ∧ T ≤ T' ∧ T' ≤ T + 1 := by
  rcases h with ⟨_, rfl, rfl, _⟩ | ⟨_, _, rfl, rfl, _⟩ | ⟨_, _, rfl, rfl, _⟩ <;> (try rw [List.length_append]) <;> refine ⟨?_, ?_, ?_⟩ <;> first | omega | (simp; done)
theorem len2 {id n d : Int} {M M' : List It} {er : Int} (h : HSet M id n d M' er) : M'.length ≤ M.length + 1 := by
  rcases h with ⟨_, rfl, _⟩ | ⟨_, _, rfl, _⟩ | ⟨_, x, hx, _, rfl, _⟩
  · omega
  · omega
  · have := List.length_pos_of_mem hx
    rw [List.length_append, List.length_erase_of_mem hx, List.length_singleton]; omega
theorem len_er (M : List It) (x : It) : (M.erase x).length ≤ M.length := List.length_erase_le
theorem len3 {id : Int} {M M' : List It} {er : Int} (h : HDrop M id M' er) : M'.length ≤ M.length + 1 := by
  rcases h with ⟨_, rfl, _⟩ | ⟨x, hx, _, rfl, _⟩
  · omega
  · have := len_er M x; omega
theorem len4 {M M' : List It} {y : It} {is : Bool} (h : HTake M M' y is) : M'.length ≤ M.length + 1 := by
  rcases h with ⟨rfl, rfl, _⟩ | ⟨_, rfl, _⟩
  · simp
  · have := len_er M y; omega
def D0 (R : Nat → Prop) (w : World) (h : Nat) (M : List It) (T : Int) (e : Ending) (w' : World) : Prop :=
  ∃ v R' M' T', e = .returned v ∧ HR R' w' h M' T' ∧ Sav R w w' ∧ Nxt R R' w ∧ M'.length ≤ M.length + 1 ∧ 0 ≤ T' ∧ T' ≤ T + 1
theorem does_0 {R : Nat → Prop} {w : World} {h : Nat} {M : List It} {T : Int} (H : HR R w h M T) (x : Int × Int × Int × Int) (hx : WdA x) (hL : M.length < 100000) (hT0 : 0 ≤ T) (hT1 : T < 1000000) :
    Calls Try.prog 10 #[.pointer (some ⟨h, 0, none⟩), .agg #[.slice none 0 0, .int .i64 0], .agg #[.int .i64 x.1, .int .i64 x.2.1, .int .i64 x.2.2.1, .int .i64 x.2.2.2]] w fun e w' => D0 R w h M T e w' := by
  obtain ⟨kind, id, n, d⟩ := x
  obtain ⟨i0, i1, h0, h1, h2, h3⟩ := hx
  have HG : RL w (.slice none 0 0) [] := OwnL.nil w 0 _
  have hO : OkL [] := fun x hx => by simp at hx
  have hsep : ∀ q, (Value.slice none 0 0).ownBlock = some q → ¬ R q := fun q e => by cases e
  by_cases k1 : kind = 1
  · subst k1
    refine (does_1 H HG hO hsep i0 i1 h0 h1 h2 h3 hL hT0 hT1 (by simp) (by omega) (by omega)).mono ?_
    rintro e w' ⟨R', M', T', v', G', TG', B, he, ⟨er, eg, p, _, _⟩, hb⟩
    have := len1 p
    exact ⟨_, R', M', T', he, hb.hr, hb.sav, hb.nxt, this.1, by omega, this.2.2⟩
  by_cases k2 : kind = 2
  · subst k2
    refine (does_2 H HG hO hsep i0 i1 h0 h1 h2 h3 hL hT0 hT1 (by simp) (by omega) (by omega)).mono ?_
    rintro e w' ⟨R', M', T', v', G', TG', B, he, ⟨rfl, _, er, eg, p, _, _⟩, hb⟩
    exact ⟨_, R', M', T', he, hb.hr, hb.sav, hb.nxt, len2 p, by omega, by omega⟩
  by_cases k3 : kind = 3
  · subst k3
    refine (does_3 H HG hO hsep i0 i1 h0 h1 h2 h3 hL hT0 hT1 (by simp) (by omega) (by omega)).mono ?_
    rintro e w' ⟨R', M', T', v', G', TG', B, he, ⟨rfl, _, er, eg, p, _, _⟩, hb⟩
    exact ⟨_, R', M', T', he, hb.hr, hb.sav, hb.nxt, len3 p, by omega, by omega⟩
  by_cases k4 : kind = 4
  · subst k4
    refine (does_4 H HG hO hsep i0 i1 h0 h1 h2 h3 hL hT0 hT1 (by simp) (by omega) (by omega)).mono ?_
    rintro e w' ⟨R', M', T', v', G', TG', B, he, ⟨rfl, _, y, is, z, it, p, _, _⟩, hb⟩
    exact ⟨_, R', M', T', he, hb.hr, hb.sav, hb.nxt, len4 p, by omega, by omega⟩
  refine (does_other H HG hO hsep i0 i1 h0 h1 h2 h3 hL hT0 hT1 (by simp) (by omega) (by omega) kind (by simp [k1, k2, k3, k4])).mono ?_
  rintro e w' ⟨he, hb⟩
  exact ⟨_, R, M, T, he, H.below hb, Sav.of hb, Nxt.refl R w, by omega, by omega, by omega⟩
def aA (L : List (Int × Int × Int × Int)) (i : Nat) : Int × Int × Int × Int := L.getD i (0, 0, 0, 0)
theorem aA_at {L : List (Int × Int × Int × Int)} {i : Nat} (h : i < L.length) : aA L i = L[i] := by simp [aA, h]
theorem Lie.act {w : World} {B : Nat} {A : Option Addr} {l : List (Int × Int × Int × Int)} (h : Lie actV 4 w B A l) (i : Nat) (hi : i < l.length) :
    ∃ ad, A = some ad ∧ (ad.add (i * 4)).block < B ∧ w.cell? (ad.add (i * 4)) = some (.int .i64 (aA l i).1) ∧ w.cell? ⟨(ad.add (i * 4)).block, (ad.add (i * 4)).off + 1, none⟩ = some (.int .i64 (aA l i).2.1) ∧ w.cell? ⟨(ad.add (i * 4)).block, (ad.add (i * 4)).off + 1 + 1, none⟩ = some (.int .i64 (aA l i).2.2.1) ∧ w.cell? ⟨(ad.add (i * 4)).block, (ad.add (i * 4)).off + 1 + 1 + 1, none⟩ = some (.int .i64 (aA l i).2.2.2) := by
  obtain ⟨ad, e, hB, hc⟩ := h (by omega)
  have hx : l[i]? = some l[i] := List.getElem?_eq_getElem hi
  rw [aA_at hi]
  have h0 := hc i _ hx 0 _ rfl
  have h1 := hc i _ hx 1 _ rfl
  have h2 := hc i _ hx 2 _ rfl
  have h3 := hc i _ hx 3 _ rfl
  rw [← add_of_add] at h1 h2 h3
  exact ⟨ad, e, by rw [block_of_add]; exact hB, h0, h1, h2, h3⟩
theorem erase_none {R : Nat → Prop} {W : World} {h : Nat} {M : List It} {T : Int} (H : HR R W h M T) {x : It} (hx : x ∈ M) : x ∉ M.erase x := by
  have hn : M.Nodup := by
    have := H.1.nd
    exact (List.pairwise_map.1 this).imp (fun h e => h (by rw [e]))
  intro hm
  exact ((List.Nodup.mem_erase_iff hn).1 hm).1 rfl
theorem erase_id {R : Nat → Prop} {W : World} {h : Nat} {M : List It} {T : Int} (H : HR R W h M T) {x : It} (hx : x ∈ M) : ¬ ∃ y ∈ M.erase x, iD y = iD x := by
  rintro ⟨y, hy, e⟩
  have := H.ids (List.mem_of_mem_erase hy) hx e
  subst this
  exact erase_none H hx hy
theorem erase_lt {R : Nat → Prop} {W : World} {h : Nat} {M : List It} {T : Int} (H : HR R W h M T) {x : It} (hx : MinOf M x) : ∀ y ∈ M.erase x, Lt x y := by
  intro y hy
  have hm := List.mem_of_mem_erase hy
  have a := hx.2 y hm
  rw [le_iff] at a
  have ne : tN x ≠ tN y := fun e => by
    have := H.1.uniq hx.1 hm e
    subst this
    exact erase_none H hx.1 hy
  unfold Lt
  omega
theorem setFour {W W' : World} {b : Nat} {o0 o1 o2 o3 v0 v1 v2 v3 : Value} (c0 : W.cell? ⟨b, 0, none⟩ = some o0) (c1 : W.cell? ⟨b, 1, none⟩ = some o1) (c2 : W.cell? ⟨b, 2, none⟩ = some o2) (c3 : W.cell? ⟨b, 3, none⟩ = some o3) (cf : ∀ o, W.frozen? ⟨b, o, none⟩ = false) (e : (((W.setCell ⟨b, 0, none⟩ v0).setCell ⟨b, 1, none⟩ v1).setCell ⟨b, 2, none⟩ v2).setCell ⟨b, 3, none⟩ v3 = W') :
    W'.cell? ⟨b, 0, none⟩ = some v0 ∧ W'.cell? ⟨b, 1, none⟩ = some v1 ∧ W'.cell? ⟨b, 2, none⟩ = some v2 ∧ W'.cell? ⟨b, 3, none⟩ = some v3 ∧ (∀ o, W'.frozen? ⟨b, o, none⟩ = false) ∧ (∀ k, k ≠ b → W'.heap[k]? = W.heap[k]?) ∧ W'.heap.size = W.heap.size ∧ W'.os = W.os ∧ W'.tape = W.tape ∧ W'.output = W.output := by
  subst e
  refine ⟨?_, ?_, ?_, ?_, fun o => ?_, fun k hk => ?_, by simp [World.setCell], rfl, rfl, rfl⟩
  · rw [set_other _ (by omega), set_other _ (by omega), set_other _ (by omega)]; exact World.cell?_setCell_same' _ _ _ (by rw [c0]; rfl)
  · rw [set_other _ (by omega), set_other _ (by omega)]; exact World.cell?_setCell_same' _ _ _ (by rw [set_other _ (by omega), c1]; rfl)
  · rw [set_other _ (by omega)]; exact World.cell?_setCell_same' _ _ _ (by rw [set_other _ (by omega), set_other _ (by omega), c2]; rfl)
  · exact World.cell?_setCell_same' _ _ _ (by rw [set_other _ (by omega), set_other _ (by omega), set_other _ (by omega), c3]; rfl)
  · rw [World.frozen?_setCell, World.frozen?_setCell, World.frozen?_setCell, World.frozen?_setCell]; exact cf o
  · rw [heap_set2 _ _ _ _ _ _ hk, heap_set2 _ _ _ _ _ _ hk]
def Cells4 (W : World) (b : Nat) (x : It) : Prop := W.cell? ⟨b, 0, none⟩ = some (.int .i64 (iD x)) ∧ W.cell? ⟨b, 1, none⟩ = some (.int .i64 (kN x)) ∧ W.cell? ⟨b, 2, none⟩ = some (.int .i64 (kD x)) ∧ W.cell? ⟨b, 3, none⟩ = some (.int .i64 (tN x))
set_option maxRecDepth 100000 in
set_option maxHeartbeats 8000000 in
theorem drains_walk (A : Option Addr) (L : List (Int × Int × Int × Int)) (c : Nat) (hWd : ∀ x ∈ L, WdA x) (hlc : L.length ≤ c) (hcm : c ≤ maxLen) (w : World) (hA : Lie actV 4 w w.heap.size A L) :
    Calls Try.prog 4 #[.slice A L.length c] w fun e w' => e = .returned (.bool true) ∧ Below w.heap.size w w' := by
  have cK := hidd (fun W => known11_any W)
  have cN := hidd (fun W => newR W)
  by_cases h60 : 60 < L.length
  · have z : (60 : Int) < (L.length : Int) := by omega
    generalize L.length = N at *
    clear hWd hA
    go_enter Try.func4, Try.ntmps4
    go_wp2_with fail
    refine (cK.out _).mono ?_
    rintro e w1 ⟨rfl, hb⟩
    go_wp2_with fail
    go_ret
    exact ⟨rfl, by (repeat' (first | (with_reducible exact Below.refl _ _) | (with_reducible assumption) | (with_reducible apply Below.setCell) | (with_reducible apply Below.alloc) | (with_reducible apply Below.drew) | (with_reducible apply below_drewN) | (with_reducible refine Below.trans ?_ (Below.mono (by assumption) ?_)) | omega | (simp; done) | (simp; omega)))⟩
  have z60 : ¬ (60 : Int) < (L.length : Int) := by omega
  have HWd := hidd hWd
  have HA := hidd hA
  have cD := hidd (fun W R h M T (H : HR R W h M T) x hx hL h0 h1 => does_0 H x hx hL h0 h1)
  clear hA hWd
  go_enter Try.func4, Try.ntmps4
  go_wp2_with fail
  refine (cN.out _).mono ?_
  rintro e w0 ⟨rfl, ⟨R0, hR0, hn0⟩, hb0⟩
  have B0 := hidd hb0
  have HR0 := hidd hR0
  have N0 := hidd hn0
  clear hb0 hR0 hn0
  generalize w.heap.size + 1 = h at *
  go_wp2_with fail
  go_loopg [4] L.length (fun gk s4 wr => ∃ (i : Nat) (M : List It) (T : Int) (R : Nat → Prop), i + gk = L.length ∧ s4 = .int .i64 (i : Int) ∧ HR R wr h M T ∧ (∀ k, R k → w.heap.size ≤ k) ∧ Below w.heap.size w wr ∧ M.length ≤ i ∧ 0 ≤ T ∧ T ≤ (i : Int))
  case atStart => exact ⟨0, [], 0, R0, by omega, rfl, HR0.out, N0.out, B0.out, by simp, by omega, by omega⟩
  case round =>
    clear HR0 N0 B0
    obtain ⟨i, M, T, R, hg, rfl, hR, hN, hB, hMl, hT0, hT1⟩ := hrel
    have HR_ := hidd hR
    have HN := hidd hN
    have HB := hidd hB
    clear hR hN hB
    by_cases hi : i < L.length
    · have z1 : (i : Int) < (L.length : Int) := by omega
      have z2 : (0 : Int) ≤ (i : Int) := by omega
      obtain ⟨ad, rfl, ha, c0, c1, c2, c3⟩ := Lie.act (HA.out.keep HB.out) i hi
      have CD := hidd (cD.out wr R h M T HR_.out (aA L i) (HWd.out _ (by rw [aA_at hi]; exact List.getElem_mem hi : aA L i ∈ L)) (by omega) hT0 (by omega))
      generalize (aA L i).1 = r0 at *
      generalize (aA L i).2.1 = r1 at *
      generalize (aA L i).2.2.1 = r2 at *
      generalize (aA L i).2.2.2 = r3 at *
      go_wp2_with fail
      refine CD.out.mono ?_
      rintro e w2 ⟨v2, R2, M2, T2, rfl, hR2, hS2, hN2, hl2, ht2, ht3⟩
      have HB2 := hidd (HB.out.trans (hS2.below HB.out.size HN.out))
      have HN2 : Hid (∀ k, R2 k → w.heap.size ≤ k) := hidd (fun k hk => by
        rcases Nat.lt_or_ge k wr.heap.size with q | q
        · exact HN.out k (hN2 k q hk)
        · have := HB.out.size; omega)
      have HR2 := hidd hR2
      clear hR2 hS2 hN2 CD
      go_wp2_with fail
      go_roundg (gk - 1)
      case measure => omega
      case rel => exact ⟨i + 1, M2, T2, R2, by omega, by go_num, HR2.out, HN2.out, HB2.out, by omega, ht2, by omega⟩
    · have z1 : ¬ (i : Int) < (L.length : Int) := by omega
      have hM60 : M.length ≤ 60 := by omega
      clear HA HWd cD
      generalize L.length = N at *
      have cE := hidd (fun W (H : HR R W h M T) => lenR H)
      go_wp2_with fail
      refine (cE.out _ HR_.out).mono ?_
      rintro e w2 ⟨rfl, rfl⟩
      go_wp2_with fail
      obtain ⟨W1, hW1⟩ : ∃ W1, wr.alloc (.cells #[.int .i64 0, .int .i64 0, .int .i64 0, .int .i64 0] 37) = W1 := ⟨_, rfl⟩
      rw [hW1]
      have BW : Hid (Below w.heap.size w W1) := hidd (hW1 ▸ below_new (HB.out) _)
      have hsz : wr.heap.size < W1.heap.size := by rw [← hW1]; simp
      have u0 : Hid (Cells4 W1 wr.heap.size zI) := hidd (by rw [← hW1]; refine ⟨?_, ?_, ?_, ?_⟩ <;> simp [go_sem] <;> rfl)
      have uf : Hid (∀ o, W1.frozen? ⟨wr.heap.size, o, none⟩ = false) := hidd (fun o => by rw [← hW1]; simp [go_sem])
      have HRs := hidd (HR_.out.below (hW1 ▸ below_new (Below.refl _ _) _))
      have nlb0 : Hid (¬ R wr.heap.size) := hidd (fun r => by have := HR_.out.lt _ r; omega)
      have hlb : w.heap.size ≤ wr.heap.size := HB.out.size
      clear hW1 HR_
      generalize wr.heap.size = lb at *
      go_loopg [7] M.length (fun gk s7 wr => ∃ (i : Nat) (M1 : List It) (R1 : Nat → Prop) (z : It), i + gk = M.length ∧ M1.length = gk ∧ s7 = .int .i64 (i : Int) ∧ HR R1 wr h M1 T ∧ (∀ k, R1 k → w.heap.size ≤ k) ∧ ¬ R1 lb ∧ lb < wr.heap.size ∧ Below w.heap.size w wr ∧ Cells4 wr lb z ∧ (∀ o, wr.frozen? ⟨lb, o, none⟩ = false) ∧ (i = 0 ∨ (OkI z ∧ ∀ y ∈ M1, Lt z y)))
      case atStart => exact ⟨0, M, R, zI, by omega, rfl, rfl, HRs.out, HN.out, nlb0.out, hsz, BW.out, u0.out, uf.out, .inl rfl⟩
      case round =>
        clear HRs HN nlb0 hsz BW u0 uf HB cE
        obtain ⟨i, M1, R1, z, hg, hl, rfl, hR, hN, nlb, slb, hB, ⟨c0, c1, c2, c3⟩, cf, hz⟩ := hrel
        have HR_ := hidd hR
        have HN := hidd hN
        have HB := hidd hB
        have HLT := hidd hR.lt
        clear hR hN hB
        by_cases hi : i < M.length
        · have z3 : (i : Int) < (M.length : Int) := by omega
          obtain ⟨x, hx⟩ := HR_.out.min_ex (by intro e; subst e; simp at hl; omega)
          have okx := HR_.out.ok x hx.1
          have CL := hidd (fun W (b : Below wr.heap.size wr W) => leastR (HR_.out.below b) hx)
          have CT := hidd (fun W (b : Below wr.heap.size wr W) => takeR (HR_.out.below b) hx)
          have CG : Hid (∀ W R2, HR R2 W h (M1.erase x) T → Calls Try.prog 12 #[.pointer (some ⟨h, 0, none⟩), .int .i64 (iD x)] W fun e w' => e = .returned (.tuple #[.agg #[.int .i64 0, .int .i64 0, .int .i64 0, .int .i64 0], .bool false]) ∧ Below W.heap.size W w') := hidd (fun W R2 (H2 : HR R2 W h (M1.erase x) T) => getR_none H2 (id := iD x) (by have := okx.i0; omega) (by have := okx.i1; omega) (erase_id HR_.out hx.1))
          have NXT := hidd (⟨okx, erase_lt HR_.out hx⟩ : OkI x ∧ ∀ y ∈ M1.erase x, Lt x y)
          have LEN : Hid ((M1.erase x).length = gk - 1) := hidd (by rw [List.length_erase_of_mem hx.1]; omega)
          have CMP : Hid (i = 0 ∨ (0 < i ∧ ∃ o, (o = (-1 : Int) ∨ (o = 0 ∧ ¬ tN x ≤ tN z)) ∧ ∀ W, Calls Try.prog 17 #[.agg #[.int .i64 (kN z), .int .i64 (kD z)], .agg #[.int .i64 (kN x), .int .i64 (kD x)]] W fun e w' => e = .returned (.int .i64 o) ∧ Below W.heap.size W w')) := hidd (by
            by_cases e : i = 0
            · exact .inl e
            · refine .inr ⟨by omega, ?_⟩
              obtain ⟨okz, hlt⟩ := hz.resolve_left e
              have hl := hlt x hx.1
              have bz := right_bounds okz
              have bx := right_bounds okx
              refine ⟨_, ?_, fun W => refCmp_any (kN z) (kD z) (kN x) (kD x) bz.1 okz.n1 bz.2 okz.d1 bx.1 okx.n1 bx.2 okx.d1 W⟩
              unfold Lt at hl
              unfold ordZ
              rcases hl with q | ⟨q, r⟩
              · rw [if_pos q]; exact .inl rfl
              · rw [if_neg (by omega), if_pos q]; exact .inr ⟨rfl, by omega⟩)
          clear hz hx okx
          obtain ⟨XI, hXI⟩ : ∃ XI : Hid (x = x), True := ⟨hidd rfl, trivial⟩
          unfold agI at CL CT
          generalize ea0 : iD x = a0 at *
          generalize ea1 : kN x = a1 at *
          generalize ea2 : kD x = a2 at *
          generalize ea3 : tN x = a3 at *
          have EX : Hid (iD x = a0 ∧ kN x = a1 ∧ kD x = a2 ∧ tN x = a3) := hidd ⟨ea0, ea1, ea2, ea3⟩
          clear ea0 ea1 ea2 ea3 XI hXI
          have eqq := fun W => item_run a0 a1 a2 a3 a0 a1 a2 a3 W
          rw [show eqB (a0, a1, a2, a3) (a0, a1, a2, a3) = true from eqB_iff.2 rfl] at eqq
          generalize iD z = b0 at *
          generalize kN z = b1 at *
          generalize kD z = b2 at *
          generalize tN z = b3 at *
          rcases CMP.out with rfl | ⟨h0i, o, ho, hcmp⟩
          · have z4 : ¬ (0 : Int) < ((0 : Nat) : Int) := by omega
            clear CMP
            go_wp2_with fail
            refine (CL.out _ (Below.refl _ _)).mono ?_
            rintro e w1 ⟨rfl, hb1⟩
            have k1 : wr.heap.size ≤ w1.heap.size := hb1.size
            have HB1 := hidd hb1
            clear hb1
            go_wp2_with fail
            refine (CT.out _ (by have b := HB1.out; (repeat' (first | (with_reducible exact Below.refl _ _) | (with_reducible assumption) | (with_reducible apply Below.setCell) | (with_reducible apply Below.alloc) | (with_reducible apply Below.drew) | (with_reducible apply below_drewN) | (with_reducible refine Below.trans ?_ (Below.mono (by assumption) ?_)) | omega | (simp; done) | (simp; omega))))).mono ?_
            rintro e w2 ⟨rfl, R2, hR2, hS2, hN2⟩
            have k2 : w1.heap.size < w2.heap.size := by have := hS2.size; simp at this; omega
            have l0 : w2.cell? ⟨lb, 0, none⟩ = some (.int .i64 b0) := (hS2.cell (p := ⟨lb, 0, none⟩) (by simp; omega) nlb).trans ((below_new HB1.out _ |>.cell (p := ⟨lb, 0, none⟩) slb).trans c0)
            have l1 : w2.cell? ⟨lb, 1, none⟩ = some (.int .i64 b1) := (hS2.cell (p := ⟨lb, 1, none⟩) (by simp; omega) nlb).trans ((below_new HB1.out _ |>.cell (p := ⟨lb, 1, none⟩) slb).trans c1)
            have l2 : w2.cell? ⟨lb, 2, none⟩ = some (.int .i64 b2) := (hS2.cell (p := ⟨lb, 2, none⟩) (by simp; omega) nlb).trans ((below_new HB1.out _ |>.cell (p := ⟨lb, 2, none⟩) slb).trans c2)
            have l3 : w2.cell? ⟨lb, 3, none⟩ = some (.int .i64 b3) := (hS2.cell (p := ⟨lb, 3, none⟩) (by simp; omega) nlb).trans ((below_new HB1.out _ |>.cell (p := ⟨lb, 3, none⟩) slb).trans c3)
            have lf : ∀ o, w2.frozen? ⟨lb, o, none⟩ = false := fun o => (World.frozen?_of_block (a := ⟨lb, o, none⟩) (hS2.block lb (by simp; omega) nlb)).trans ((below_new HB1.out _ |>.frozen (p := ⟨lb, o, none⟩) slb).trans (cf o))
            have ny : ¬ R1 w1.heap.size := fun r => by have := HLT.out _ r; omega
            have y0 : w2.cell? ⟨w1.heap.size, 0, none⟩ = some (.int .i64 a0) := (hS2.cell (p := ⟨w1.heap.size, 0, none⟩) (by simp) ny).trans (by simp [go_sem])
            have y1 : w2.cell? ⟨w1.heap.size, 1, none⟩ = some (.int .i64 a1) := (hS2.cell (p := ⟨w1.heap.size, 1, none⟩) (by simp) ny).trans (by simp [go_sem])
            have y2 : w2.cell? ⟨w1.heap.size, 2, none⟩ = some (.int .i64 a2) := (hS2.cell (p := ⟨w1.heap.size, 2, none⟩) (by simp) ny).trans (by simp [go_sem])
            have y3 : w2.cell? ⟨w1.heap.size, 3, none⟩ = some (.int .i64 a3) := (hS2.cell (p := ⟨w1.heap.size, 3, none⟩) (by simp) ny).trans (by simp [go_sem])
            have slb2 : lb < w2.heap.size := by omega
            have S2 : Hid (Sav R1 wr w2) := hidd ((Sav.of (below_new HB1.out _)).tr hS2)
            have N2 : Hid (Nxt R1 R2 wr) := hidd (fun k hk e => hN2 k (by simp; omega) e)
            have HR2 := hidd hR2
            have nlb2 : ¬ R2 lb := fun r => nlb (N2.out lb slb r)
            have ny2 : ¬ R2 w1.heap.size := fun r => ny (hN2 _ (by simp) r)
            clear hR2 hS2 hN2 c0 c1 c2 c3 cf ny CL CT
            go_wp2_with fail
            obtain ⟨w5, hW3⟩ : ∃ w5, w2.alloc (.cells #[.int .i64 a0, .int .i64 a1, .int .i64 a2, .int .i64 a3] 37) = w5 := ⟨_, rfl⟩
            rw [hW3]
            have B5 : Hid (Below w2.heap.size w2 w5) := hidd (hW3 ▸ below_new (Below.refl _ _) _)
            have s5 : w2.heap.size < w5.heap.size := by rw [← hW3]; simp
            have x0 : w5.cell? ⟨w2.heap.size, 0, none⟩ = some (.int .i64 a0) := by rw [← hW3]; simp [go_sem]
            have x1 : w5.cell? ⟨w2.heap.size, 1, none⟩ = some (.int .i64 a1) := by rw [← hW3]; simp [go_sem]
            have x2 : w5.cell? ⟨w2.heap.size, 2, none⟩ = some (.int .i64 a2) := by rw [← hW3]; simp [go_sem]
            have x3 : w5.cell? ⟨w2.heap.size, 3, none⟩ = some (.int .i64 a3) := by rw [← hW3]; simp [go_sem]
            have m0 := (B5.out.cell (p := ⟨lb, 0, none⟩) slb2).trans l0
            have m1 := (B5.out.cell (p := ⟨lb, 1, none⟩) slb2).trans l1
            have m2 := (B5.out.cell (p := ⟨lb, 2, none⟩) slb2).trans l2
            have m3 := (B5.out.cell (p := ⟨lb, 3, none⟩) slb2).trans l3
            have mf := fun o => (B5.out.frozen (p := ⟨lb, o, none⟩) slb2).trans (lf o)
            clear hW3
            have HR5 := hidd (HR2.out.below B5.out)
            have HLT2 := hidd HR2.out.lt
            refine (CG.out _ _ HR5.out).mono ?_
            rintro e w6 ⟨rfl, hb6⟩
            have n0 := (hb6.cell (p := ⟨w2.heap.size, 0, none⟩) s5).trans x0
            have n1 := (hb6.cell (p := ⟨w2.heap.size, 1, none⟩) s5).trans x1
            have n2 := (hb6.cell (p := ⟨w2.heap.size, 2, none⟩) s5).trans x2
            have n3 := (hb6.cell (p := ⟨w2.heap.size, 3, none⟩) s5).trans x3
            have j0 := (hb6.cell (p := ⟨lb, 0, none⟩) (Nat.lt_trans slb2 s5)).trans m0
            have j1 := (hb6.cell (p := ⟨lb, 1, none⟩) (Nat.lt_trans slb2 s5)).trans m1
            have j2 := (hb6.cell (p := ⟨lb, 2, none⟩) (Nat.lt_trans slb2 s5)).trans m2
            have j3 := (hb6.cell (p := ⟨lb, 3, none⟩) (Nat.lt_trans slb2 s5)).trans m3
            have jf := fun o => (hb6.frozen (p := ⟨lb, o, none⟩) (Nat.lt_trans slb2 s5)).trans (mf o)
            have s6 : w2.heap.size < w6.heap.size := Nat.lt_of_lt_of_le s5 hb6.size
            have slb6 : lb < w6.heap.size := Nat.lt_trans slb2 s6
            have B6 : Hid (Below w2.heap.size w2 w6) := hidd (B5.out.trans (hb6.mono (Nat.le_of_lt s5)))
            clear hb6 x0 x1 x2 x3 m0 m1 m2 m3 mf l0 l1 l2 l3 lf y0 y1 y2 y3 HR5 B5
            go_wp2_with fail
            go_roundg (gk - 1)
            case measure => omega
            case rel =>
              obtain ⟨W7, hW7⟩ : ∃ W7, (((w6.setCell ⟨lb, 0, none⟩ (.int .i64 a0)).setCell ⟨lb, 1, none⟩ (.int .i64 a1)).setCell ⟨lb, 2, none⟩ (.int .i64 a2)).setCell ⟨lb, 3, none⟩ (.int .i64 a3) = W7 := ⟨_, rfl⟩
              obtain ⟨e0, e1, e2, e3, ef, ek, ez, eo, et, eu⟩ := setFour (v0 := .int .i64 a0) (v1 := .int .i64 a1) (v2 := .int .i64 a2) (v3 := .int .i64 a3) j0 j1 j2 j3 jf hW7
              obtain ⟨W8, hW8⟩ : ∃ W8, W7.alloc (.cells #[.int .i64 0, .int .i64 0, .int .i64 0, .int .i64 0] 37) = W8 := ⟨_, rfl⟩
              have B78 : Below w6.heap.size W7 W8 := hW8 ▸ below_new (Below.refl _ _) _ |>.mono (by omega)
              have d0 := (B78.cell (p := ⟨lb, 0, none⟩) slb6).trans e0
              have d1 := (B78.cell (p := ⟨lb, 1, none⟩) slb6).trans e1
              have d2 := (B78.cell (p := ⟨lb, 2, none⟩) slb6).trans e2
              have d3 := (B78.cell (p := ⟨lb, 3, none⟩) slb6).trans e3
              have df := fun o => (B78.frozen (p := ⟨lb, o, none⟩) slb6).trans (ef o)
              have dk : ∀ k, k < w2.heap.size → k ≠ lb → W8.heap[k]? = w2.heap[k]? := fun k a b => by rw [B78.block k (by omega), ek k b, B6.out.block k a]
              have s7 : w2.heap.size < W8.heap.size := by have := B78.size; omega
              have do_ : W8.os = w2.os := by rw [B78.os, eo, B6.out.os]
              have dt : W8.tape = w2.tape := by rw [B78.tape, et, B6.out.tape]
              have du : W8.output = w2.output := by rw [B78.output, eu, B6.out.output]
              show ∃ (i' : Nat) (M1 : List It) (R1 : Nat → Prop) (z : It), _ ∧ _ ∧ _ ∧ HR R1 (((((w6.setCell ⟨lb, 0, none⟩ (.int .i64 a0)).setCell ⟨lb, 1, none⟩ (.int .i64 a1)).setCell ⟨lb, 2, none⟩ (.int .i64 a2)).setCell ⟨lb, 3, none⟩ (.int .i64 a3)).alloc (.cells #[.int .i64 0, .int .i64 0, .int .i64 0, .int .i64 0] 37)) h M1 T ∧ _
              rw [hW7, hW8]
              obtain ⟨p0, p1, p2, p3⟩ := EX.out
              refine ⟨1, M1.erase x, R2, x, by omega, LEN.out, by go_num, HR2.out.keep (fun k hk => ?_), fun k hk => ?_, nlb2, by omega, HB.out.trans ⟨?_, ?_, ?_, ?_, fun k hk => ?_⟩, ⟨by rw [p0]; exact d0, by rw [p1]; exact d1, by rw [p2]; exact d2, by rw [p3]; exact d3⟩, df, .inr NXT.out⟩
              · exact dk k (HLT2.out k hk) (fun e => nlb2 (e ▸ hk))
              · rcases Nat.lt_or_ge k wr.heap.size with q | q
                · exact HN.out k (N2.out k q hk)
                · have := HB.out.size; omega
              · rw [do_, S2.out.os]
              · rw [dt, S2.out.tape]
              · rw [du, S2.out.output]
              · have := S2.out.size; omega
              · have := S2.out.size
                have := HB.out.size
                rw [dk k (by omega) (by omega), S2.out.block k (by omega) (fun r => by have := HN.out k r; omega)]
          · have z4 : (0 : Int) < (i : Int) := by omega
            have cmp := hidd hcmp
            clear CMP hcmp
            rcases ho with rfl | ⟨rfl, z5⟩
            · skip
              go_wp2_with fail
              refine (CL.out _ (Below.refl _ _)).mono ?_
              rintro e w1 ⟨rfl, hb1⟩
              have k1 : wr.heap.size ≤ w1.heap.size := hb1.size
              have HB1 := hidd hb1
              clear hb1
              go_wp2_with fail
              refine (CT.out _ (by have b := HB1.out; (repeat' (first | (with_reducible exact Below.refl _ _) | (with_reducible assumption) | (with_reducible apply Below.setCell) | (with_reducible apply Below.alloc) | (with_reducible apply Below.drew) | (with_reducible apply below_drewN) | (with_reducible refine Below.trans ?_ (Below.mono (by assumption) ?_)) | omega | (simp; done) | (simp; omega))))).mono ?_
              rintro e w2 ⟨rfl, R2, hR2, hS2, hN2⟩
              have k2 : w1.heap.size < w2.heap.size := by have := hS2.size; simp at this; omega
              have l0 : w2.cell? ⟨lb, 0, none⟩ = some (.int .i64 b0) := (hS2.cell (p := ⟨lb, 0, none⟩) (by simp; omega) nlb).trans ((below_new HB1.out _ |>.cell (p := ⟨lb, 0, none⟩) slb).trans c0)
              have l1 : w2.cell? ⟨lb, 1, none⟩ = some (.int .i64 b1) := (hS2.cell (p := ⟨lb, 1, none⟩) (by simp; omega) nlb).trans ((below_new HB1.out _ |>.cell (p := ⟨lb, 1, none⟩) slb).trans c1)
              have l2 : w2.cell? ⟨lb, 2, none⟩ = some (.int .i64 b2) := (hS2.cell (p := ⟨lb, 2, none⟩) (by simp; omega) nlb).trans ((below_new HB1.out _ |>.cell (p := ⟨lb, 2, none⟩) slb).trans c2)
              have l3 : w2.cell? ⟨lb, 3, none⟩ = some (.int .i64 b3) := (hS2.cell (p := ⟨lb, 3, none⟩) (by simp; omega) nlb).trans ((below_new HB1.out _ |>.cell (p := ⟨lb, 3, none⟩) slb).trans c3)
              have lf : ∀ o, w2.frozen? ⟨lb, o, none⟩ = false := fun o => (World.frozen?_of_block (a := ⟨lb, o, none⟩) (hS2.block lb (by simp; omega) nlb)).trans ((below_new HB1.out _ |>.frozen (p := ⟨lb, o, none⟩) slb).trans (cf o))
              have ny : ¬ R1 w1.heap.size := fun r => by have := HLT.out _ r; omega
              have y0 : w2.cell? ⟨w1.heap.size, 0, none⟩ = some (.int .i64 a0) := (hS2.cell (p := ⟨w1.heap.size, 0, none⟩) (by simp) ny).trans (by simp [go_sem])
              have y1 : w2.cell? ⟨w1.heap.size, 1, none⟩ = some (.int .i64 a1) := (hS2.cell (p := ⟨w1.heap.size, 1, none⟩) (by simp) ny).trans (by simp [go_sem])
              have y2 : w2.cell? ⟨w1.heap.size, 2, none⟩ = some (.int .i64 a2) := (hS2.cell (p := ⟨w1.heap.size, 2, none⟩) (by simp) ny).trans (by simp [go_sem])
              have y3 : w2.cell? ⟨w1.heap.size, 3, none⟩ = some (.int .i64 a3) := (hS2.cell (p := ⟨w1.heap.size, 3, none⟩) (by simp) ny).trans (by simp [go_sem])
              have slb2 : lb < w2.heap.size := by omega
              have S2 : Hid (Sav R1 wr w2) := hidd ((Sav.of (below_new HB1.out _)).tr hS2)
              have N2 : Hid (Nxt R1 R2 wr) := hidd (fun k hk e => hN2 k (by simp; omega) e)
              have HR2 := hidd hR2
              have nlb2 : ¬ R2 lb := fun r => nlb (N2.out lb slb r)
              have ny2 : ¬ R2 w1.heap.size := fun r => ny (hN2 _ (by simp) r)
              clear hR2 hS2 hN2 c0 c1 c2 c3 cf ny CL CT
              go_wp2_with fail
              obtain ⟨W3, hW3⟩ : ∃ W3, w2.alloc (.cells #[.int .i64 a0, .int .i64 a1, .int .i64 a2, .int .i64 a3] 37) = W3 := ⟨_, rfl⟩
              rw [hW3]
              have B3 : Hid (Below w2.heap.size w2 W3) := hidd (hW3 ▸ below_new (Below.refl _ _) _)
              have s3 : w2.heap.size < W3.heap.size := by rw [← hW3]; simp
              have x0 : W3.cell? ⟨w2.heap.size, 0, none⟩ = some (.int .i64 a0) := by rw [← hW3]; simp [go_sem]
              have x1 : W3.cell? ⟨w2.heap.size, 1, none⟩ = some (.int .i64 a1) := by rw [← hW3]; simp [go_sem]
              have x2 : W3.cell? ⟨w2.heap.size, 2, none⟩ = some (.int .i64 a2) := by rw [← hW3]; simp [go_sem]
              have x3 : W3.cell? ⟨w2.heap.size, 3, none⟩ = some (.int .i64 a3) := by rw [← hW3]; simp [go_sem]
              have m0 := (B3.out.cell (p := ⟨lb, 0, none⟩) slb2).trans l0
              have m1 := (B3.out.cell (p := ⟨lb, 1, none⟩) slb2).trans l1
              have m2 := (B3.out.cell (p := ⟨lb, 2, none⟩) slb2).trans l2
              have m3 := (B3.out.cell (p := ⟨lb, 3, none⟩) slb2).trans l3
              have mf := fun o => (B3.out.frozen (p := ⟨lb, o, none⟩) slb2).trans (lf o)
              clear hW3
              refine (cmp.out _).mono ?_
              rintro e w4 ⟨rfl, hb⟩
              have B4 : Hid (Below w2.heap.size w2 w4) := hidd (B3.out.trans (hb.mono (by omega)))
              have s4 : w2.heap.size < w4.heap.size := Nat.lt_of_lt_of_le s3 hb.size
              have x0 := (hb.cell (p := ⟨w2.heap.size, 0, none⟩) s3).trans x0
              have m0 := (hb.cell (p := ⟨lb, 0, none⟩) (Nat.lt_trans slb2 s3)).trans m0
              have x1 := (hb.cell (p := ⟨w2.heap.size, 1, none⟩) s3).trans x1
              have m1 := (hb.cell (p := ⟨lb, 1, none⟩) (Nat.lt_trans slb2 s3)).trans m1
              have x2 := (hb.cell (p := ⟨w2.heap.size, 2, none⟩) s3).trans x2
              have m2 := (hb.cell (p := ⟨lb, 2, none⟩) (Nat.lt_trans slb2 s3)).trans m2
              have x3 := (hb.cell (p := ⟨w2.heap.size, 3, none⟩) s3).trans x3
              have m3 := (hb.cell (p := ⟨lb, 3, none⟩) (Nat.lt_trans slb2 s3)).trans m3
              have mf := fun o => (hb.frozen (p := ⟨lb, o, none⟩) (Nat.lt_trans slb2 s3)).trans (mf o)
              clear hb
              go_wp2_with fail
              refine (cmp.out _).mono ?_
              rintro e w5 ⟨rfl, hb⟩
              have B5 : Hid (Below w2.heap.size w2 w5) := hidd (B4.out.trans (hb.mono (by omega)))
              have s5 : w2.heap.size < w5.heap.size := Nat.lt_of_lt_of_le s4 hb.size
              have x0 := (hb.cell (p := ⟨w2.heap.size, 0, none⟩) s4).trans x0
              have m0 := (hb.cell (p := ⟨lb, 0, none⟩) (Nat.lt_trans slb2 s4)).trans m0
              have x1 := (hb.cell (p := ⟨w2.heap.size, 1, none⟩) s4).trans x1
              have m1 := (hb.cell (p := ⟨lb, 1, none⟩) (Nat.lt_trans slb2 s4)).trans m1
              have x2 := (hb.cell (p := ⟨w2.heap.size, 2, none⟩) s4).trans x2
              have m2 := (hb.cell (p := ⟨lb, 2, none⟩) (Nat.lt_trans slb2 s4)).trans m2
              have x3 := (hb.cell (p := ⟨w2.heap.size, 3, none⟩) s4).trans x3
              have m3 := (hb.cell (p := ⟨lb, 3, none⟩) (Nat.lt_trans slb2 s4)).trans m3
              have mf := fun o => (hb.frozen (p := ⟨lb, o, none⟩) (Nat.lt_trans slb2 s4)).trans (mf o)
              clear hb
              go_wp2_with fail
              have HR5 := hidd (HR2.out.below B5.out)
              have HLT2 := hidd HR2.out.lt
              refine (CG.out _ _ HR5.out).mono ?_
              rintro e w6 ⟨rfl, hb6⟩
              have n0 := (hb6.cell (p := ⟨w2.heap.size, 0, none⟩) s5).trans x0
              have n1 := (hb6.cell (p := ⟨w2.heap.size, 1, none⟩) s5).trans x1
              have n2 := (hb6.cell (p := ⟨w2.heap.size, 2, none⟩) s5).trans x2
              have n3 := (hb6.cell (p := ⟨w2.heap.size, 3, none⟩) s5).trans x3
              have j0 := (hb6.cell (p := ⟨lb, 0, none⟩) (Nat.lt_trans slb2 s5)).trans m0
              have j1 := (hb6.cell (p := ⟨lb, 1, none⟩) (Nat.lt_trans slb2 s5)).trans m1
              have j2 := (hb6.cell (p := ⟨lb, 2, none⟩) (Nat.lt_trans slb2 s5)).trans m2
              have j3 := (hb6.cell (p := ⟨lb, 3, none⟩) (Nat.lt_trans slb2 s5)).trans m3
              have jf := fun o => (hb6.frozen (p := ⟨lb, o, none⟩) (Nat.lt_trans slb2 s5)).trans (mf o)
              have s6 : w2.heap.size < w6.heap.size := Nat.lt_of_lt_of_le s5 hb6.size
              have slb6 : lb < w6.heap.size := Nat.lt_trans slb2 s6
              have B6 : Hid (Below w2.heap.size w2 w6) := hidd (B5.out.trans (hb6.mono (Nat.le_of_lt s5)))
              clear hb6 x0 x1 x2 x3 m0 m1 m2 m3 mf l0 l1 l2 l3 lf y0 y1 y2 y3 HR5 B5
              go_wp2_with fail
              go_roundg (gk - 1)
              case measure => omega
              case rel =>
                obtain ⟨W7, hW7⟩ : ∃ W7, (((w6.setCell ⟨lb, 0, none⟩ (.int .i64 a0)).setCell ⟨lb, 1, none⟩ (.int .i64 a1)).setCell ⟨lb, 2, none⟩ (.int .i64 a2)).setCell ⟨lb, 3, none⟩ (.int .i64 a3) = W7 := ⟨_, rfl⟩
                obtain ⟨e0, e1, e2, e3, ef, ek, ez, eo, et, eu⟩ := setFour (v0 := .int .i64 a0) (v1 := .int .i64 a1) (v2 := .int .i64 a2) (v3 := .int .i64 a3) j0 j1 j2 j3 jf hW7
                obtain ⟨W8, hW8⟩ : ∃ W8, W7.alloc (.cells #[.int .i64 0, .int .i64 0, .int .i64 0, .int .i64 0] 37) = W8 := ⟨_, rfl⟩
                have B78 : Below w6.heap.size W7 W8 := hW8 ▸ below_new (Below.refl _ _) _ |>.mono (by omega)
                have d0 := (B78.cell (p := ⟨lb, 0, none⟩) slb6).trans e0
                have d1 := (B78.cell (p := ⟨lb, 1, none⟩) slb6).trans e1
                have d2 := (B78.cell (p := ⟨lb, 2, none⟩) slb6).trans e2
                have d3 := (B78.cell (p := ⟨lb, 3, none⟩) slb6).trans e3
                have df := fun o => (B78.frozen (p := ⟨lb, o, none⟩) slb6).trans (ef o)
                have dk : ∀ k, k < w2.heap.size → k ≠ lb → W8.heap[k]? = w2.heap[k]? := fun k a b => by rw [B78.block k (by omega), ek k b, B6.out.block k a]
                have s7 : w2.heap.size < W8.heap.size := by have := B78.size; omega
                have do_ : W8.os = w2.os := by rw [B78.os, eo, B6.out.os]
                have dt : W8.tape = w2.tape := by rw [B78.tape, et, B6.out.tape]
                have du : W8.output = w2.output := by rw [B78.output, eu, B6.out.output]
                show ∃ (i' : Nat) (M1 : List It) (R1 : Nat → Prop) (z : It), _ ∧ _ ∧ _ ∧ HR R1 (((((w6.setCell ⟨lb, 0, none⟩ (.int .i64 a0)).setCell ⟨lb, 1, none⟩ (.int .i64 a1)).setCell ⟨lb, 2, none⟩ (.int .i64 a2)).setCell ⟨lb, 3, none⟩ (.int .i64 a3)).alloc (.cells #[.int .i64 0, .int .i64 0, .int .i64 0, .int .i64 0] 37)) h M1 T ∧ _
                rw [hW7, hW8]
                obtain ⟨p0, p1, p2, p3⟩ := EX.out
                refine ⟨i + 1, M1.erase x, R2, x, by omega, LEN.out, by go_num, HR2.out.keep (fun k hk => ?_), fun k hk => ?_, nlb2, by omega, HB.out.trans ⟨?_, ?_, ?_, ?_, fun k hk => ?_⟩, ⟨by rw [p0]; exact d0, by rw [p1]; exact d1, by rw [p2]; exact d2, by rw [p3]; exact d3⟩, df, .inr NXT.out⟩
                · exact dk k (HLT2.out k hk) (fun e => nlb2 (e ▸ hk))
                · rcases Nat.lt_or_ge k wr.heap.size with q | q
                  · exact HN.out k (N2.out k q hk)
                  · have := HB.out.size; omega
                · rw [do_, S2.out.os]
                · rw [dt, S2.out.tape]
                · rw [du, S2.out.output]
                · have := S2.out.size; omega
                · have := S2.out.size
                  have := HB.out.size
                  rw [dk k (by omega) (by omega), S2.out.block k (by omega) (fun r => by have := HN.out k r; omega)]
            · skip
              go_wp2_with fail
              refine (CL.out _ (Below.refl _ _)).mono ?_
              rintro e w1 ⟨rfl, hb1⟩
              have k1 : wr.heap.size ≤ w1.heap.size := hb1.size
              have HB1 := hidd hb1
              clear hb1
              go_wp2_with fail
              refine (CT.out _ (by have b := HB1.out; (repeat' (first | (with_reducible exact Below.refl _ _) | (with_reducible assumption) | (with_reducible apply Below.setCell) | (with_reducible apply Below.alloc) | (with_reducible apply Below.drew) | (with_reducible apply below_drewN) | (with_reducible refine Below.trans ?_ (Below.mono (by assumption) ?_)) | omega | (simp; done) | (simp; omega))))).mono ?_
              rintro e w2 ⟨rfl, R2, hR2, hS2, hN2⟩
              have k2 : w1.heap.size < w2.heap.size := by have := hS2.size; simp at this; omega
              have l0 : w2.cell? ⟨lb, 0, none⟩ = some (.int .i64 b0) := (hS2.cell (p := ⟨lb, 0, none⟩) (by simp; omega) nlb).trans ((below_new HB1.out _ |>.cell (p := ⟨lb, 0, none⟩) slb).trans c0)
              have l1 : w2.cell? ⟨lb, 1, none⟩ = some (.int .i64 b1) := (hS2.cell (p := ⟨lb, 1, none⟩) (by simp; omega) nlb).trans ((below_new HB1.out _ |>.cell (p := ⟨lb, 1, none⟩) slb).trans c1)
              have l2 : w2.cell? ⟨lb, 2, none⟩ = some (.int .i64 b2) := (hS2.cell (p := ⟨lb, 2, none⟩) (by simp; omega) nlb).trans ((below_new HB1.out _ |>.cell (p := ⟨lb, 2, none⟩) slb).trans c2)
              have l3 : w2.cell? ⟨lb, 3, none⟩ = some (.int .i64 b3) := (hS2.cell (p := ⟨lb, 3, none⟩) (by simp; omega) nlb).trans ((below_new HB1.out _ |>.cell (p := ⟨lb, 3, none⟩) slb).trans c3)
              have lf : ∀ o, w2.frozen? ⟨lb, o, none⟩ = false := fun o => (World.frozen?_of_block (a := ⟨lb, o, none⟩) (hS2.block lb (by simp; omega) nlb)).trans ((below_new HB1.out _ |>.frozen (p := ⟨lb, o, none⟩) slb).trans (cf o))
              have ny : ¬ R1 w1.heap.size := fun r => by have := HLT.out _ r; omega
              have y0 : w2.cell? ⟨w1.heap.size, 0, none⟩ = some (.int .i64 a0) := (hS2.cell (p := ⟨w1.heap.size, 0, none⟩) (by simp) ny).trans (by simp [go_sem])
              have y1 : w2.cell? ⟨w1.heap.size, 1, none⟩ = some (.int .i64 a1) := (hS2.cell (p := ⟨w1.heap.size, 1, none⟩) (by simp) ny).trans (by simp [go_sem])
              have y2 : w2.cell? ⟨w1.heap.size, 2, none⟩ = some (.int .i64 a2) := (hS2.cell (p := ⟨w1.heap.size, 2, none⟩) (by simp) ny).trans (by simp [go_sem])
              have y3 : w2.cell? ⟨w1.heap.size, 3, none⟩ = some (.int .i64 a3) := (hS2.cell (p := ⟨w1.heap.size, 3, none⟩) (by simp) ny).trans (by simp [go_sem])
              have slb2 : lb < w2.heap.size := by omega
              have S2 : Hid (Sav R1 wr w2) := hidd ((Sav.of (below_new HB1.out _)).tr hS2)
              have N2 : Hid (Nxt R1 R2 wr) := hidd (fun k hk e => hN2 k (by simp; omega) e)
              have HR2 := hidd hR2
              have nlb2 : ¬ R2 lb := fun r => nlb (N2.out lb slb r)
              have ny2 : ¬ R2 w1.heap.size := fun r => ny (hN2 _ (by simp) r)
              clear hR2 hS2 hN2 c0 c1 c2 c3 cf ny CL CT
              go_wp2_with fail
              obtain ⟨W3, hW3⟩ : ∃ W3, w2.alloc (.cells #[.int .i64 a0, .int .i64 a1, .int .i64 a2, .int .i64 a3] 37) = W3 := ⟨_, rfl⟩
              rw [hW3]
              have B3 : Hid (Below w2.heap.size w2 W3) := hidd (hW3 ▸ below_new (Below.refl _ _) _)
              have s3 : w2.heap.size < W3.heap.size := by rw [← hW3]; simp
              have x0 : W3.cell? ⟨w2.heap.size, 0, none⟩ = some (.int .i64 a0) := by rw [← hW3]; simp [go_sem]
              have x1 : W3.cell? ⟨w2.heap.size, 1, none⟩ = some (.int .i64 a1) := by rw [← hW3]; simp [go_sem]
              have x2 : W3.cell? ⟨w2.heap.size, 2, none⟩ = some (.int .i64 a2) := by rw [← hW3]; simp [go_sem]
              have x3 : W3.cell? ⟨w2.heap.size, 3, none⟩ = some (.int .i64 a3) := by rw [← hW3]; simp [go_sem]
              have m0 := (B3.out.cell (p := ⟨lb, 0, none⟩) slb2).trans l0
              have m1 := (B3.out.cell (p := ⟨lb, 1, none⟩) slb2).trans l1
              have m2 := (B3.out.cell (p := ⟨lb, 2, none⟩) slb2).trans l2
              have m3 := (B3.out.cell (p := ⟨lb, 3, none⟩) slb2).trans l3
              have mf := fun o => (B3.out.frozen (p := ⟨lb, o, none⟩) slb2).trans (lf o)
              clear hW3
              refine (cmp.out _).mono ?_
              rintro e w4 ⟨rfl, hb⟩
              have B4 : Hid (Below w2.heap.size w2 w4) := hidd (B3.out.trans (hb.mono (by omega)))
              have s4 : w2.heap.size < w4.heap.size := Nat.lt_of_lt_of_le s3 hb.size
              have x0 := (hb.cell (p := ⟨w2.heap.size, 0, none⟩) s3).trans x0
              have m0 := (hb.cell (p := ⟨lb, 0, none⟩) (Nat.lt_trans slb2 s3)).trans m0
              have x1 := (hb.cell (p := ⟨w2.heap.size, 1, none⟩) s3).trans x1
              have m1 := (hb.cell (p := ⟨lb, 1, none⟩) (Nat.lt_trans slb2 s3)).trans m1
              have x2 := (hb.cell (p := ⟨w2.heap.size, 2, none⟩) s3).trans x2
              have m2 := (hb.cell (p := ⟨lb, 2, none⟩) (Nat.lt_trans slb2 s3)).trans m2
              have x3 := (hb.cell (p := ⟨w2.heap.size, 3, none⟩) s3).trans x3
              have m3 := (hb.cell (p := ⟨lb, 3, none⟩) (Nat.lt_trans slb2 s3)).trans m3
              have mf := fun o => (hb.frozen (p := ⟨lb, o, none⟩) (Nat.lt_trans slb2 s3)).trans (mf o)
              clear hb
              go_wp2_with fail
              refine (cmp.out _).mono ?_
              rintro e w5 ⟨rfl, hb⟩
              have B5 : Hid (Below w2.heap.size w2 w5) := hidd (B4.out.trans (hb.mono (by omega)))
              have s5 : w2.heap.size < w5.heap.size := Nat.lt_of_lt_of_le s4 hb.size
              have x0 := (hb.cell (p := ⟨w2.heap.size, 0, none⟩) s4).trans x0
              have m0 := (hb.cell (p := ⟨lb, 0, none⟩) (Nat.lt_trans slb2 s4)).trans m0
              have x1 := (hb.cell (p := ⟨w2.heap.size, 1, none⟩) s4).trans x1
              have m1 := (hb.cell (p := ⟨lb, 1, none⟩) (Nat.lt_trans slb2 s4)).trans m1
              have x2 := (hb.cell (p := ⟨w2.heap.size, 2, none⟩) s4).trans x2
              have m2 := (hb.cell (p := ⟨lb, 2, none⟩) (Nat.lt_trans slb2 s4)).trans m2
              have x3 := (hb.cell (p := ⟨w2.heap.size, 3, none⟩) s4).trans x3
              have m3 := (hb.cell (p := ⟨lb, 3, none⟩) (Nat.lt_trans slb2 s4)).trans m3
              have mf := fun o => (hb.frozen (p := ⟨lb, o, none⟩) (Nat.lt_trans slb2 s4)).trans (mf o)
              clear hb
              go_wp2_with fail
              have HR5 := hidd (HR2.out.below B5.out)
              have HLT2 := hidd HR2.out.lt
              refine (CG.out _ _ HR5.out).mono ?_
              rintro e w6 ⟨rfl, hb6⟩
              have n0 := (hb6.cell (p := ⟨w2.heap.size, 0, none⟩) s5).trans x0
              have n1 := (hb6.cell (p := ⟨w2.heap.size, 1, none⟩) s5).trans x1
              have n2 := (hb6.cell (p := ⟨w2.heap.size, 2, none⟩) s5).trans x2
              have n3 := (hb6.cell (p := ⟨w2.heap.size, 3, none⟩) s5).trans x3
              have j0 := (hb6.cell (p := ⟨lb, 0, none⟩) (Nat.lt_trans slb2 s5)).trans m0
              have j1 := (hb6.cell (p := ⟨lb, 1, none⟩) (Nat.lt_trans slb2 s5)).trans m1
              have j2 := (hb6.cell (p := ⟨lb, 2, none⟩) (Nat.lt_trans slb2 s5)).trans m2
              have j3 := (hb6.cell (p := ⟨lb, 3, none⟩) (Nat.lt_trans slb2 s5)).trans m3
              have jf := fun o => (hb6.frozen (p := ⟨lb, o, none⟩) (Nat.lt_trans slb2 s5)).trans (mf o)
              have s6 : w2.heap.size < w6.heap.size := Nat.lt_of_lt_of_le s5 hb6.size
              have slb6 : lb < w6.heap.size := Nat.lt_trans slb2 s6
              have B6 : Hid (Below w2.heap.size w2 w6) := hidd (B5.out.trans (hb6.mono (Nat.le_of_lt s5)))
              clear hb6 x0 x1 x2 x3 m0 m1 m2 m3 mf l0 l1 l2 l3 lf y0 y1 y2 y3 HR5 B5
              go_wp2_with fail
              go_roundg (gk - 1)
              case measure => omega
              case rel =>
                obtain ⟨W7, hW7⟩ : ∃ W7, (((w6.setCell ⟨lb, 0, none⟩ (.int .i64 a0)).setCell ⟨lb, 1, none⟩ (.int .i64 a1)).setCell ⟨lb, 2, none⟩ (.int .i64 a2)).setCell ⟨lb, 3, none⟩ (.int .i64 a3) = W7 := ⟨_, rfl⟩
                obtain ⟨e0, e1, e2, e3, ef, ek, ez, eo, et, eu⟩ := setFour (v0 := .int .i64 a0) (v1 := .int .i64 a1) (v2 := .int .i64 a2) (v3 := .int .i64 a3) j0 j1 j2 j3 jf hW7
                obtain ⟨W8, hW8⟩ : ∃ W8, W7.alloc (.cells #[.int .i64 0, .int .i64 0, .int .i64 0, .int .i64 0] 37) = W8 := ⟨_, rfl⟩
                have B78 : Below w6.heap.size W7 W8 := hW8 ▸ below_new (Below.refl _ _) _ |>.mono (by omega)
                have d0 := (B78.cell (p := ⟨lb, 0, none⟩) slb6).trans e0
                have d1 := (B78.cell (p := ⟨lb, 1, none⟩) slb6).trans e1
                have d2 := (B78.cell (p := ⟨lb, 2, none⟩) slb6).trans e2
                have d3 := (B78.cell (p := ⟨lb, 3, none⟩) slb6).trans e3
                have df := fun o => (B78.frozen (p := ⟨lb, o, none⟩) slb6).trans (ef o)
                have dk : ∀ k, k < w2.heap.size → k ≠ lb → W8.heap[k]? = w2.heap[k]? := fun k a b => by rw [B78.block k (by omega), ek k b, B6.out.block k a]
                have s7 : w2.heap.size < W8.heap.size := by have := B78.size; omega
                have do_ : W8.os = w2.os := by rw [B78.os, eo, B6.out.os]
                have dt : W8.tape = w2.tape := by rw [B78.tape, et, B6.out.tape]
                have du : W8.output = w2.output := by rw [B78.output, eu, B6.out.output]
                show ∃ (i' : Nat) (M1 : List It) (R1 : Nat → Prop) (z : It), _ ∧ _ ∧ _ ∧ HR R1 (((((w6.setCell ⟨lb, 0, none⟩ (.int .i64 a0)).setCell ⟨lb, 1, none⟩ (.int .i64 a1)).setCell ⟨lb, 2, none⟩ (.int .i64 a2)).setCell ⟨lb, 3, none⟩ (.int .i64 a3)).alloc (.cells #[.int .i64 0, .int .i64 0, .int .i64 0, .int .i64 0] 37)) h M1 T ∧ _
                rw [hW7, hW8]
                obtain ⟨p0, p1, p2, p3⟩ := EX.out
                refine ⟨i + 1, M1.erase x, R2, x, by omega, LEN.out, by go_num, HR2.out.keep (fun k hk => ?_), fun k hk => ?_, nlb2, by omega, HB.out.trans ⟨?_, ?_, ?_, ?_, fun k hk => ?_⟩, ⟨by rw [p0]; exact d0, by rw [p1]; exact d1, by rw [p2]; exact d2, by rw [p3]; exact d3⟩, df, .inr NXT.out⟩
                · exact dk k (HLT2.out k hk) (fun e => nlb2 (e ▸ hk))
                · rcases Nat.lt_or_ge k wr.heap.size with q | q
                  · exact HN.out k (N2.out k q hk)
                  · have := HB.out.size; omega
                · rw [do_, S2.out.os]
                · rw [dt, S2.out.tape]
                · rw [du, S2.out.output]
                · have := S2.out.size; omega
                · have := S2.out.size
                  have := HB.out.size
                  rw [dk k (by omega) (by omega), S2.out.block k (by omega) (fun r => by have := HN.out k r; omega)]
        · have z3 : ¬ (i : Int) < (M.length : Int) := by omega
          obtain rfl : M1 = [] := List.eq_nil_of_length_eq_zero (by omega)
          have CT := hidd (takeR_nil HR_.out)
          have CE := hidd (fun W (H : HR R1 W h [] T) => lenR H)
          unfold agI zI iD kN kD tN at CT
          clear c0 c1 c2 c3 cf hz
          go_wp2_with fail
          refine CT.out.mono ?_
          rintro e w3 ⟨rfl, hb3⟩
          have B3 := hidd (HB.out.trans (hb3.mono HB.out.size))
          have HR3 := hidd (HR_.out.below hb3)
          have s3 := hb3.size
          clear hb3 CT HR_
          go_wp2_with fail
          refine (CE.out _ (HR3.out.below (by (repeat' (first | (with_reducible exact Below.refl _ _) | (with_reducible assumption) | (with_reducible apply Below.setCell) | (with_reducible apply Below.alloc) | (with_reducible apply Below.drew) | (with_reducible apply below_drewN) | (with_reducible refine Below.trans ?_ (Below.mono (by assumption) ?_)) | omega | (simp; done) | (simp; omega)))))).mono ?_
          rintro e w4 ⟨rfl, rfl⟩
          have hz : (([] : List It).length : Int) = 0 := rfl
          go_wp2_with fail
          refine (cK.out _).mono ?_
          rintro e w5 ⟨rfl, hb5⟩
          have BZ := (below_new B3.out (.cells #[.int .i64 0, .int .i64 0, .int .i64 0, .int .i64 0] 37)).trans (hb5.mono (by have := B3.out.size; simp; omega))
          go_wp2_with fail
          go_ret
          exact ⟨rfl, BZ⟩
end Go.Proofs.Ytnjkfpjccedkjaa.Hp

/- Whatever the calls, HeapDrains answers true; no conditions. -/
namespace Go.Proofs.Ytnjkfpjccedkjaa.heapDrains
open Go.ChangeShapes Go.WideShapes Go.ChangeAt Go.RowKit Go.Joins Go.Proofs.Ytnjkfpjccedkjaa.Tp Go.Proofs.Ytnjkfpjccedkjaa.Hp Go.Proofs.Ytnjkfpjccedkjaa.Hp.RowK
set_option linter.unusedVariables false
set_option maxRecDepth 100000 in
theorem lifted (os : Os) (started : os.Started) (H : Type) (enc : TypeId × Value → H) :
    ReturnsInHanded {} Try.checked os 4 .any (Rows.heapDrainsSpec.pre6 enc Try.prog Try.f4 Rows.heapDrainsRow.domain false) (Rows.heapDrainsSpec.post enc Try.prog Try.f4 false true false false) := by
  refine returnsInHanded_of_change (C := Try.checked) RowK.own started (by kernel_rfl) Try.func4
    (ChangeSpec.witness6 (enc := enc) (C := Try.checked) false ⟨#[], #[.slice none 0 0], []⟩ 8 (by kernel_rfl) (by kernel_rfl) (by kernel_rfl) (by kernel_rfl)) ?_
  intro W base args ds gs before hval0 hW hcnd _
  have hval : ∀ (j : Nat) t v, Try.f4.params[j]? = some t → args[j]? = some v → Value.okWide Try.prog W .any base t v := hval0
  have hW' := hW
  obtain ⟨p, q, hA0, hV, rfl, hfz, hnd⟩ := hW
  have hA : DataW.TrodAll enc Try.prog W 0 (fun _ => true) true Try.f4.params.toList args.toList ds p := hA0
  rw [Try.params4] at hA hval
  obtain ⟨v0, vs0, d0, ds0, p0, q0, hargs, rfl, rfl, h0, r0⟩ := trodAll_cons hA
  obtain ⟨rfl, rfl, rfl⟩ := trodAll_nil r0
  obtain rfl : args = #[v0] := by cases args; simp_all
  obtain ⟨rfl, rfl⟩ := trodVars_none hV
  obtain ⟨A0, L0, c0, rfl, m0, n0, o0, l0⟩ : ∃ (A : Option Addr) (L : List (Int × Int × Int × Int)) (c : Nat), v0 = .slice A L.length c ∧ L.length ≤ c ∧ c ≤ maxLen ∧ (∀ x ∈ L, WdA x) ∧ Lie actV 4 W W.heap.size A L := by
    obtain ⟨ptr, len, cap, rfl⟩ := okWide_slice Try.underlying22 (hval 0 22 v0 rfl rfl)
    obtain ⟨fuel, hf⟩ := h0
    obtain ⟨A, L, c, e, hh⟩ := open_acts hf
    exact ⟨A, L, c, by simpa [Value.cells] using e, hh⟩
  refine (Ytnjkfpjccedkjaa.Hp.drains_walk A0 L0 c0 o0 m0 n0 W l0).mono fun e W' ⟨he, hg⟩ => ?_
  subst he
  exact ⟨_, rfl, post_law RowK.laidOut (by rw [Try.params4]; intro t ht; simp at ht; subst ht; exact ⟨by kernel_rfl, of_decide_eq_true (by kernel_rfl)⟩) hW' hA0 rfl (fun _ _ _ => (trodAll_cons_mk (shut_bool Try.underlying4 _) trodAll_mk0)) (fun _ => rfl) hg (ok_one (by kernel_rfl) rfl (okWide_bool_mk Try.underlying4 _))⟩

theorem over : Rows.heapDrainsRow.holds Try.pinned (OpenSpec.ofChange Rows.heapDrainsSpec) :=
  OpenClaim.holds_of_wide 4 Try.f4 rfl rfl rfl rfl rfl rfl rfl ⟨rfl, rfl, rfl, rfl, rfl⟩ rfl rfl rfl rfl rfl (by kernel_rfl) Try.func4 (by kernel_rfl)
    (of_decide_eq_true (by kernel_rfl)) (by unfold Func.isWrapper; first | (rw [if_pos (by decide +kernel)]; kernel_rfl) | (rw [if_neg (by decide +kernel)]; exact ⟨rfl, rfl⟩))
    (fun os started H enc _ => lifted os started H enc)
end Go.Proofs.Ytnjkfpjccedkjaa.heapDrains
namespace Go.Proofs.Ytnjkfpjccedkjaa
/-- the given statement. -/
theorem heapDrains_proved : Rows.HeapDrainsSaid := heapDrains.over
end Go.Proofs.Ytnjkfpjccedkjaa

