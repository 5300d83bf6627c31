/- Maps: a map from where a link comes from, and where it goes to, to its number: what it reads as. -/
import Derived.Test.YtalhbjmhipiiiaaGreatTpC
import Derived.Maps.OwnSet
import Derived.Maps.OwnOps
import Derived.Maps.Views
import Derived.DeepKeys4
namespace Go.Proofs.YtalhbjmhipiiiaaGreat.Tp
set_option linter.unusedVariables false
open Go.RowKit Go.Maps

theorem laidOutT : laidOutB Tryz.prog = true := by kernel_rfl
theorem keyEnds : Keyed Tryz.prog 124 := Keyed.of_law (deep_law_laid laidOutT (m := 2) (by omega) (of_decide_eq_true (by kernel_rfl)) (by kernel_rfl) (by kernel_rfl))
def I64 (n : Int) : Prop := -9223372036854775808 ≤ n ∧ n ≤ 9223372036854775807
def I64P (p : Int × Int) : Prop := I64 p.1 ∧ I64 p.2
theorem wf_i64 {n : Int} (h : I64 n) : (Lit.int .i64 n).wf = true := by
  simp only [Lit.wf, Bool.and_eq_true, decide_eq_true_eq]
  have a : IntKind.i64.min = -9223372036854775808 := rfl
  have b : IntKind.i64.max = 9223372036854775807 := rfl
  obtain ⟨h1, h2⟩ := h
  omega
/-- the key that two nodes are. -/
def kap (p : Int × Int) : Lit := .string (keyBytes [.int .i64 p.1, .int .i64 p.2])
def endsA (p : Int × Int) : Value := .agg #[.int .i64 p.1, .int .i64 p.2]
theorem keyLits_ends (a b : Int) (ha : I64 a) (hb : I64 b) (d : Nat) : Tryz.prog.keyLits (d + 2) 124 [.int .i64 a, .int .i64 b] = some [.int .i64 a, .int .i64 b] := by
  have hC : Tryz.prog.cellsOf 124 = 2 := by kernel_rfl
  have hc : Tryz.prog.cellsOf 3 = 1 := by kernel_rfl
  have h1 : ∀ n, I64 n → Tryz.prog.keyLits (d + 1) 3 [.int .i64 n] = some [.int .i64 n] := fun n hn => by
    unfold Program.keyLits
    rw [Tryz.underlying3]
    simp only [wf_i64 hn, and_self, if_true]
  unfold Program.keyLits
  rw [Tryz.underlying124]
  simp only [List.length_cons, List.length_nil, hC, Nat.zero_add, Nat.reduceAdd, if_true]
  have hr : List.range 2 = [0, 1] := rfl
  rw [hr]
  simp [hc, h1 a ha, h1 b hb]
theorem keyOf_ends {p : Int × Int} (h : I64P p) : keyOf Tryz.prog 124 (endsA p) = some (kap p) := by
  have hk : Tryz.prog.keyType 124 = true := by kernel_rfl
  have hC : Tryz.prog.cellsOf 124 = 2 := by kernel_rfl
  have hs : ∃ d, Tryz.prog.types.size + 1 = d + 2 := ⟨Tryz.prog.types.size - 1, by
    have : 2 ≤ Tryz.prog.types.size := of_decide_eq_true (by kernel_rfl)
    omega⟩
  obtain ⟨d, hd⟩ := hs
  have hl := keyLits_ends p.1 p.2 h.1 h.2 d
  unfold keyOf
  rw [Tryz.underlying124, hd]
  simp only [hk, Bool.true_and]
  have hf : (endsA p).formed Tryz.prog 124 = true := by
    simp [endsA, Value.formed, Tryz.underlying124, hC]
  rw [hf]
  simp only [if_true]
  have hcs : (endsA p).cells.toList = [.int .i64 p.1, .int .i64 p.2] := by simp [endsA, Value.cells]
  rw [hcs, hl]
  rfl
theorem isKap (p : Int × Int) : WideAt.IsKeyLit (kap p) := trivial
theorem kap_inj {p q : Int × Int} (hp : I64P p) (hq : I64P q) (h : kap p = kap q) : p = q := by
  have := keyEnds.inj (keyOf_ends hp) (h ▸ keyOf_ends hq)
  simp [endsA] at this
  exact Prod.ext this.1 this.2
/-- the ends in their order, by number. -/
def ge (E : List (Int × Int)) (k : Nat) : Int × Int := E.getD k (0, 0)
theorem ge_at {E : List (Int × Int)} {k : Nat} (h : k < E.length) : ge E k = E[k] := by simp [ge, h]
theorem ge_mem {E : List (Int × Int)} {k : Nat} (h : k < E.length) : ge E k ∈ E := by rw [ge_at h]; exact List.getElem_mem h
theorem take_ge {E : List (Int × Int)} {k : Nat} (h : k < E.length) : E.take (k + 1) = E.take k ++ [ge E k] := by
  rw [List.take_add_one, List.getElem?_eq_getElem h, ge_at h]; rfl
/-- what the map reads as when the first k are in it. -/
def numF (E : List (Int × Int)) : Nat → DataW Unit
  | 0 => .map []
  | k + 1 => (numF E k).put (kap (ge E k)) (.lit (.int .i64 (k : Int)))
/-- the number of the last one of the first k that is p. -/
def lastAt (E : List (Int × Int)) (p : Int × Int) : Nat → Int
  | 0 => 0
  | k + 1 => if ge E k = p then (k : Int) else lastAt E p k
def cntF (E : List (Int × Int)) : Nat → Nat
  | 0 => 0
  | k + 1 => if ge E k ∈ E.take k then cntF E k else cntF E k + 1
theorem numF_tidy (E : List (Int × Int)) : ∀ k, Tidy (numF E k)
  | 0 => tidy_empty
  | k + 1 => (numF_tidy E k).put (isKap _) _
theorem has_numF {E : List (Int × Int)} (hE : ∀ p ∈ E, I64P p) {p : Int × Int} (hp : I64P p) : ∀ k, k ≤ E.length → has (numF E k) (kap p) = decide (p ∈ E.take k)
  | 0, _ => by simp [numF, has]
  | k + 1, h => by
    have ih := has_numF hE hp k (by omega)
    rw [take_ge (by omega)]
    unfold numF
    by_cases e : ge E k = p
    · rw [e, has_put_same (numF_tidy E k).isMap (isKap _)]
      simp
    · have hne : kap p ≠ kap (ge E k) := fun h' => e (kap_inj hp (hE _ (ge_mem (by omega))) h').symm
      rw [has_put_other hne, ih]
      have e' : ¬ p = ge E k := fun h => e h.symm
      simp [e']
theorem at_numF {E : List (Int × Int)} (hE : ∀ p ∈ E, I64P p) {p : Int × Int} (hp : I64P p) : ∀ k, k ≤ E.length → (numF E k).atKey (kap p) (.lit (.int .i64 0)) = .lit (.int .i64 (lastAt E p k))
  | 0, _ => by simp [numF, lastAt, DataW.atKey]
  | k + 1, h => by
    have ih := at_numF hE hp k (by omega)
    unfold numF lastAt
    by_cases e : ge E k = p
    · rw [if_pos e, e, atKey_put_same (numF_tidy E k).isMap (isKap _)]
    · have hne : kap p ≠ kap (ge E k) := fun h' => e (kap_inj hp (hE _ (ge_mem (by omega))) h').symm
      rw [if_neg e, atKey_put_other hne, ih]
theorem size_numF {E : List (Int × Int)} (hE : ∀ p ∈ E, I64P p) : ∀ k, k ≤ E.length → Maps.size (numF E k) = cntF E k
  | 0, _ => rfl
  | k + 1, h => by
    have ih := size_numF hE k (by omega)
    unfold numF cntF
    rw [size_put (numF_tidy E k), has_numF hE (hE _ (ge_mem (by omega))) k (by omega), ih]
    by_cases e : ge E k ∈ E.take k <;> simp [e]
theorem cntF_le (E : List (Int × Int)) : ∀ k, cntF E k ≤ k
  | 0 => Nat.le_refl _
  | k + 1 => by
    have := cntF_le E k
    unfold cntF
    split <;> omega
theorem cntF_nodup {E : List (Int × Int)} : ∀ k, k ≤ E.length → (cntF E k = k ↔ (E.take k).Nodup)
  | 0, _ => by simp [cntF]
  | k + 1, h => by
    have ih := cntF_nodup (E := E) k (by omega)
    have hle := cntF_le E k
    rw [take_ge (by omega), List.nodup_append]
    unfold cntF
    by_cases e : ge E k ∈ E.take k
    · rw [if_pos e]
      constructor
      · intro h; omega
      · rintro ⟨_, _, h3⟩
        exact absurd rfl (h3 _ e _ (by simp))
    · rw [if_neg e]
      constructor
      · intro h1
        refine ⟨ih.1 (by omega), by simp, fun a ha b hb => ?_⟩
        rw [List.mem_singleton] at hb
        subst hb
        intro hab
        exact e (hab ▸ ha)
      · rintro ⟨h1, _, _⟩
        have := ih.2 h1
        omega
/-- the map in a block. -/
def NumsK (w : World) (b : Nat) (E : List (Int × Int)) (k : Nat) : Prop := w.ownsMap Tryz.prog 124 (plainElem Tryz.prog 3) b k (numF E k)
def NumsAt (w : World) (b : Nat) (E : List (Int × Int)) : Prop := NumsK w b E E.length
theorem NumsK.below {w w' : World} {b k : Nat} {E : List (Int × Int)} (h : NumsK w b E k) (hb : Below w.heap.size w w') : NumsK w' b E k := World.ownsMap.kept (row := none) h ⟨hb.os, hb.tape, hb.output, hb.size, fun k hk _ => hb.block k hk⟩ (by simp)
theorem NumsAt.below {w w' : World} {b : Nat} {E : List (Int × Int)} (h : NumsAt w b E) (hb : Below w.heap.size w w') : NumsAt w' b E := NumsK.below h hb
theorem zeroInt (w : World) : (zeroValue 3).run Tryz.prog w = .ok (.int .i64 0) w := by kernel_rfl
/-- looked up, with whether it is there. -/
theorem NumsAt.look2 {w : World} {b : Nat} {E : List (Int × Int)} (h : NumsAt w b E) (hE : ∀ p ∈ E, I64P p) (x y : Int) (hx : I64 x) (hy : I64 y) :
    (Instr.lookup 100 (.map (some b)) (.agg #[.int .i64 x, .int .i64 y]) true).run Tryz.prog w = .ok (.tuple #[.int .i64 (lastAt E (x, y) E.length), .bool (decide ((x, y) ∈ E))]) w := by
  have hp : I64P (x, y) := ⟨hx, hy⟩
  obtain ⟨v, ps, hr, hv⟩ := World.ownsMap.look_ok h keyEnds Tryz.underlying100 (zeroInt w) (plainElem_int Tryz.underlying3 (by decide)) (keyOf_ends hp)
  obtain ⟨c, rfl, hc, hw⟩ := plainElem_int_inv Tryz.underlying3 hv
  have h1 := congrArg Prod.fst hc
  simp only at h1
  rw [at_numF hE hp _ (Nat.le_refl _)] at h1
  have h2 := has_numF hE hp E.length (Nat.le_refl _)
  rw [List.take_length] at h2
  rw [h2] at hr
  have hr' : (Instr.lookup 100 (.map (some b)) (.agg #[.int .i64 x, .int .i64 y]) true).run Tryz.prog w = .ok (.tuple #[.int .i64 c, .bool (decide ((x, y) ∈ E))]) w := hr
  rw [hr']
  have h3 : ∀ {a b : Int}, DataW.lit (H := Unit) (.int .i64 a) = .lit (.int .i64 b) → b = a := fun h => by cases h; rfl
  rw [h3 h1]
theorem NumsAt.look1 {w : World} {b : Nat} {E : List (Int × Int)} (h : NumsAt w b E) (hE : ∀ p ∈ E, I64P p) (x y : Int) (hx : I64 x) (hy : I64 y) :
    (Instr.lookup 100 (.map (some b)) (.agg #[.int .i64 x, .int .i64 y]) false).run Tryz.prog w = .ok (.int .i64 (lastAt E (x, y) E.length)) w := by
  have hp : I64P (x, y) := ⟨hx, hy⟩
  obtain ⟨c, hrun, hat, _⟩ := World.ownsMap.lookup_int h keyEnds Tryz.underlying100 Tryz.underlying3 (zeroInt w) (keyOf_ends hp)
  rw [at_numF hE hp _ (Nat.le_refl _)] at hat
  have hr' : (Instr.lookup 100 (.map (some b)) (.agg #[.int .i64 x, .int .i64 y]) false).run Tryz.prog w = .ok (.int .i64 c) w := hrun
  rw [hr']
  have h3 : ∀ {a b : Int}, DataW.lit (H := Unit) (.int .i64 a) = .lit (.int .i64 b) → b = a := fun h => by cases h; rfl
  rw [h3 hat]
theorem NumsAt.len_ {w : World} {b : Nat} {E : List (Int × Int)} (h : NumsAt w b E) (hE : ∀ p ∈ E, I64P p) (ty : TypeId) :
    (Builtin.len_ #[100] ty #[.map (some b)]).run Tryz.prog w = .ok (.int .i64 (cntF E E.length : Nat)) w := by
  have := World.ownsMap.len h Tryz.underlying100 ty
  rw [size_numF hE _ (Nat.le_refl _)] at this
  exact this
end Go.Proofs.YtalhbjmhipiiiaaGreat.Tp
