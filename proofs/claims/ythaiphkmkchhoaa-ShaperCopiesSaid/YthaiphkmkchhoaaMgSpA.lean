/- Texts that the claim hangs on, in one. -/
import Derived.Test.YthaiphkmkchhoaaBkN0
import Derived.Test.YthaiphkmkchhoaaBkP
import Derived.Test.YthaiphkmkchhoaaBkR
import Derived.ArgAppend
import Derived.Test.YthaiphkmkchhoaaBkM
import Derived.Lib.QuietBelow
import Derived.Test.YthaiphkmkchhoaaBkD
import Derived.RangeFuncNested
import Derived.RangeFuncBound
import Derived.RangeFuncCalls
import Derived.RangeFuncLeaves
import Derived.RangeFuncBox
import Derived.OwnWalkIn
import Derived.TacticsInMore
import Derived.LoopNIn
import Derived.LoopIn
import Derived.Deep.RegionHeld3
/- Shapers: what waits lies in a slice that is cut at its head and grows at its end; what goes at a tick. -/
namespace Go.Proofs.Ythaiphkmkchhoaa
open Go.RowKit
set_option linter.unusedVariables false
/-- a slice of the program's own holds a list: its cells, and room behind them. -/
def QL (w : World) (v : Value) (L : List (Int × Int)) : Prop :=
  (L = [] ∧ ∃ A : Option Addr, v = .slice A 0 0 ∧ ∀ a, A = some a → a.block < w.heap.size ∧ a = ⟨a.block, a.off, none⟩) ∨
  ∃ (g o cap : Nat), v = .slice (some ⟨g, o, none⟩) L.length cap ∧ g < w.heap.size ∧ L.length ≤ cap ∧ cap ≤ maxLen ∧
    (∀ j, j < cap * 2 → (w.cell? ⟨g, o + j, none⟩).isSome = true ∧ w.frozen? ⟨g, o + j, none⟩ = false) ∧
    ∀ j u, (rowOf sendV L)[j]? = some u → w.cell? ⟨g, o + j, none⟩ = some u
section
variable {w w' : World} {v : Value} {L : List (Int × Int)}
theorem QL.nil (w : World) : QL w (.slice none 0 0) [] := .inl ⟨rfl, none, rfl, fun a h => by cases h⟩
theorem QL.lt (h : QL w v L) : ∀ g, v.ownBlock = some g → g < w.heap.size := fun g hg => by
  rcases h with ⟨_, A, rfl, hA⟩ | ⟨g', o, cap, rfl, hlt, _⟩
  · cases A with
    | none => cases hg
    | some a => simp [Value.ownBlock] at hg; subst hg; exact (hA a rfl).1
  · simp [Value.ownBlock] at hg; subst hg; exact hlt
theorem QL.keep (h : QL w v L) (hb : ∀ g, v.ownBlock = some g → w'.heap[g]? = w.heap[g]?) (hs : w.heap.size ≤ w'.heap.size) : QL w' v L := by
  rcases h with ⟨h0, A, rfl, hA⟩ | ⟨g, o, cap, rfl, hlt, h1, h2, h3, h4⟩
  · exact .inl ⟨h0, A, rfl, fun a ha => ⟨Nat.lt_of_lt_of_le (hA a ha).1 hs, (hA a ha).2⟩⟩
  · have e := hb g rfl
    have c := fun o => World.cell?_of_block (w := w) (w' := w') (a := ⟨g, o, none⟩) e
    have f := fun o => World.frozen?_of_block (w := w) (w' := w') (a := ⟨g, o, none⟩) e
    exact .inr ⟨g, o, cap, rfl, Nat.lt_of_lt_of_le hlt hs, h1, h2, fun j hj => by rw [c, f]; exact h3 j hj, fun j u hu => by rw [c]; exact h4 j u hu⟩
theorem QL.below (h : QL w v L) (hb : Below w.heap.size w w') : QL w' v L := h.keep (fun g hg => hb.block g (h.lt g hg)) hb.size
theorem row2_at (L : List (Int × Int)) {i : Nat} {x : Int × Int} (hx : L[i]? = some x) {j : Nat} {u : Value} (hu : (sendV x)[j]? = some u) : (rowOf sendV L)[i * 2 + j]? = some u := row_at sendV_len L i x hx j u hu
theorem row2_get {L : List (Int × Int)} {k : Nat} {u : Value} (h : (rowOf sendV L)[k]? = some u) : ∃ x, L[k / 2]? = some x ∧ (sendV x)[k % 2]? = some u := by
  have hk : k < (rowOf sendV L).length := (List.getElem?_eq_some_iff.1 h).1
  rw [row_len sendV_len] at hk
  have h1 : k / 2 < L.length := by omega
  have hu : (sendV L[k / 2])[k % 2]? = some ((sendV L[k / 2])[k % 2]'(by rw [sendV_len]; omega)) := List.getElem?_eq_getElem _
  have := row_at sendV_len L (k / 2) L[k / 2] (List.getElem?_eq_getElem h1) (k % 2) _ hu
  rw [show k / 2 * 2 + k % 2 = k by omega, h] at this
  exact ⟨L[k / 2], List.getElem?_eq_getElem h1, by rw [hu]; exact this.symm⟩
theorem QL.lie (h : QL w v L) : ∃ A c, v = .slice A L.length c ∧ L.length ≤ c ∧ c ≤ maxLen ∧ Lie sendV 2 w w.heap.size A L := by
  rcases h with ⟨rfl, A, rfl, hA⟩ | ⟨g, o, cap, rfl, hlt, h1, h2, h3, h4⟩
  · exact ⟨A, 0, rfl, by simp, by simp [maxLen], Lie.nil⟩
  · refine ⟨_, cap, rfl, h1, h2, fun hl => ⟨_, rfl, hlt, fun i x hx j u hu => ?_⟩⟩
    rw [Addr.add_lit]
    exact h4 _ _ (row2_at L hx hu)
theorem QL.ofOwn {base : Nat} (h : OwnL sendV 2 w base 41 v L) : QL w v L := by
  rcases h.2 with ⟨rfl, h0⟩ | ⟨g, cap, cur, rfl, hb, hh, hn, hm, hsz, ht⟩
  · have : L = [] := List.eq_nil_of_length_eq_zero h0
    subst this
    exact QL.nil w
  · refine .inr ⟨g, 0, cap, rfl, (Array.getElem?_eq_some_iff.1 hh).1, hn, hm, fun j hj => ⟨?_, ?_⟩, fun j u hu => ?_⟩
    · have : j < cur.size := by omega
      simp [World.cell?, hh, this]
    · simp [World.frozen?, hh]
    · have := World.ownsRow.cells h (g := g) rfl j u hu
      rw [Addr.add_lit] at this
      exact this
theorem row2_drop (L : List (Int × Int)) (k : Nat) (j : Nat) : (rowOf sendV (L.drop k))[j]? = (rowOf sendV L)[k * 2 + j]? := by
  by_cases hj : k * 2 + j < L.length * 2
  · have h1 : j / 2 + k < L.length := by omega
    have hx : (L.drop k)[j / 2]? = some L[k + j / 2] := by rw [List.getElem?_drop]; exact List.getElem?_eq_getElem _
    have hu : (sendV L[k + j / 2])[j % 2]? = some ((sendV L[k + j / 2])[j % 2]'(by rw [sendV_len]; omega)) := List.getElem?_eq_getElem _
    have a := row2_at (L.drop k) hx hu
    have b := row2_at L (List.getElem?_eq_getElem (show k + j / 2 < L.length by omega)) hu
    rw [show j / 2 * 2 + j % 2 = j by omega] at a
    rw [show (k + j / 2) * 2 + j % 2 = k * 2 + j by omega] at b
    rw [a, b]
  · rw [List.getElem?_eq_none (by rw [row_len sendV_len, List.length_drop]; omega), List.getElem?_eq_none (by rw [row_len sendV_len]; omega)]
/-- what stands behind the first k. -/
theorem QL.cut {A : Option Addr} {c k : Nat} (h : QL w (.slice A L.length c) L) (hk : k ≤ L.length) : QL w (.slice (if c = k then A else A.map (fun a => ⟨a.block, a.off + k * 2, a.spot⟩)) (L.length - k) (c - k)) (L.drop k) := by
  rcases h with ⟨rfl, A', e, hA⟩ | ⟨g, o, cap, e, hlt, h1, h2, h3, h4⟩
  · cases e
    have hk0 : k = 0 := by simpa using hk
    subst hk0
    exact .inl ⟨rfl, A, by simp, hA⟩
  · cases e
    by_cases hc : c = k
    · rw [if_pos hc]
      have hl : L.length = k := by omega
      refine .inl ⟨List.drop_of_length_le (by omega), some ⟨g, o, none⟩, by rw [show L.length - k = 0 by omega, show c - k = 0 by omega], fun a ha => ?_⟩
      cases ha
      exact ⟨hlt, rfl⟩
    · rw [if_neg hc]
      refine .inr ⟨g, o + k * 2, c - k, by rw [List.length_drop]; rfl, hlt, by rw [List.length_drop]; omega, by omega, fun j hj => ?_, fun j u hu => ?_⟩
      · have := h3 (k * 2 + j) (by omega)
        rw [← Nat.add_assoc] at this
        exact this
      · rw [row2_drop] at hu
        have := h4 _ _ hu
        rw [← Nat.add_assoc] at this
        exact this
end
theorem waitInfo : (Try.prog.info? 41).map (fun i => (i.zero, i.size, i.bytes)) = some (some (.agg #[.int .i64 0, .int .i64 0]), 2, 16) := by kernel_rfl

structure Sav (S : Nat → Prop) (W W' : World) : Prop where
  os : W'.os = W.os
  tape : W'.tape = W.tape
  output : W'.output = W.output
  size : W.heap.size ≤ W'.heap.size
  block : ∀ k, k < W.heap.size → ¬ S k → W'.heap[k]? = W.heap[k]?
section
variable {S S' : Nat → Prop} {A B C : World}
theorem Sav.refl (S : Nat → Prop) (A : World) : Sav S A A := ⟨rfl, rfl, rfl, Nat.le_refl _, fun _ _ _ => rfl⟩
theorem Sav.trans (h : Sav S A B) (k : Sav S' B C) (hs : ∀ j, j < A.heap.size → S' j → S j) : Sav S A C :=
  ⟨k.os.trans h.os, k.tape.trans h.tape, k.output.trans h.output, Nat.le_trans h.size k.size, fun j hj hn => (k.block j (Nat.lt_of_lt_of_le hj h.size) (fun q => hn (hs j hj q))).trans (h.block j hj hn)⟩
theorem Sav.tr (h : Sav S A B) (k : Sav S B C) : Sav S A C := h.trans k (fun _ _ q => q)
theorem Sav.mono (h : Sav S A B) (hs : ∀ j, j < A.heap.size → S j → S' j) : Sav S' A B := ⟨h.os, h.tape, h.output, h.size, fun j hj hn => h.block j hj (fun q => hn (hs j hj q))⟩
theorem Sav.of (h : Below A.heap.size A B) : Sav S A B := ⟨h.os, h.tape, h.output, h.size, fun j hj _ => h.block j hj⟩
theorem Sav.below (h : Sav S A B) {b : Nat} (hb : b ≤ A.heap.size) (hs : ∀ j, S j → b ≤ j) : Below b A B := ⟨h.os, h.tape, h.output, h.size, fun j hj => h.block j (by omega) (fun q => by have := hs j q; omega)⟩
theorem Sav.setCell {p : Addr} (hp : S p.block) (A : World) (v : Value) : Sav S A (A.setCell p v) := ⟨rfl, rfl, rfl, by simp [World.setCell], fun k _ hn => Below.heap_setCell _ _ _ _ (fun e => hn (e ▸ hp))⟩
theorem Sav.setCells {g : Nat} (hp : S g) : ∀ (vs : List Value) (o : Nat) (A : World), Sav S A (A.setCells g o vs)
  | [], _, A => Sav.refl S A
  | v :: r, o, A => (Sav.setCell (p := ⟨g, o, none⟩) hp A v).tr (Sav.setCells hp r (o + 1) _)
theorem Sav.grown {r : Option Nat} (g : A.grownBy B r) (hr : ∀ k, r = some k → S k) : Sav S A B := ⟨g.os, g.tape, g.output, g.size, fun k hk hn => g.block k hk (fun e => hn (hr k e.symm))⟩
theorem Sav.cell (h : Sav S A B) {p : Addr} (hp : p.block < A.heap.size) (hn : ¬ S p.block) : B.cell? p = A.cell? p := World.cell?_of_block (h.block _ hp hn)
end
theorem setCells_grown (g : Nat) : ∀ (vs : List Value) (o : Nat) (A : World), A.grownBy (A.setCells g o vs) (some g)
  | [], _, A => World.grownBy.refl A _
  | v :: r, o, A => by
    have h1 : A.grownBy (A.setCell ⟨g, o, none⟩ v) (some g) := ⟨rfl, rfl, rfl, by simp [World.setCell], fun k _ hn => Below.heap_setCell _ _ _ _ (fun e => hn (congrArg some e))⟩
    exact World.grownBy.trans h1 (setCells_grown g r (o + 1) (A.setCell ⟨g, o, none⟩ v))
/-- one more behind. -/
theorem run_append_q (w : World) (t ty : TypeId) (ht : Try.prog.underlying t = some (.slice 41)) {v : Value} {L : List (Int × Int)} (h : QL w v L) (hL : L.length ≤ 1000000000) (a : Addr) (c : Nat) (x : Int × Int) (hn : ∀ j u, (sendV x)[j]? = some u → w.cell? (a.add j) = some u) :
    ∃ v' w', (Builtin.append_ #[t, t] ty #[v, .slice (some a) 1 c]).run Try.prog w = .ok v' w' ∧ QL w' v' (L ++ [x]) ∧ w.grownBy w' v.ownBlock ∧ (v'.ownBlock = v.ownBlock ∨ ∃ g, v'.ownBlock = some g ∧ w.heap.size ≤ g) := by
  obtain ⟨i, hi, hz0, hz1, hz2⟩ : ∃ i, Try.prog.info? 41 = some i ∧ i.zero = some (.agg #[.int .i64 0, .int .i64 0]) ∧ i.size = 2 ∧ i.bytes = 16 := by
    have q := waitInfo
    cases hi : Try.prog.info? 41 with
    | none => rw [hi] at q; cases q
    | some i => rw [hi] at q; simp at q; exact ⟨i, rfl, q.1, q.2.1, q.2.2⟩
  have hsl : (sendV x).length = 1 * 2 := rfl
  have big : ∀ (v' : Value) (w' : World), w'.ownsRow w.heap.size 41 2 v' (L.length + 1) (rowOf sendV L ++ sendV x) → QL w' v' (L ++ [x]) ∧ ∃ g, v'.ownBlock = some g ∧ w.heap.size ≤ g := fun v' w' hw => by
    refine ⟨QL.ofOwn (OwnL.snoc hw rfl rfl), ?_⟩
    rcases hw.2 with ⟨_, h0⟩ | ⟨g, cap, cur, rfl, hb, _⟩
    · omega
    · exact ⟨g, rfl, hb⟩
  rcases h with ⟨h0, A, hv, hA⟩ | ⟨g, o, cap, rfl, hlt, h1, h2, h3, h4⟩
  · subst h0 hv
    cases A with
    | none =>
      obtain ⟨v', w', hr, q2, q3, _, _⟩ := run_append_own_at (P := Try.prog) w w.heap.size t ty 41 i (.agg #[.int .i64 0, .int .i64 0]) 2 16 ht hi hz0 hz1 hz2 rfl (by decide) (.slice none 0 0) 0 [] (World.ownsRow_nil w w.heap.size _ 2) a 1 c (sendV x) hsl hn (sendV_one x) (by simp [maxLen]) (by omega) (Nat.le_refl _)
      obtain ⟨b1, b2⟩ := big v' w' (by simpa [rowOf] using q2)
      exact ⟨v', w', hr, b1, q3, .inr b2⟩
    | some a' =>
      obtain ⟨v', w', hr, q2, q3⟩ := run_append_arg_grows (P := Try.prog) w t ty 41 i (.agg #[.int .i64 0, .int .i64 0]) 2 16 ht hi hz0 hz1 hz2 rfl (by decide) a' 0 0 [] (by simp) (by intro _ _ h'; simp at h') a 1 c (sendV x) hsl hn (by omega) (by simp [maxLen]) (by omega)
      obtain ⟨b1, b2⟩ := big v' w' (by simpa [rowOf] using q2)
      exact ⟨v', w', hr, b1, ⟨q3.os, q3.tape, q3.output, q3.size, fun k hk _ => q3.block k hk (by simp)⟩, .inr b2⟩
  · by_cases hroom : L.length + 1 ≤ cap
    · have hs : ∀ j, j < (sendV x).length → (w.cell? ⟨g, o + L.length * 2 + j, none⟩).isSome = true := fun j hj => by rw [Nat.add_assoc]; exact (h3 _ (by rw [sendV_len] at hj; omega)).1
      have hr := run_append_room_cells (P := Try.prog) w t ty 41 i ht hi g o L.length cap a 1 c (sendV x) (by rw [hz1]; rfl) hn (sendV_one x) hroom
        (fun j hj => by rw [hz1]; exact hs j hj) (fun j hj => by rw [hz1, Nat.add_assoc]; exact (h3 _ (by rw [sendV_len] at hj; omega)).2)
      rw [hz1] at hr
      have hg := setCells_grown g (sendV x) (o + L.length * 2) w
      refine ⟨_, _, hr, .inr ⟨g, o, cap, by simp, Nat.lt_of_lt_of_le hlt hg.size, by simpa using hroom, h2, fun j hj => ⟨?_, ?_⟩, fun j u hu => ?_⟩, hg, .inl rfl⟩
      · by_cases hj2 : L.length * 2 ≤ j ∧ j < L.length * 2 + 2
        · have := World.cell?_setCells_in g (sendV x) (o + L.length * 2) w hs (j - L.length * 2) (by rw [sendV_len]; omega)
          rw [show o + L.length * 2 + (j - L.length * 2) = o + j by omega] at this
          rw [this]
          rfl
        · rw [World.cell?_setCells_out g _ _ _ _ (fun _ _ => by rw [sendV_len]; dsimp only; omega)]
          exact (h3 j hj).1
      · rw [World.frozen?_setCells]
        exact (h3 j hj).2
      · rw [row_snoc] at hu
        by_cases hj : j < L.length * 2
        · rw [List.getElem?_append_left (by rw [row_len sendV_len]; exact hj)] at hu
          rw [World.cell?_setCells_out g _ _ _ _ (fun _ _ => by rw [sendV_len]; dsimp only; omega)]
          exact h4 j u hu
        · rw [List.getElem?_append_right (by rw [row_len sendV_len]; omega), row_len sendV_len] at hu
          have hjl := (List.getElem?_eq_some_iff.1 hu).1
          have := World.cell?_setCells_in g (sendV x) (o + L.length * 2) w hs (j - L.length * 2) hjl
          rw [show o + L.length * 2 + (j - L.length * 2) = o + j by omega] at this
          rw [this, ← hu]
          exact (List.getElem?_eq_getElem hjl).symm
    · obtain ⟨v', w', hr, q2, q3⟩ := run_append_arg_grows (P := Try.prog) w t ty 41 i (.agg #[.int .i64 0, .int .i64 0]) 2 16 ht hi hz0 hz1 hz2 rfl (by decide) ⟨g, o, none⟩ L.length cap (rowOf sendV L) (row_len sendV_len L)
        (fun j u hj => by rw [Addr.add_lit]; exact h4 j u hj) a 1 c (sendV x) hsl hn (by omega) (by unfold maxLen; omega) (by omega)
      obtain ⟨b1, b2⟩ := big v' w' q2
      exact ⟨v', w', hr, b1, ⟨q3.os, q3.tape, q3.output, q3.size, fun k hk _ => q3.block k hk (by simp)⟩, .inr b2⟩
theorem wp_append_q {w : World} {o : Oper} {a : Act} {K : Act → World → Prop} {Q : Exit → Act → World → Prop} (s x : Operand) (t : TypeId)
    (ho : o.op = .call { callee := .builtin .append, args := #[s, x], argTypes := #[t, t] }) (ht : Try.prog.underlying t = some (.slice 41))
    {v : Value} {L : List (Int × Int)} (hs : a.eval s = v) (hq : QL w v L) (hL : L.length ≤ 1000000000) (ad : Addr) (c : Nat) (y : Int × Int) (hx : a.eval x = .slice (some ad) 1 c) (hn : ∀ j u, (sendV y)[j]? = some u → w.cell? (ad.add j) = some u)
    (h : ∀ v' w', QL w' v' (L ++ [y]) → w.grownBy w' v.ownBlock → (v'.ownBlock = v.ownBlock ∨ ∃ g, v'.ownBlock = some g ∧ w.heap.size ≤ g) → K (a.put o.dst v') w') : o.wp Try.prog a w K Q := by
  obtain ⟨v', w', hr, h2, h3, h4⟩ := run_append_q w t o.type ht hq hL ad c y hn
  unfold Oper.wp execOp
  simp only [ho, resolve, invoke, builtin, Sem.run_bind, Sem.run_pure, Result.andThen_ok, List.map_toArray, List.map_cons, List.map_nil, hs, hx, hr]
  exact h v' w' h2 h3 h4
theorem wpList_append_q {w : World} {ops : Array Oper} {rest : List Oper} {o : Oper} {a : Act} {Q : Exit → Act → World → Prop} (hgd : o.guard = none) (s x : Operand) (t : TypeId)
    (ho : o.op = .call { callee := .builtin .append, args := #[s, x], argTypes := #[t, t] }) (ht : Try.prog.underlying t = some (.slice 41))
    {v : Value} {L : List (Int × Int)} (hs : a.eval s = v) (hq : QL w v L) (hL : L.length ≤ 1000000000) (ad : Addr) (c : Nat) (y : Int × Int) (hx : a.eval x = .slice (some ad) 1 c) (hn : ∀ j u, (sendV y)[j]? = some u → w.cell? (ad.add j) = some u)
    (h : ∀ v' w', QL w' v' (L ++ [y]) → w.grownBy w' v.ownBlock → (v'.ownBlock = v.ownBlock ∨ ∃ g, v'.ownBlock = some g ∧ w.heap.size ≤ g) → wpList Try.prog ops Q rest (a.put o.dst v') w') : wpList Try.prog ops Q (o :: rest) a w :=
  wpList_plain hgd fun _ hK => wp_append_q s x t ho ht hs hq hL ad c y hx hn fun v' w' h2 h3 h4 => hK _ _ (h v' w' h2 h3 h4)
/-! ### what goes at a tick -/
namespace BM
/-- the bucket behind the first k that wait, at a tick. -/
def atK (p r u m l : Int) (s : St) (n : Int) (L : List (Int × Int)) (k : Nat) : St := run p r u m l s ((L.take k).map fun x => (n, x.2))
theorem atK_zero (p r u m l : Int) (s : St) (n : Int) (L : List (Int × Int)) : atK p r u m l s n L 0 = s := rfl
theorem atK_succ (p r u m l : Int) (s : St) (n : Int) {L : List (Int × Int)} {k : Nat} (hk : k < L.length) : atK p r u m l s n L (k + 1) = (step p r u m l (atK p r u m l s n L k) n L[k].2).1 := by
  unfold atK
  rw [List.take_succ_eq_append_getElem hk, List.map_append, List.map_singleton, run_snoc]
/-- just the first K go, and the bucket is then so. -/
structure Goes (p r u m l : Int) (s : St) (n : Int) (L : List (Int × Int)) (K : Nat) (s' : St) : Prop where
  le : K ≤ L.length
  st : s' = atK p r u m l s n L K
  all : ∀ i (hi : i < L.length), i < K → (step p r u m l (atK p r u m l s n L i) n L[i].2).2.1 = true
  stop : ∀ hk : K < L.length, (step p r u m l s' n L[K].2).2.1 = false
theorem Goes.uniq {p r u m l : Int} {s : St} {n : Int} {L : List (Int × Int)} {K K' : Nat} {s' s'' : St} (h : Goes p r u m l s n L K s') (h' : Goes p r u m l s n L K' s'') : K = K' ∧ s' = s'' := by
  have e : K = K' := by
    rcases Nat.lt_trichotomy K K' with q | q | q
    · have hl : K < L.length := Nat.lt_of_lt_of_le q h'.le
      have a := h'.all K hl q
      have b := h.stop hl
      rw [h.st] at b
      rw [b] at a; cases a
    · exact q
    · have hl : K' < L.length := Nat.lt_of_lt_of_le q h.le
      have a := h.all K' hl q
      have b := h'.stop hl
      rw [h'.st] at b
      rw [b] at a; cases a
  subst e
  exact ⟨rfl, h.st.trans h'.st.symm⟩
theorem atK_ok {p r u m l : Int} {s : St} {n : Int} {L : List (Int × Int)} {k : Nat} (hl : 1 ≤ l) (hs : Ok u m s) : Ok u m (atK p r u m l s n L k) := run_ok hl hs
/-- of which tick a bucket is behind what is taken at a tick. -/
theorem atK_now {p r u m l : Int} {s : St} {n : Int} {L : List (Int × Int)} (hn : s.1 = n) (h2 : n ≤ 2147483647) : ∀ {k : Nat}, k ≤ L.length → (atK p r u m l s n L k).1 = n
  | 0, _ => hn
  | k + 1, hk => by
    rw [atK_succ _ _ _ _ _ _ _ (show k < L.length by omega)]
    have ih := atK_now (p := p) (r := r) (u := u) (m := m) (l := l) hn h2 (show k ≤ L.length by omega)
    unfold step
    rw [if_pos (show askB _ n = true from decide_eq_true ⟨by rw [ih]; exact Int.le_refl _, h2⟩)]
    split <;> rfl
end BM
end Go.Proofs.Ythaiphkmkchhoaa

/- Shapers: how many bytes wait; a shaper in memory; is one there; any of some truths; sizes. -/
namespace Go.Proofs.Ythaiphkmkchhoaa
open Go.RowKit Go.Sort
set_option linter.unusedVariables false
/-- how many bytes. -/
def sumB : List (Int × Int) → Int
  | [] => 0
  | x :: L => x.2 + sumB L
theorem sumB_app : ∀ (L M : List (Int × Int)), sumB (L ++ M) = sumB L + sumB M
  | [], M => by simp [sumB]
  | x :: L, M => by simp only [List.cons_append, sumB, sumB_app L M]; omega
theorem sumB_take (L : List (Int × Int)) (k : Nat) : sumB (L.take k) + sumB (L.drop k) = sumB L := by rw [← sumB_app, List.take_append_drop]
theorem sumB_snoc (L : List (Int × Int)) (x : Int × Int) : sumB (L ++ [x]) = sumB L + x.2 := by rw [sumB_app]; simp [sumB]
theorem sumB_one {L : List (Int × Int)} {k : Nat} (hk : k < L.length) : sumB (L.take (k + 1)) = sumB (L.take k) + L[k].2 := by rw [List.take_succ_eq_append_getElem hk, sumB_snoc]
/-- each of them is of a size that may be. -/
def Szs (m l : Int) (L : List (Int × Int)) : Prop := ∀ x ∈ L, l ≤ x.2 ∧ x.2 ≤ m
theorem Szs.sum {m l : Int} (h1 : 1 ≤ l) : ∀ {L : List (Int × Int)}, Szs m l L → (L.length : Int) ≤ sumB L
  | [], _ => by simp [sumB]
  | x :: L, h => by
    have a := (h x (by simp)).1
    have b := Szs.sum h1 (L := L) (fun y hy => h y (List.mem_cons_of_mem _ hy))
    simp only [sumB, List.length_cons]
    omega
theorem Szs.sub {m l : Int} {L M : List (Int × Int)} (h : Szs m l L) (hs : ∀ x ∈ M, x ∈ L) : Szs m l M := fun x hx => h x (hs x hx)
theorem Szs.drop {m l : Int} {L : List (Int × Int)} (h : Szs m l L) (k : Nat) : Szs m l (L.drop k) := h.sub fun _ hx => List.mem_of_mem_drop hx
theorem Szs.take {m l : Int} {L : List (Int × Int)} (h : Szs m l L) (k : Nat) : Szs m l (L.take k) := h.sub fun _ hx => List.mem_of_mem_take hx
theorem Szs.snoc {m l : Int} {L : List (Int × Int)} (h : Szs m l L) {x : Int × Int} (hx : l ≤ x.2 ∧ x.2 ≤ m) : Szs m l (L ++ [x]) := fun y hy => by
  rcases List.mem_append.1 hy with q | q
  · exact h y q
  · rw [List.mem_singleton] at q; subst q; exact hx
/-- a shaper lies in block h, what it keeps in block g, its bucket in block b, what waits in the slice v. -/
structure ShAt (w : World) (h g b : Nat) (v : Value) (p r u m l : Int) (s : BM.St) (room : Int) (L : List (Int × Int)) : Prop where
  bk : BktAt w b p r u m l s
  q : QL w v L
  h0 : w.cell? ⟨h, 0, none⟩ = some (.pointer (some ⟨g, 0, none⟩))
  g0 : w.cell? ⟨g, 0, none⟩ = some (.pointer (some ⟨b, 0, none⟩))
  g1 : w.cell? ⟨g, 1, none⟩ = some v
  g2 : w.cell? ⟨g, 2, none⟩ = some (.int .i64 (sumB L))
  g3 : w.cell? ⟨g, 3, none⟩ = some (.int .i64 room)
  e1 : w.frozen? ⟨g, 1, none⟩ = false
  e2 : w.frozen? ⟨g, 2, none⟩ = false
  hg : h ≠ g
  hb : h ≠ b
  gb : g ≠ b
  vh : v.ownBlock ≠ some h
  vg : v.ownBlock ≠ some g
  vb : v.ownBlock ≠ some b
  rt : rightB p r u m l = true
  ok : BM.Ok u m s
  sz : Szs m l L
  r0 : 0 ≤ room
  r1 : room ≤ 1000000000
  sm : sumB L ≤ room
/-- its blocks. -/
def ShBlk (h g b : Nat) (v : Value) (k : Nat) : Prop := k = h ∨ k = g ∨ k = b ∨ v.ownBlock = some k
section
variable {w w' : World} {h g b : Nat} {v : Value} {p r u m l : Int} {s : BM.St} {room : Int} {L : List (Int × Int)}
theorem ShAt.hlt (H : ShAt w h g b v p r u m l s room L) : h < w.heap.size := World.block_lt_of_cell? w _ H.h0
theorem ShAt.glt (H : ShAt w h g b v p r u m l s room L) : g < w.heap.size := World.block_lt_of_cell? w _ H.g0
theorem ShAt.blt (H : ShAt w h g b v p r u m l s room L) : b < w.heap.size := H.bk.lt
theorem ShAt.lt (H : ShAt w h g b v p r u m l s room L) {k : Nat} (hk : ShBlk h g b v k) : k < w.heap.size := by
  rcases hk with rfl | rfl | rfl | e
  · exact H.hlt
  · exact H.glt
  · exact H.blt
  · exact H.q.lt k e
theorem ShAt.keep (H : ShAt w h g b v p r u m l s room L) (hs : w.heap.size ≤ w'.heap.size) (hk : ∀ k, ShBlk h g b v k → w'.heap[k]? = w.heap[k]?) : ShAt w' h g b v p r u m l s room L := by
  have ch := fun o => World.cell?_of_block (w := w) (w' := w') (a := ⟨h, o, none⟩) (hk h (.inl rfl))
  have cg := fun o => World.cell?_of_block (w := w) (w' := w') (a := ⟨g, o, none⟩) (hk g (.inr (.inl rfl)))
  have fg := fun o => World.frozen?_of_block (w := w) (w' := w') (a := ⟨g, o, none⟩) (hk g (.inr (.inl rfl)))
  exact ⟨H.bk.of (hk b (.inr (.inr (.inl rfl)))) hs, H.q.keep (fun k e => hk k (.inr (.inr (.inr e)))) hs, (ch 0).trans H.h0, (cg 0).trans H.g0, (cg 1).trans H.g1, (cg 2).trans H.g2, (cg 3).trans H.g3, (fg 1).trans H.e1, (fg 2).trans H.e2, H.hg, H.hb, H.gb, H.vh, H.vg, H.vb, H.rt, H.ok, H.sz, H.r0, H.r1, H.sm⟩
theorem ShAt.below (H : ShAt w h g b v p r u m l s room L) (hb : Below w.heap.size w w') : ShAt w' h g b v p r u m l s room L := H.keep hb.size (fun k hk => hb.block k (H.lt hk))
theorem ShAt.sav (H : ShAt w h g b v p r u m l s room L) {S : Nat → Prop} (hs : Sav S w w') (hn : ∀ k, ShBlk h g b v k → ¬ S k) : ShAt w' h g b v p r u m l s room L := H.keep hs.size (fun k hk => hs.block k (H.lt hk) (hn k hk))
theorem ShAt.len (H : ShAt w h g b v p r u m l s room L) : (L.length : Int) ≤ 1000000000 := by
  have := H.sz.sum (by have := rightB_iff H.rt; omega : 1 ≤ l)
  have := H.sm
  have := H.r1
  omega
end
/-- the cell that tells what a shaper keeps. -/
def PtrAt (w : World) (h : Nat) (a : Option Addr) : Prop := w.cell? ⟨h, 0, none⟩ = some (.pointer a)
theorem shNone_nil (w : World) : Calls Try.prog 26 #[.pointer none] w fun e w' => e = .returned (.bool true) ∧ w = w' := by
  go_enter Try.func26, Try.ntmps26
  go_wp2_with fail
  go_ret
  exact ⟨by simp, rfl⟩
theorem shNone_zero {h : Nat} {w : World} (hz : PtrAt w h none) : Calls Try.prog 26 #[.pointer (some ⟨h, 0, none⟩)] w fun e w' => e = .returned (.bool true) ∧ w = w' := by
  unfold PtrAt at hz
  go_enter Try.func26, Try.ntmps26
  go_wp2_with fail
  go_ret
  exact ⟨by simp, rfl⟩
theorem shNone_yes {h g : Nat} {w : World} (hz : PtrAt w h (some ⟨g, 0, none⟩)) : Calls Try.prog 26 #[.pointer (some ⟨h, 0, none⟩)] w fun e w' => e = .returned (.bool false) ∧ w = w' := by
  unfold PtrAt at hz
  go_enter Try.func26, Try.ntmps26
  go_wp2_with fail
  go_ret
  exact ⟨by simp, rfl⟩
def boolV (b : Bool) : List Value := [.bool b]
theorem Lie.bool {w : World} {B : Nat} {A : Option Addr} {l : List Bool} (h : Lie boolV 1 w B A l) (i : Nat) (hi : i < l.length) :
    ∃ ad, A = some ad ∧ ad.block < B ∧ w.cell? (ad.add (i * 1)) = some (.bool l[i]) := by
  obtain ⟨ad, e, hB, hc⟩ := h (by omega)
  exact ⟨ad, e, hB, hc i _ (List.getElem?_eq_getElem hi) 0 _ rfl⟩
set_option maxHeartbeats 2000000 in
theorem idxB_any (A : Option Addr) (l : List Bool) (c : Nat) (hL : l.length ≤ 1000) (w : World) (hA : Lie boolV 1 w w.heap.size A l) :
    Calls Try.prog 52 #[.slice A l.length c, .bool true] w fun e w' => (∃ n : Int, e = .returned (.int .i64 n) ∧ (0 ≤ n ↔ l.any id = true)) ∧ w' = w := by
  have HA := hidd hA
  obtain ⟨P, hP⟩ : ∃ P : Prop, (l.any id = true) = P := ⟨_, rfl⟩
  have HP := hidd hP
  rw [hP]
  have HID : Hid (∀ n : Int, (0 ≤ n ↔ P) → ∃ n' : Int, Ending.returned (Value.int .i64 n) = .returned (.int .i64 n') ∧ (0 ≤ n' ↔ P)) := hidd (fun n h => ⟨n, rfl, h⟩)
  clear hA hP
  go_enter Try.func52, Try.ntmps52
  go_wp2_with fail
  go_loopg [8] (l.length + 1) (fun gk s8 wr => ∃ i : Nat, i ≤ l.length ∧ i + gk = l.length + 1 ∧ s8 = .int .i64 (i : Int) ∧ (∀ j (hj : j < l.length), j < i → l[j] = false) ∧ w = wr)
  case atStart => exact ⟨0, by omega, by omega, rfl, fun j _ h => absurd h (by omega), rfl⟩
  case round =>
    obtain ⟨i, hi, hk, rfl, hs, rfl⟩ := hrel
    have HK := hidd hk
    have HS := hidd hs
    clear hk hs
    by_cases hin : i < l.length
    · have z1 : (i : Int) < (l.length : Int) := by omega
      have z0 : (0 : Int) ≤ (i : Int) := by omega
      obtain ⟨ad, rfl, ha, x0⟩ := HA.out.bool i hin
      rw [Nat.mul_one] at x0
      have HY := hidd (rfl : l[i] = l[i])
      obtain ⟨B, hB⟩ : ∃ B, l[i] = B := ⟨_, rfl⟩
      have HB := hidd hB
      rw [hB] at x0
      clear hB HY
      cases B
      · go_wp2_with fail
        have hk := HK.out
        go_roundg (gk - 1)
        case measure => omega
        case rel => exact ⟨i + 1, by omega, by omega, by go_num, fun j hj h => by
          by_cases e : j = i
          · subst e; exact HB.out
          · exact HS.out j hj (by omega), rfl⟩
      · have hyes : P := by rw [← HP.out]; exact List.any_eq_true.2 ⟨l[i], List.getElem_mem hin, by rw [HB.out]; rfl⟩
        have HYES := hidd hyes
        clear hyes
        go_wp2_with fail
        go_ret
        exact ⟨HID.out _ ⟨fun _ => HYES.out, fun _ => by omega⟩, rfl⟩
    · have z1 : ¬ (i : Int) < (l.length : Int) := by omega
      have hno : ¬ P := by
        rw [← HP.out]
        intro h
        obtain ⟨x, hx, hb⟩ := List.any_eq_true.1 h
        obtain ⟨j, hj, rfl⟩ := List.getElem_of_mem hx
        rw [HS.out j hj (by omega)] at hb
        cases hb
      have HNO := hidd hno
      clear hno
      go_wp2_with fail
      go_ret
      exact ⟨HID.out _ ⟨fun h => absurd h (by omega), fun h => absurd h HNO.out⟩, rfl⟩
theorem isAny_any (A : Option Addr) (l : List Bool) (c : Nat) (hL : l.length ≤ 1000) (w : World) (hA : Lie boolV 1 w w.heap.size A l) :
    Calls Try.prog 20 #[.slice A l.length c] w fun e w' => e = .returned (.bool (l.any id)) ∧ w' = w := by
  have ci := hidd (idxB_any A l c hL w hA)
  have cc : Hid (Calls Try.prog 40 #[.slice A l.length c, .bool true] w fun e w' => e = .returned (.bool (l.any id)) ∧ w' = w) := hidd (by
    generalize l.length = n at *
    generalize l.any id = B at *
    clear hA hL
    go_enter Try.func40, Try.ntmps40
    go_wp2_with fail
    refine ci.out.mono ?_
    rintro e w1 ⟨⟨k, rfl, hk⟩, rfl⟩
    have HK := hidd hk
    clear hk
    go_wp2_with fail
    go_ret
    exact ⟨ret_bool (by
      have := HK.out
      cases B
      · simp at this ⊢; omega
      · simp at this ⊢; omega), rfl⟩)
  generalize l.length = n at *
  generalize l.any id = B at *
  clear hA hL ci
  go_enter Try.func20, Try.ntmps20
  go_wp2_with fail
  refine cc.out.mono ?_
  rintro e w1 ⟨rfl, rfl⟩
  go_wp2_with fail
  go_ret
  exact ⟨rfl, rfl⟩
end Go.Proofs.Ythaiphkmkchhoaa

/- Shapers: going over a list of packets: the iterator, and the law of a range over it whose rounds may write anything but the list and may leave. -/
namespace Go.Proofs.Ythaiphkmkchhoaa
open Go.RowKit
set_option linter.unusedVariables false
section
variable {F : Fence} {n : Nat} {P : Program}
/-- the iterator's word: whatever the rounds keep that tells where the list lies (Rd). -/
def SeqV {α : Type} (F : Fence) (n : Nat) (P : Program) (g : Nat) (lb : Array Value) (encs : α → Array Value) (L : List α) (Rd : World → Prop) : Prop :=
  ∀ (l : Nat) (J Jx : Nat → World → Prop) (W : World),
    (∀ k X, J k X → Rd X) → (∀ k X o, J k X → J k (X.alloc o)) →
    (∀ k X, (hk : k < L.length) → J k X → YieldAt F (n - 1) P l (encs L[k]) X fun e Y => (e = .returned (.bool true) ∧ J (k + 1) Y) ∨ (e = .returned (.bool false) ∧ Jx k Y)) →
    J 0 W → CallsIn F n P g (#[.func (.yield l) #[] #[]] ++ lb) W fun e Y => (∃ v, e = .returned v) ∧ (J L.length Y ∨ ∃ k, k < L.length ∧ Jx k Y)
/-- two worlds, but for the range's own two blocks. -/
structure Rng (B : Nat) (X Y : World) : Prop where
  os : Y.os = X.os
  tape : Y.tape = X.tape
  output : Y.output = X.output
  size : X.heap.size ≤ Y.heap.size
  block : ∀ j, j < X.heap.size → j ≠ B → j ≠ B + 1 → Y.heap[j]? = X.heap[j]?
theorem Rng.put (B : Nat) (X : World) (o : Obj) : Rng B X (X.putObj (B + 1) o) := ⟨rfl, rfl, rfl, by simp [World.putObj], fun j _ _ h => World.putObj_heap_other h⟩
theorem Rng.alloc (B : Nat) (X : World) (o : Obj) : Rng B X (X.alloc o) := ⟨rfl, rfl, rfl, by simp, fun j hj _ _ => Below.heap_alloc _ _ _ hj⟩
def roundEndV (B : Nat) (I : Nat → World → Prop) (X : Code → Nat → World → Prop) (k : Nat) (W : World) : Exit → Act → World → Prop
  | .normal, _, Y => Y.heap[B]? = W.heap[B]? ∧ Y.heap[B + 1]? = W.heap[B + 1]? ∧ I (k + 1) Y
  | .exit i, _, Y => Y.heap[B]? = W.heap[B]? ∧ Y.heap[B + 1]? = W.heap[B + 1]? ∧ X (.exit i) k Y
  | _, _, _ => False
theorem wpIn_rangeFunc_V {α : Type} {g : Operand} {ps : Array Tmp} {assign body : Code} {Q : Exit → Act → World → Prop} {a : Act} {w : World}
    (hro : F.round = none) (h1 : 1 ≤ n) {gf : Nat} {lb : Array Value} (hg : a.eval g = .func (.func gf) #[] lb) (hFg : F.fn gf) (eg : ∀ args w, (callFunc gf args).run P w = .ok (.enter gf args) w)
    {encs : α → Array Value} {L : List α} {Rd : World → Prop} (hseq : SeqV F (n - 1) P gf lb encs L Rd) (hps : ∀ x, (encs x).size = ps.size)
    (I : Nat → World → Prop) (X : Code → Nat → World → Prop) (hRd : ∀ k W, I k W → Rd W) (hI : ∀ k W Y, I k W → Rng w.heap.size W Y → I k Y) (hX : ∀ c k W Y, X c k W → Rng w.heap.size W Y → X c k Y) (h0 : I 0 w) (ob : α → Obj) (a₁ : α → Nat → Act)
    (hassign : ∀ (l k : Nat) (x : α) (W : World) (K : Act → World → Prop), I k W → K (a₁ x W.heap.size) (W.alloc (ob x)) →
      assign.wpIn (F.inRound l) (n - 1 - 1) P (Exit.then K (fun _ _ _ => False)) { tmps := (ps.zip (encs x)).foldl (fun t (p, v) => t.setIfInBounds p v) a.tmps, defers := [] } W)
    (hbody : ∀ (l k q : Nat) (W : World), (hk : k < L.length) → w.heap.size + 2 ≤ q → W.heap[q]? = some (ob L[k]) → I k W → body.wpIn (F.inRound l) (n - 1 - 1) P (roundEndV w.heap.size I X k W) (a₁ L[k] q) W)
    (hdone : ∀ (D : Nat) (W : World), D = w.heap.size → I L.length W → W.heap[D]? = some (.deferred (some [])) → Q .normal { a with defers := { target := .collected D, args := #[] } :: a.defers } W)
    (hstop : ∀ (D : Nat) (c : Code) (k : Nat) (W : World), D = w.heap.size → k < L.length → X c k W → W.heap[D]? = some (.deferred (some [])) → c.wpIn F n P Q { a with defers := { target := .collected D, args := #[] } :: a.defers } W) :
    (Code.rangeFunc g ps assign body).wpIn F n P Q a w := by
  refine wpIn_rangeFunc fun fn hfn => ?_
  rw [hro]
  let B := w.heap.size
  let R : LoopState → Option Code → Loop := fun s j => { state := s, pending := j, fn, tmps := a.tmps, params := ps, assign, body, defers := B }
  let V := (w.alloc (.deferred (some []))).alloc (.loop (R .ready none))
  have sV : V.heap.size = B + 2 := by simp [V, B]
  have lV : V.heap[B + 1]? = some (.loop (R .ready none)) := by
    have h := World.alloc_heap_new (w.alloc (.deferred (some []))) (.loop (R .ready none))
    rw [World.size_alloc] at h
    exact h
  have dV : V.heap[B]? = some (.deferred (some [])) := (Below.heap_alloc _ _ _ (by simp [B])).trans (World.alloc_heap_new w _)
  have iV : I 0 V := hI _ _ _ (hI _ _ _ h0 (Rng.alloc _ _ _)) (Rng.alloc _ _ _)
  let J : Nat → World → Prop := fun k Y => I k Y ∧ Y.heap[B + 1]? = some (.loop (R .ready none)) ∧ Y.heap[B]? = some (.deferred (some []))
  let Jx : Nat → World → Prop := fun k Y => ∃ c, X c k Y ∧ Y.heap[B + 1]? = some (.loop (R .done (some c))) ∧ Y.heap[B]? = some (.deferred (some []))
  refine ⟨B + 1, [{ target := .collected B, args := #[] }], V, { target := .fn (.func gf) lb, args := #[.func (.yield (B + 1)) #[] #[]] }, V, gf, #[.func (.yield (B + 1)) #[] #[]] ++ lb, V,
    run_enterLoop_outer _ _ _ _ _, by simp only [resolve, hg]; simp [go_sem], fun f' hf' => by simp [Target.leads] at hf'; subst hf'; exact hFg, by simp [invoke, go_sem, eg], fun _ => h1, ?_⟩
  refine (hseq (B + 1) J Jx V (fun k Y h => hRd k Y h.1) ?_ ?_ ⟨iV, lV, dV⟩).mono ?_
  · rintro k Y o ⟨hi, hl, hd⟩
    have hlt : B + 1 < Y.heap.size := (Array.getElem?_eq_some_iff.1 hl).1
    exact ⟨hI _ _ _ hi (Rng.alloc _ _ _), (Below.heap_alloc _ _ _ hlt).trans hl, (Below.heap_alloc _ _ _ (by omega)).trans hd⟩
  · rintro k Y hk ⟨hi, hl, hd⟩
    have hlt : B + 1 < Y.heap.size := (Array.getElem?_eq_some_iff.1 hl).1
    have hlq : (Y.alloc (ob L[k])).heap[B + 1]? = some (.loop (R .ready none)) := (Below.heap_alloc _ _ _ hlt).trans hl
    have hdq : (Y.alloc (ob L[k])).heap[B]? = some (.deferred (some [])) := (Below.heap_alloc _ _ _ (by omega)).trans hd
    have hiq := hI _ _ _ hi (Rng.alloc w.heap.size Y (ob L[k]))
    have szq : (Y.alloc (ob L[k])).heap.size = Y.heap.size + 1 := by simp
    have hxq : (Y.alloc (ob L[k])).heap[Y.heap.size]? = some (ob L[k]) := World.alloc_heap_new Y _
    refine ⟨fn, _, assign, body, run_yield (P := P) (args := encs L[k]) hl (hps _), roundIn_of_wpIn hfn (hassign _ k L[k] Y _ hi ⟨_, run_beginRound hlq rfl, ?_⟩)⟩
    generalize Y.alloc (ob L[k]) = Y' at *
    have hltq : B + 1 < Y'.heap.size := by omega
    have l2 : (Y'.putObj (B + 1) (.loop { R .ready none with state := .busy })).heap[B + 1]? = some (.loop { R .ready none with state := .busy }) := World.putObj_heap_same hltq
    have d2 : (Y'.putObj (B + 1) (.loop { R .ready none with state := .busy })).heap[B]? = some (.deferred (some [])) := (World.putObj_heap_other (by omega)).trans hdq
    refine wpIn_mono (hbody _ k Y.heap.size _ hk (by show B + 2 ≤ _; omega) ((World.putObj_heap_other (by omega)).trans hxq) (hI _ _ _ hiq (Rng.put _ _ _))) ?_
    rintro e a3 Z hZ
    cases e with
    | normal =>
      obtain ⟨hk0, hk1, hi3⟩ := hZ
      have l3 := hk1.trans l2
      have d3 := hk0.trans d2
      exact ⟨_, _, run_endRound (P := P) none l3, .inl ⟨rfl, hI _ _ _ hi3 (Rng.put _ _ _), World.putObj_heap_same (Array.getElem?_eq_some_iff.1 l3).1, (World.putObj_heap_other (by omega)).trans d3⟩⟩
    | exit i =>
      obtain ⟨hk0, hk1, hx⟩ := hZ
      have l3 := hk1.trans l2
      have d3 := hk0.trans d2
      exact ⟨_, _, run_endRound (P := P) (some (.exit i)) l3, .inr ⟨rfl, .exit i, hX _ _ _ _ hx (Rng.put _ _ _), World.putObj_heap_same (Array.getElem?_eq_some_iff.1 l3).1, (World.putObj_heap_other (by omega)).trans d3⟩⟩
    | _ => exact hZ.elim
  · rintro e Y ⟨⟨v, rfl⟩, (⟨hi, hl, hd⟩ | ⟨k, hk, c, hx, hl, hd⟩)⟩
    · exact ⟨none, _, run_endLoop (P := P) hl (by simp [R]), hdone B _ rfl (hI _ _ _ hi (Rng.put _ _ _)) ((World.putObj_heap_other (by omega)).trans hd)⟩
    · exact ⟨some c, _, run_endLoop (P := P) hl (by simp [R]), hstop B c k _ rfl hk (hX _ _ _ _ hx (Rng.put _ _ _)) ((World.putObj_heap_other (by omega)).trans hd)⟩
end
attribute [local go_sem] Oper.semAt_some
/-- a packet as an argument. -/
def agW (x : Int × Int) : Value := .agg #[.int .i64 x.1, .int .i64 x.2]
/-- a slice in a box, and the list where it says. -/
def LiesAt (q : Nat) (A : Option Addr) (c : Nat) (L : List (Int × Int)) (W : World) : Prop := W.cell? ⟨q, 0, none⟩ = some (.slice A L.length c) ∧ Lie sendV 2 W W.heap.size A L
theorem LiesAt.alloc {q : Nat} {A : Option Addr} {c : Nat} {L : List (Int × Int)} {W : World} (h : LiesAt q A c L W) (o : Obj) : LiesAt q A c L (W.alloc o) := by
  have hq := World.block_lt_of_cell? W _ h.1
  have hb : Below W.heap.size W (W.alloc o) := (Below.refl _ _).alloc (Nat.le_refl _) _
  exact ⟨(hb.cell (p := ⟨q, 0, none⟩) hq).trans h.1, h.2.below hb⟩
theorem waitVals_any (A : Option Addr) (n c : Nat) (w : World) : Calls Try.prog 44 #[.slice A n c] w fun e w' => e = .returned (.func (.func 54) #[] #[.pointer (some ⟨w.heap.size, 0, none⟩)]) ∧ w' = w.alloc (.cells #[.slice A n c] 33) := by
  have hmf : ∀ (fn : Fn) (first cap : Array Value) (w : World), (Instr.makeFunc fn first cap).run Try.prog w = .ok (.func fn first cap) w := fun _ _ _ _ => rfl
  go_enter Try.func44, Try.ntmps44
  go_wp2
  go_ret
  exact ⟨rfl, rfl⟩
set_option maxRecDepth 100000 in
set_option maxHeartbeats 4000000 in
theorem vals1_in (n : Nat) (hn : 1 ≤ n) (q : Nat) (A : Option Addr) (c : Nat) (L : List (Int × Int)) (hL : L.length ≤ 1000000000) :
    SeqV Fence.wide n Try.prog 54 #[.pointer (some ⟨q, 0, none⟩)] (fun x : Int × Int => #[agW x]) L (LiesAt q A c L) := by
  intro l J Jx W hJR hJA hY h0
  have HR := hidd hJR
  have HA := hidd hJA
  have HY := hidd hY
  have H0 := hidd h0
  obtain ⟨PO, hPO⟩ : ∃ PO : Ending → World → Prop, (fun (e : Ending) (Y : World) => (∃ v, e = .returned v) ∧ (J L.length Y ∨ ∃ k, k < L.length ∧ Jx k Y)) = PO := ⟨_, rfl⟩
  rw [hPO]
  have HYES : Hid (∀ v Y, J L.length Y → PO (.returned v) Y) := hidd (fun v Y h => by rw [← hPO]; exact ⟨⟨_, rfl⟩, .inl h⟩)
  have HNO : Hid (∀ v k Y, k < L.length → Jx k Y → PO (.returned v) Y) := hidd (fun v k Y h h2 => by rw [← hPO]; exact ⟨⟨_, rfl⟩, .inr ⟨_, h, h2⟩⟩)
  have g0 := (hJR 0 W h0).1
  clear hJR hJA hY h0 hPO
  refine callsIn_of_wp Try.func54 rfl trivial ?_ rfl
  simp only [Try.ntmps54, List.size_toArray, List.length_cons, List.length_nil, Nat.reduceAdd, Nat.reduceSub, Array.replicate_succ, Array.replicate_zero, List.push_toArray, List.append_toArray, List.nil_append, List.cons_append]
  refine wpIn_wide.2 ?_
  go_wp2_with fail
  clear g0
  refine (wpIn_wide (n := n)).1 ?_
  gi_loopw [7] (fun s7 wr => ∃ k : Nat, k ≤ L.length ∧ s7 = .int .i64 (k : Int) ∧ J k wr) (fun s7 _ => L.length - (intOf s7).toNat)
  case atStart => exact ⟨0, Nat.zero_le _, rfl, H0.out⟩
  case round =>
    obtain ⟨k, hk, rfl, hJk⟩ := hrel
    have HJK := hidd hJk
    have hLL := (HR.out k wr hJk).2
    clear hJk
    by_cases hlt : k < L.length
    · have hlt2 : (k : Int) < (L.length : Int) := by omega
      have hk0 : (0 : Int) ≤ (k : Int) := by omega
      obtain ⟨ad, rfl, hadb, hc0, hc1⟩ := hLL.send k hlt
      obtain ⟨Wb, hWb⟩ : ∃ Wb, wr.alloc (.cells #[.int .i64 L[k].1, .int .i64 L[k].2] 41) = Wb := ⟨_, rfl⟩
      have hJb : J k Wb := by rw [← hWb]; exact HA.out _ _ _ HJK.out
      obtain ⟨fn, tmps, assign, body, hy, hR⟩ := HY.out k Wb hlt hJb
      clear hLL hJb
      rw [← hWb] at hy
      unfold agW at hy
      have HW := hidd hWb
      clear hWb
      generalize L[k].1 = a0 at *
      generalize L[k].2 = a1 at *
      gi_wp2_with fail
      rw [HW.out]
      refine hR.mono ?_
      rintro e W4 (⟨rfl, hJ4⟩ | ⟨rfl, hJx⟩)
      · have HJ4 := hidd hJ4
        clear hJ4 hy hR hc0 hc1
        gi_wp2
        go_roundw
        case rel => exact ⟨k + 1, by omega, by go_num, HJ4.out⟩
        case measure => simp [intOf]; omega
      · have HJx := hidd hJx
        have HLT := hidd hlt
        clear hJx hy hR hc0 hc1
        gi_wp2
        have hfin := fun v => HNO.out v _ _ HLT.out HJx.out
        (try rw [Exit.noGoto_ret])
        first | exact hfin _ | exact bodyPost_ret (results_none rfl _ _ _) rfl (hfin _)
    · have hlt2 : ¬ (k : Int) < (L.length : Int) := by omega
      have he : Hid (k = L.length) := hidd (by omega)
      gi_wp2
      have hfin : ∀ v, PO (.returned v) wr := fun v => HYES.out v _ (by rw [← he.out]; exact HJK.out)
      first | exact hfin _ | exact ⟨rfl, _, results_none rfl _ _ _, hfin _⟩ | (go_end0; exact hfin _)
end Go.Proofs.Ythaiphkmkchhoaa

/- Shapers: bytes summed up; sizes looked at; a tick gone to; Bytes, All, Spec, Next. -/
namespace Go.Proofs.Ythaiphkmkchhoaa
open Go.RowKit Go.Sort
set_option linter.unusedVariables false
theorem go1_any (x : Int × Int) (w : World) : Calls Try.prog 36 #[agW x] w fun e w' => e = .returned (.int .i64 x.2) ∧ Below w.heap.size w w' := by
  unfold agW
  go_enter Try.func36, Try.ntmps36
  go_wp2_with fail
  go_ret
  exact ⟨rfl, by (repeat' (first | (with_reducible exact Below.refl _ _) | (with_reducible assumption) | (with_reducible apply Below.setCell) | (with_reducible apply Below.alloc) | (with_reducible apply Below.drew) | (with_reducible apply below_drewN) | (with_reducible refine Below.trans ?_ (Below.mono (by assumption) ?_)) | omega | (simp; done) | (simp; omega)))⟩
theorem sumB_le {L : List (Int × Int)} (h : ∀ x ∈ L, 0 ≤ x.2) (i : Nat) : 0 ≤ sumB (L.take i) ∧ sumB (L.take i) ≤ sumB L := by
  have nn : ∀ M : List (Int × Int), (∀ x ∈ M, 0 ≤ x.2) → 0 ≤ sumB M := by
    intro M
    induction M with
    | nil => intro _; simp [sumB]
    | cons x M ih => intro hM; have a := hM x (by simp); have b := ih (fun y hy => hM y (List.mem_cons_of_mem _ hy)); simp only [sumB]; omega
  have a := nn (L.take i) (fun x hx => h x (List.mem_of_mem_take hx))
  have b := nn (L.drop i) (fun x hx => h x (List.mem_of_mem_drop hx))
  have c := sumB_take L i
  omega
set_option maxHeartbeats 2000000 in
theorem sum_any (A : Option Addr) (L : List (Int × Int)) (c : Nat) (hL : L.length ≤ 1000000000) (h0 : ∀ x ∈ L, 0 ≤ x.2) (h1 : sumB L ≤ 1000000000000) (w : World) (hA : Lie sendV 2 w w.heap.size A L) :
    Calls Try.prog 35 #[.slice A L.length c, .func (.func 36) #[] #[]] w fun e w' => e = .returned (.int .i64 (sumB L)) ∧ Below w.heap.size w w' := by
  have HA := hidd hA
  have C := hidd (fun x W => go1_any x W)
  have HS := hidd (fun i => sumB_le h0 i)
  have H1 := hidd h1
  have HE := hidd (fun (i : Nat) (hi : i < L.length) => sumB_one hi)
  have HF : Hid (∀ i, L.length ≤ i → sumB (L.take i) = sumB L) := hidd (fun i hi => by rw [List.take_of_length_le hi])
  unfold agW at C
  clear hA h0 h1
  go_enter Try.func35, Try.ntmps35
  go_wp2_with fail
  go_loopg [5, 10] (L.length + 1) (fun gk s5 s10 wr => ∃ i : Nat, i ≤ L.length ∧ i + gk = L.length + 1 ∧ s10 = .int .i64 (i : Int) ∧ s5 = .int .i64 (sumB (L.take i)) ∧ Below w.heap.size w wr)
  case atStart => exact ⟨0, by omega, by omega, rfl, by simp [sumB], Below.refl _ _⟩
  case round =>
    obtain ⟨i, hi, hk, rfl, rfl, hB⟩ := hrel
    have HK := hidd hk
    have HB := hidd hB
    clear hk hB
    by_cases hin : i < L.length
    · have z1 : (i : Int) < (L.length : Int) := by omega
      have z0 : (0 : Int) ≤ (i : Int) := by omega
      obtain ⟨ad, rfl, ha, x0, x1⟩ := (HA.out.below HB.out).send i hin
      have he := hidd (HE.out i hin)
      have hw : IntKind.i64.wrap (sumB (L.take i) + L[i].2) = sumB (L.take (i + 1)) := by
        rw [← he.out]
        have a := HS.out (i + 1)
        have b := H1.out
        exact IntWalk.i64_in _ (by omega)
      have hw64 : wrap64 (sumB (L.take i) + L[i].2) = sumB (L.take (i + 1)) := by
        rw [← he.out]
        have a := HS.out (i + 1)
        have b := H1.out
        simp only [wrap64]
        omega
      have HW := hidd hw
      have HW6 := hidd hw64
      have ct := hidd (fun W => C.out L[i] W)
      clear hw hw64 he
      generalize sumB (L.take i) = S0 at *
      generalize L[i].1 = a0 at *
      generalize L[i].2 = a1 at *
      go_wp2_with fail
      refine (ct.out _).mono ?_
      rintro e w2 ⟨rfl, hb2⟩
      have HB2 : Hid (Below w.heap.size w w2) := hidd (below_step (below_new HB.out _) hb2)
      clear hb2
      go_wp2_with fail
      have hk := HK.out
      go_roundg (gk - 1)
      case measure => omega
      case rel => exact ⟨i + 1, by omega, by omega, by go_num, by first | rw [HW6.out] | rw [HW.out], HB2.out⟩
    · have z1 : ¬ (i : Int) < (L.length : Int) := by omega
      have hf := HF.out i (by omega)
      rw [hf]
      clear hf HS HE HF H1
      obtain ⟨S, hS⟩ : ∃ S, sumB L = S := ⟨_, rfl⟩
      have HS := hidd hS
      rw [hS]
      clear hS
      go_wp2_with fail
      go_ret
      exact ⟨ret_int HS.out.symm, HB.out⟩
section
variable {w : World} {h g b : Nat} {v : Value} {p r u m l : Int} {s : BM.St} {room : Int} {L : List (Int × Int)}
theorem bytes_any (H : ShAt w h g b v p r u m l s room L) : Calls Try.prog 18 #[.pointer (some ⟨h, 0, none⟩)] w fun e w' => e = .returned (.int .i64 (sumB L)) ∧ w = w' := by
  have c := hidd (shNone_yes H.h0)
  have h0 := H.h0
  have g2 := H.g2
  clear H
  generalize sumB L = S at *
  go_enter Try.func18, Try.ntmps18
  go_wp2_with fail
  refine c.out.mono ?_
  rintro e w' ⟨rfl, rfl⟩
  go_wp2_with fail
  go_ret
  exact ⟨rfl, rfl⟩
theorem all_any (H : ShAt w h g b v p r u m l s room L) : Calls Try.prog 24 #[.pointer (some ⟨h, 0, none⟩)] w fun e w' => e = .returned (.func (.func 54) #[] #[.pointer (some ⟨w.heap.size, 0, none⟩)]) ∧ w' = w.alloc (.cells #[v] 33) := by
  have c := hidd (shNone_yes H.h0)
  have cv := hidd (fun A n c W => waitVals_any A n c W)
  have h0 := H.h0
  have g1 := H.g1
  obtain ⟨A, k, rfl, _, _, _⟩ := H.q.lie
  clear H
  generalize L.length = n at *
  go_enter Try.func24, Try.ntmps24
  go_wp2_with fail
  refine c.out.mono ?_
  rintro e w' ⟨rfl, rfl⟩
  go_wp2_with fail
  refine (cv.out _ _ _ _).mono ?_
  rintro e w' ⟨rfl, rfl⟩
  go_wp2_with fail
  go_ret
  exact ⟨rfl, rfl⟩
theorem shSpec_any (H : ShAt w h g b v p r u m l s room L) : Calls Try.prog 10 #[.pointer (some ⟨h, 0, none⟩)] w fun e w' => e = .returned (.agg #[.int .i64 p, .int .i64 r, .int .i64 u, .int .i64 m, .int .i64 l]) ∧ Below w.heap.size w w' := by
  have hp := rightB_iff H.rt
  have HH := hidd H
  have c := hidd (fun W (b : Below w.heap.size w W) => shNone_yes (H.below b).h0)
  have cs := hidd (fun W (b : Below w.heap.size w W) => bspec_any (H.below b).bk (by omega))
  have B1 := hidd (show Below w.heap.size w (w.alloc (.cells #[.int .i64 0, .int .i64 0, .int .i64 0, .int .i64 0, .int .i64 0] 23)) from by (repeat' (first | (with_reducible exact Below.refl _ _) | (with_reducible assumption) | (with_reducible apply Below.setCell) | (with_reducible apply Below.alloc) | (with_reducible apply Below.drew) | (with_reducible apply below_drewN) | (with_reducible refine Below.trans ?_ (Below.mono (by assumption) ?_)) | omega | (simp; done) | (simp; omega))))
  have h0 := H.h0
  have g0 := H.g0
  have hl := H.hlt
  have gl := H.glt
  clear H hp
  go_enter Try.func10, Try.ntmps10
  go_wp2_with fail
  refine (c.out _ B1.out).mono ?_
  rintro e w' ⟨rfl, rfl⟩
  go_wp2_with fail
  refine (cs.out _ B1.out).mono ?_
  rintro e w2 ⟨rfl, hb⟩
  obtain ⟨bc, bf⟩ := bcell hb
  have z : w.heap.size < w2.heap.size := by have := hb.size; simp at this; omega
  have c0 : w2.cell? ⟨w.heap.size, 0, none⟩ = some (.int .i64 0) := by rw [bc _ _ (by (first | omega | (simp; done) | (simp; omega)))]; simp [go_sem]
  have c1 : w2.cell? ⟨w.heap.size, 1, none⟩ = some (.int .i64 0) := by rw [bc _ _ (by (first | omega | (simp; done) | (simp; omega)))]; simp [go_sem]
  have c2 : w2.cell? ⟨w.heap.size, 2, none⟩ = some (.int .i64 0) := by rw [bc _ _ (by (first | omega | (simp; done) | (simp; omega)))]; simp [go_sem]
  have c3 : w2.cell? ⟨w.heap.size, 3, none⟩ = some (.int .i64 0) := by rw [bc _ _ (by (first | omega | (simp; done) | (simp; omega)))]; simp [go_sem]
  have c4 : w2.cell? ⟨w.heap.size, 4, none⟩ = some (.int .i64 0) := by rw [bc _ _ (by (first | omega | (simp; done) | (simp; omega)))]; simp [go_sem]
  have f0 : w2.frozen? ⟨w.heap.size, 0, none⟩ = false := by rw [bf _ _ (by (first | omega | (simp; done) | (simp; omega)))]; simp [go_sem]
  have f1 : w2.frozen? ⟨w.heap.size, 1, none⟩ = false := by rw [bf _ _ (by (first | omega | (simp; done) | (simp; omega)))]; simp [go_sem]
  have f2 : w2.frozen? ⟨w.heap.size, 2, none⟩ = false := by rw [bf _ _ (by (first | omega | (simp; done) | (simp; omega)))]; simp [go_sem]
  have f3 : w2.frozen? ⟨w.heap.size, 3, none⟩ = false := by rw [bf _ _ (by (first | omega | (simp; done) | (simp; omega)))]; simp [go_sem]
  have f4 : w2.frozen? ⟨w.heap.size, 4, none⟩ = false := by rw [bf _ _ (by (first | omega | (simp; done) | (simp; omega)))]; simp [go_sem]
  have HB2 := hidd (below_step B1.out hb)
  clear bc bf hb HH
  go_wp2_with fail
  exact bodyPost_ret (v := .agg #[.int .i64 p, .int .i64 r, .int .i64 u, .int .i64 m, .int .i64 l]) (by simp [results, Try.results10, go_sem, *]) rfl ⟨rfl, (((((HB2.out.setCell (p := ⟨w.heap.size, 0, none⟩) (Nat.le_refl _) _).setCell (p := ⟨w.heap.size, 1, none⟩) (Nat.le_refl _) _).setCell (p := ⟨w.heap.size, 2, none⟩) (Nat.le_refl _) _).setCell (p := ⟨w.heap.size, 3, none⟩) (Nat.le_refl _) _).setCell (p := ⟨w.heap.size, 4, none⟩) (Nat.le_refl _) _)⟩
theorem moveTo_any {g b : Nat} {w : World} {p r u m l : Int} {s : BM.St} (hB : BktAt w b p r u m l s) (hg : w.cell? ⟨g, 0, none⟩ = some (.pointer (some ⟨b, 0, none⟩))) (hr : rightB p r u m l = true) (hs : BM.Ok u m s) (n : Int) :
    Calls Try.prog 33 #[.pointer (some ⟨g, 0, none⟩), .int .i64 n] w fun e w' => e = .returned (.int .i64 (BM.step p r u m l s n 0).2.2) ∧ BktAt w' b p r u m l (BM.step p r u m l s n 0).1 ∧ But b w w' := by
  have c := hidd (btake_any hB hr hs n 0)
  unfold TakeEnd at c
  generalize BM.step p r u m l s n 0 = St at *
  clear hB hr hs
  go_enter Try.func33, Try.ntmps33
  go_wp2_with fail
  refine c.out.mono ?_
  rintro e w1 ⟨rfl, hB1, hb1⟩
  have HB1 := hidd hB1
  have Hb1 := hidd hb1
  clear hB1 hb1
  go_wp2_with fail
  go_ret
  exact ⟨rfl, HB1.out, Hb1.out⟩
end
namespace BM
theorem least_nat {P : Nat → Prop} (h : ∃ k, P k) : ∃ k, P k ∧ ∀ j, j < k → ¬ P j := by
  obtain ⟨k, hk⟩ := h
  induction k using Nat.strongRecOn with
  | _ k ih =>
    by_cases q : ∃ j, j < k ∧ P j
    · obtain ⟨j, h1, h2⟩ := q
      exact ih j h1 h2
    · exact ⟨k, hk, fun j h1 h2 => q ⟨j, h1, h2⟩⟩
theorem when_uniq {p r u m : Int} {s : St} {n z t t' : Int} (h : IsWhen p r u m s n z t) (h' : IsWhen p r u m s n z t') : t = t' := by
  rcases Int.lt_trichotomy t t' with q | q | q
  · exact absurd h.2.2.1 (h'.2.2.2 t h.1 q)
  · exact q
  · exact absurd h'.2.2.1 (h.2.2.2 t' h'.1 q)
theorem when_exists {p r u m l : Int} {s : St} {n z : Int} (hr : rightB p r u m l = true) (hs : Ok u m s) (hn : s.1 ≤ n) (hz : sizeB m l z = true) : ∃ t, IsWhen p r u m s n z t := by
  have hb := rightB_iff hr
  obtain ⟨a0, a1, a2, a3, a4, a5⟩ := hs
  have hz := of_decide_eq_true hz
  have fit : z ≤ lev0 r u s (n + 2000) ∧ z ≤ lev1 p m s (n + 2000) := by
    have m1 : 1 * (n + 2000 - s.1) ≤ r * (n + 2000 - s.1) := Int.mul_le_mul_of_nonneg_right (by omega) (by omega)
    have m2 : 1 * (n + 2000 - s.1) ≤ p * (n + 2000 - s.1) := Int.mul_le_mul_of_nonneg_right (by omega) (by omega)
    unfold lev0 lev1
    rw [later_eq a2 a3 (by omega) (by omega), later_eq a4 a5 (by omega) (by omega)]
    generalize r * (n + 2000 - s.1) = R at *
    generalize p * (n + 2000 - s.1) = Q at *
    omega
  obtain ⟨k, hk, hmin⟩ : ∃ k : Nat, (z ≤ lev0 r u s (n + k) ∧ z ≤ lev1 p m s (n + k)) ∧ ∀ j : Nat, j < k → ¬ (z ≤ lev0 r u s (n + j) ∧ z ≤ lev1 p m s (n + j)) := by
    exact least_nat ⟨2000, fit⟩
  have hk2 : k ≤ 2000 := by
    rcases Nat.lt_or_ge 2000 k with q | q
    · exact absurd fit (hmin 2000 q)
    · exact q
  refine ⟨n + k, by omega, by omega, hk, fun j h1 h2 => ?_⟩
  obtain ⟨i, rfl⟩ : ∃ i : Nat, j = n + i := ⟨(j - n).toNat, by omega⟩
  exact hmin i (by omega)
end BM
theorem bwhen_at {b : Nat} {p r u m l : Int} {s : BM.St} {w : World} (hB : BktAt w b p r u m l s) (hr : rightB p r u m l = true) (hs : BM.Ok u m s) (n z t : Int) (hn : BM.askB s n = true) (hz : BM.sizeB m l z = true) (ht : BM.IsWhen p r u m s n z t) :
    Calls Try.prog 37 #[.pointer (some ⟨b, 0, none⟩), .int .i64 n, .int .i64 z] w fun e w' => e = .returned (.tuple #[.int .i64 t, .int .i64 0]) ∧ Below w.heap.size w w' :=
  (bwhen_yes hB hr hs n z hn hz).mono fun e w' ⟨t', he, h', hb⟩ => ⟨by rw [he, BM.when_uniq h' ht], hb⟩
end Go.Proofs.Ythaiphkmkchhoaa

/- Shapers: may a size ever go; when something goes; New. -/
namespace Go.Proofs.Ythaiphkmkchhoaa
open Go.RowKit Go.Sort
set_option linter.unusedVariables false
section
variable {w : World} {h g b : Nat} {v : Value} {p r u m l : Int} {s : BM.St} {room : Int} {L : List (Int × Int)}
theorem now_grown (hB : BktAt w b p r u m l s) (hp : 1 ≤ p) (d : Nat) (os : Array Obj) : Calls Try.prog 38 #[.pointer (some ⟨b, 0, none⟩)] (grow (redrawn w d) os) fun e w'' => e = .returned (.int .i64 s.1) ∧ ∃ q : Regrown, w'' = grow (redrawn w q.d) q.os :=
  Calls.regrown_of ((bnow_any (hB.below (below_regrown w d os)) hp).mono fun e w' ⟨he, hw⟩ => ⟨he, by rw [← hw]; exact Below.refl _ _⟩)
theorem when_grown (hB : BktAt w b p r u m l s) (hr : rightB p r u m l = true) (hs : BM.Ok u m s) (z t : Int) (hz : BM.sizeB m l z = true) (ht : BM.IsWhen p r u m s s.1 z t) (d : Nat) (os : Array Obj) : Calls Try.prog 37 #[.pointer (some ⟨b, 0, none⟩), .int .i64 s.1, .int .i64 z] (grow (redrawn w d) os) fun e w'' => e = .returned (.tuple #[.int .i64 t, .int .i64 0]) ∧ ∃ q : Regrown, w'' = grow (redrawn w q.d) q.os :=
  Calls.regrown_of (bwhen_at (hB.below (below_regrown w d os)) hr hs s.1 z t (decide_eq_true ⟨Int.le_refl _, hs.2.1⟩) hz ht)
theorem when_grown_no (hB : BktAt w b p r u m l s) (hr : rightB p r u m l = true) (hs : BM.Ok u m s) (z : Int) (hz : BM.sizeB m l z = false) (d : Nat) (os : Array Obj) : Calls Try.prog 37 #[.pointer (some ⟨b, 0, none⟩), .int .i64 s.1, .int .i64 z] (grow (redrawn w d) os) fun e w'' => e = .returned (.tuple #[.int .i64 0, .int .i64 220]) ∧ ∃ q : Regrown, w'' = grow (redrawn w q.d) q.os :=
  Calls.regrown_of (bwhen_not (hB.below (below_regrown w d os)) hr hs s.1 z (decide_eq_true ⟨Int.le_refl _, hs.2.1⟩) hz)
set_option maxHeartbeats 4000000 in
theorem checkSize_any (hB : BktAt w b p r u m l s) (hg : w.cell? ⟨g, 0, none⟩ = some (.pointer (some ⟨b, 0, none⟩))) (hr : rightB p r u m l = true) (hs : BM.Ok u m s) (z : Int) :
    Calls Try.prog 32 #[.pointer (some ⟨g, 0, none⟩), .int .i64 z] w fun e w' => e = .returned (.int .i64 (if BM.sizeB m l z then 0 else 220)) ∧ Below w.heap.size w w' := by
  have hb := rightB_iff hr
  have cN := fun d os => now_grown hB (by omega) d os
  have k0 := cell_regrown hg
  obtain ⟨t, cW⟩ : ∃ t : Int, ∀ d os, Calls Try.prog 37 #[.pointer (some ⟨b, 0, none⟩), .int .i64 s.1, .int .i64 z] (grow (redrawn w d) os) fun e w'' => e = .returned (.tuple #[.int .i64 t, .int .i64 (if BM.sizeB m l z then 0 else 220)]) ∧ ∃ q : Regrown, w'' = grow (redrawn w q.d) q.os := by
    cases hz : BM.sizeB m l z
    · exact ⟨0, fun d os => when_grown_no hB hr hs z hz d os⟩
    · obtain ⟨t, ht⟩ := BM.when_exists hr hs (Int.le_refl s.1) hz
      exact ⟨t, fun d os => when_grown hB hr hs z t hz ht d os⟩
  generalize (if BM.sizeB m l z = true then (0 : Int) else 220) = R at *
  generalize s.1 = now at *
  clear hB hr hs hb
  go_enter Try.func32, Try.ntmps32
  go_wp2_with fail
  refine wp_region_quiet_below (by kernel_rfl) (by kernel_rfl) ?_
  repeat (quiet_step (first | exact cN _ _ | exact cW _ _))
  refine wpQuiet_nil ?_
  intro _ hw'
  obtain ⟨⟨dq, osq⟩, hw''⟩ := hw'
  subst hw''
  go_wp2_with fail
  go_ret
  exact ⟨rfl, below_regrown w dq osq⟩
set_option maxHeartbeats 4000000 in
theorem next_none (H : ShAt w h g b v p r u m l s room []) : Calls Try.prog 17 #[.pointer (some ⟨h, 0, none⟩)] w fun e w' => e = .returned (.tuple #[.int .i64 0, .bool false]) ∧ w = w' := by
  have c := hidd (shNone_yes H.h0)
  have h0 := H.h0
  have g1 := H.g1
  obtain ⟨A, k, rfl, _, _, _⟩ := H.q.lie
  clear H
  simp only [List.length_nil] at g1
  go_enter Try.func17, Try.ntmps17
  go_wp2_with fail
  refine c.out.mono ?_
  rintro e w' ⟨rfl, rfl⟩
  go_wp2_with fail
  go_ret2
  exact ⟨rfl, rfl⟩
set_option maxHeartbeats 4000000 in
theorem next_some {x : Int × Int} (H : ShAt w h g b v p r u m l s room (x :: L)) {t : Int} (ht : BM.IsWhen p r u m s s.1 x.2 t) : Calls Try.prog 17 #[.pointer (some ⟨h, 0, none⟩)] w fun e w' => e = .returned (.tuple #[.int .i64 t, .bool true]) ∧ Below w.heap.size w w' := by
  have hb := rightB_iff H.rt
  have hz : BM.sizeB m l x.2 = true := decide_eq_true (H.sz x (by simp))
  have c := hidd (shNone_yes H.h0)
  have cN := fun d os => now_grown H.bk (by omega) d os
  have cW := fun d os => when_grown H.bk H.rt H.ok x.2 t hz ht d os
  have h0 := H.h0
  have g0 := H.g0
  have g1 := H.g1
  obtain ⟨A, k, hv, _, _, hA⟩ := H.q.lie
  obtain ⟨ad, hA0, ha, x0, x1⟩ := hA.send 0 (by simp)
  subst hA0
  subst hv
  rw [Nat.zero_mul] at x0 x1
  simp only [List.getElem_cons_zero] at x0 x1
  have hl := H.len
  have hl0 : (0 : Int) < ((x :: L).length : Int) := by simp
  have hl1 : ¬ ((x :: L).length : Int) = 0 := by simp; omega
  clear hA H hz ht
  generalize (x :: L).length = n at *
  have hn : 0 < n := by omega
  have e0 : (ad.add 0) = ad := rfl
  rw [e0] at x0 x1
  have h0q := cell_regrown h0
  have g0q := cell_regrown g0
  have g1q := cell_regrown g1
  have x1q := cell_regrown x1
  generalize s.1 = now at *
  generalize x.2 = z at *
  go_enter Try.func17, Try.ntmps17
  go_wp2_with fail
  refine c.out.mono ?_
  rintro e w' ⟨rfl, rfl⟩
  go_wp2_with fail
  refine wp_region_quiet_below (by kernel_rfl) (by kernel_rfl) ?_
  repeat (quiet_step (first | exact cN _ _ | exact cW _ _))
  refine wpQuiet_nil ?_
  intro _ hw'
  obtain ⟨⟨dq, osq⟩, hw''⟩ := hw'
  subst hw''
  go_wp2_with fail
  go_ret2
  exact ⟨rfl, below_regrown _ dq osq⟩
end
end Go.Proofs.Ythaiphkmkchhoaa

/- Shapers: New, Put. -/
namespace Go.Proofs.Ythaiphkmkchhoaa
open Go.RowKit Go.Sort
set_option linter.unusedVariables false
theorem isAny3 (k c : Nat) (b1 b2 b3 : Bool) (w : World) (h0 : w.cell? ⟨k, 0, none⟩ = some (.bool b1)) (h1 : w.cell? ⟨k, 1, none⟩ = some (.bool b2)) (h2 : w.cell? ⟨k, 2, none⟩ = some (.bool b3)) :
    Calls Try.prog 20 #[.slice (some ⟨k, 0, none⟩) 3 c] w fun e w' => e = .returned (.bool (b1 || (b2 || b3))) ∧ w' = w := by
  have := isAny_any (some ⟨k, 0, none⟩) [b1, b2, b3] c (by simp) w (fun _ => ⟨_, rfl, World.block_lt_of_cell? w _ h0, fun i x hx j v hv => by
    rw [Addr.add_lit]
    match i, hx, j, hv with
    | 0, hx, 0, hv => simp [boolV] at hx hv; subst hx; subst hv; exact h0
    | 1, hx, 0, hv => simp [boolV] at hx hv; subst hx; subst hv; exact h1
    | 2, hx, 0, hv => simp [boolV] at hx hv; subst hx; subst hv; exact h2⟩)
  simpa using this
theorem isAny2 (k c : Nat) (b1 b2 : Bool) (w : World) (h0 : w.cell? ⟨k, 0, none⟩ = some (.bool b1)) (h1 : w.cell? ⟨k, 1, none⟩ = some (.bool b2)) :
    Calls Try.prog 20 #[.slice (some ⟨k, 0, none⟩) 2 c] w fun e w' => e = .returned (.bool (b1 || b2)) ∧ w' = w := by
  have := isAny_any (some ⟨k, 0, none⟩) [b1, b2] c (by simp) w (fun _ => ⟨_, rfl, World.block_lt_of_cell? w _ h0, fun i x hx j v hv => by
    rw [Addr.add_lit]
    match i, hx, j, hv with
    | 0, hx, 0, hv => simp [boolV] at hx hv; subst hx; subst hv; exact h0
    | 1, hx, 0, hv => simp [boolV] at hx hv; subst hx; subst hv; exact h1⟩)
  simpa using this
/-- may a shaper be. -/
def newB (p r u m l room : Int) : Bool := rightB p r u m l && decide (0 ≤ room ∧ room ≤ 1000000000)
set_option maxHeartbeats 4000000 in
theorem shNew_no (p r u m l room : Int) (h : newB p r u m l room = false) (w : World) : Calls Try.prog 6 #[.agg #[.int .i64 p, .int .i64 r, .int .i64 u, .int .i64 m, .int .i64 l], .int .i64 room] w fun e w' => e = .returned (.tuple #[.pointer none, .int .i64 2]) ∧ Below w.heap.size w w' := by
  have ca := hidd (fun k c b1 b2 b3 W => isAny3 k c b1 b2 b3 W)
  cases hR : rightB p r u m l
  · have cn := hidd (fun W => bnew_no p r u m l hR W)
    clear h hR
    obtain ⟨D0, hD0⟩ : ∃ D : Bool, decide (room < 0) = D := ⟨_, rfl⟩
    obtain ⟨D1, hD1⟩ : ∃ D : Bool, decide (1000000000 < room) = D := ⟨_, rfl⟩
    go_enter Try.func6, Try.ntmps6
    go_wp2_with fail
    refine (cn.out _).mono ?_
    rintro e w1 ⟨rfl, hb1⟩
    have H1 := hidd (below_step (below_new (Below.refl _ _) _) hb1)
    clear hb1
    go_wp2_with fail
    refine (ca.out _ _ true D0 D1 _ (by simp [go_sem]) (by simp [go_sem]) (by simp [go_sem])).mono ?_
    rintro e w2 ⟨rfl, rfl⟩
    simp only [Bool.true_or]
    go_wp2_with fail
    go_ret2
    exact ⟨rfl, below_new H1.out _⟩
  · have cn := hidd (fun W => bnew_yes p r u m l hR W)
    have hq : ¬ (0 ≤ room ∧ room ≤ 1000000000) := by
      unfold newB at h
      rw [hR, Bool.true_and] at h
      exact of_decide_eq_false h
    clear h hR
    obtain ⟨D0, hD0⟩ : ∃ D : Bool, decide (room < 0) = D := ⟨_, rfl⟩
    obtain ⟨D1, hD1⟩ : ∃ D : Bool, decide (1000000000 < room) = D := ⟨_, rfl⟩
    have hor : Hid ((false || (D0 || D1)) = true) := hidd (by
      rw [← hD0, ← hD1]
      by_cases c : room < 0
      · simp [c]
      · have : 1000000000 < room := by omega
        simp [this])
    clear hq
    go_enter Try.func6, Try.ntmps6
    go_wp2_with fail
    refine (cn.out _).mono ?_
    rintro e w1 ⟨b, rfl, -, -, hb1⟩
    have H1 := hidd (below_step (below_new (Below.refl _ _) _) hb1)
    clear hb1
    go_wp2_with fail
    refine (ca.out _ _ false D0 D1 _ (by simp [go_sem]) (by simp [go_sem]) (by simp [go_sem])).mono ?_
    rintro e w2 ⟨rfl, rfl⟩
    rw [hor.out]
    go_wp2_with fail
    go_ret2
    exact ⟨rfl, below_new H1.out _⟩
set_option maxHeartbeats 4000000 in
theorem shNew_yes (p r u m l room : Int) (h : newB p r u m l room = true) (w : World) : Calls Try.prog 6 #[.agg #[.int .i64 p, .int .i64 r, .int .i64 u, .int .i64 m, .int .i64 l], .int .i64 room] w fun e w' => ∃ h g b, e = .returned (.tuple #[.pointer (some ⟨h, 0, none⟩), .int .i64 0]) ∧ w.heap.size ≤ h ∧ w.heap.size ≤ g ∧ w.heap.size ≤ b ∧ ShAt w' h g b (.slice none 0 0) p r u m l (0, u, m) room [] ∧ Below w.heap.size w w' := by
  have ca := hidd (fun k c b1 b2 b3 W => isAny3 k c b1 b2 b3 W)
  unfold newB at h
  obtain ⟨hR, hq⟩ := (Bool.and_eq_true _ _ ▸ h : rightB p r u m l = true ∧ decide (0 ≤ room ∧ room ≤ 1000000000) = true)
  have hq := of_decide_eq_true hq
  have HR := hidd hR
  have HQ := hidd hq
  have cn := hidd (fun W => bnew_yes p r u m l hR W)
  have hD0 : decide (room < 0) = false := decide_eq_false (by omega)
  have hD1 : decide (1000000000 < room) = false := decide_eq_false (by omega)
  clear h hR hq
  go_enter Try.func6, Try.ntmps6
  go_wp2_with fail
  refine (cn.out _).mono ?_
  rintro e w1 ⟨b, rfl, hle, hB, hb1⟩
  have H1 := hidd (below_step (below_new (Below.refl _ _) _) hb1)
  have HB := hidd hB
  have hwb : w.heap.size ≤ b := by simp at hle; omega
  have hlt := hB.lt
  clear hb1 hle hB
  go_wp2_with fail
  refine (ca.out _ _ false false false _ (by simp [go_sem]) (by simp [go_sem]) (by simp [go_sem])).mono ?_
  rintro e w2 ⟨rfl, rfl⟩
  simp only [Bool.or_false]
  go_wp2_with fail
  go_ret2
  have hs1 := H1.out.size
  refine ⟨_, w1.heap.size + 1, b, rfl, by omega, by omega, hwb, ⟨((HB.out.below (below_new (Below.refl _ _) _)).below (below_new (Below.refl _ _) _)).below (below_new (Below.refl _ _) _), QL.nil _, ?_, ?_, ?_, ?_, ?_, ?_, ?_, ?_, ?_, ?_, (fun e => by cases e), (fun e => by cases e), (fun e => by cases e), HR.out, BM.ok_first HR.out, fun x hx => by simp at hx, HQ.out.1, HQ.out.2, HQ.out.1⟩, below_new (below_new (below_new H1.out _) _) _⟩
  all_goals first | (simp [go_sem, sumB]; done) | (simp [go_sem]; omega) | (simp; omega) | omega
end Go.Proofs.Ythaiphkmkchhoaa

/- Shapers: Put. -/
namespace Go.Proofs.Ythaiphkmkchhoaa
open Go.RowKit Go.Sort
set_option linter.unusedVariables false
section
variable {w : World} {h g b : Nat} {v : Value} {p r u m l : Int} {s : BM.St} {room : Int} {L : List (Int × Int)}
theorem put_nil (i z : Int) (w : World) : Calls Try.prog 15 #[.pointer none, .agg #[.int .i64 i, .int .i64 z]] w fun e w' => e = .returned (.int .i64 1) ∧ Below w.heap.size w w' := by
  have c := hidd (fun W => shNone_nil W)
  go_enter Try.func15, Try.ntmps15
  go_wp2_with fail
  refine (c.out _).mono ?_
  rintro e w' ⟨rfl, rfl⟩
  go_wp2_with fail
  go_ret
  exact ⟨rfl, by (repeat' (first | (with_reducible exact Below.refl _ _) | (with_reducible assumption) | (with_reducible apply Below.setCell) | (with_reducible apply Below.alloc) | (with_reducible apply Below.drew) | (with_reducible apply below_drewN) | (with_reducible refine Below.trans ?_ (Below.mono (by assumption) ?_)) | omega | (simp; done) | (simp; omega)))⟩
theorem put_zero (i z : Int) (w : World) (hz : PtrAt w h none) : Calls Try.prog 15 #[.pointer (some ⟨h, 0, none⟩), .agg #[.int .i64 i, .int .i64 z]] w fun e w' => e = .returned (.int .i64 1) ∧ Below w.heap.size w w' := by
  have hlt : h < w.heap.size := World.block_lt_of_cell? w _ hz
  have B1 := hidd (show Below w.heap.size w (w.alloc (.cells #[.int .i64 i, .int .i64 z] 41)) from by (repeat' (first | (with_reducible exact Below.refl _ _) | (with_reducible assumption) | (with_reducible apply Below.setCell) | (with_reducible apply Below.alloc) | (with_reducible apply Below.drew) | (with_reducible apply below_drewN) | (with_reducible refine Below.trans ?_ (Below.mono (by assumption) ?_)) | omega | (simp; done) | (simp; omega))))
  have c := hidd (shNone_zero (w := w.alloc (.cells #[.int .i64 i, .int .i64 z] 41)) ((B1.out.cell (p := ⟨h, 0, none⟩) hlt).trans hz))
  clear hz
  go_enter Try.func15, Try.ntmps15
  go_wp2_with fail
  refine c.out.mono ?_
  rintro e w' ⟨rfl, rfl⟩
  go_wp2_with fail
  go_ret
  exact ⟨rfl, B1.out⟩
/-- what Put answers. -/
def putE (m l room : Int) (L : List (Int × Int)) (i z : Int) : Int := if i < 0 ∨ 4611686018427387904 < i then 2 else if BM.sizeB m l z then (if room < sumB L + z then 230 else 0) else 220
set_option maxHeartbeats 4000000 in
theorem put_arg (H : ShAt w h g b v p r u m l s room L) {i : Int} (hi : i < 0 ∨ 4611686018427387904 < i) (z : Int) : Calls Try.prog 15 #[.pointer (some ⟨h, 0, none⟩), .agg #[.int .i64 i, .int .i64 z]] w fun e w' => e = .returned (.int .i64 2) ∧ Below w.heap.size w w' := by
  have B1 := hidd (show Below w.heap.size w (w.alloc (.cells #[.int .i64 i, .int .i64 z] 41)) from by (repeat' (first | (with_reducible exact Below.refl _ _) | (with_reducible assumption) | (with_reducible apply Below.setCell) | (with_reducible apply Below.alloc) | (with_reducible apply Below.drew) | (with_reducible apply below_drewN) | (with_reducible refine Below.trans ?_ (Below.mono (by assumption) ?_)) | omega | (simp; done) | (simp; omega))))
  have c := hidd (shNone_yes (H.below B1.out).h0)
  have ca := hidd (fun k c b1 b2 W => isAny2 k c b1 b2 W)
  clear H
  obtain ⟨D0, hD0⟩ : ∃ D : Bool, decide (i < 0) = D := ⟨_, rfl⟩
  obtain ⟨D1, hD1⟩ : ∃ D : Bool, decide (4611686018427387904 < i) = D := ⟨_, rfl⟩
  have hor : Hid ((D0 || D1) = true) := hidd (by rw [← hD0, ← hD1]; rcases hi with q | q <;> simp [q])
  clear hi
  go_enter Try.func15, Try.ntmps15
  go_wp2_with fail
  refine c.out.mono ?_
  rintro e w' ⟨rfl, rfl⟩
  go_wp2_with fail
  refine (ca.out _ _ D0 D1 _ (by simp [go_sem]) (by simp [go_sem])).mono ?_
  rintro e w2 ⟨rfl, rfl⟩
  rw [hor.out]
  go_wp2_with fail
  go_ret
  exact ⟨rfl, below_new B1.out _⟩
set_option maxHeartbeats 4000000 in
theorem put_size (H : ShAt w h g b v p r u m l s room L) {i : Int} (hi : 0 ≤ i ∧ i ≤ 4611686018427387904) {z : Int} (hz : BM.sizeB m l z = false) : Calls Try.prog 15 #[.pointer (some ⟨h, 0, none⟩), .agg #[.int .i64 i, .int .i64 z]] w fun e w' => e = .returned (.int .i64 220) ∧ Below w.heap.size w w' := by
  have hi0 : decide (i < 0) = false := decide_eq_false (by omega)
  have hi1 : decide (4611686018427387904 < i) = false := decide_eq_false (by omega)
  have B1 := hidd (show Below w.heap.size w (w.alloc (.cells #[.int .i64 i, .int .i64 z] 41)) from by (repeat' (first | (with_reducible exact Below.refl _ _) | (with_reducible assumption) | (with_reducible apply Below.setCell) | (with_reducible apply Below.alloc) | (with_reducible apply Below.drew) | (with_reducible apply below_drewN) | (with_reducible refine Below.trans ?_ (Below.mono (by assumption) ?_)) | omega | (simp; done) | (simp; omega))))
  have c := hidd (shNone_yes (H.below B1.out).h0)
  have ca := hidd (fun k c b1 b2 W => isAny2 k c b1 b2 W)
  have HH := hidd H
  clear hi H
  go_enter Try.func15, Try.ntmps15
  go_wp2_with fail
  refine c.out.mono ?_
  rintro e w' ⟨rfl, rfl⟩
  go_wp2_with fail
  refine (ca.out _ _ false false _ (by simp [go_sem]) (by simp [go_sem])).mono ?_
  rintro e w2 ⟨rfl, rfl⟩
  rw [show (false || false) = false from rfl]
  obtain ⟨W1, hW1⟩ : ∃ W1, (w.alloc (.cells #[.int .i64 i, .int .i64 z] 41)).alloc (.cells #[.bool false, .bool false] 4) = W1 := ⟨_, rfl⟩
  have B2 := hidd (show Below w.heap.size w W1 from by rw [← hW1]; (repeat' (first | (with_reducible exact Below.refl _ _) | (with_reducible assumption) | (with_reducible apply Below.setCell) | (with_reducible apply Below.alloc) | (with_reducible apply Below.drew) | (with_reducible apply below_drewN) | (with_reducible refine Below.trans ?_ (Below.mono (by assumption) ?_)) | omega | (simp; done) | (simp; omega))))
  have x0 : W1.cell? ⟨w.heap.size, 0, none⟩ = some (.int .i64 i) := by rw [← hW1]; simp [go_sem]
  have x1 : W1.cell? ⟨w.heap.size, 1, none⟩ = some (.int .i64 z) := by rw [← hW1]; simp [go_sem]
  have xl : w.heap.size < W1.heap.size := by rw [← hW1]; simp; omega
  (try rw [hi0])
  (try rw [hi1])
  rw [hW1]
  clear hW1 hi0 hi1 ca c B1
  have H1 := hidd (HH.out.below B2.out)
  have h0 := H1.out.h0
  have g0 := H1.out.g0
  have cS := hidd (fun d os => (Calls.regrown_of (checkSize_any (H1.out.bk.below (below_regrown W1 d os)) (cell_regrown g0 d os) H1.out.rt H1.out.ok z) : Calls Try.prog 32 #[.pointer (some ⟨g, 0, none⟩), .int .i64 z] (grow (redrawn W1 d) os) fun e w'' => e = .returned (.int .i64 (if BM.sizeB m l z then 0 else 220)) ∧ ∃ q : Regrown, w'' = grow (redrawn W1 q.d) q.os))
  have h0q := cell_regrown h0
  have x1q := cell_regrown x1
  rw [hz] at cS
  have cS2 := cS.out
  simp only [Bool.false_eq_true, if_false] at cS2
  clear hz cS
  go_wp2_with fail
  refine wp_region_quiet_below (by kernel_rfl) (by kernel_rfl) ?_
  repeat (quiet_step (exact cS2 _ _))
  refine wpQuiet_nil ?_
  intro _ hw'
  obtain ⟨⟨dq, osq⟩, hw''⟩ := hw'
  subst hw''
  go_wp2_with fail
  go_ret
  exact ⟨rfl, below_step B2.out (below_regrown W1 dq osq)⟩
set_option maxHeartbeats 4000000 in
theorem put_room (H : ShAt w h g b v p r u m l s room L) {i : Int} (hi : 0 ≤ i ∧ i ≤ 4611686018427387904) {z : Int} (hz : BM.sizeB m l z = true) (hr : room < sumB L + z) : Calls Try.prog 15 #[.pointer (some ⟨h, 0, none⟩), .agg #[.int .i64 i, .int .i64 z]] w fun e w' => e = .returned (.int .i64 230) ∧ Below w.heap.size w w' := by
  have hi0 : decide (i < 0) = false := decide_eq_false (by omega)
  have hi1 : decide (4611686018427387904 < i) = false := decide_eq_false (by omega)
  have B1 := hidd (show Below w.heap.size w (w.alloc (.cells #[.int .i64 i, .int .i64 z] 41)) from by (repeat' (first | (with_reducible exact Below.refl _ _) | (with_reducible assumption) | (with_reducible apply Below.setCell) | (with_reducible apply Below.alloc) | (with_reducible apply Below.drew) | (with_reducible apply below_drewN) | (with_reducible refine Below.trans ?_ (Below.mono (by assumption) ?_)) | omega | (simp; done) | (simp; omega))))
  have c := hidd (shNone_yes (H.below B1.out).h0)
  have ca := hidd (fun k c b1 b2 W => isAny2 k c b1 b2 W)
  have HH := hidd H
  clear hi H
  go_enter Try.func15, Try.ntmps15
  go_wp2_with fail
  refine c.out.mono ?_
  rintro e w' ⟨rfl, rfl⟩
  go_wp2_with fail
  refine (ca.out _ _ false false _ (by simp [go_sem]) (by simp [go_sem])).mono ?_
  rintro e w2 ⟨rfl, rfl⟩
  rw [show (false || false) = false from rfl]
  obtain ⟨W1, hW1⟩ : ∃ W1, (w.alloc (.cells #[.int .i64 i, .int .i64 z] 41)).alloc (.cells #[.bool false, .bool false] 4) = W1 := ⟨_, rfl⟩
  have B2 := hidd (show Below w.heap.size w W1 from by rw [← hW1]; (repeat' (first | (with_reducible exact Below.refl _ _) | (with_reducible assumption) | (with_reducible apply Below.setCell) | (with_reducible apply Below.alloc) | (with_reducible apply Below.drew) | (with_reducible apply below_drewN) | (with_reducible refine Below.trans ?_ (Below.mono (by assumption) ?_)) | omega | (simp; done) | (simp; omega))))
  have x0 : W1.cell? ⟨w.heap.size, 0, none⟩ = some (.int .i64 i) := by rw [← hW1]; simp [go_sem]
  have x1 : W1.cell? ⟨w.heap.size, 1, none⟩ = some (.int .i64 z) := by rw [← hW1]; simp [go_sem]
  have xl : w.heap.size < W1.heap.size := by rw [← hW1]; simp; omega
  (try rw [hi0])
  (try rw [hi1])
  rw [hW1]
  clear hW1 hi0 hi1 ca c B1
  have H1 := hidd (HH.out.below B2.out)
  have h0 := H1.out.h0
  have g0 := H1.out.g0
  have cS := hidd (fun d os => (Calls.regrown_of (checkSize_any (H1.out.bk.below (below_regrown W1 d os)) (cell_regrown g0 d os) H1.out.rt H1.out.ok z) : Calls Try.prog 32 #[.pointer (some ⟨g, 0, none⟩), .int .i64 z] (grow (redrawn W1 d) os) fun e w'' => e = .returned (.int .i64 (if BM.sizeB m l z then 0 else 220)) ∧ ∃ q : Regrown, w'' = grow (redrawn W1 q.d) q.os))
  have h0q := cell_regrown h0
  have x1q := cell_regrown x1
  rw [hz] at cS
  have cS2 := cS.out
  simp only [if_true] at cS2
  clear cS
  go_wp2_with fail
  refine wp_region_quiet_below (by kernel_rfl) (by kernel_rfl) ?_
  repeat (quiet_step (exact cS2 _ _))
  refine wpQuiet_nil ?_
  intro _ hw'
  obtain ⟨⟨dq, osq⟩, hw''⟩ := hw'
  subst hw''
  obtain ⟨W2, hW2⟩ : ∃ W2, grow (redrawn W1 dq) osq = W2 := ⟨_, rfl⟩
  have b2 : Below W1.heap.size W1 W2 := by rw [← hW2]; exact below_regrown W1 dq osq
  rw [hW2]
  have B3 := hidd (below_step B2.out b2)
  have H2 := hidd (H1.out.below b2)
  have h0 := H2.out.h0
  have g2 := H2.out.g2
  have g3 := H2.out.g3
  have x0 := (b2.cell (p := ⟨w.heap.size, 0, none⟩) xl).trans x0
  have x1 := (b2.cell (p := ⟨w.heap.size, 1, none⟩) xl).trans x1
  have xl := Nat.lt_of_lt_of_le xl b2.size
  clear hW2 b2 H1 g0 h0q x1q cS2 B2
  have hbs := H2.out.sm
  have hb0 : 0 ≤ sumB L := Int.le_trans (by omega) (H2.out.sz.sum (by have := rightB_iff H2.out.rt; omega))
  have hr0 := H2.out.r0
  have hr1 := H2.out.r1
  have ew : IntKind.i64.wrap (room - sumB L) = room - sumB L := IntWalk.i64_in _ (by omega)
  have hgt : room - sumB L < z := by omega
  clear hz hr hbs hb0 hr0 hr1
  generalize sumB L = B0 at *
  go_wp2_with fail
  go_quiet (fail)
  go_wp2_with fail
  go_ret
  exact ⟨rfl, below_drewN B3.out _⟩
/-- a shaper with one more that waits, as the program lays it: the slice first, the bytes then. -/
theorem put_fin {W W4 w4 : World} {X : Nat} {i z : Int} {v' : Value} (H : ShAt W h g b v p r u m l s room L) (b4 : Below W.heap.size W W4) (hX : X < W.heap.size) (nX : ¬ ShBlk h g b v X)
    (x0 : W.cell? ⟨X, 0, none⟩ = some (.int .i64 i)) (x1 : W.cell? ⟨X, 1, none⟩ = some (.int .i64 z)) (hz : l ≤ z ∧ z ≤ m) (hr : sumB L + z ≤ room)
    (hq : QL w4 v' (L ++ [(i, z)])) (hgr : W4.grownBy w4 v.ownBlock) (hor : v'.ownBlock = v.ownBlock ∨ ∃ q, v'.ownBlock = some q ∧ W4.heap.size ≤ q) :
    (w4.cell? ⟨g, 1, none⟩ = some v ∧ w4.frozen? ⟨g, 1, none⟩ = false) ∧
    ((w4.setCell ⟨g, 1, none⟩ v').cell? ⟨h, 0, none⟩ = some (.pointer (some ⟨g, 0, none⟩)) ∧ (w4.setCell ⟨g, 1, none⟩ v').cell? ⟨X, 0, none⟩ = some (.int .i64 i) ∧ (w4.setCell ⟨g, 1, none⟩ v').cell? ⟨X, 1, none⟩ = some (.int .i64 z)) ∧ ((w4.setCell ⟨g, 1, none⟩ v').cell? ⟨g, 2, none⟩ = some (.int .i64 (sumB L)) ∧ (w4.setCell ⟨g, 1, none⟩ v').frozen? ⟨g, 2, none⟩ = false) ∧ (((w4.setCell ⟨g, 1, none⟩ v').drew.setCell ⟨g, 2, none⟩ (.int .i64 (sumB L + z))).cell? ⟨h, 0, none⟩ = some (.pointer (some ⟨g, 0, none⟩)) ∧ ((w4.setCell ⟨g, 1, none⟩ v').drew.setCell ⟨g, 2, none⟩ (.int .i64 (sumB L + z))).cell? ⟨X, 0, none⟩ = some (.int .i64 i) ∧ ((w4.setCell ⟨g, 1, none⟩ v').drew.setCell ⟨g, 2, none⟩ (.int .i64 (sumB L + z))).cell? ⟨X, 1, none⟩ = some (.int .i64 z)) ∧
    (ShAt ((w4.setCell ⟨g, 1, none⟩ v').drew.setCell ⟨g, 2, none⟩ (.int .i64 (sumB L + z))) h g b v' p r u m l s room (L ++ [(i, z)]) ∧ Sav (ShBlk h g b v) W ((w4.setCell ⟨g, 1, none⟩ v').drew.setCell ⟨g, 2, none⟩ (.int .i64 (sumB L + z))) ∧ ∀ k, k < W.heap.size → ShBlk h g b v' k → ShBlk h g b v k) := by
  have hlt := H.hlt
  have glt := H.glt
  have blt := H.blt
  have bl : ∀ k, k < W.heap.size → v.ownBlock ≠ some k → w4.heap[k]? = W.heap[k]? := fun k hk hn => (hgr.block k (Nat.lt_of_lt_of_le hk b4.size) (fun e => hn e.symm)).trans (b4.block k hk)
  have nv : ∀ k, k < W.heap.size → v.ownBlock ≠ some k → v'.ownBlock ≠ some k := fun k hk hn e => by
    rcases hor with q | ⟨q, e2, h2⟩
    · exact hn (q.symm.trans e)
    · rw [e2] at e; cases e; have := b4.size; omega
  have vX : v.ownBlock ≠ some X := fun e => nX (.inr (.inr (.inr e)))
  have Xg : X ≠ g := fun e => nX (.inr (.inl e))
  have cg := fun o => World.cell?_of_block (w := W) (w' := w4) (a := ⟨g, o, none⟩) (bl g glt H.vg)
  have fg := fun o => World.frozen?_of_block (w := W) (w' := w4) (a := ⟨g, o, none⟩) (bl g glt H.vg)
  have ch := fun o => World.cell?_of_block (w := W) (w' := w4) (a := ⟨h, o, none⟩) (bl h hlt H.vh)
  have cX := fun o => World.cell?_of_block (w := W) (w' := w4) (a := ⟨X, o, none⟩) (bl X hX vX)
  have h0 := (ch 0).trans H.h0
  have g0 := (cg 0).trans H.g0
  have g1 := (cg 1).trans H.g1
  have g2 := (cg 2).trans H.g2
  have g3 := (cg 3).trans H.g3
  have e1 := (fg 1).trans H.e1
  have e2 := (fg 2).trans H.e2
  have y0 := (cX 0).trans x0
  have y1 := (cX 1).trans x1
  have hg := H.hg
  have oth : ∀ k, k ≠ g → ((w4.setCell ⟨g, 1, none⟩ v').drew.setCell ⟨g, 2, none⟩ (.int .i64 (sumB L + z))).heap[k]? = w4.heap[k]? := fun k hk =>
    (Below.heap_setCell (w4.setCell ⟨g, 1, none⟩ v').drew ⟨g, 2, none⟩ _ _ (fun e => hk e)).trans (Below.heap_setCell w4 ⟨g, 1, none⟩ _ _ (fun e => hk e))
  have hsz : w4.heap.size ≤ ((w4.setCell ⟨g, 1, none⟩ v').drew.setCell ⟨g, 2, none⟩ (.int .i64 (sumB L + z))).heap.size := by simp [World.setCell, World.drew]
  have hw4 : W.heap.size ≤ w4.heap.size := Nat.le_trans b4.size hgr.size
  refine ⟨⟨g1, e1⟩, ⟨?_, ?_, ?_⟩, ⟨?_, ?_⟩, ⟨?_, ?_, ?_⟩, ⟨H.bk.of ((oth b (fun e => H.gb e.symm)).trans (bl b blt H.vb)) (Nat.le_trans hw4 hsz), hq.keep (fun k e => oth k (fun e2 => by subst e2; exact nv _ glt H.vg e)) hsz, ?_, ?_, ?_, ?_, ?_, ?_, ?_, H.hg, H.hb, H.gb, nv h hlt H.vh, nv g glt H.vg, nv b blt H.vb, H.rt, H.ok, H.sz.snoc hz, H.r0, H.r1, by rw [sumB_snoc]; exact hr⟩,
    ⟨(hgr.os.trans b4.os), (hgr.tape.trans b4.tape), (hgr.output.trans b4.output), Nat.le_trans hw4 hsz, fun k hk hn => (oth k (fun e => hn (.inr (.inl e)))).trans (bl k hk (fun e => hn (.inr (.inr (.inr e)))))⟩, fun k hk hb => ?_⟩
  · simp [go_sem, h0]
  · simp [go_sem, y0]
  · simp [go_sem, y1]
  · simp [go_sem, g2]
  · simp [go_sem, e2]
  · simp [go_sem, h0]
  · simp [go_sem, y0]
  · simp [go_sem, y1]
  · simp [go_sem, h0]
  · simp [go_sem, g0]
  · simp [go_sem, g1]
  · simp [go_sem, g2, sumB_snoc]
  · simp [go_sem, g3]
  · simp [go_sem, e1]
  · simp [go_sem, e2]
  · rcases hb with q | q | q | q
    · exact .inl q
    · exact .inr (.inl q)
    · exact .inr (.inr (.inl q))
    · rcases hor with e | ⟨q2, e, h2⟩
      · exact .inr (.inr (.inr (e.symm.trans q)))
      · rw [e] at q; cases q; have := b4.size; omega
set_option maxRecDepth 100000 in
set_option maxHeartbeats 8000000 in
theorem put_ok (H : ShAt w h g b v p r u m l s room L) {i : Int} (hi : 0 ≤ i ∧ i ≤ 4611686018427387904) {z : Int} (hz : BM.sizeB m l z = true) (hr : ¬ room < sumB L + z) : Calls Try.prog 15 #[.pointer (some ⟨h, 0, none⟩), .agg #[.int .i64 i, .int .i64 z]] w fun e w' => e = .returned (.int .i64 0) ∧ ∃ v', ShAt w' h g b v' p r u m l s room (L ++ [(i, z)]) ∧ Sav (ShBlk h g b v) w w' ∧ (∀ k, k < w.heap.size → ShBlk h g b v' k → ShBlk h g b v k) := by
  have hi0 : decide (i < 0) = false := decide_eq_false (by omega)
  have hi1 : decide (4611686018427387904 < i) = false := decide_eq_false (by omega)
  have B1 := hidd (show Below w.heap.size w (w.alloc (.cells #[.int .i64 i, .int .i64 z] 41)) from by (repeat' (first | (with_reducible exact Below.refl _ _) | (with_reducible assumption) | (with_reducible apply Below.setCell) | (with_reducible apply Below.alloc) | (with_reducible apply Below.drew) | (with_reducible apply below_drewN) | (with_reducible refine Below.trans ?_ (Below.mono (by assumption) ?_)) | omega | (simp; done) | (simp; omega))))
  have c := hidd (shNone_yes (H.below B1.out).h0)
  have ca := hidd (fun k c b1 b2 W => isAny2 k c b1 b2 W)
  have HH := hidd H
  clear hi H
  go_enter Try.func15, Try.ntmps15
  go_wp2_with fail
  refine c.out.mono ?_
  rintro e w' ⟨rfl, rfl⟩
  go_wp2_with fail
  refine (ca.out _ _ false false _ (by simp [go_sem]) (by simp [go_sem])).mono ?_
  rintro e w2 ⟨rfl, rfl⟩
  rw [show (false || false) = false from rfl]
  obtain ⟨W1, hW1⟩ : ∃ W1, (w.alloc (.cells #[.int .i64 i, .int .i64 z] 41)).alloc (.cells #[.bool false, .bool false] 4) = W1 := ⟨_, rfl⟩
  have B2 := hidd (show Below w.heap.size w W1 from by rw [← hW1]; (repeat' (first | (with_reducible exact Below.refl _ _) | (with_reducible assumption) | (with_reducible apply Below.setCell) | (with_reducible apply Below.alloc) | (with_reducible apply Below.drew) | (with_reducible apply below_drewN) | (with_reducible refine Below.trans ?_ (Below.mono (by assumption) ?_)) | omega | (simp; done) | (simp; omega))))
  have x0 : W1.cell? ⟨w.heap.size, 0, none⟩ = some (.int .i64 i) := by rw [← hW1]; simp [go_sem]
  have x1 : W1.cell? ⟨w.heap.size, 1, none⟩ = some (.int .i64 z) := by rw [← hW1]; simp [go_sem]
  have xl : w.heap.size < W1.heap.size := by rw [← hW1]; simp; omega
  (try rw [hi0])
  (try rw [hi1])
  rw [hW1]
  clear hW1 hi0 hi1 ca c B1
  have H1 := hidd (HH.out.below B2.out)
  have h0 := H1.out.h0
  have g0 := H1.out.g0
  have cS := hidd (fun d os => (Calls.regrown_of (checkSize_any (H1.out.bk.below (below_regrown W1 d os)) (cell_regrown g0 d os) H1.out.rt H1.out.ok z) : Calls Try.prog 32 #[.pointer (some ⟨g, 0, none⟩), .int .i64 z] (grow (redrawn W1 d) os) fun e w'' => e = .returned (.int .i64 (if BM.sizeB m l z then 0 else 220)) ∧ ∃ q : Regrown, w'' = grow (redrawn W1 q.d) q.os))
  have h0q := cell_regrown h0
  have x1q := cell_regrown x1
  rw [hz] at cS
  have cS2 := cS.out
  simp only [if_true] at cS2
  clear cS
  go_wp2_with fail
  refine wp_region_quiet_below (by kernel_rfl) (by kernel_rfl) ?_
  repeat (quiet_step (exact cS2 _ _))
  refine wpQuiet_nil ?_
  intro _ hw'
  obtain ⟨⟨dq, osq⟩, hw''⟩ := hw'
  subst hw''
  obtain ⟨W2, hW2⟩ : ∃ W2, grow (redrawn W1 dq) osq = W2 := ⟨_, rfl⟩
  have b2 : Below W1.heap.size W1 W2 := by rw [← hW2]; exact below_regrown W1 dq osq
  rw [hW2]
  have B3 := hidd (below_step B2.out b2)
  have H2 := hidd (H1.out.below b2)
  have h0 := H2.out.h0
  have g2 := H2.out.g2
  have g3 := H2.out.g3
  have x0 := (b2.cell (p := ⟨w.heap.size, 0, none⟩) xl).trans x0
  have x1 := (b2.cell (p := ⟨w.heap.size, 1, none⟩) xl).trans x1
  have xl := Nat.lt_of_lt_of_le xl b2.size
  clear hW2 b2 H1 g0 h0q x1q cS2 B2
  have hbs := H2.out.sm
  have hb0 : 0 ≤ sumB L := Int.le_trans (by omega) (H2.out.sz.sum (by have := rightB_iff H2.out.rt; omega))
  have hr0 := H2.out.r0
  have hr1 := H2.out.r1
  have ew : IntKind.i64.wrap (room - sumB L) = room - sumB L := IntWalk.i64_in _ (by omega)
  have hgt : ¬ room - sumB L < z := by omega
  have hzz := hidd (of_decide_eq_true hz)
  have HWD : Hid (sumB L + z ≤ room) := hidd (by omega)
  have ew2 : IntKind.i64.wrap (sumB L + z) = sumB L + z := IntWalk.i64_in _ (by have := rightB_iff H2.out.rt; have := hzz.out; omega)
  have NX : Hid (¬ ShBlk h g b v w.heap.size) := hidd (fun q => by have := HH.out.lt q; omega)
  clear hz hr hbs hb0 hr0 hr1
  go_wp2_with fail
  go_quiet (fail)
  obtain ⟨W3, hW3⟩ : ∃ W3, W2.drewN nq = W3 := ⟨_, rfl⟩
  have b3 : Below W2.heap.size W2 W3 := by rw [← hW3]; exact below_drewN (Below.refl _ _) _
  rw [hW3]
  go_wp2_with fail
  obtain ⟨WA, hWA⟩ : ∃ WA, W3.drew = WA := ⟨_, rfl⟩
  have b4 : Below W2.heap.size W2 WA := by rw [← hWA]; exact Below.drew b3
  have HA := hidd (H2.out.below b4)
  have hSA : Hid (WA.cell? ⟨h, 0, none⟩ = some (.pointer (some ⟨g, 0, none⟩)) ∧ WA.cell? ⟨w.heap.size, 0, none⟩ = some (.int .i64 i) ∧ WA.cell? ⟨w.heap.size, 1, none⟩ = some (.int .i64 z)) := hidd ⟨HA.out.h0, (b4.cell (p := ⟨w.heap.size, 0, none⟩) xl).trans x0, (b4.cell (p := ⟨w.heap.size, 1, none⟩) xl).trans x1⟩
  have hXA := hidd (Nat.lt_of_lt_of_le xl b4.size)
  have B4 := hidd (below_step B3.out b4)
  have HBB : Hid (Below WA.heap.size WA (WA.alloc (.cells #[.int .i64 i, .int .i64 z] 41))) := hidd (below_new (Below.refl _ _) _)
  have HSB : Hid ((WA.alloc (.cells #[.int .i64 i, .int .i64 z] 41)).cell? ⟨g, 1, none⟩ = some v ∧ (WA.alloc (.cells #[.int .i64 i, .int .i64 z] 41)).cell? ⟨h, 0, none⟩ = some (.pointer (some ⟨g, 0, none⟩)) ∧ (WA.alloc (.cells #[.int .i64 i, .int .i64 z] 41)).cell? ⟨w.heap.size, 0, none⟩ = some (.int .i64 i) ∧ (WA.alloc (.cells #[.int .i64 i, .int .i64 z] 41)).cell? ⟨w.heap.size, 1, none⟩ = some (.int .i64 z)) := hidd ⟨(HBB.out.cell (p := ⟨g, 1, none⟩) HA.out.glt).trans HA.out.g1, (HBB.out.cell (p := ⟨h, 0, none⟩) HA.out.hlt).trans hSA.out.1, (HBB.out.cell (p := ⟨w.heap.size, 0, none⟩) hXA.out).trans hSA.out.2.1, (HBB.out.cell (p := ⟨w.heap.size, 1, none⟩) hXA.out).trans hSA.out.2.2⟩
  have HQB := hidd (HA.out.q.below HBB.out)
  have hLL : Hid (L.length ≤ 1000000000) := hidd (by have := HA.out.len; omega)
  have NEW : Hid (∀ j u, (sendV (i, z))[j]? = some u → (WA.alloc (.cells #[.int .i64 i, .int .i64 z] 41)).cell? ((⟨WA.heap.size, 0, none⟩ : Addr).add j) = some u) := hidd (fun j u hj => by
    rw [Addr.add_lit]
    match j, hj with
    | 0, hj => simp [sendV] at hj; subst hj; simp [go_sem]
    | 1, hj => simp [sendV] at hj; subst hj; simp [go_sem])
  have SV : Hid (∀ w4, (WA.alloc (.cells #[.int .i64 i, .int .i64 z] 41)).grownBy w4 v.ownBlock → w4.cell? ⟨h, 0, none⟩ = some (.pointer (some ⟨g, 0, none⟩)) ∧ w4.cell? ⟨w.heap.size, 0, none⟩ = some (.int .i64 i) ∧ w4.cell? ⟨w.heap.size, 1, none⟩ = some (.int .i64 z)) := hidd (fun w4 hg => by
    have k : ∀ k o, k < WA.heap.size → v.ownBlock ≠ some k → w4.cell? ⟨k, o, none⟩ = (WA.alloc (.cells #[.int .i64 i, .int .i64 z] 41)).cell? ⟨k, o, none⟩ := fun k o hk hn => World.cell?_of_block (hg.block k (Nat.lt_of_lt_of_le hk HBB.out.size) (fun e => hn e.symm))
    exact ⟨(k h 0 HA.out.hlt HA.out.vh).trans HSB.out.2.1, (k _ 0 hXA.out (fun e => NX.out (.inr (.inr (.inr e))))).trans HSB.out.2.2.1, (k _ 1 hXA.out (fun e => NX.out (.inr (.inr (.inr e))))).trans HSB.out.2.2.2⟩)
  clear b3 b4 hW3 x0 x1 xl h0 g2 g3 H2 B3 hgt ew
  refine wp_region_held_drew (S := (fun Y => Y.cell? ⟨h, 0, none⟩ = some (.pointer (some ⟨g, 0, none⟩)) ∧ Y.cell? ⟨w.heap.size, 0, none⟩ = some (.int .i64 i) ∧ Y.cell? ⟨w.heap.size, 1, none⟩ = some (.int .i64 z))) (by kernel_rfl) (by rw [hWA]; exact hSA.out) (fun hH => ?_)
  rw [hWA] at hH
  rw [hWA]
  clear hWA
  refine wpAnyH_take (i := 0) (v := ?vr0_1) (by (conv => lhs; simp only [List.getElem?_toArray, List.getElem?_cons_succ, List.getElem?_cons_zero])) (by kernel_rfl) (by kernel_rfl) (by kernel_rfl) ?hQ (Or.inl ⟨by rfl, ?hyr0_1⟩) hH ?restr0_1
  case hQ => exact fun _ _ _ h => h
  case hyr0_1 => (intro Y hY; obtain ⟨y0, y1, y2⟩ := hY; go_simp; try (with_reducible rfl))
  try simp only [Act.put, List.setIfInBounds_toArray, List.set_cons_zero, List.set_cons_succ]
  refine wpAnyH_take (i := 1) (v := ?vr1_2) (by (conv => lhs; simp only [List.getElem?_toArray, List.getElem?_cons_succ, List.getElem?_cons_zero])) (by kernel_rfl) (by kernel_rfl) (by kernel_rfl) ?hQ (Or.inl ⟨by rfl, ?hyr1_2⟩) hH ?restr1_2
  case hQ => exact fun _ _ _ h => h
  case hyr1_2 => (intro Y hY; obtain ⟨y0, y1, y2⟩ := hY; go_simp; try (with_reducible rfl))
  try simp only [Act.put, List.setIfInBounds_toArray, List.set_cons_zero, List.set_cons_succ]
  refine wpAnyH_take (i := 2) (v := ?vr2_3) (by (conv => lhs; simp only [List.getElem?_toArray, List.getElem?_cons_succ, List.getElem?_cons_zero])) (by kernel_rfl) (by kernel_rfl) (by kernel_rfl) ?hQ (Or.inl ⟨by rfl, ?hyr2_3⟩) hH ?restr2_3
  case hQ => exact fun _ _ _ h => h
  case hyr2_3 => (intro Y hY; obtain ⟨y0, y1, y2⟩ := hY; go_simp; try (with_reducible rfl))
  try simp only [Act.put, List.setIfInBounds_toArray, List.set_cons_zero, List.set_cons_succ]
  refine wpAnyH_take (i := 3) (v := ?vr3_4) (by (conv => lhs; simp only [List.getElem?_toArray, List.getElem?_cons_succ, List.getElem?_cons_zero])) (by kernel_rfl) (by kernel_rfl) (by kernel_rfl) ?hQ (Or.inl ⟨by rfl, ?hyr3_4⟩) hH ?restr3_4
  case hQ => exact fun _ _ _ h => h
  case hyr3_4 => (intro Y hY; obtain ⟨y0, y1, y2⟩ := hY; go_simp; try (with_reducible rfl))
  try simp only [Act.put, List.setIfInBounds_toArray, List.set_cons_zero, List.set_cons_succ]
  refine wpAnyH_take (i := 4) (v := ?vr4_5) (by (conv => lhs; simp only [List.getElem?_toArray, List.getElem?_cons_succ, List.getElem?_cons_zero])) (by kernel_rfl) (by kernel_rfl) (by kernel_rfl) ?hQ (Or.inl ⟨by rfl, ?hyr4_5⟩) hH ?restr4_5
  case hQ => exact fun _ _ _ h => h
  case hyr4_5 => (intro Y hY; obtain ⟨y0, y1, y2⟩ := hY; go_simp; try (with_reducible rfl))
  try simp only [Act.put, List.setIfInBounds_toArray, List.set_cons_zero, List.set_cons_succ]
  refine wpAnyH_take (i := 5) (v := ?vr5_6) (by (conv => lhs; simp only [List.getElem?_toArray, List.getElem?_cons_succ, List.getElem?_cons_zero])) (by kernel_rfl) (by kernel_rfl) (by kernel_rfl) ?hQ (Or.inl ⟨by rfl, ?hyr5_6⟩) hH ?restr5_6
  case hQ => exact fun _ _ _ h => h
  case hyr5_6 => (intro Y hY; obtain ⟨y0, y1, y2⟩ := hY; go_simp; try (with_reducible rfl))
  try simp only [Act.put, List.setIfInBounds_toArray, List.set_cons_zero, List.set_cons_succ]
  refine wpAnyH_take (i := 6) (v := ?vr6_7) (by (conv => lhs; simp only [List.getElem?_toArray, List.getElem?_cons_succ, List.getElem?_cons_zero])) (by kernel_rfl) (by kernel_rfl) (by kernel_rfl) ?hQ (Or.inl ⟨by rfl, ?hyr6_7⟩) hH ?restr6_7
  case hQ => exact fun _ _ _ h => h
  case hyr6_7 => (intro Y hY; obtain ⟨y0, y1, y2⟩ := hY; go_simp; try (with_reducible rfl))
  try simp only [Act.put, List.setIfInBounds_toArray, List.set_cons_zero, List.set_cons_succ]
  refine wpAnyH_take (i := 7) (v := ?vr7_8) (by (conv => lhs; simp only [List.getElem?_toArray, List.getElem?_cons_succ, List.getElem?_cons_zero])) (by kernel_rfl) (by kernel_rfl) (by kernel_rfl) ?hQ (Or.inl ⟨by rfl, ?hyr7_8⟩) hH ?restr7_8
  case hQ => exact fun _ _ _ h => h
  case hyr7_8 => (intro Y hY; obtain ⟨y0, y1, y2⟩ := hY; go_simp; try (with_reducible rfl))
  try simp only [Act.put, List.setIfInBounds_toArray, List.set_cons_zero, List.set_cons_succ]
  refine wpAnyH_take (i := 8) (v := ?vr8_9) (by (conv => lhs; simp only [List.getElem?_toArray, List.getElem?_cons_succ, List.getElem?_cons_zero])) (by kernel_rfl) (by kernel_rfl) (by kernel_rfl) ?hQ (Or.inl ⟨by rfl, ?hyr8_9⟩) hH ?restr8_9
  case hQ => exact fun _ _ _ h => h
  case hyr8_9 => (intro Y hY; obtain ⟨y0, y1, y2⟩ := hY; go_simp; try (with_reducible rfl))
  try simp only [Act.put, List.setIfInBounds_toArray, List.set_cons_zero, List.set_cons_succ]
  refine wpAnyH_take (i := 9) (v := ?vr9_10) (by (conv => lhs; simp only [List.getElem?_toArray, List.getElem?_cons_succ, List.getElem?_cons_zero])) (by kernel_rfl) (by kernel_rfl) (by kernel_rfl) ?hQ (Or.inl ⟨by rfl, ?hyr9_10⟩) hH ?restr9_10
  case hQ => exact fun _ _ _ h => h
  case hyr9_10 => (intro Y hY; obtain ⟨y0, y1, y2⟩ := hY; go_simp; try (with_reducible rfl))
  try simp only [Act.put, List.setIfInBounds_toArray, List.set_cons_zero, List.set_cons_succ]
  refine wpAnyH_take (i := 11) (v := ?vr11_11) (by (conv => lhs; simp only [List.getElem?_toArray, List.getElem?_cons_succ, List.getElem?_cons_zero])) (by kernel_rfl) (by kernel_rfl) (by kernel_rfl) ?hQ (Or.inl ⟨by rfl, ?hyr11_11⟩) hH ?restr11_11
  case hQ => exact fun _ _ _ h => h
  case hyr11_11 => (intro Y hY; obtain ⟨y0, y1, y2⟩ := hY; go_simp; try (with_reducible rfl))
  try simp only [Act.put, List.setIfInBounds_toArray, List.set_cons_zero, List.set_cons_succ]
  refine wpAnyH_ready (rs := [10, 12]) (by kernel_rfl) (by simp) ?_
  refine AllReadyH.cons (by (conv => lhs; simp only [List.getElem?_toArray, List.getElem?_cons_succ, List.getElem?_cons_zero])) (fun K hK => ?_) (AllReadyH.cons (by (conv => lhs; simp only [List.getElem?_toArray, List.getElem?_cons_succ, List.getElem?_cons_zero])) (fun K hK => ?_) AllReadyH.nil)
  · have u1 : WA.cell? ⟨g, 1, none⟩ = some v := HA.out.g1
    go_simp
    refine hK.out _ _ hSA.out (fun hHa => ?_)
    clear hK hH u1
    try simp only [Act.put, List.setIfInBounds_toArray, List.set_cons_zero, List.set_cons_succ]
    refine wpAnyH_ready (rs := [12]) (by kernel_rfl) (by simp) ?_
    refine AllReadyH.cons (by (conv => lhs; simp only [List.getElem?_toArray, List.getElem?_cons_succ, List.getElem?_cons_zero])) (fun K hK => ?_) AllReadyH.nil
    go_simp
    refine hK.out _ _ HSB.out.2 (fun hHb => ?_)
    clear hK hHa
    try simp only [Act.put, List.setIfInBounds_toArray, List.set_cons_zero, List.set_cons_succ]
    refine wpAnyH_ready (rs := [13]) (by kernel_rfl) (by simp) ?_
    refine AllReadyH.cons (by (conv => lhs; simp only [List.getElem?_toArray, List.getElem?_cons_succ, List.getElem?_cons_zero])) (fun K hK => ?_) AllReadyH.nil
    rw [if_pos (by rfl)]
    refine wp_append_q (.tmp 54) (.tmp 56) 33 (by rfl) Try.underlying33 (v := v) (L := L) (by rfl) HQB.out hLL.out ⟨WA.heap.size, 0, none⟩ 1 (i, z) (by rfl) NEW.out ?_
    intro v' w4 hq hgr hor
    obtain ⟨A', n', c', rfl⟩ : ∃ A' n' c', v' = .slice A' n' c' := by obtain ⟨a, c, e, _⟩ := hq.lie; exact ⟨a, _, c, e⟩
    have F4 := hidd (put_fin HA.out HBB.out hXA.out NX.out hSA.out.2.1 hSA.out.2.2 hzz.out HWD.out hq hgr hor)
    have hv := F4.out.1
    refine hK.out _ _ (SV.out w4 hgr) (fun hHc => ?_)
    clear hK hHb hq hgr hor
    try simp only [Act.put, List.setIfInBounds_toArray, List.set_cons_zero, List.set_cons_succ]
    refine wpAnyH_take (i := 14) (v := ?vqA14_1) (by (conv => lhs; simp only [List.getElem?_toArray, List.getElem?_cons_succ, List.getElem?_cons_zero])) (by kernel_rfl) (by kernel_rfl) (by kernel_rfl) ?hQ (Or.inl ⟨by rfl, ?hyqA14_1⟩) hHc ?restqA14_1
    case hQ => exact fun _ _ _ h => h
    case hyqA14_1 => (intro Y hY; obtain ⟨y0, y1, y2⟩ := hY; go_simp; try (with_reducible rfl))
    try simp only [Act.put, List.setIfInBounds_toArray, List.set_cons_zero, List.set_cons_succ]
    refine wpAnyH_take (i := 15) (v := ?vqA15_2) (by (conv => lhs; simp only [List.getElem?_toArray, List.getElem?_cons_succ, List.getElem?_cons_zero])) (by kernel_rfl) (by kernel_rfl) (by kernel_rfl) ?hQ (Or.inl ⟨by rfl, ?hyqA15_2⟩) hHc ?restqA15_2
    case hQ => exact fun _ _ _ h => h
    case hyqA15_2 => (intro Y hY; obtain ⟨y0, y1, y2⟩ := hY; go_simp; try (with_reducible rfl))
    try simp only [Act.put, List.setIfInBounds_toArray, List.set_cons_zero, List.set_cons_succ]
    obtain ⟨hv1, hv2⟩ := hv
    refine wpAnyH_ready (rs := [16]) (by kernel_rfl) (by simp) ?_
    refine AllReadyH.cons (by (conv => lhs; simp only [List.getElem?_toArray, List.getElem?_cons_succ, List.getElem?_cons_zero])) (fun K hK => ?_) AllReadyH.nil
    go_simp
    refine hK.out _ _ F4.out.2.1 (fun hHd => ?_)
    clear hK hHc hv1 hv2
    try simp only [Act.put, List.setIfInBounds_toArray, List.set_cons_zero, List.set_cons_succ]
    refine wpAnyH_done (by kernel_rfl) (?_) _
    have F5 := F4.out.2
    obtain ⟨w5, hw5⟩ : ∃ w5, w4.setCell ⟨g, 1, none⟩ (.slice A' n' c') = w5 := ⟨_, rfl⟩
    rw [hw5] at F5
    rw [hw5]
    clear hw5 hHd F4
    obtain ⟨f0, ⟨g25, e25⟩, f3, f4⟩ := F5
    have hS5 := hidd f0
    have KP5 := hidd f3
    have END := hidd f4
    clear f0 f3 f4
    go_wp2_with fail
    refine wp_region_held_drew (S := (fun Y => Y.cell? ⟨h, 0, none⟩ = some (.pointer (some ⟨g, 0, none⟩)) ∧ Y.cell? ⟨w.heap.size, 0, none⟩ = some (.int .i64 i) ∧ Y.cell? ⟨w.heap.size, 1, none⟩ = some (.int .i64 z))) (by kernel_rfl) (hS5.out) (fun hH => ?_)
    refine wpAnyH_take (i := 0) (v := ?vtA0_1) (by (conv => lhs; simp only [List.getElem?_toArray, List.getElem?_cons_succ, List.getElem?_cons_zero])) (by kernel_rfl) (by kernel_rfl) (by kernel_rfl) ?hQ (Or.inl ⟨by rfl, ?hytA0_1⟩) hH ?resttA0_1
    case hQ => exact fun _ _ _ h => h
    case hytA0_1 => (intro Y hY; obtain ⟨y0, y1, y2⟩ := hY; go_simp; try (with_reducible rfl))
    try simp only [Act.put, List.setIfInBounds_toArray, List.set_cons_zero, List.set_cons_succ]
    refine wpAnyH_take (i := 1) (v := ?vtA1_2) (by (conv => lhs; simp only [List.getElem?_toArray, List.getElem?_cons_succ, List.getElem?_cons_zero])) (by kernel_rfl) (by kernel_rfl) (by kernel_rfl) ?hQ (Or.inl ⟨by rfl, ?hytA1_2⟩) hH ?resttA1_2
    case hQ => exact fun _ _ _ h => h
    case hytA1_2 => (intro Y hY; obtain ⟨y0, y1, y2⟩ := hY; go_simp; try (with_reducible rfl))
    try simp only [Act.put, List.setIfInBounds_toArray, List.set_cons_zero, List.set_cons_succ]
    refine wpAnyH_take (i := 2) (v := ?vtA2_3) (by (conv => lhs; simp only [List.getElem?_toArray, List.getElem?_cons_succ, List.getElem?_cons_zero])) (by kernel_rfl) (by kernel_rfl) (by kernel_rfl) ?hQ (Or.inl ⟨by rfl, ?hytA2_3⟩) hH ?resttA2_3
    case hQ => exact fun _ _ _ h => h
    case hytA2_3 => (intro Y hY; obtain ⟨y0, y1, y2⟩ := hY; go_simp; try (with_reducible rfl))
    try simp only [Act.put, List.setIfInBounds_toArray, List.set_cons_zero, List.set_cons_succ]
    refine wpAnyH_take (i := 3) (v := ?vtA3_4) (by (conv => lhs; simp only [List.getElem?_toArray, List.getElem?_cons_succ, List.getElem?_cons_zero])) (by kernel_rfl) (by kernel_rfl) (by kernel_rfl) ?hQ (Or.inl ⟨by rfl, ?hytA3_4⟩) hH ?resttA3_4
    case hQ => exact fun _ _ _ h => h
    case hytA3_4 => (intro Y hY; obtain ⟨y0, y1, y2⟩ := hY; go_simp; try (with_reducible rfl))
    try simp only [Act.put, List.setIfInBounds_toArray, List.set_cons_zero, List.set_cons_succ]
    refine wpAnyH_take (i := 4) (v := ?vtA4_5) (by (conv => lhs; simp only [List.getElem?_toArray, List.getElem?_cons_succ, List.getElem?_cons_zero])) (by kernel_rfl) (by kernel_rfl) (by kernel_rfl) ?hQ (Or.inl ⟨by rfl, ?hytA4_5⟩) hH ?resttA4_5
    case hQ => exact fun _ _ _ h => h
    case hytA4_5 => (intro Y hY; obtain ⟨y0, y1, y2⟩ := hY; go_simp; try (with_reducible rfl))
    try simp only [Act.put, List.setIfInBounds_toArray, List.set_cons_zero, List.set_cons_succ]
    refine wpAnyH_take (i := 5) (v := ?vtA5_6) (by (conv => lhs; simp only [List.getElem?_toArray, List.getElem?_cons_succ, List.getElem?_cons_zero])) (by kernel_rfl) (by kernel_rfl) (by kernel_rfl) ?hQ (Or.inl ⟨by rfl, ?hytA5_6⟩) hH ?resttA5_6
    case hQ => exact fun _ _ _ h => h
    case hytA5_6 => (intro Y hY; obtain ⟨y0, y1, y2⟩ := hY; go_simp; try (with_reducible rfl))
    try simp only [Act.put, List.setIfInBounds_toArray, List.set_cons_zero, List.set_cons_succ]
    refine wpAnyH_take (i := 7) (v := ?vtA7_7) (by (conv => lhs; simp only [List.getElem?_toArray, List.getElem?_cons_succ, List.getElem?_cons_zero])) (by kernel_rfl) (by kernel_rfl) (by kernel_rfl) ?hQ (Or.inl ⟨by rfl, ?hytA7_7⟩) hH ?resttA7_7
    case hQ => exact fun _ _ _ h => h
    case hytA7_7 => (intro Y hY; obtain ⟨y0, y1, y2⟩ := hY; go_simp; try (with_reducible rfl))
    try simp only [Act.put, List.setIfInBounds_toArray, List.set_cons_zero, List.set_cons_succ]
    have u2 : w5.drew.cell? ⟨g, 2, none⟩ = some (.int .i64 (sumB L)) := g25
    have u3 : w5.drew.frozen? ⟨g, 2, none⟩ = false := e25
    refine wpAnyH_take (i := 8) (v := ?vtA8_8) (by (conv => lhs; simp only [List.getElem?_toArray, List.getElem?_cons_succ, List.getElem?_cons_zero])) (by kernel_rfl) (by kernel_rfl) (by kernel_rfl) ?hQ (Or.inl ⟨by rfl, ?hytA8_8⟩) hH ?resttA8_8
    case hQ => exact fun _ _ _ h => h
    case hytA8_8 => (intro Y hY; obtain ⟨y0, y1, y2⟩ := hY; go_simp; try (with_reducible rfl))
    try simp only [Act.put, List.setIfInBounds_toArray, List.set_cons_zero, List.set_cons_succ]
    refine wpAnyH_ready (rs := [6]) (by kernel_rfl) (by simp) ?_
    refine AllReadyH.cons (by (conv => lhs; simp only [List.getElem?_toArray, List.getElem?_cons_succ, List.getElem?_cons_zero])) (fun K hK => ?_) AllReadyH.nil
    go_simp
    refine hK.out _ _ hH (fun hHa => ?_)
    clear hK hH
    try simp only [Act.put, List.setIfInBounds_toArray, List.set_cons_zero, List.set_cons_succ]
    refine wpAnyH_take (i := 9) (v := ?vtA9_9) (by (conv => lhs; simp only [List.getElem?_toArray, List.getElem?_cons_succ, List.getElem?_cons_zero])) (by kernel_rfl) (by kernel_rfl) (by kernel_rfl) ?hQ (Or.inl ⟨by rfl, ?hytA9_9⟩) hHa ?resttA9_9
    case hQ => exact fun _ _ _ h => h
    case hytA9_9 => (intro Y hY; obtain ⟨y0, y1, y2⟩ := hY; go_simp; try (with_reducible rfl))
    try simp only [Act.put, List.setIfInBounds_toArray, List.set_cons_zero, List.set_cons_succ]
    refine wpAnyH_take (i := 10) (v := ?vtA10_10) (by (conv => lhs; simp only [List.getElem?_toArray, List.getElem?_cons_succ, List.getElem?_cons_zero])) (by kernel_rfl) (by kernel_rfl) (by kernel_rfl) ?hQ (Or.inl ⟨by rfl, ?hytA10_10⟩) hHa ?resttA10_10
    case hQ => exact fun _ _ _ h => h
    case hytA10_10 => (intro Y hY; obtain ⟨y0, y1, y2⟩ := hY; go_simp; try (with_reducible rfl))
    try simp only [Act.put, List.setIfInBounds_toArray, List.set_cons_zero, List.set_cons_succ]
    refine wpAnyH_take (i := 11) (v := ?vtA11_11) (by (conv => lhs; simp only [List.getElem?_toArray, List.getElem?_cons_succ, List.getElem?_cons_zero])) (by kernel_rfl) (by kernel_rfl) (by kernel_rfl) ?hQ (Or.inl ⟨by rfl, ?hytA11_11⟩) hHa ?resttA11_11
    case hQ => exact fun _ _ _ h => h
    case hytA11_11 => (intro Y hY; obtain ⟨y0, y1, y2⟩ := hY; go_simp; try (with_reducible rfl))
    try simp only [Act.put, List.setIfInBounds_toArray, List.set_cons_zero, List.set_cons_succ]
    refine wpAnyH_ready (rs := [12]) (by kernel_rfl) (by simp) ?_
    refine AllReadyH.cons (by (conv => lhs; simp only [List.getElem?_toArray, List.getElem?_cons_succ, List.getElem?_cons_zero])) (fun K hK => ?_) AllReadyH.nil
    go_simp
    refine hK.out _ _ KP5.out (fun hHb => ?_)
    clear hK hHa u2 u3 g25 e25
    try simp only [Act.put, List.setIfInBounds_toArray, List.set_cons_zero, List.set_cons_succ]
    refine wpAnyH_done (by kernel_rfl) (?_) _
    go_wp2_with fail
    go_ret
    refine ⟨rfl, _, END.out.1, (Sav.of B4.out).trans END.out.2.1 (fun j _ q => q), fun k hk q => END.out.2.2 k (Nat.lt_of_lt_of_le hk B4.out.size) q⟩
  · go_simp
    refine hK.out _ _ HSB.out.2 (fun hHa => ?_)
    clear hK hH
    try simp only [Act.put, List.setIfInBounds_toArray, List.set_cons_zero, List.set_cons_succ]
    refine wpAnyH_ready (rs := [10]) (by kernel_rfl) (by simp) ?_
    refine AllReadyH.cons (by (conv => lhs; simp only [List.getElem?_toArray, List.getElem?_cons_succ, List.getElem?_cons_zero])) (fun K hK => ?_) AllReadyH.nil
    have u1 : (WA.alloc (.cells #[.int .i64 i, .int .i64 z] 41)).cell? ⟨g, 1, none⟩ = some v := HSB.out.1
    go_simp
    refine hK.out _ _ HSB.out.2 (fun hHb => ?_)
    clear hK hHa u1
    try simp only [Act.put, List.setIfInBounds_toArray, List.set_cons_zero, List.set_cons_succ]
    refine wpAnyH_ready (rs := [13]) (by kernel_rfl) (by simp) ?_
    refine AllReadyH.cons (by (conv => lhs; simp only [List.getElem?_toArray, List.getElem?_cons_succ, List.getElem?_cons_zero])) (fun K hK => ?_) AllReadyH.nil
    rw [if_pos (by rfl)]
    refine wp_append_q (.tmp 54) (.tmp 56) 33 (by rfl) Try.underlying33 (v := v) (L := L) (by rfl) HQB.out hLL.out ⟨WA.heap.size, 0, none⟩ 1 (i, z) (by rfl) NEW.out ?_
    intro v' w4 hq hgr hor
    obtain ⟨A', n', c', rfl⟩ : ∃ A' n' c', v' = .slice A' n' c' := by obtain ⟨a, c, e, _⟩ := hq.lie; exact ⟨a, _, c, e⟩
    have F4 := hidd (put_fin HA.out HBB.out hXA.out NX.out hSA.out.2.1 hSA.out.2.2 hzz.out HWD.out hq hgr hor)
    have hv := F4.out.1
    refine hK.out _ _ (SV.out w4 hgr) (fun hHc => ?_)
    clear hK hHb hq hgr hor
    try simp only [Act.put, List.setIfInBounds_toArray, List.set_cons_zero, List.set_cons_succ]
    refine wpAnyH_take (i := 14) (v := ?vqB14_1) (by (conv => lhs; simp only [List.getElem?_toArray, List.getElem?_cons_succ, List.getElem?_cons_zero])) (by kernel_rfl) (by kernel_rfl) (by kernel_rfl) ?hQ (Or.inl ⟨by rfl, ?hyqB14_1⟩) hHc ?restqB14_1
    case hQ => exact fun _ _ _ h => h
    case hyqB14_1 => (intro Y hY; obtain ⟨y0, y1, y2⟩ := hY; go_simp; try (with_reducible rfl))
    try simp only [Act.put, List.setIfInBounds_toArray, List.set_cons_zero, List.set_cons_succ]
    refine wpAnyH_take (i := 15) (v := ?vqB15_2) (by (conv => lhs; simp only [List.getElem?_toArray, List.getElem?_cons_succ, List.getElem?_cons_zero])) (by kernel_rfl) (by kernel_rfl) (by kernel_rfl) ?hQ (Or.inl ⟨by rfl, ?hyqB15_2⟩) hHc ?restqB15_2
    case hQ => exact fun _ _ _ h => h
    case hyqB15_2 => (intro Y hY; obtain ⟨y0, y1, y2⟩ := hY; go_simp; try (with_reducible rfl))
    try simp only [Act.put, List.setIfInBounds_toArray, List.set_cons_zero, List.set_cons_succ]
    obtain ⟨hv1, hv2⟩ := hv
    refine wpAnyH_ready (rs := [16]) (by kernel_rfl) (by simp) ?_
    refine AllReadyH.cons (by (conv => lhs; simp only [List.getElem?_toArray, List.getElem?_cons_succ, List.getElem?_cons_zero])) (fun K hK => ?_) AllReadyH.nil
    go_simp
    refine hK.out _ _ F4.out.2.1 (fun hHd => ?_)
    clear hK hHc hv1 hv2
    try simp only [Act.put, List.setIfInBounds_toArray, List.set_cons_zero, List.set_cons_succ]
    refine wpAnyH_done (by kernel_rfl) (?_) _
    have F5 := F4.out.2
    obtain ⟨w5, hw5⟩ : ∃ w5, w4.setCell ⟨g, 1, none⟩ (.slice A' n' c') = w5 := ⟨_, rfl⟩
    rw [hw5] at F5
    rw [hw5]
    clear hw5 hHd F4
    obtain ⟨f0, ⟨g25, e25⟩, f3, f4⟩ := F5
    have hS5 := hidd f0
    have KP5 := hidd f3
    have END := hidd f4
    clear f0 f3 f4
    go_wp2_with fail
    refine wp_region_held_drew (S := (fun Y => Y.cell? ⟨h, 0, none⟩ = some (.pointer (some ⟨g, 0, none⟩)) ∧ Y.cell? ⟨w.heap.size, 0, none⟩ = some (.int .i64 i) ∧ Y.cell? ⟨w.heap.size, 1, none⟩ = some (.int .i64 z))) (by kernel_rfl) (hS5.out) (fun hH => ?_)
    refine wpAnyH_take (i := 0) (v := ?vtB0_1) (by (conv => lhs; simp only [List.getElem?_toArray, List.getElem?_cons_succ, List.getElem?_cons_zero])) (by kernel_rfl) (by kernel_rfl) (by kernel_rfl) ?hQ (Or.inl ⟨by rfl, ?hytB0_1⟩) hH ?resttB0_1
    case hQ => exact fun _ _ _ h => h
    case hytB0_1 => (intro Y hY; obtain ⟨y0, y1, y2⟩ := hY; go_simp; try (with_reducible rfl))
    try simp only [Act.put, List.setIfInBounds_toArray, List.set_cons_zero, List.set_cons_succ]
    refine wpAnyH_take (i := 1) (v := ?vtB1_2) (by (conv => lhs; simp only [List.getElem?_toArray, List.getElem?_cons_succ, List.getElem?_cons_zero])) (by kernel_rfl) (by kernel_rfl) (by kernel_rfl) ?hQ (Or.inl ⟨by rfl, ?hytB1_2⟩) hH ?resttB1_2
    case hQ => exact fun _ _ _ h => h
    case hytB1_2 => (intro Y hY; obtain ⟨y0, y1, y2⟩ := hY; go_simp; try (with_reducible rfl))
    try simp only [Act.put, List.setIfInBounds_toArray, List.set_cons_zero, List.set_cons_succ]
    refine wpAnyH_take (i := 2) (v := ?vtB2_3) (by (conv => lhs; simp only [List.getElem?_toArray, List.getElem?_cons_succ, List.getElem?_cons_zero])) (by kernel_rfl) (by kernel_rfl) (by kernel_rfl) ?hQ (Or.inl ⟨by rfl, ?hytB2_3⟩) hH ?resttB2_3
    case hQ => exact fun _ _ _ h => h
    case hytB2_3 => (intro Y hY; obtain ⟨y0, y1, y2⟩ := hY; go_simp; try (with_reducible rfl))
    try simp only [Act.put, List.setIfInBounds_toArray, List.set_cons_zero, List.set_cons_succ]
    refine wpAnyH_take (i := 3) (v := ?vtB3_4) (by (conv => lhs; simp only [List.getElem?_toArray, List.getElem?_cons_succ, List.getElem?_cons_zero])) (by kernel_rfl) (by kernel_rfl) (by kernel_rfl) ?hQ (Or.inl ⟨by rfl, ?hytB3_4⟩) hH ?resttB3_4
    case hQ => exact fun _ _ _ h => h
    case hytB3_4 => (intro Y hY; obtain ⟨y0, y1, y2⟩ := hY; go_simp; try (with_reducible rfl))
    try simp only [Act.put, List.setIfInBounds_toArray, List.set_cons_zero, List.set_cons_succ]
    refine wpAnyH_take (i := 4) (v := ?vtB4_5) (by (conv => lhs; simp only [List.getElem?_toArray, List.getElem?_cons_succ, List.getElem?_cons_zero])) (by kernel_rfl) (by kernel_rfl) (by kernel_rfl) ?hQ (Or.inl ⟨by rfl, ?hytB4_5⟩) hH ?resttB4_5
    case hQ => exact fun _ _ _ h => h
    case hytB4_5 => (intro Y hY; obtain ⟨y0, y1, y2⟩ := hY; go_simp; try (with_reducible rfl))
    try simp only [Act.put, List.setIfInBounds_toArray, List.set_cons_zero, List.set_cons_succ]
    refine wpAnyH_take (i := 5) (v := ?vtB5_6) (by (conv => lhs; simp only [List.getElem?_toArray, List.getElem?_cons_succ, List.getElem?_cons_zero])) (by kernel_rfl) (by kernel_rfl) (by kernel_rfl) ?hQ (Or.inl ⟨by rfl, ?hytB5_6⟩) hH ?resttB5_6
    case hQ => exact fun _ _ _ h => h
    case hytB5_6 => (intro Y hY; obtain ⟨y0, y1, y2⟩ := hY; go_simp; try (with_reducible rfl))
    try simp only [Act.put, List.setIfInBounds_toArray, List.set_cons_zero, List.set_cons_succ]
    refine wpAnyH_take (i := 7) (v := ?vtB7_7) (by (conv => lhs; simp only [List.getElem?_toArray, List.getElem?_cons_succ, List.getElem?_cons_zero])) (by kernel_rfl) (by kernel_rfl) (by kernel_rfl) ?hQ (Or.inl ⟨by rfl, ?hytB7_7⟩) hH ?resttB7_7
    case hQ => exact fun _ _ _ h => h
    case hytB7_7 => (intro Y hY; obtain ⟨y0, y1, y2⟩ := hY; go_simp; try (with_reducible rfl))
    try simp only [Act.put, List.setIfInBounds_toArray, List.set_cons_zero, List.set_cons_succ]
    have u2 : w5.drew.cell? ⟨g, 2, none⟩ = some (.int .i64 (sumB L)) := g25
    have u3 : w5.drew.frozen? ⟨g, 2, none⟩ = false := e25
    refine wpAnyH_take (i := 8) (v := ?vtB8_8) (by (conv => lhs; simp only [List.getElem?_toArray, List.getElem?_cons_succ, List.getElem?_cons_zero])) (by kernel_rfl) (by kernel_rfl) (by kernel_rfl) ?hQ (Or.inl ⟨by rfl, ?hytB8_8⟩) hH ?resttB8_8
    case hQ => exact fun _ _ _ h => h
    case hytB8_8 => (intro Y hY; obtain ⟨y0, y1, y2⟩ := hY; go_simp; try (with_reducible rfl))
    try simp only [Act.put, List.setIfInBounds_toArray, List.set_cons_zero, List.set_cons_succ]
    refine wpAnyH_ready (rs := [6]) (by kernel_rfl) (by simp) ?_
    refine AllReadyH.cons (by (conv => lhs; simp only [List.getElem?_toArray, List.getElem?_cons_succ, List.getElem?_cons_zero])) (fun K hK => ?_) AllReadyH.nil
    go_simp
    refine hK.out _ _ hH (fun hHa => ?_)
    clear hK hH
    try simp only [Act.put, List.setIfInBounds_toArray, List.set_cons_zero, List.set_cons_succ]
    refine wpAnyH_take (i := 9) (v := ?vtB9_9) (by (conv => lhs; simp only [List.getElem?_toArray, List.getElem?_cons_succ, List.getElem?_cons_zero])) (by kernel_rfl) (by kernel_rfl) (by kernel_rfl) ?hQ (Or.inl ⟨by rfl, ?hytB9_9⟩) hHa ?resttB9_9
    case hQ => exact fun _ _ _ h => h
    case hytB9_9 => (intro Y hY; obtain ⟨y0, y1, y2⟩ := hY; go_simp; try (with_reducible rfl))
    try simp only [Act.put, List.setIfInBounds_toArray, List.set_cons_zero, List.set_cons_succ]
    refine wpAnyH_take (i := 10) (v := ?vtB10_10) (by (conv => lhs; simp only [List.getElem?_toArray, List.getElem?_cons_succ, List.getElem?_cons_zero])) (by kernel_rfl) (by kernel_rfl) (by kernel_rfl) ?hQ (Or.inl ⟨by rfl, ?hytB10_10⟩) hHa ?resttB10_10
    case hQ => exact fun _ _ _ h => h
    case hytB10_10 => (intro Y hY; obtain ⟨y0, y1, y2⟩ := hY; go_simp; try (with_reducible rfl))
    try simp only [Act.put, List.setIfInBounds_toArray, List.set_cons_zero, List.set_cons_succ]
    refine wpAnyH_take (i := 11) (v := ?vtB11_11) (by (conv => lhs; simp only [List.getElem?_toArray, List.getElem?_cons_succ, List.getElem?_cons_zero])) (by kernel_rfl) (by kernel_rfl) (by kernel_rfl) ?hQ (Or.inl ⟨by rfl, ?hytB11_11⟩) hHa ?resttB11_11
    case hQ => exact fun _ _ _ h => h
    case hytB11_11 => (intro Y hY; obtain ⟨y0, y1, y2⟩ := hY; go_simp; try (with_reducible rfl))
    try simp only [Act.put, List.setIfInBounds_toArray, List.set_cons_zero, List.set_cons_succ]
    refine wpAnyH_ready (rs := [12]) (by kernel_rfl) (by simp) ?_
    refine AllReadyH.cons (by (conv => lhs; simp only [List.getElem?_toArray, List.getElem?_cons_succ, List.getElem?_cons_zero])) (fun K hK => ?_) AllReadyH.nil
    go_simp
    refine hK.out _ _ KP5.out (fun hHb => ?_)
    clear hK hHa u2 u3 g25 e25
    try simp only [Act.put, List.setIfInBounds_toArray, List.set_cons_zero, List.set_cons_succ]
    refine wpAnyH_done (by kernel_rfl) (?_) _
    go_wp2_with fail
    go_ret
    refine ⟨rfl, _, END.out.1, (Sav.of B4.out).trans END.out.2.1 (fun j _ q => q), fun k hk q => END.out.2.2 k (Nat.lt_of_lt_of_le hk B4.out.size) q⟩
end
end Go.Proofs.Ythaiphkmkchhoaa

