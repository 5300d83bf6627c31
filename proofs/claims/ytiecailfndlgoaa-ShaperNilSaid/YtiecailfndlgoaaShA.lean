/- Shapers: what waits lies in a slice that is cut at its head and grows at its end; what goes at a tick. -/
import Derived.Test.YtiecailfndlgoaaBkN0
import Derived.Test.YtiecailfndlgoaaBkP
import Derived.Test.YtiecailfndlgoaaBkR
import Derived.ArgAppend
namespace Go.Proofs.Ytiecailfndlgoaa
open Go.RowKit
set_option linter.unusedVariables false
/-- a slice of the program's own holds a list: its cells, and room behind them. -/
def QL (w : World) (v : Value) (L : List (Int × Int)) : Prop :=
  (L = [] ∧ ∃ A : Option Addr, v = .slice A 0 0 ∧ ∀ a, A = some a → a.block < w.heap.size ∧ a = ⟨a.block, a.off, none⟩) ∨
  ∃ (g o cap : Nat), v = .slice (some ⟨g, o, none⟩) L.length cap ∧ g < w.heap.size ∧ L.length ≤ cap ∧ cap ≤ maxLen ∧
    (∀ j, j < cap * 2 → (w.cell? ⟨g, o + j, none⟩).isSome = true ∧ w.frozen? ⟨g, o + j, none⟩ = false) ∧
    ∀ j u, (rowOf sendV L)[j]? = some u → w.cell? ⟨g, o + j, none⟩ = some u
section
variable {w w' : World} {v : Value} {L : List (Int × Int)}
theorem QL.nil (w : World) : QL w (.slice none 0 0) [] := .inl ⟨rfl, none, rfl, fun a h => by cases h⟩
theorem QL.lt (h : QL w v L) : ∀ g, v.ownBlock = some g → g < w.heap.size := fun g hg => by
  rcases h with ⟨_, A, rfl, hA⟩ | ⟨g', o, cap, rfl, hlt, _⟩
  · cases A with
    | none => cases hg
    | some a => simp [Value.ownBlock] at hg; subst hg; exact (hA a rfl).1
  · simp [Value.ownBlock] at hg; subst hg; exact hlt
theorem QL.keep (h : QL w v L) (hb : ∀ g, v.ownBlock = some g → w'.heap[g]? = w.heap[g]?) (hs : w.heap.size ≤ w'.heap.size) : QL w' v L := by
  rcases h with ⟨h0, A, rfl, hA⟩ | ⟨g, o, cap, rfl, hlt, h1, h2, h3, h4⟩
  · exact .inl ⟨h0, A, rfl, fun a ha => ⟨Nat.lt_of_lt_of_le (hA a ha).1 hs, (hA a ha).2⟩⟩
  · have e := hb g rfl
    have c := fun o => World.cell?_of_block (w := w) (w' := w') (a := ⟨g, o, none⟩) e
    have f := fun o => World.frozen?_of_block (w := w) (w' := w') (a := ⟨g, o, none⟩) e
    exact .inr ⟨g, o, cap, rfl, Nat.lt_of_lt_of_le hlt hs, h1, h2, fun j hj => by rw [c, f]; exact h3 j hj, fun j u hu => by rw [c]; exact h4 j u hu⟩
theorem QL.below (h : QL w v L) (hb : Below w.heap.size w w') : QL w' v L := h.keep (fun g hg => hb.block g (h.lt g hg)) hb.size
theorem row2_at (L : List (Int × Int)) {i : Nat} {x : Int × Int} (hx : L[i]? = some x) {j : Nat} {u : Value} (hu : (sendV x)[j]? = some u) : (rowOf sendV L)[i * 2 + j]? = some u := row_at sendV_len L i x hx j u hu
theorem row2_get {L : List (Int × Int)} {k : Nat} {u : Value} (h : (rowOf sendV L)[k]? = some u) : ∃ x, L[k / 2]? = some x ∧ (sendV x)[k % 2]? = some u := by
  have hk : k < (rowOf sendV L).length := (List.getElem?_eq_some_iff.1 h).1
  rw [row_len sendV_len] at hk
  have h1 : k / 2 < L.length := by omega
  have hu : (sendV L[k / 2])[k % 2]? = some ((sendV L[k / 2])[k % 2]'(by rw [sendV_len]; omega)) := List.getElem?_eq_getElem _
  have := row_at sendV_len L (k / 2) L[k / 2] (List.getElem?_eq_getElem h1) (k % 2) _ hu
  rw [show k / 2 * 2 + k % 2 = k by omega, h] at this
  exact ⟨L[k / 2], List.getElem?_eq_getElem h1, by rw [hu]; exact this.symm⟩
theorem QL.lie (h : QL w v L) : ∃ A c, v = .slice A L.length c ∧ L.length ≤ c ∧ c ≤ maxLen ∧ Lie sendV 2 w w.heap.size A L := by
  rcases h with ⟨rfl, A, rfl, hA⟩ | ⟨g, o, cap, rfl, hlt, h1, h2, h3, h4⟩
  · exact ⟨A, 0, rfl, by simp, by simp [maxLen], Lie.nil⟩
  · refine ⟨_, cap, rfl, h1, h2, fun hl => ⟨_, rfl, hlt, fun i x hx j u hu => ?_⟩⟩
    rw [Addr.add_lit]
    exact h4 _ _ (row2_at L hx hu)
theorem QL.ofOwn {base : Nat} (h : OwnL sendV 2 w base 41 v L) : QL w v L := by
  rcases h.2 with ⟨rfl, h0⟩ | ⟨g, cap, cur, rfl, hb, hh, hn, hm, hsz, ht⟩
  · have : L = [] := List.eq_nil_of_length_eq_zero h0
    subst this
    exact QL.nil w
  · refine .inr ⟨g, 0, cap, rfl, (Array.getElem?_eq_some_iff.1 hh).1, hn, hm, fun j hj => ⟨?_, ?_⟩, fun j u hu => ?_⟩
    · have : j < cur.size := by omega
      simp [World.cell?, hh, this]
    · simp [World.frozen?, hh]
    · have := World.ownsRow.cells h (g := g) rfl j u hu
      rw [Addr.add_lit] at this
      exact this
theorem row2_drop (L : List (Int × Int)) (k : Nat) (j : Nat) : (rowOf sendV (L.drop k))[j]? = (rowOf sendV L)[k * 2 + j]? := by
  by_cases hj : k * 2 + j < L.length * 2
  · have h1 : j / 2 + k < L.length := by omega
    have hx : (L.drop k)[j / 2]? = some L[k + j / 2] := by rw [List.getElem?_drop]; exact List.getElem?_eq_getElem _
    have hu : (sendV L[k + j / 2])[j % 2]? = some ((sendV L[k + j / 2])[j % 2]'(by rw [sendV_len]; omega)) := List.getElem?_eq_getElem _
    have a := row2_at (L.drop k) hx hu
    have b := row2_at L (List.getElem?_eq_getElem (show k + j / 2 < L.length by omega)) hu
    rw [show j / 2 * 2 + j % 2 = j by omega] at a
    rw [show (k + j / 2) * 2 + j % 2 = k * 2 + j by omega] at b
    rw [a, b]
  · rw [List.getElem?_eq_none (by rw [row_len sendV_len, List.length_drop]; omega), List.getElem?_eq_none (by rw [row_len sendV_len]; omega)]
/-- what stands behind the first k. -/
theorem QL.cut {A : Option Addr} {c k : Nat} (h : QL w (.slice A L.length c) L) (hk : k ≤ L.length) : QL w (.slice (if c = k then A else A.map (fun a => ⟨a.block, a.off + k * 2, a.spot⟩)) (L.length - k) (c - k)) (L.drop k) := by
  rcases h with ⟨rfl, A', e, hA⟩ | ⟨g, o, cap, e, hlt, h1, h2, h3, h4⟩
  · cases e
    have hk0 : k = 0 := by simpa using hk
    subst hk0
    exact .inl ⟨rfl, A, by simp, hA⟩
  · cases e
    by_cases hc : c = k
    · rw [if_pos hc]
      have hl : L.length = k := by omega
      refine .inl ⟨List.drop_of_length_le (by omega), some ⟨g, o, none⟩, by rw [show L.length - k = 0 by omega, show c - k = 0 by omega], fun a ha => ?_⟩
      cases ha
      exact ⟨hlt, rfl⟩
    · rw [if_neg hc]
      refine .inr ⟨g, o + k * 2, c - k, by rw [List.length_drop]; rfl, hlt, by rw [List.length_drop]; omega, by omega, fun j hj => ?_, fun j u hu => ?_⟩
      · have := h3 (k * 2 + j) (by omega)
        rw [← Nat.add_assoc] at this
        exact this
      · rw [row2_drop] at hu
        have := h4 _ _ hu
        rw [← Nat.add_assoc] at this
        exact this
end
theorem waitInfo : (Try.prog.info? 41).map (fun i => (i.zero, i.size, i.bytes)) = some (some (.agg #[.int .i64 0, .int .i64 0]), 2, 16) := by kernel_rfl

structure Sav (S : Nat → Prop) (W W' : World) : Prop where
  os : W'.os = W.os
  tape : W'.tape = W.tape
  output : W'.output = W.output
  size : W.heap.size ≤ W'.heap.size
  block : ∀ k, k < W.heap.size → ¬ S k → W'.heap[k]? = W.heap[k]?
section
variable {S S' : Nat → Prop} {A B C : World}
theorem Sav.refl (S : Nat → Prop) (A : World) : Sav S A A := ⟨rfl, rfl, rfl, Nat.le_refl _, fun _ _ _ => rfl⟩
theorem Sav.trans (h : Sav S A B) (k : Sav S' B C) (hs : ∀ j, j < A.heap.size → S' j → S j) : Sav S A C :=
  ⟨k.os.trans h.os, k.tape.trans h.tape, k.output.trans h.output, Nat.le_trans h.size k.size, fun j hj hn => (k.block j (Nat.lt_of_lt_of_le hj h.size) (fun q => hn (hs j hj q))).trans (h.block j hj hn)⟩
theorem Sav.tr (h : Sav S A B) (k : Sav S B C) : Sav S A C := h.trans k (fun _ _ q => q)
theorem Sav.mono (h : Sav S A B) (hs : ∀ j, j < A.heap.size → S j → S' j) : Sav S' A B := ⟨h.os, h.tape, h.output, h.size, fun j hj hn => h.block j hj (fun q => hn (hs j hj q))⟩
theorem Sav.of (h : Below A.heap.size A B) : Sav S A B := ⟨h.os, h.tape, h.output, h.size, fun j hj _ => h.block j hj⟩
theorem Sav.below (h : Sav S A B) {b : Nat} (hb : b ≤ A.heap.size) (hs : ∀ j, S j → b ≤ j) : Below b A B := ⟨h.os, h.tape, h.output, h.size, fun j hj => h.block j (by omega) (fun q => by have := hs j q; omega)⟩
theorem Sav.setCell {p : Addr} (hp : S p.block) (A : World) (v : Value) : Sav S A (A.setCell p v) := ⟨rfl, rfl, rfl, by simp [World.setCell], fun k _ hn => Below.heap_setCell _ _ _ _ (fun e => hn (e ▸ hp))⟩
theorem Sav.setCells {g : Nat} (hp : S g) : ∀ (vs : List Value) (o : Nat) (A : World), Sav S A (A.setCells g o vs)
  | [], _, A => Sav.refl S A
  | v :: r, o, A => (Sav.setCell (p := ⟨g, o, none⟩) hp A v).tr (Sav.setCells hp r (o + 1) _)
theorem Sav.grown {r : Option Nat} (g : A.grownBy B r) (hr : ∀ k, r = some k → S k) : Sav S A B := ⟨g.os, g.tape, g.output, g.size, fun k hk hn => g.block k hk (fun e => hn (hr k e.symm))⟩
theorem Sav.cell (h : Sav S A B) {p : Addr} (hp : p.block < A.heap.size) (hn : ¬ S p.block) : B.cell? p = A.cell? p := World.cell?_of_block (h.block _ hp hn)
end
theorem setCells_grown (g : Nat) : ∀ (vs : List Value) (o : Nat) (A : World), A.grownBy (A.setCells g o vs) (some g)
  | [], _, A => World.grownBy.refl A _
  | v :: r, o, A => by
    have h1 : A.grownBy (A.setCell ⟨g, o, none⟩ v) (some g) := ⟨rfl, rfl, rfl, by simp [World.setCell], fun k _ hn => Below.heap_setCell _ _ _ _ (fun e => hn (congrArg some e))⟩
    exact World.grownBy.trans h1 (setCells_grown g r (o + 1) (A.setCell ⟨g, o, none⟩ v))
/-- one more behind. -/
theorem run_append_q (w : World) (t ty : TypeId) (ht : Try.prog.underlying t = some (.slice 41)) {v : Value} {L : List (Int × Int)} (h : QL w v L) (hL : L.length ≤ 1000000000) (a : Addr) (c : Nat) (x : Int × Int) (hn : ∀ j u, (sendV x)[j]? = some u → w.cell? (a.add j) = some u) :
    ∃ v' w', (Builtin.append_ #[t, t] ty #[v, .slice (some a) 1 c]).run Try.prog w = .ok v' w' ∧ QL w' v' (L ++ [x]) ∧ w.grownBy w' v.ownBlock ∧ (v'.ownBlock = v.ownBlock ∨ ∃ g, v'.ownBlock = some g ∧ w.heap.size ≤ g) := by
  obtain ⟨i, hi, hz0, hz1, hz2⟩ : ∃ i, Try.prog.info? 41 = some i ∧ i.zero = some (.agg #[.int .i64 0, .int .i64 0]) ∧ i.size = 2 ∧ i.bytes = 16 := by
    have q := waitInfo
    cases hi : Try.prog.info? 41 with
    | none => rw [hi] at q; cases q
    | some i => rw [hi] at q; simp at q; exact ⟨i, rfl, q.1, q.2.1, q.2.2⟩
  have hsl : (sendV x).length = 1 * 2 := rfl
  have big : ∀ (v' : Value) (w' : World), w'.ownsRow w.heap.size 41 2 v' (L.length + 1) (rowOf sendV L ++ sendV x) → QL w' v' (L ++ [x]) ∧ ∃ g, v'.ownBlock = some g ∧ w.heap.size ≤ g := fun v' w' hw => by
    refine ⟨QL.ofOwn (OwnL.snoc hw rfl rfl), ?_⟩
    rcases hw.2 with ⟨_, h0⟩ | ⟨g, cap, cur, rfl, hb, _⟩
    · omega
    · exact ⟨g, rfl, hb⟩
  rcases h with ⟨h0, A, hv, hA⟩ | ⟨g, o, cap, rfl, hlt, h1, h2, h3, h4⟩
  · subst h0 hv
    cases A with
    | none =>
      obtain ⟨v', w', hr, q2, q3, _, _⟩ := run_append_own_at (P := Try.prog) w w.heap.size t ty 41 i (.agg #[.int .i64 0, .int .i64 0]) 2 16 ht hi hz0 hz1 hz2 rfl (by decide) (.slice none 0 0) 0 [] (World.ownsRow_nil w w.heap.size _ 2) a 1 c (sendV x) hsl hn (sendV_one x) (by simp [maxLen]) (by omega) (Nat.le_refl _)
      obtain ⟨b1, b2⟩ := big v' w' (by simpa [rowOf] using q2)
      exact ⟨v', w', hr, b1, q3, .inr b2⟩
    | some a' =>
      obtain ⟨v', w', hr, q2, q3⟩ := run_append_arg_grows (P := Try.prog) w t ty 41 i (.agg #[.int .i64 0, .int .i64 0]) 2 16 ht hi hz0 hz1 hz2 rfl (by decide) a' 0 0 [] (by simp) (by intro _ _ h'; simp at h') a 1 c (sendV x) hsl hn (by omega) (by simp [maxLen]) (by omega)
      obtain ⟨b1, b2⟩ := big v' w' (by simpa [rowOf] using q2)
      exact ⟨v', w', hr, b1, ⟨q3.os, q3.tape, q3.output, q3.size, fun k hk _ => q3.block k hk (by simp)⟩, .inr b2⟩
  · by_cases hroom : L.length + 1 ≤ cap
    · have hs : ∀ j, j < (sendV x).length → (w.cell? ⟨g, o + L.length * 2 + j, none⟩).isSome = true := fun j hj => by rw [Nat.add_assoc]; exact (h3 _ (by rw [sendV_len] at hj; omega)).1
      have hr := run_append_room_cells (P := Try.prog) w t ty 41 i ht hi g o L.length cap a 1 c (sendV x) (by rw [hz1]; rfl) hn (sendV_one x) hroom
        (fun j hj => by rw [hz1]; exact hs j hj) (fun j hj => by rw [hz1, Nat.add_assoc]; exact (h3 _ (by rw [sendV_len] at hj; omega)).2)
      rw [hz1] at hr
      have hg := setCells_grown g (sendV x) (o + L.length * 2) w
      refine ⟨_, _, hr, .inr ⟨g, o, cap, by simp, Nat.lt_of_lt_of_le hlt hg.size, by simpa using hroom, h2, fun j hj => ⟨?_, ?_⟩, fun j u hu => ?_⟩, hg, .inl rfl⟩
      · by_cases hj2 : L.length * 2 ≤ j ∧ j < L.length * 2 + 2
        · have := World.cell?_setCells_in g (sendV x) (o + L.length * 2) w hs (j - L.length * 2) (by rw [sendV_len]; omega)
          rw [show o + L.length * 2 + (j - L.length * 2) = o + j by omega] at this
          rw [this]
          rfl
        · rw [World.cell?_setCells_out g _ _ _ _ (fun _ _ => by rw [sendV_len]; dsimp only; omega)]
          exact (h3 j hj).1
      · rw [World.frozen?_setCells]
        exact (h3 j hj).2
      · rw [row_snoc] at hu
        by_cases hj : j < L.length * 2
        · rw [List.getElem?_append_left (by rw [row_len sendV_len]; exact hj)] at hu
          rw [World.cell?_setCells_out g _ _ _ _ (fun _ _ => by rw [sendV_len]; dsimp only; omega)]
          exact h4 j u hu
        · rw [List.getElem?_append_right (by rw [row_len sendV_len]; omega), row_len sendV_len] at hu
          have hjl := (List.getElem?_eq_some_iff.1 hu).1
          have := World.cell?_setCells_in g (sendV x) (o + L.length * 2) w hs (j - L.length * 2) hjl
          rw [show o + L.length * 2 + (j - L.length * 2) = o + j by omega] at this
          rw [this, ← hu]
          exact (List.getElem?_eq_getElem hjl).symm
    · obtain ⟨v', w', hr, q2, q3⟩ := run_append_arg_grows (P := Try.prog) w t ty 41 i (.agg #[.int .i64 0, .int .i64 0]) 2 16 ht hi hz0 hz1 hz2 rfl (by decide) ⟨g, o, none⟩ L.length cap (rowOf sendV L) (row_len sendV_len L)
        (fun j u hj => by rw [Addr.add_lit]; exact h4 j u hj) a 1 c (sendV x) hsl hn (by omega) (by unfold maxLen; omega) (by omega)
      obtain ⟨b1, b2⟩ := big v' w' q2
      exact ⟨v', w', hr, b1, ⟨q3.os, q3.tape, q3.output, q3.size, fun k hk _ => q3.block k hk (by simp)⟩, .inr b2⟩
theorem wp_append_q {w : World} {o : Oper} {a : Act} {K : Act → World → Prop} {Q : Exit → Act → World → Prop} (s x : Operand) (t : TypeId)
    (ho : o.op = .call { callee := .builtin .append, args := #[s, x], argTypes := #[t, t] }) (ht : Try.prog.underlying t = some (.slice 41))
    {v : Value} {L : List (Int × Int)} (hs : a.eval s = v) (hq : QL w v L) (hL : L.length ≤ 1000000000) (ad : Addr) (c : Nat) (y : Int × Int) (hx : a.eval x = .slice (some ad) 1 c) (hn : ∀ j u, (sendV y)[j]? = some u → w.cell? (ad.add j) = some u)
    (h : ∀ v' w', QL w' v' (L ++ [y]) → w.grownBy w' v.ownBlock → (v'.ownBlock = v.ownBlock ∨ ∃ g, v'.ownBlock = some g ∧ w.heap.size ≤ g) → K (a.put o.dst v') w') : o.wp Try.prog a w K Q := by
  obtain ⟨v', w', hr, h2, h3, h4⟩ := run_append_q w t o.type ht hq hL ad c y hn
  unfold Oper.wp execOp
  simp only [ho, resolve, invoke, builtin, Sem.run_bind, Sem.run_pure, Result.andThen_ok, List.map_toArray, List.map_cons, List.map_nil, hs, hx, hr]
  exact h v' w' h2 h3 h4
theorem wpList_append_q {w : World} {ops : Array Oper} {rest : List Oper} {o : Oper} {a : Act} {Q : Exit → Act → World → Prop} (hgd : o.guard = none) (s x : Operand) (t : TypeId)
    (ho : o.op = .call { callee := .builtin .append, args := #[s, x], argTypes := #[t, t] }) (ht : Try.prog.underlying t = some (.slice 41))
    {v : Value} {L : List (Int × Int)} (hs : a.eval s = v) (hq : QL w v L) (hL : L.length ≤ 1000000000) (ad : Addr) (c : Nat) (y : Int × Int) (hx : a.eval x = .slice (some ad) 1 c) (hn : ∀ j u, (sendV y)[j]? = some u → w.cell? (ad.add j) = some u)
    (h : ∀ v' w', QL w' v' (L ++ [y]) → w.grownBy w' v.ownBlock → (v'.ownBlock = v.ownBlock ∨ ∃ g, v'.ownBlock = some g ∧ w.heap.size ≤ g) → wpList Try.prog ops Q rest (a.put o.dst v') w') : wpList Try.prog ops Q (o :: rest) a w :=
  wpList_plain hgd fun _ hK => wp_append_q s x t ho ht hs hq hL ad c y hx hn fun v' w' h2 h3 h4 => hK _ _ (h v' w' h2 h3 h4)
/-! ### what goes at a tick -/
namespace BM
/-- the bucket behind the first k that wait, at a tick. -/
def atK (p r u m l : Int) (s : St) (n : Int) (L : List (Int × Int)) (k : Nat) : St := run p r u m l s ((L.take k).map fun x => (n, x.2))
theorem atK_zero (p r u m l : Int) (s : St) (n : Int) (L : List (Int × Int)) : atK p r u m l s n L 0 = s := rfl
theorem atK_succ (p r u m l : Int) (s : St) (n : Int) {L : List (Int × Int)} {k : Nat} (hk : k < L.length) : atK p r u m l s n L (k + 1) = (step p r u m l (atK p r u m l s n L k) n L[k].2).1 := by
  unfold atK
  rw [List.take_succ_eq_append_getElem hk, List.map_append, List.map_singleton, run_snoc]
/-- just the first K go, and the bucket is then so. -/
structure Goes (p r u m l : Int) (s : St) (n : Int) (L : List (Int × Int)) (K : Nat) (s' : St) : Prop where
  le : K ≤ L.length
  st : s' = atK p r u m l s n L K
  all : ∀ i (hi : i < L.length), i < K → (step p r u m l (atK p r u m l s n L i) n L[i].2).2.1 = true
  stop : ∀ hk : K < L.length, (step p r u m l s' n L[K].2).2.1 = false
theorem Goes.uniq {p r u m l : Int} {s : St} {n : Int} {L : List (Int × Int)} {K K' : Nat} {s' s'' : St} (h : Goes p r u m l s n L K s') (h' : Goes p r u m l s n L K' s'') : K = K' ∧ s' = s'' := by
  have e : K = K' := by
    rcases Nat.lt_trichotomy K K' with q | q | q
    · have hl : K < L.length := Nat.lt_of_lt_of_le q h'.le
      have a := h'.all K hl q
      have b := h.stop hl
      rw [h.st] at b
      rw [b] at a; cases a
    · exact q
    · have hl : K' < L.length := Nat.lt_of_lt_of_le q h.le
      have a := h.all K' hl q
      have b := h'.stop hl
      rw [h'.st] at b
      rw [b] at a; cases a
  subst e
  exact ⟨rfl, h.st.trans h'.st.symm⟩
theorem atK_ok {p r u m l : Int} {s : St} {n : Int} {L : List (Int × Int)} {k : Nat} (hl : 1 ≤ l) (hs : Ok u m s) : Ok u m (atK p r u m l s n L k) := run_ok hl hs
/-- of which tick a bucket is behind what is taken at a tick. -/
theorem atK_now {p r u m l : Int} {s : St} {n : Int} {L : List (Int × Int)} (hn : s.1 = n) (h2 : n ≤ 2147483647) : ∀ {k : Nat}, k ≤ L.length → (atK p r u m l s n L k).1 = n
  | 0, _ => hn
  | k + 1, hk => by
    rw [atK_succ _ _ _ _ _ _ _ (show k < L.length by omega)]
    have ih := atK_now (p := p) (r := r) (u := u) (m := m) (l := l) hn h2 (show k ≤ L.length by omega)
    unfold step
    rw [if_pos (show askB _ n = true from decide_eq_true ⟨by rw [ih]; exact Int.le_refl _, h2⟩)]
    split <;> rfl
end BM
end Go.Proofs.Ytiecailfndlgoaa
