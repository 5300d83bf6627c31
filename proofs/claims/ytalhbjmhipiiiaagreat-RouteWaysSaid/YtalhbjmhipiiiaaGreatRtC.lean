/- Routes: what is kept of a map's ways, in memory. -/
import Derived.Test.YtalhbjmhipiiiaaGreatTpI
import Derived.Test.YtalhbjmhipiiiaaGreatTpM
import Derived.Test.YtalhbjmhipiiiaaGreatRtB
namespace Go.Proofs.YtalhbjmhipiiiaaGreat.Tp
set_option linter.unusedVariables false
open Go.RowKit Go.Maps

/-- of the older blocks b alone has changed. -/
abbrev OnlyB (b : Nat) (W W' : World) : Prop := W.grownBy W' (some b)
theorem OnlyB.trans {b : Nat} {A B C : World} (h : OnlyB b A B) (k : OnlyB b B C) : OnlyB b A C :=
  ⟨k.os.trans h.os, k.tape.trans h.tape, k.output.trans h.output, Nat.le_trans h.size k.size, fun j hj hne => (k.block j (Nat.lt_of_lt_of_le hj h.size) hne).trans (h.block j hj hne)⟩
theorem OnlyB.of {b : Nat} {W W' : World} (h : Below W.heap.size W W') : OnlyB b W W' := ⟨h.os, h.tape, h.output, h.size, fun k hk _ => h.block k hk⟩
theorem OnlyB.below {b B : Nat} {W W' : World} (h : OnlyB b W W') (hb : B ≤ b) (hB : B ≤ W.heap.size) : Below B W W' := ⟨h.os, h.tape, h.output, h.size, fun k hk => h.block k (by omega) (fun e => by cases e; omega)⟩
theorem OnlyB.set {b o : Nat} (W : World) (v : Value) : OnlyB b W (W.setCell ⟨b, o, none⟩ v) := ⟨rfl, rfl, rfl, by simp [World.setCell], fun k hk hne => Below.heap_setCell _ _ _ _ (fun e => hne (by rw [e]))⟩
theorem below_set2 {B : Nat} {A X : World} (h : Below B A X) (p : Addr) (v : Value) : Below B (A.setCell p v) (X.setCell p v) := ⟨h.os, h.tape, h.output, by simpa [World.setCell] using h.size, fun k hk => by
  show (X.heap.modify p.block _)[k]? = (A.heap.modify p.block _)[k]?
  rw [Array.getElem?_modify, Array.getElem?_modify, h.block k hk]⟩
/-- how far, and the ways, of each two nodes. -/
abbrev FarT := Nat → Nat → Nat
abbrev LksT := Nat → Nat → List Int
structure WaysAt (W : World) (Bd bw m : Nat) (n : Int) (L : List Lk) (far : FarT) (lks : LksT) : Prop where
  base : ∃ wc : World, MapAt wc m n L ∧ wc.heap.size ≤ bw ∧ Below wc.heap.size wc W
  lt : bw < Bd
  le : Bd ≤ W.heap.size
  blk : ∃ cs, W.heap[bw]? = some (.cells cs 88 (0, 0))
  map : W.cell? ⟨bw, 0, none⟩ = some (.pointer (some ⟨m, 0, none⟩))
  far : ∀ x t, x < 16 → t < 16 → W.cell? ⟨bw, 1 + x * 16 + t, none⟩ = some (.int .i64 (far x t : Int))
  links : ∀ x t, x < 16 → t < 16 → ∃ A c, W.cell? ⟨bw, 257 + x * 16 + t, none⟩ = some (.slice A (lks x t).length c) ∧ (lks x t).length ≤ c ∧ c ≤ maxLen ∧ Lie intV 1 W Bd A (lks x t) ∧ ∀ ad, A = some ad → 0 < (lks x t).length → ad.block ≠ bw
section
variable {W W' : World} {Bd bw m : Nat} {n : Int} {L : List Lk} {far : FarT} {lks : LksT}
theorem WaysAt.mapAt (h : WaysAt W Bd bw m n L far lks) : MapAt W m n L := by
  obtain ⟨wc, hm, _, hb⟩ := h.base
  exact hm.below hb
theorem WaysAt.mlt (h : WaysAt W Bd bw m n L far lks) : m < bw := by
  obtain ⟨wc, hm, hb, _⟩ := h.base
  obtain ⟨_, _, _, h0, _⟩ := hm
  omega
theorem WaysAt.keep (h : WaysAt W Bd bw m n L far lks) (hb : Below Bd W W') : WaysAt W' Bd bw m n L far lks where
  base := by
    obtain ⟨wc, hm, hl, hw⟩ := h.base
    exact ⟨wc, hm, hl, hw.trans (hb.mono (by have := h.lt; omega))⟩
  lt := h.lt
  le := Nat.le_trans h.le hb.size
  blk := by
    obtain ⟨cs, hc⟩ := h.blk
    exact ⟨cs, (hb.block _ h.lt).trans hc⟩
  map := (hb.cell (p := ⟨bw, 0, none⟩) h.lt).trans h.map
  far := fun x t hx ht => (hb.cell (p := ⟨bw, 1 + x * 16 + t, none⟩) h.lt).trans (h.far x t hx ht)
  links := fun x t hx ht => by
    obtain ⟨A, c, h1, h2, h3, h4, h5⟩ := h.links x t hx ht
    exact ⟨A, c, (hb.cell (p := ⟨bw, 257 + x * 16 + t, none⟩) h.lt).trans h1, h2, h3, h4.keep hb, h5⟩
theorem WaysAt.more (h : WaysAt W Bd bw m n L far lks) {Bd' : Nat} (h1 : Bd ≤ Bd') (h2 : Bd' ≤ W.heap.size) : WaysAt W Bd' bw m n L far lks where
  base := h.base
  lt := Nat.lt_of_lt_of_le h.lt h1
  le := h2
  blk := h.blk
  map := h.map
  far := h.far
  links := fun x t hx ht => by
    obtain ⟨A, c, g1, g2, g3, g4, g5⟩ := h.links x t hx ht
    exact ⟨A, c, g1, g2, g3, g4.more h1, g5⟩
theorem WaysAt.below (h : WaysAt W Bd bw m n L far lks) (hb : Below W.heap.size W W') : WaysAt W' W'.heap.size bw m n L far lks :=
  (h.keep (hb.mono h.le)).more (Nat.le_trans h.le hb.size) (Nat.le_refl _)
theorem WaysAt.frozen (h : WaysAt W Bd bw m n L far lks) (j : Nat) : W.frozen? ⟨bw, j, none⟩ = false := by
  obtain ⟨cs, hc⟩ := h.blk
  simp [World.frozen?, hc]
theorem heap_set_cells {W : World} {b o : Nat} {cs : Array Value} {t : TypeId} {f : Nat × Nat} (v : Value) (h : W.heap[b]? = some (.cells cs t f)) : ∃ cs', (W.setCell ⟨b, o, none⟩ v).heap[b]? = some (.cells cs' t f) := by
  obtain ⟨hlt, hk⟩ := Array.getElem?_eq_some_iff.1 h
  refine ⟨cs.setIfInBounds o v, ?_⟩
  show (W.heap.modify b _)[b]? = _
  rw [Array.getElem?_eq_getElem (by rw [Array.size_modify]; exact hlt), Array.getElem_modify_self, hk]
  rfl
theorem set_other {W : World} {b i j : Nat} (v : Value) (h : i ≠ j) : (W.setCell ⟨b, i, none⟩ v).cell? ⟨b, j, none⟩ = W.cell? ⟨b, j, none⟩ := World.cell?_setCell_other _ ⟨b, i, none⟩ ⟨b, j, none⟩ _ (fun e => h (by cases e; rfl))
theorem WaysAt.base_set (h : WaysAt W Bd bw m n L far lks) (o : Nat) (v : Value) : ∃ wc : World, MapAt wc m n L ∧ wc.heap.size ≤ bw ∧ Below wc.heap.size wc (W.setCell ⟨bw, o, none⟩ v) := by
  obtain ⟨wc, hm, hl, hw⟩ := h.base
  exact ⟨wc, hm, hl, hw.setCell (p := ⟨bw, o, none⟩) hl _⟩
theorem Lie.set {α : Type} {f : α → List Value} {sz : Nat} {w : World} {B : Nat} {A : Option Addr} {l : List α} (h : Lie f sz w B A l) {p : Addr} (u : Value) (hne : ∀ ad, A = some ad → 0 < l.length → ad.block ≠ p.block) : Lie f sz (w.setCell p u) B A l := fun hl => by
  obtain ⟨ad, e, hB, hc⟩ := h hl
  refine ⟨ad, e, hB, fun i x hx j v hv => ?_⟩
  rw [World.cell?_setCell_other _ _ _ _ (fun e' => hne ad e hl (by rw [e', block_of_add]))]
  exact hc i x hx j v hv
def setF (far : FarT) (x t v : Nat) : FarT := fun a b => if a = x ∧ b = t then v else far a b
def setL (lks : LksT) (x t : Nat) (l : List Int) : LksT := fun a b => if a = x ∧ b = t then l else lks a b
theorem WaysAt.setFar (h : WaysAt W Bd bw m n L far lks) (x t v : Nat) (hx : x < 16) (ht : t < 16) : WaysAt (W.setCell ⟨bw, 1 + x * 16 + t, none⟩ (.int .i64 (v : Int))) Bd bw m n L (setF far x t v) lks where
  base := h.base_set _ _
  lt := h.lt
  le := by simpa [World.setCell] using h.le
  blk := by
    obtain ⟨cs, hc⟩ := h.blk
    exact heap_set_cells _ hc
  map := (set_other _ (by omega)).trans h.map
  far := fun a b ha hb => by
    unfold setF
    by_cases e : a = x ∧ b = t
    · obtain ⟨rfl, rfl⟩ := e
      rw [if_pos ⟨rfl, rfl⟩]
      exact World.cell?_setCell_same' _ _ _ (by rw [h.far a b ha hb]; rfl)
    · rw [if_neg e]
      exact (set_other _ (by omega)).trans (h.far a b ha hb)
  links := fun a b ha hb => by
    obtain ⟨A, c, g1, g2, g3, g4, g5⟩ := h.links a b ha hb
    exact ⟨A, c, (set_other _ (by omega)).trans g1, g2, g3, g4.set _ g5, g5⟩
theorem WaysAt.setLink (h : WaysAt W Bd bw m n L far lks) (x t : Nat) (hx : x < 16) (ht : t < 16) (A : Option Addr) (l : List Int) (c : Nat) (hc1 : l.length ≤ c) (hc2 : c ≤ maxLen) (hl : Lie intV 1 W Bd A l) (hA : ∀ ad, A = some ad → 0 < l.length → ad.block ≠ bw) :
    WaysAt (W.setCell ⟨bw, 257 + x * 16 + t, none⟩ (.slice A l.length c)) Bd bw m n L far (setL lks x t l) where
  base := h.base_set _ _
  lt := h.lt
  le := by simpa [World.setCell] using h.le
  blk := by
    obtain ⟨cs, hc⟩ := h.blk
    exact heap_set_cells _ hc
  map := (set_other _ (by omega)).trans h.map
  far := fun a b ha hb => (set_other _ (by omega)).trans (h.far a b ha hb)
  links := fun a b ha hb => by
    unfold setL
    by_cases e : a = x ∧ b = t
    · obtain ⟨rfl, rfl⟩ := e
      rw [if_pos ⟨rfl, rfl⟩]
      obtain ⟨A', c', g1, _⟩ := h.links a b ha hb
      exact ⟨A, c, World.cell?_setCell_same' _ _ _ (by rw [g1]; rfl), hc1, hc2, hl.set _ hA, hA⟩
    · rw [if_neg e]
      obtain ⟨A', c', g1, g2, g3, g4, g5⟩ := h.links a b ha hb
      exact ⟨A', c', (set_other _ (by omega)).trans g1, g2, g3, g4.set _ g5, g5⟩
theorem WaysAt.far_congr (h : WaysAt W Bd bw m n L far lks) {far' : FarT} (he : ∀ x t, x < 16 → t < 16 → far' x t = far x t) : WaysAt W Bd bw m n L far' lks where
  base := h.base
  lt := h.lt
  le := h.le
  blk := h.blk
  map := h.map
  far := fun x t hx ht => by rw [he x t hx ht]; exact h.far x t hx ht
  links := h.links
theorem WaysAt.lks_congr (h : WaysAt W Bd bw m n L far lks) {lks' : LksT} (he : ∀ x t, x < 16 → t < 16 → lks' x t = lks x t) : WaysAt W Bd bw m n L far lks' where
  base := h.base
  lt := h.lt
  le := h.le
  blk := h.blk
  map := h.map
  far := h.far
  links := fun x t hx ht => by rw [he x t hx ht]; exact h.links x t hx ht
end
end Go.Proofs.YtalhbjmhipiiiaaGreat.Tp
