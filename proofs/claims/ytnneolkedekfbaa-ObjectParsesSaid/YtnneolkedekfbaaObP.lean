/- A range over the objects of bytes: the law of its caller; a round may end the range, the iterator may give up. -/
import Derived.Test.YtnneolkedekfbaaObO
namespace Go.Proofs.Ytnneolkedekfbaa
set_option linter.unusedVariables false
open Go.RowKit Go.Shelf

section
variable {F : Fence} {n : Nat} {P : Program}
/-- both of the taker's blocks lie as they lay. -/
def Keeps2 (pb : Nat) (W W' : World) : Prop := W.heap.size ≤ W'.heap.size ∧ W'.heap[pb]? = W.heap[pb]? ∧ W'.heap[pb + 1]? = W.heap[pb + 1]?
/-- x is the object that stands behind so many. -/
def NextO (L : List Int) (pre : List Ob) (x : Ob) (lo : Nat) (W : World) : Prop :=
  okTo L pre.length ∧ fitsAt L (placeAt L pre.length) ∧ keyO x = obAt L (placeAt L pre.length) ∧ ∃ A k, x.v = .slice A x.ws.length k ∧ LieQ wdV 1 W (fun q => lo ≤ q ∧ q < W.heap.size) A x.ws
/-- how a round's body may end. -/
def roundEndB (B pb lo : Nat) (I : Option (Nat × Nat) → List Ob → World → Prop) (X : Code → List Ob → World → Prop) (xs : List Ob) (W : World) : Exit → Act → World → Prop
  | .normal, _, W' => KeepsFrom B W W' ∧ Keeps2 pb W W' ∧ ∃ lo', lo ≤ lo' ∧ lo' ≤ W'.heap.size ∧ I (some (pb, lo')) xs W'
  | .exit i, _, W' => KeepsFrom B W W' ∧ X (.exit i) xs W'
  | _, _, _ => False
/-- the iterator's word. -/
def SeqTaker (F : Fence) (n : Nat) (P : Program) (g : Nat) (lb : Array Value) (encs : Ob → Array Value) (L : List Int) (Rd : World → Prop) : Prop :=
  ∀ (l : Nat) (J : Option (Nat × Nat) → List Ob → World → Prop) (Jx : List Ob → World → Prop) (W : World),
    (∀ st pre X, J st pre X → Rd X) →
    (∀ pre X X' pb, J none pre X → Below X.heap.size X X' → X.heap.size ≤ pb → pb + 1 < X'.heap.size → J (some (pb, X'.heap.size)) pre X') →
    (∀ pb lo pre X X', J (some (pb, lo)) pre X → But (pb + 1) X X' → J (some (pb, lo)) pre X') →
    (∀ pb lo pre x X, lo ≤ X.heap.size → J (some (pb, lo)) pre X → NextO L pre x lo X → YieldAt F (n - 1) P l (encs x) X fun e W' =>
      (e = .returned (.bool true) ∧ (∃ lo', lo ≤ lo' ∧ lo' ≤ W'.heap.size ∧ J (some (pb, lo')) (pre ++ [x]) W') ∧ Keeps2 pb X W') ∨ (e = .returned (.bool false) ∧ Jx (pre ++ [x]) W')) →
    J none [] W → CallsIn F n P g (#[.func (.yield l) #[] #[]] ++ lb) W fun e W' =>
      (∃ v, e = .returned v ∧ ((∃ pl xs, okTo L xs.length ∧ placeAt L xs.length = L.length ∧ J (some pl) xs W') ∨ (∃ xs, Jx xs W'))) ∨
      (e = errPanic 170 ∧ ∃ pl xs, okTo L xs.length ∧ placeAt L xs.length ≠ L.length ∧ ¬ fitsAt L (placeAt L xs.length) ∧ J (some pl) xs W')

theorem But.alloc {b : Nat} {w W : World} (h : But b w W) (o : Obj) : But b w (W.alloc o) :=
  ⟨h.os, h.tape, h.output, by have := h.size; simp; omega, fun k hk hn => (Below.heap_alloc _ _ _ (Nat.lt_of_lt_of_le hk h.size)).trans (h.block k hk hn)⟩
theorem wpIn_rangeFunc_taker {L : List Int} {g : Operand} {ps : Array Tmp} {assign body : Code} {Q : Exit → Act → World → Prop} {a : Act} {w : World}
    (hro : F.round = none) (h1 : 1 ≤ n) {gf : Nat} {lb : Array Value} (hg : a.eval g = .func (.func gf) #[] lb) (hFg : F.fn gf) (eg : ∀ args w, (callFunc gf args).run P w = .ok (.enter gf args) w)
    {encs : Ob → Array Value} {Rd : World → Prop} (hseq : SeqTaker F (n - 1) P gf lb encs L Rd) (hps : ∀ x, (encs x).size = ps.size)
    (I : Option (Nat × Nat) → List Ob → World → Prop) (X : Code → List Ob → World → Prop)
    (hNew : ∀ pre W W' pb, I none pre W → Below W.heap.size W W' → W.heap.size ≤ pb → pb + 1 < W'.heap.size → I (some (pb, W'.heap.size)) pre W')
    (hBut : ∀ pb lo pre W W', I (some (pb, lo)) pre W → But (pb + 1) W W' → I (some (pb, lo)) pre W')
    (hRd : ∀ st pre W, I st pre W → Rd W) (hI : ∀ st, OwnFrom w.heap.size (I st)) (hX : ∀ c, OwnFrom w.heap.size (X c)) (h0 : I none [] w) (ob : Ob → Obj) (a₁ : Ob → Nat → Act)
    (hassign : ∀ (l : Nat) (x : Ob) (W : World) (K : Act → World → Prop), (∃ A k, x.v = .slice A x.ws.length k) → K (a₁ x W.heap.size) (W.alloc (ob x)) →
      assign.wpIn (F.inRound l) (n - 1 - 1) P (Exit.then K (fun _ _ _ => False)) { tmps := (ps.zip (encs x)).foldl (fun t (p, v) => t.setIfInBounds p v) a.tmps, defers := [] } W)
    (hbody : ∀ (l pb lo q : Nat) (pre : List Ob) (x : Ob) (W : World), w.heap.size + 2 ≤ pb → pb + 1 < lo → lo ≤ q → W.heap[q]? = some (ob x) → NextO L pre x lo W → I (some (pb, lo)) pre W → body.wpIn (F.inRound l) (n - 1 - 1) P (roundEndB w.heap.size pb lo I X (pre ++ [x]) W) (a₁ x q) W)
    (hdone : ∀ (D : Nat) (pl : Nat × Nat) (xs : List Ob) (W : World), w.heap.size ≤ D → okTo L xs.length → placeAt L xs.length = L.length → I (some pl) xs W → W.heap[D]? = some (.deferred (some [])) → Q .normal { a with defers := { target := .collected D, args := #[] } :: a.defers } W)
    (hstop : ∀ (D : Nat) (c : Code) (xs : List Ob) (W : World), w.heap.size ≤ D → X c xs W → W.heap[D]? = some (.deferred (some [])) → c.wpIn F n P Q { a with defers := { target := .collected D, args := #[] } :: a.defers } W)
    (hbad : ∀ (D : Nat) (pl : Nat × Nat) (xs : List Ob) (W : World), w.heap.size ≤ D → okTo L xs.length → placeAt L xs.length ≠ L.length → ¬ fitsAt L (placeAt L xs.length) → I (some pl) xs W → W.heap[D]? = some (.deferred (some [])) →
      Q (.panic [{ v := .iface 26 (.int .i64 170), recovered := false }]) { a with defers := { target := .collected D, args := #[] } :: a.defers } W) :
    (Code.rangeFunc g ps assign body).wpIn F n P Q a w := by
  refine wpIn_rangeFunc fun fn hfn => ?_
  rw [hro]
  let B := w.heap.size
  let R : LoopState → Option Code → Loop := fun s j => { state := s, pending := j, fn, tmps := a.tmps, params := ps, assign, body, defers := B }
  let V := (w.alloc (.deferred (some []))).alloc (.loop (R .ready none))
  have sV : V.heap.size = B + 2 := by simp [V, B]
  have lV : V.heap[B + 1]? = some (.loop (R .ready none)) := by
    have h := World.alloc_heap_new (w.alloc (.deferred (some []))) (.loop (R .ready none))
    rw [World.size_alloc] at h
    exact h
  have dV : V.heap[B]? = some (.deferred (some [])) := (Below.heap_alloc _ _ _ (by simp [B])).trans (World.alloc_heap_new w _)
  have iV : I none [] V := (hI none).alloc _ ((hI none).alloc _ h0)
  let J : Option (Nat × Nat) → List Ob → World → Prop := fun st pre Y => I st pre Y ∧ Y.heap[B + 1]? = some (.loop (R .ready none)) ∧ Y.heap[B]? = some (.deferred (some [])) ∧ ∀ pb lo, st = some (pb, lo) → B + 2 ≤ pb ∧ pb + 1 < lo
  let Jx : List Ob → World → Prop := fun xs Y => ∃ c, X c xs Y ∧ Y.heap[B + 1]? = some (.loop (R .done (some c))) ∧ Y.heap[B]? = some (.deferred (some []))
  refine ⟨B + 1, [{ target := .collected B, args := #[] }], V, { target := .fn (.func gf) lb, args := #[.func (.yield (B + 1)) #[] #[]] }, V, gf, #[.func (.yield (B + 1)) #[] #[]] ++ lb, V,
    run_enterLoop_outer _ _ _ _ _, by simp only [resolve, hg]; simp [go_sem], fun f' hf' => by simp [Target.leads] at hf'; subst hf'; exact hFg, by simp [invoke, go_sem, eg], fun _ => h1, ?_⟩
  refine (hseq (B + 1) J Jx V (fun st pre Y h => hRd st pre Y h.1) ?_ ?_ ?_ ⟨iV, lV, dV, fun _ _ h => by cases h⟩).mono ?_
  · rintro pre Y Y' pb ⟨hi, hl, hd, _⟩ hb h2 h3
    have hlt : B + 1 < Y.heap.size := (Array.getElem?_eq_some_iff.1 hl).1
    exact ⟨hNew pre Y Y' pb hi hb h2 h3, (hb.block _ hlt).trans hl, (hb.block _ (by omega)).trans hd, fun q lo hq => by cases hq; omega⟩
  · rintro pb lo pre Y Y' ⟨hi, hl, hd, hq⟩ hb
    have hpb := (hq pb lo rfl).1
    have hlt : B + 1 < Y.heap.size := (Array.getElem?_eq_some_iff.1 hl).1
    exact ⟨hBut pb lo pre Y Y' hi hb, (hb.block _ hlt (by omega)).trans hl, (hb.block _ (by omega) (by omega)).trans hd, hq⟩
  · rintro pb lo pre x Y hlo ⟨hi, hl, hd, hq⟩ ⟨g1, g2, g3, A, k, g4, g5⟩
    obtain ⟨hpb, hpl⟩ := hq pb lo rfl
    have hlt : B + 1 < Y.heap.size := (Array.getElem?_eq_some_iff.1 hl).1
    have hlq : (Y.alloc (ob x)).heap[B + 1]? = some (.loop (R .ready none)) := (Below.heap_alloc _ _ _ hlt).trans hl
    have hdq : (Y.alloc (ob x)).heap[B]? = some (.deferred (some [])) := (Below.heap_alloc _ _ _ (by omega)).trans hd
    have hiq := hBut pb lo pre _ _ hi ((But.refl (pb + 1) Y).alloc (ob x))
    have szq : (Y.alloc (ob x)).heap.size = Y.heap.size + 1 := by simp
    have hp0 : (Y.alloc (ob x)).heap[pb]? = Y.heap[pb]? := Below.heap_alloc _ _ _ (by omega)
    have hp1 : (Y.alloc (ob x)).heap[pb + 1]? = Y.heap[pb + 1]? := Below.heap_alloc _ _ _ (by omega)
    have hxq : (Y.alloc (ob x)).heap[Y.heap.size]? = some (ob x) := World.alloc_heap_new Y _
    refine ⟨fn, _, assign, body, run_yield (P := P) (args := encs x) hl (hps x), roundIn_of_wpIn hfn (hassign _ x Y _ ⟨A, k, g4⟩ ⟨_, run_beginRound hlq rfl, ?_⟩)⟩
    have g6 : LieQ wdV 1 (Y.alloc (ob x)) (fun q => lo ≤ q ∧ q < Y.heap.size) A x.ws := g5.to (fun q hq => ⟨hq, Below.heap_alloc _ _ _ hq.2⟩)
    generalize Y.alloc (ob x) = Y' at *
    have hltq : B + 1 < Y'.heap.size := by omega
    have l2 : (Y'.putObj (B + 1) (.loop { R .ready none with state := .busy })).heap[B + 1]? = some (.loop { R .ready none with state := .busy }) := World.putObj_heap_same hltq
    have d2 : (Y'.putObj (B + 1) (.loop { R .ready none with state := .busy })).heap[B]? = some (.deferred (some [])) := (World.putObj_heap_other (by omega)).trans hdq
    have s2 : (Y'.putObj (B + 1) (.loop { R .ready none with state := .busy })).heap.size = Y'.heap.size := by simp [World.putObj]
    refine wpIn_mono (hbody _ pb lo Y.heap.size pre x _ hpb hpl hlo ((World.putObj_heap_other (by omega)).trans hxq) ⟨g1, g2, g3, A, k, g4, g6.to (fun q hq => ⟨⟨hq.1, by rw [s2]; omega⟩, World.putObj_heap_other (by omega)⟩)⟩ ((hI _).putObj _ hiq (by omega) hlq rfl)) ?_
    rintro e a3 Z hZ
    cases e with
    | normal =>
      obtain ⟨hk, hk2, lo', hlo1, hlo2, hi3⟩ := hZ
      have l3 := hk.same _ _ (by omega) l2 rfl
      have d3 := hk.same _ _ (Nat.le_refl _) d2 rfl
      have sZ : (Z.putObj (B + 1) (.loop (R .ready none))).heap.size = Z.heap.size := by simp [World.putObj]
      refine ⟨_, _, run_endRound (P := P) none l3, .inl ⟨rfl, ⟨lo', hlo1, Nat.le_trans hlo2 (Nat.le_of_eq sZ.symm), (hI _).putObj _ hi3 (by omega) l3 rfl, World.putObj_heap_same (Array.getElem?_eq_some_iff.1 l3).1, (World.putObj_heap_other (by omega)).trans d3, fun q l hq => by cases hq; omega⟩, ?_, ?_, ?_⟩⟩
      · have := hk2.1; rw [s2] at this; exact Nat.le_trans (by omega) (Nat.le_of_eq sZ.symm)
      · exact (World.putObj_heap_other (by omega)).trans (hk2.2.1.trans ((World.putObj_heap_other (by omega)).trans hp0))
      · exact (World.putObj_heap_other (by omega)).trans (hk2.2.2.trans ((World.putObj_heap_other (by omega)).trans hp1))
    | exit i =>
      obtain ⟨hk, hx⟩ := hZ
      have l3 := hk.same _ _ (by omega) l2 rfl
      have d3 := hk.same _ _ (Nat.le_refl _) d2 rfl
      exact ⟨_, _, run_endRound (P := P) (some (.exit i)) l3, .inr ⟨rfl, .exit i, (hX _).putObj _ hx (by omega) l3 rfl, World.putObj_heap_same (Array.getElem?_eq_some_iff.1 l3).1, (World.putObj_heap_other (by omega)).trans d3⟩⟩
    | _ => exact hZ.elim
  · rintro e Y (⟨v, rfl, (⟨pl, xs, q1, q2, hi, hl, hd, hq⟩ | ⟨xs, c, hx, hl, hd⟩)⟩ | ⟨rfl, pl, xs, q1, q2, q3, hi, hl, hd, hq⟩)
    · exact ⟨none, _, run_endLoop (P := P) hl (by simp [R]), hdone B pl xs _ (Nat.le_refl _) q1 q2 ((hI _).putObj _ hi (by omega) hl rfl) ((World.putObj_heap_other (by omega)).trans hd)⟩
    · exact ⟨some c, _, run_endLoop (P := P) hl (by simp [R]), hstop B c xs _ (Nat.le_refl _) ((hX c).putObj _ hx (by omega) hl rfl) ((World.putObj_heap_other (by omega)).trans hd)⟩
    · exact hbad B pl xs _ (Nat.le_refl _) q1 q2 q3 hi hd
end
end Go.Proofs.Ytnneolkedekfbaa
