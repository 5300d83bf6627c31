/- A range over a function that keeps a state of its own in memory: the law of its caller, where no round leaves early. -/
import Derived.Test.YtmpiobpgjlceaaaCkB
namespace Go.Proofs.Ytmpiobpgjlceaaa
set_option linter.unusedVariables false
open Go.RowKit Go.Shelf

section
variable {F : Fence} {n : Nat} {P : Program}
/-- how a round's body may end: off its end, the loop's own two blocks as they lay, what the caller says of it carried on. -/
def roundEnd {σ α : Type} (B : Nat) (I : σ → List α → World → Prop) (st : σ) (xs : List α) (W : World) : Exit → Act → World → Prop
  | .normal, _, W' => KeepsFrom B W W' ∧ I st xs W'
  | _, _, _ => False
/-- the iterator's word: from its state st0 and nothing told it comes to st1 and all of xs, whatever J is that bears its own steps T and says I. -/
def SeqState {σ α : Type} (F : Fence) (n : Nat) (P : Program) (g : Nat) (lb : Array Value) (encs : α → Array Value) (G : α → Prop) (T : σ → World → World) (I : σ → List α → World → Prop) (st0 st1 : σ) (xs : List α) : Prop :=
  ∀ (l : Nat) (J : σ → List α → World → Prop) (W : World), (∀ st st' pre X, J st pre X → J st' pre (T st' X)) → (∀ st pre X, J st pre X → I st pre X) →
    (∀ st pre x X, G x → J st pre X → YieldAt F (n - 1) P l (encs x) X fun e W' => e = .returned (.bool true) ∧ J st (pre ++ [x]) W') →
    J st0 [] W → CallsIn F n P g (#[.func (.yield l) #[] #[]] ++ lb) W fun e W' => (∃ v, e = .returned v) ∧ J st1 xs W'

theorem wpIn_rangeFunc_state {σ α : Type} {g : Operand} {ps : Array Tmp} {assign body : Code} {Q : Exit → Act → World → Prop} {a : Act} {w : World}
    (hro : F.round = none) (h1 : 1 ≤ n) {gf : Nat} {lb : Array Value} (hg : a.eval g = .func (.func gf) #[] lb) (hFg : F.fn gf) (eg : ∀ args w, (callFunc gf args).run P w = .ok (.enter gf args) w)
    {encs : α → Array Value} {G : α → Prop} {T : σ → World → World} {I : σ → List α → World → Prop} {st0 st1 : σ} {xs : List α} (hseq : SeqState F (n - 1) P gf lb encs G T I st0 st1 xs) (hps : ∀ x, (encs x).size = ps.size)
    (hT : ∀ st X k, w.heap.size ≤ k → (T st X).heap[k]? = X.heap[k]?) (hIT : ∀ st st' pre X, I st pre X → I st' pre (T st' X)) (hI : ∀ st, OwnFrom w.heap.size (I st)) (h0 : I st0 [] w) (a₁ : α → Act)
    (hassign : ∀ (l : Nat) (x : α) (W : World) (K : Act → World → Prop), K (a₁ x) W →
      assign.wpIn (F.inRound l) (n - 1 - 1) P (Exit.then K (fun _ _ _ => False)) { tmps := (ps.zip (encs x)).foldl (fun t (p, v) => t.setIfInBounds p v) a.tmps, defers := [] } W)
    (hbody : ∀ (l : Nat) (st : σ) (pre : List α) (x : α) (W : World), G x → I st pre W → body.wpIn (F.inRound l) (n - 1 - 1) P (roundEnd w.heap.size I st (pre ++ [x]) W) (a₁ x) W)
    (hdone : ∀ (D : Nat) (W : World), w.heap.size ≤ D → I st1 xs W → W.heap[D]? = some (.deferred (some [])) → Q .normal { a with defers := { target := .collected D, args := #[] } :: a.defers } W) :
    (Code.rangeFunc g ps assign body).wpIn F n P Q a w := by
  refine wpIn_rangeFunc fun fn hfn => ?_
  rw [hro]
  let B := w.heap.size
  let R : LoopState → Option Code → Loop := fun s j => { state := s, pending := j, fn, tmps := a.tmps, params := ps, assign, body, defers := B }
  let V := (w.alloc (.deferred (some []))).alloc (.loop (R .ready none))
  have sV : V.heap.size = B + 2 := by simp [V, B]
  have lV : V.heap[B + 1]? = some (.loop (R .ready none)) := by
    have h := World.alloc_heap_new (w.alloc (.deferred (some []))) (.loop (R .ready none))
    rw [World.size_alloc] at h
    exact h
  have dV : V.heap[B]? = some (.deferred (some [])) := (Below.heap_alloc _ _ _ (by simp [B])).trans (World.alloc_heap_new w _)
  have iV : I st0 [] V := (hI st0).alloc _ ((hI st0).alloc _ h0)
  let J : σ → List α → World → Prop := fun st pre X => I st pre X ∧ X.heap[B + 1]? = some (.loop (R .ready none)) ∧ X.heap[B]? = some (.deferred (some []))
  refine ⟨B + 1, [{ target := .collected B, args := #[] }], V, { target := .fn (.func gf) lb, args := #[.func (.yield (B + 1)) #[] #[]] }, V, gf, #[.func (.yield (B + 1)) #[] #[]] ++ lb, V,
    run_enterLoop_outer _ _ _ _ _, by simp only [resolve, hg]; simp [go_sem], fun f' hf' => by simp [Target.leads] at hf'; subst hf'; exact hFg, by simp [invoke, go_sem, eg], fun _ => h1, ?_⟩
  refine (hseq (B + 1) J V (fun st st' pre X h => ⟨hIT st st' pre X h.1, (hT st' X _ (by omega)).trans h.2.1, (hT st' X _ (Nat.le_refl _)).trans h.2.2⟩) (fun st pre X h => h.1) ?_ ⟨iV, lV, dV⟩).mono ?_
  · rintro st pre x X hG ⟨hi, hl, hd⟩
    have hlt : B + 1 < X.heap.size := (Array.getElem?_eq_some_iff.1 hl).1
    refine ⟨fn, _, assign, body, run_yield (P := P) (args := encs x) hl (hps x), roundIn_of_wpIn hfn (hassign _ x X _ ⟨_, run_beginRound hl rfl, ?_⟩)⟩
    have l2 : (X.putObj (B + 1) (.loop { R .ready none with state := .busy })).heap[B + 1]? = some (.loop { R .ready none with state := .busy }) := World.putObj_heap_same hlt
    have d2 : (X.putObj (B + 1) (.loop { R .ready none with state := .busy })).heap[B]? = some (.deferred (some [])) := (World.putObj_heap_other (by omega)).trans hd
    refine wpIn_mono (hbody _ st pre x _ hG ((hI st).putObj _ hi (by omega) hl rfl)) ?_
    rintro e a3 Y hY
    cases e with
    | normal =>
      obtain ⟨hk, hi3⟩ := hY
      have l3 := hk.same _ _ (by omega) l2 rfl
      have d3 := hk.same _ _ (Nat.le_refl _) d2 rfl
      exact ⟨_, _, run_endRound (P := P) none l3, rfl, (hI st).putObj _ hi3 (by omega) l3 rfl, World.putObj_heap_same (Array.getElem?_eq_some_iff.1 l3).1, (World.putObj_heap_other (by omega)).trans d3⟩
    | _ => exact hY.elim
  · rintro e Y ⟨⟨v, rfl⟩, hi, hl, hd⟩
    exact ⟨none, _, run_endLoop (P := P) hl (by simp [R]), hdone B _ (Nat.le_refl _) ((hI st1).putObj _ hi (by omega) hl rfl) ((World.putObj_heap_other (by omega)).trans hd)⟩
end
end Go.Proofs.Ytmpiobpgjlceaaa
