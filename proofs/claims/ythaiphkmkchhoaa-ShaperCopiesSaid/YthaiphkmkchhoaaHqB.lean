/- Routes: a range over a function whose rounds write older memory alone: the law of its caller. -/
import Derived.Test.YthaiphkmkchhoaaTpA
import Derived.Below
import Derived.RangeFuncNested
import Derived.RangeFuncBound
import Derived.RangeFuncCalls
import Derived.RangeFuncLeaves
import Derived.RangeFuncBox
import Derived.Sort.QuietIn
import Derived.Sort.QuietTacIn
import Derived.Deep.RegionHeld
namespace Go.Proofs.Ythaiphkmkchhoaa.Tp
set_option linter.unusedVariables false
open Go.RowKit

section
variable {F : Fence} {n : Nat} {P : Program}
/-- what lies from block B on lies as it lay. -/
def Above (B : Nat) (X Y : World) : Prop := X.heap.size ≤ Y.heap.size ∧ ∀ k, B ≤ k → k < X.heap.size → Y.heap[k]? = X.heap[k]?
theorem Above.refl (B : Nat) (X : World) : Above B X X := ⟨Nat.le_refl _, fun _ _ _ => rfl⟩
theorem Above.trans {B : Nat} {X Y Z : World} (h : Above B X Y) (k : Above B Y Z) : Above B X Z :=
  ⟨Nat.le_trans h.1 k.1, fun j hj hl => (k.2 j hj (Nat.lt_of_lt_of_le hl h.1)).trans (h.2 j hj hl)⟩
theorem Above.more {B B' : Nat} {X Y : World} (h : Above B X Y) (hb : B ≤ B') : Above B' X Y := ⟨h.1, fun j hj hl => h.2 j (by omega) hl⟩
theorem Above.put {B l : Nat} (X : World) (o : Obj) (h : l < B) : Above B X (X.putObj l o) := ⟨by simp [World.putObj], fun j hj _ => World.putObj_heap_other (by omega)⟩
theorem Above.set {B : Nat} (X : World) (a : Addr) (v : Value) (h : a.block < B) : Above B X (X.setCell a v) := ⟨by simp [World.setCell], fun j hj hl => Below.heap_setCell _ _ _ _ (by omega)⟩
theorem Above.below {B : Nat} {X Y : World} (h : Below X.heap.size X Y) : Above B X Y := ⟨h.size, fun j _ hl => h.block j hl⟩
theorem Above.keeps {B : Nat} {X Y : World} (h : Above B X Y) : KeepsFrom B X Y := ⟨h.1, fun j o hj ho _ => (h.2 j hj (Array.getElem?_eq_some_iff.1 ho).1).trans ho⟩
/-- the word of an iterator that lies in newer memory than what the rounds write. -/
def SeqB {α : Type} (F : Fence) (n : Nat) (P : Program) (g : Nat) (lb : Array Value) (encs : α → Array Value) (Rd : World → Prop) (S Sp : List α → Prop) (N : Nat) (w : World) : Prop :=
  ∀ (l : Nat) (J Jx : List α → World → Prop) (W : World), Below w.heap.size w W → l < W.heap.size → (∀ s X, J s X → Rd X) →
    (∀ s X Y, J s X → Below W.heap.size X Y → J s Y) → (∀ s X Y, Jx s X → Below W.heap.size X Y → Jx s Y) →
    (∀ pre x X, W.heap.size ≤ X.heap.size → J pre X → pre.length < N → YieldAt F (n - 1) P l (encs x) X fun e Y =>
      Above W.heap.size X Y ∧ ((e = .returned (.bool true) ∧ J (pre ++ [x]) Y) ∨ (e = .returned (.bool false) ∧ Jx (pre ++ [x]) Y))) →
    J [] W → CallsIn F n P g (#[.func (.yield l) #[] #[]] ++ lb) W fun e Y => (∃ v, e = .returned v) ∧ ((∃ xs, S xs ∧ J xs Y) ∨ (∃ pre, Sp pre ∧ Jx pre Y))
/-- how a round's body may end: from the loop's own blocks on all lies as it lay. -/
def roundEnd {α : Type} (B : Nat) (I : List α → World → Prop) (Ix : Code → List α → World → Prop) (xs : List α) (W : World) : Exit → Act → World → Prop
  | .normal, _, Y => Above B W Y ∧ I xs Y
  | .ret, _, Y => Above B W Y ∧ Ix .ret xs Y
  | .exit i, _, Y => Above B W Y ∧ Ix (.exit i) xs Y
  | .goto t, _, Y => Above B W Y ∧ Ix (.goto t) xs Y
  | .panic _, _, _ => False
  | .outgrown, _, _ => False
theorem putBelow {B l : Nat} (X : World) (o : Obj) (h : B ≤ l) : Below B X (X.putObj l o) := ⟨rfl, rfl, rfl, by simp [World.putObj], fun k hk => World.putObj_heap_other (by omega)⟩
theorem wpIn_rangeFunc_B {α : Type} {g : Operand} {ps : Array Tmp} {assign body : Code} {Q : Exit → Act → World → Prop} {a : Act} {w : World}
    (hro : F.round = none) (h1 : 1 ≤ n) {gf : Nat} {lb : Array Value} (hg : a.eval g = .func (.func gf) #[] lb) (hFg : F.fn gf) (eg : ∀ args w, (callFunc gf args).run P w = .ok (.enter gf args) w)
    {encs : α → Array Value} {Rd : World → Prop} {S Sp : List α → Prop} {N : Nat} (hseq : SeqB F (n - 1) P gf lb encs Rd S Sp N w) (hps : ∀ x, (encs x).size = ps.size)
    (I : List α → World → Prop) (Ix : Code → List α → World → Prop) (hRd : ∀ s X, I s X → Rd X) (hI : ∀ s X Y, I s X → Below w.heap.size X Y → I s Y) (hIx : ∀ c s X Y, Ix c s X → Below w.heap.size X Y → Ix c s Y) (h0 : I [] w) (ob : α → Obj) (a₁ : α → Nat → Act)
    (hassign : ∀ (l : Nat) (x : α) (W : World) (K : Act → World → Prop), (∀ q, q = W.heap.size → K (a₁ x q) (W.alloc (ob x))) →
      assign.wpIn (F.inRound l) (n - 1 - 1) P (Exit.then K (fun _ _ _ => False)) { tmps := (ps.zip (encs x)).foldl (fun t (p, v) => t.setIfInBounds p v) a.tmps, defers := [] } W)
    (hbody : ∀ (l q : Nat) (pre : List α) (x : α) (W : World), w.heap.size ≤ q → q < W.heap.size → W.heap[q]? = some (ob x) → I pre W → pre.length < N → body.wpIn (F.inRound l) (n - 1 - 1) P (roundEnd w.heap.size I Ix (pre ++ [x]) W) (a₁ x q) W)
    (hdone : ∀ (D : Nat) (xs : List α) (W : World), w.heap.size ≤ D → S xs → I xs W → W.heap[D]? = some (.deferred (some [])) → Q .normal { a with defers := { target := .collected D, args := #[] } :: a.defers } W)
    (hstop : ∀ (D : Nat) (c : Code) (pre : List α) (W : World), w.heap.size ≤ D → Sp pre → Ix c pre W → W.heap[D]? = some (.deferred (some [])) → c.wpIn F n P Q { a with defers := { target := .collected D, args := #[] } :: a.defers } W) :
    (Code.rangeFunc g ps assign body).wpIn F n P Q a w := by
  refine wpIn_rangeFunc fun fn hfn => ?_
  rw [hro]
  let B := w.heap.size
  let R : LoopState → Option Code → Loop := fun s j => { state := s, pending := j, fn, tmps := a.tmps, params := ps, assign, body, defers := B }
  let V := (w.alloc (.deferred (some []))).alloc (.loop (R .ready none))
  have sV : V.heap.size = B + 2 := by simp [V, B]
  have lV : V.heap[B + 1]? = some (.loop (R .ready none)) := by
    have h := World.alloc_heap_new (w.alloc (.deferred (some []))) (.loop (R .ready none))
    rw [World.size_alloc] at h
    exact h
  have dV : V.heap[B]? = some (.deferred (some [])) := (Below.heap_alloc _ _ _ (by simp [B])).trans (World.alloc_heap_new w _)
  have bV : Below B w V := ((Below.refl _ w).alloc (Nat.le_refl _) _).alloc (by simp) _
  have iV : I [] V := hI _ _ _ h0 bV
  let J : List α → World → Prop := fun pre Y => I pre Y ∧ Y.heap[B + 1]? = some (.loop (R .ready none)) ∧ Y.heap[B]? = some (.deferred (some []))
  let Jx : List α → World → Prop := fun xs Y => ∃ c, Ix c xs Y ∧ Y.heap[B + 1]? = some (.loop (R .done (some c))) ∧ Y.heap[B]? = some (.deferred (some []))
  refine ⟨B + 1, [{ target := .collected B, args := #[] }], V, { target := .fn (.func gf) lb, args := #[.func (.yield (B + 1)) #[] #[]] }, V, gf, #[.func (.yield (B + 1)) #[] #[]] ++ lb, V,
    run_enterLoop_outer _ _ _ _ _, by simp only [resolve, hg]; simp [go_sem], fun f' hf' => by simp [Target.leads] at hf'; subst hf'; exact hFg, by simp [invoke, go_sem, eg], fun _ => h1, ?_⟩
  refine (hseq (B + 1) J Jx V bV (by omega) (fun s X h => hRd s X h.1) ?_ ?_ ?_ ⟨iV, lV, dV⟩).mono ?_
  · rintro pre X Y ⟨hi, hl, hd⟩ hb
    exact ⟨hI _ _ _ hi (hb.mono (by omega)), (hb.block _ (by omega)).trans hl, (hb.block _ (by omega)).trans hd⟩
  · rintro pre X Y ⟨c, hx, hl, hd⟩ hb
    exact ⟨c, hIx _ _ _ _ hx (hb.mono (by omega)), (hb.block _ (by omega)).trans hl, (hb.block _ (by omega)).trans hd⟩
  · rintro pre x Y hVY ⟨hi, hl, hd⟩ hlen
    have hlt : B + 1 < Y.heap.size := by omega
    have hlq : (Y.alloc (ob x)).heap[B + 1]? = some (.loop (R .ready none)) := (Below.heap_alloc _ _ _ hlt).trans hl
    have hdq : (Y.alloc (ob x)).heap[B]? = some (.deferred (some [])) := (Below.heap_alloc _ _ _ (by omega)).trans hd
    have hiq : I pre (Y.alloc (ob x)) := hI _ _ _ hi ((Below.refl _ Y).alloc (by omega) _)
    have szq : (Y.alloc (ob x)).heap.size = Y.heap.size + 1 := by simp
    have hxq : (Y.alloc (ob x)).heap[Y.heap.size]? = some (ob x) := World.alloc_heap_new Y _
    refine ⟨fn, _, assign, body, run_yield (P := P) (args := encs x) hl (hps x), roundIn_of_wpIn hfn (hassign _ x Y _ (fun q hq => ?_))⟩
    subst hq
    refine ⟨_, run_beginRound hlq rfl, ?_⟩
    have habq : Above V.heap.size Y (Y.alloc (ob x)) := Above.below ((Below.refl _ Y).alloc (Nat.le_refl _) _)
    generalize Y.alloc (ob x) = Y' at *
    have hltq : B + 1 < Y'.heap.size := by omega
    have l2 : (Y'.putObj (B + 1) (.loop { R .ready none with state := .busy })).heap[B + 1]? = some (.loop { R .ready none with state := .busy }) := World.putObj_heap_same hltq
    have d2 : (Y'.putObj (B + 1) (.loop { R .ready none with state := .busy })).heap[B]? = some (.deferred (some [])) := (World.putObj_heap_other (by omega)).trans hdq
    have s2 : (Y'.putObj (B + 1) (.loop { R .ready none with state := .busy })).heap.size = Y'.heap.size := by simp [World.putObj]
    have a2 : Above V.heap.size Y' (Y'.putObj (B + 1) (.loop { R .ready none with state := .busy })) := Above.put _ _ (by omega)
    have lt2 := (Array.getElem?_eq_some_iff.1 l2).1
    refine wpIn_mono (hbody _ Y.heap.size pre x _ (by omega) (Nat.lt_of_lt_of_le (show Y.heap.size < Y'.heap.size by omega) (Nat.le_of_eq s2.symm)) ((World.putObj_heap_other (by omega)).trans hxq) (hI _ _ _ hiq (putBelow _ _ (by omega))) hlen) ?_
    rintro e a3 Z hZ
    have out : ∀ c : Code, Above B (Y'.putObj (B + 1) (.loop { R .ready none with state := .busy })) Z → Ix c (pre ++ [x]) Z → ∃ b Z', (Instr.endRound (B + 1) (some c)).run P Z = .ok b Z' ∧ (Above V.heap.size Y Z' ∧ ((Ending.returned b = .returned (.bool true) ∧ J (pre ++ [x]) Z') ∨ (Ending.returned b = .returned (.bool false) ∧ Jx (pre ++ [x]) Z'))) := fun c hk hx => by
      have l3 := (hk.2 _ (Nat.le_succ _) lt2).trans l2
      have d3 := (hk.2 _ (Nat.le_refl _) (Nat.lt_of_succ_lt lt2)).trans d2
      exact ⟨_, _, run_endRound (P := P) (some c) l3, habq.trans (a2.trans ((hk.more (by omega)).trans (Above.put _ _ (by omega)))), .inr ⟨rfl, c, hIx _ _ _ _ hx (putBelow _ _ (by omega)), World.putObj_heap_same (Array.getElem?_eq_some_iff.1 l3).1, (World.putObj_heap_other (by omega)).trans d3⟩⟩
    cases e with
    | normal =>
      obtain ⟨hk, hi3⟩ := hZ
      have l3 := (hk.2 _ (Nat.le_succ _) lt2).trans l2
      have d3 := (hk.2 _ (Nat.le_refl _) (Nat.lt_of_succ_lt lt2)).trans d2
      exact ⟨_, _, run_endRound (P := P) none l3, habq.trans (a2.trans ((hk.more (by omega)).trans (Above.put _ _ (by omega)))), .inl ⟨rfl, hI _ _ _ hi3 (putBelow _ _ (by omega)), World.putObj_heap_same (Array.getElem?_eq_some_iff.1 l3).1, (World.putObj_heap_other (by omega)).trans d3⟩⟩
    | ret => exact out _ hZ.1 hZ.2
    | exit i => exact out _ hZ.1 hZ.2
    | goto t => exact out _ hZ.1 hZ.2
    | _ => exact hZ.elim
  · rintro e Y ⟨⟨v, rfl⟩, (⟨xs, hS, hi, hl, hd⟩ | ⟨pre, hS, c, hx, hl, hd⟩)⟩
    · exact ⟨none, _, run_endLoop (P := P) hl (by simp [R]), hdone B _ _ (Nat.le_refl _) hS (hI _ _ _ hi (putBelow _ _ (by omega))) ((World.putObj_heap_other (by omega)).trans hd)⟩
    · exact ⟨some c, _, run_endLoop (P := P) hl (by simp [R]), hstop B c _ _ (Nat.le_refl _) hS (hIx _ _ _ _ hx (putBelow _ _ (by omega))) ((World.putObj_heap_other (by omega)).trans hd)⟩
end
/-- what a round asks of an operation that defers nothing is what a plain frame asks. -/
theorem uponIn_round {F : Fence} {n l : Nat} {P : Program} {o : Oper} {a : Act} {K K' : Act → World → Prop} {Q : Exit → Act → World → Prop} (hk : ∀ a w, K a w → K' a w) : ∀ r : Result Next, o.uponIn F n P a K Q r → o.uponIn (F.inRound l) n P a K' Q r
  | .ok (.value v) w', h => hk _ _ h
  | .ok .skip w', h => hk _ _ h
  | .ok (.defer d) w', h => hk _ _ h
  | .ok (.enter f args) w', h => ⟨h.1, h.2.mono fun e w q => by
      cases e with
      | returned v => exact hk _ _ q
      | panicked c => exact q
      | outgrown => exact q⟩
  | .ok (.row row args) w', h => ⟨h.1, h.2.mono fun v w q => hk _ _ q⟩
  | .ok (.round l f tmps assign body) w', h => ⟨h.1, h.2.mono fun e w q => by
      cases e with
      | returned v => exact hk _ _ q
      | panicked c => exact q
      | outgrown => exact q⟩
  | .halt (.panic v) w', h => h

theorem wpAnyIn_round {F : Fence} {n l : Nat} {P : Program} {md : Region.Mode} {ops : Array Oper} {Q : Exit → Act → World → Prop} (hro : F.round = none) (hnd : ∀ (i : Nat) (o : Oper), ops[i]? = some o → ∀ c, o.op ≠ Op.defer c) :
    ∀ (fuel : Nat) (listed : Array Bool) (a : Act) (w : World), wpAnyIn F n P md ops Q fuel listed a w → wpAnyIn (F.inRound l) n P md ops Q fuel listed a w
  | 0, _, _, _, h => h
  | fuel + 1, listed, a, w, h => ⟨h.1, fun i hi => by
    have h2 := h.2 i hi
    have ih := fun a w => wpAnyIn_round (n := n) (P := P) (md := md) (Q := Q) (l := l) hro hnd fuel (listed.setIfInBounds i true) a w
    unfold wpOpIn at h2 ⊢
    cases ho : ops[i]? with
    | none =>
      rw [ho] at h2
      exact ih _ _ h2
    | some o =>
      rw [ho] at h2
      simp only at h2 ⊢
      by_cases hw : Region.wanted o (yielded ops a.tmps) = true
      · rw [if_pos hw] at h2 ⊢
        refine ⟨h2.1, ?_⟩
        have h3 := h2.2
        rw [hro, Oper.semAt_none] at h3
        rw [Oper.semAt_eq _ _ _ (hnd i o ho)]
        exact uponIn_round ih _ h3
      · rw [if_neg hw] at h2 ⊢
        exact ⟨h2.1, ih _ _ h2.2⟩⟩
/-- a region that only reads, in a round: one walk serves every order. -/
theorem wpIn_quiet_round {F : Fence} {n lp id : Nat} {P : Program} {Q : Exit → Act → World → Prop} {a : Act} {w : World} {l : List Oper} (hro : F.round = none) (hm : P.follows .mixedOrders = true) (hB : Region.lexB .any l.toArray = true)
    (hnd : (l.all fun (o : Oper) => match o.op with | .defer _ => false | _ => true) = true)
    (h : wpQuietIn F n P l.toArray (fun w' => ∃ n, w' = w.drewN n) (fun a' => ∀ w', (∃ n, w' = w.drewN n) → Q .normal a' w') l a) : (Code.region id l.toArray true).wpIn (F.inRound lp) n P Q a w := by
  simp only [Region.lexB, Bool.and_eq_true] at hB
  refine wpIn_region_any hm (wpAnyIn_round hro (fun i o ho c hc => ?_) _ _ _ _ (wpAnyIn_of_quiet (C := fun w' => ∃ n, w' = w.drewN n) (Q := fun a' => ∀ w', (∃ n, w' = w.drewN n) → Q .normal a' w') hro (fun _ w' hw' h => h w' hw') _ _ _ _ ⟨1, rfl⟩ ?_))
  · have hm : o ∈ l := by
      have := Array.mem_of_getElem? ho
      simpa using this
    have := List.all_eq_true.1 hnd o hm
    rw [hc] at this
    simp at this
  · have := wpAnyQIn_lex (F := F) (n := n) (P := P) (C := fun w' => ∃ n, w' = w.drewN n) (md := .any) hB.1 l 0 (Array.replicate l.toArray.size false) a (by simp) (by simpa using hB.2) h
    simpa using this

theorem rowsIn_of {n : Nat} {P : Program} {row : String} {args : Array Value} {w : World} {R : Value → World → Prop} (h : Rows P row args w R) : RowsIn Fence.wide n P row args w R :=
  fun c cs _ => let ⟨v, w', r, s⟩ := h c cs; ⟨v, w', r, stepsIn_wide.2 s⟩
theorem uponIn_of {n l : Nat} {P : Program} {o : Oper} {a : Act} {K K' : Act → World → Prop} {Q : Exit → Act → World → Prop} (hk : ∀ a w, K a w → K' a w) : ∀ r : Result Next, o.upon P a K Q r → o.uponIn (Fence.wide.inRound l) n P a K' Q r
  | .ok (.value v) w', h => hk _ _ h
  | .ok .skip w', h => hk _ _ h
  | .ok (.defer d) w', h => hk _ _ h
  | .ok (.enter f args) w', h => ⟨fun h => absurd h (by simp [Fence.wide]), (callsIn_wide.2 h).mono fun e w q => by
      cases e with
      | returned v => exact hk _ _ q
      | panicked c => exact q
      | outgrown => exact q⟩
  | .ok (.row row args) w', h => ⟨fun h => absurd h (by simp [Fence.wide]), (rowsIn_of h).mono fun v w q => hk _ _ q⟩
  | .halt (.panic v) w', h => h
theorem wpAnyIn_of_plain {n l : Nat} {P : Program} {md : Region.Mode} {ops : Array Oper} {Q : Exit → Act → World → Prop} (hlet : ¬ LetsOut Q) (hnd : ∀ (i : Nat) (o : Oper), ops[i]? = some o → ∀ c, o.op ≠ Op.defer c) :
    ∀ (fuel : Nat) (listed : Array Bool) (a : Act) (w : World), wpAny P md ops Q fuel listed a w → wpAnyIn (Fence.wide.inRound l) n P md ops Q fuel listed a w
  | 0, _, _, _, h => h
  | fuel + 1, listed, a, w, h => ⟨h.1, fun i hi => by
    have h2 := h.2 i hi
    have ih := fun a w => wpAnyIn_of_plain (n := n) (P := P) (md := md) (Q := Q) (l := l) hlet hnd fuel (listed.setIfInBounds i true) a w
    unfold wpOp at h2
    unfold wpOpIn
    cases ho : ops[i]? with
    | none =>
      rw [ho] at h2
      exact ih _ _ h2
    | some o =>
      rw [ho] at h2
      simp only at h2 ⊢
      by_cases hw : Region.wanted o (yielded ops a.tmps) = true
      · rw [if_pos hw] at h2 ⊢
        refine ⟨fun _ _ => trivial, ?_⟩
        rcases h2 with h3 | h3
        · rw [Oper.semAt_eq _ _ _ (hnd i o ho)]
          exact uponIn_of ih _ h3
        · exact absurd h3.2 hlet
      · rw [if_neg hw] at h2 ⊢
        exact ⟨fun _ _ => trivial, ih _ _ h2⟩⟩
/-- a region in a round, an operation first that S settles. -/
theorem wpIn_held_round {n lp id : Nat} {P : Program} {Q : Exit → Act → World → Prop} {a : Act} {w : World} {l : List Oper} (S : World → Prop) (hm : P.follows .mixedOrders = true) (hlet : ¬ LetsOut Q)
    (hnd : (l.all fun (o : Oper) => match o.op with | .defer _ => false | _ => true) = true) (hS : S w.drew)
    (h : S w.drew → wpAnyH P .any l.toArray Q S l.toArray.size (Array.replicate l.toArray.size false) a w.drew) : (Code.region id l.toArray true).wpIn (Fence.wide.inRound lp) n P Q a w := by
  refine wpIn_region_any hm (wpAnyIn_of_plain hlet (fun i o ho c hc => ?_) _ _ _ _ (wpAny_of_held _ _ _ _ (h hS)))
  have hm : o ∈ l := by
    have := Array.mem_of_getElem? ho
    simpa using this
  have := List.all_eq_true.1 hnd o hm
  rw [hc] at this
  simp at this

/-- marks of ranges left behind one another. -/
def mkD (D : Nat) : Deferred := { target := .collected D, args := #[] }
def OpenD (B : Nat) (w : World) (Ds : List Nat) : Prop := Ds.Nodup ∧ ∀ D ∈ Ds, B ≤ D ∧ w.heap[D]? = some (.deferred (some []))
theorem OpenD.nil (B : Nat) (w : World) : OpenD B w [] := ⟨List.Pairwise.nil, fun D h => by cases h⟩
theorem OpenD.above {B : Nat} {w w' : World} {Ds : List Nat} (h : OpenD B w Ds) (hb : Above B w w') : OpenD B w' Ds := ⟨h.1, fun D hD => by
  obtain ⟨h1, h2⟩ := h.2 D hD
  exact ⟨h1, (hb.2 D h1 (Array.getElem?_eq_some_iff.1 h2).1).trans h2⟩⟩
theorem OpenD.below {B : Nat} {w w' : World} {Ds : List Nat} (h : OpenD B w Ds) (hb : Below w.heap.size w w') : OpenD B w' Ds := h.above (Above.below hb)
theorem OpenD.lt {B : Nat} {w : World} {Ds : List Nat} (h : OpenD B w Ds) : ∀ D ∈ Ds, D < w.heap.size := fun D hD => (Array.getElem?_eq_some_iff.1 (h.2 D hD).2).1
theorem OpenD.set {B : Nat} {w : World} {Ds : List Nat} (h : OpenD B w Ds) {a : Addr} {v : Value} (hc : w.cell? a = some v) (u : Value) : OpenD B (w.setCell a u) Ds := ⟨h.1, fun D hD => by
  obtain ⟨h1, h2⟩ := h.2 D hD
  refine ⟨h1, (Below.heap_setCell _ _ _ _ (fun e => ?_)).trans h2⟩
  subst e
  simp [World.cell?, h2] at hc⟩
theorem OpenD.snoc {B : Nat} {w : World} {Ds : List Nat} (h : OpenD B w Ds) {D : Nat} (hD : B ≤ D) (hn : D ∉ Ds) (he : w.heap[D]? = some (.deferred (some []))) : OpenD B w (D :: Ds) := ⟨List.pairwise_cons.2 ⟨fun x hx e => hn (e ▸ hx), h.1⟩, fun x hx => by
  rcases List.mem_cons.1 hx with rfl | hx
  · exact ⟨hD, he⟩
  · exact h.2 x hx⟩
theorem leavesD {F : Fence} {n : Nat} {P : Program} {fn : Func} {tmps : Array Value} {R : Ending → World → Prop} (B : Nat) : ∀ (Ds : List Nat) (w : World), B ≤ w.heap.size → OpenD B w Ds →
    (∀ w', Below B w w' → LeavesInM F n P fn tmps R [] .returning w') → LeavesInM F n P fn tmps R (Ds.map mkD) .returning w
  | [], w, _, _, h => h w (Below.refl _ _)
  | D :: Ds, w, hBw, ho, h => by
    obtain ⟨hD, he⟩ := ho.2 D (by simp)
    have hnd := List.pairwise_cons.1 ho.1
    have hg := grownBy_putObj' w D (.deferred none)
    have hb : Below B w (w.putObj D (.deferred none)) := (Below.refl B w).grown hg hBw (fun k e => by cases e; exact hD)
    refine ⟨by simp, .inl ⟨D, _, rfl, run_takeDeferred he, ?_⟩⟩
    refine leavesD B Ds _ (Nat.le_trans hBw hb.size) ⟨hnd.2, fun x hx => ?_⟩ (fun w' hb' => h w' (hb.trans hb'))
    obtain ⟨h1, h2⟩ := ho.2 x (List.mem_cons_of_mem _ hx)
    exact ⟨h1, (World.putObj_heap_other (fun e => hnd.1 x hx (by rw [e]))).trans h2⟩
end Go.Proofs.Ythaiphkmkchhoaa.Tp
