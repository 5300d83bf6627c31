/- Texts that the claim hangs on, in one. -/
import Derived.Test.YtohkkebiilaniaaMgPlA
import Derived.Test.YtohkkebiilaniaaMgPlR
import Derived.Test.YtohkkebiilaniaaMgPlC
import Derived.Test.YtohkkebiilaniaaTpA
import Derived.Below
import Derived.RangeFuncNested
import Derived.RangeFuncBound
import Derived.RangeFuncCalls
import Derived.RangeFuncLeaves
import Derived.RangeFuncBox
import Derived.Sort.QuietIn
import Derived.Sort.QuietTacIn
import Derived.Deep.RegionHeld
import Derived.Test.YtohkkebiilaniaaHpC
import Derived.Shelf.SlSortCmp.InsertionK
import Derived.Test.YtohkkebiilaniaaHpL
import Derived.Test.YtohkkebiilaniaaShelfS
import Derived.Shelf.SlSortCmp.WholeK
import Derived.Sort.LotA
import Derived.Maps.AppendAt
import Derived.StillTailTactics
import Derived.Laws.Tables
import Derived.Laws.CopyOwn
import Derived.Test.YtohkkebiilaniaaShelfM
import Derived.SizedLaws
import Derived.Handed
/- Routes: a range over a function whose rounds write older memory alone: the law of its caller. -/
namespace Go.Proofs.Ytohkkebiilaniaa.Tp
set_option linter.unusedVariables false
open Go.RowKit

section
variable {F : Fence} {n : Nat} {P : Program}
/-- what lies from block B on lies as it lay. -/
def Above (B : Nat) (X Y : World) : Prop := X.heap.size ≤ Y.heap.size ∧ ∀ k, B ≤ k → k < X.heap.size → Y.heap[k]? = X.heap[k]?
theorem Above.refl (B : Nat) (X : World) : Above B X X := ⟨Nat.le_refl _, fun _ _ _ => rfl⟩
theorem Above.trans {B : Nat} {X Y Z : World} (h : Above B X Y) (k : Above B Y Z) : Above B X Z :=
  ⟨Nat.le_trans h.1 k.1, fun j hj hl => (k.2 j hj (Nat.lt_of_lt_of_le hl h.1)).trans (h.2 j hj hl)⟩
theorem Above.more {B B' : Nat} {X Y : World} (h : Above B X Y) (hb : B ≤ B') : Above B' X Y := ⟨h.1, fun j hj hl => h.2 j (by omega) hl⟩
theorem Above.put {B l : Nat} (X : World) (o : Obj) (h : l < B) : Above B X (X.putObj l o) := ⟨by simp [World.putObj], fun j hj _ => World.putObj_heap_other (by omega)⟩
theorem Above.set {B : Nat} (X : World) (a : Addr) (v : Value) (h : a.block < B) : Above B X (X.setCell a v) := ⟨by simp [World.setCell], fun j hj hl => Below.heap_setCell _ _ _ _ (by omega)⟩
theorem Above.below {B : Nat} {X Y : World} (h : Below X.heap.size X Y) : Above B X Y := ⟨h.size, fun j _ hl => h.block j hl⟩
theorem Above.keeps {B : Nat} {X Y : World} (h : Above B X Y) : KeepsFrom B X Y := ⟨h.1, fun j o hj ho _ => (h.2 j hj (Array.getElem?_eq_some_iff.1 ho).1).trans ho⟩
/-- the word of an iterator that lies in newer memory than what the rounds write. -/
def SeqB {α : Type} (F : Fence) (n : Nat) (P : Program) (g : Nat) (lb : Array Value) (encs : α → Array Value) (Rd : World → Prop) (S Sp : List α → Prop) (N : Nat) (w : World) : Prop :=
  ∀ (l : Nat) (J Jx : List α → World → Prop) (W : World), Below w.heap.size w W → l < W.heap.size → (∀ s X, J s X → Rd X) →
    (∀ s X Y, J s X → Below W.heap.size X Y → J s Y) → (∀ s X Y, Jx s X → Below W.heap.size X Y → Jx s Y) →
    (∀ pre x X, W.heap.size ≤ X.heap.size → J pre X → pre.length < N → YieldAt F (n - 1) P l (encs x) X fun e Y =>
      Above W.heap.size X Y ∧ ((e = .returned (.bool true) ∧ J (pre ++ [x]) Y) ∨ (e = .returned (.bool false) ∧ Jx (pre ++ [x]) Y))) →
    J [] W → CallsIn F n P g (#[.func (.yield l) #[] #[]] ++ lb) W fun e Y => (∃ v, e = .returned v) ∧ ((∃ xs, S xs ∧ J xs Y) ∨ (∃ pre, Sp pre ∧ Jx pre Y))
/-- how a round's body may end: from the loop's own blocks on all lies as it lay. -/
def roundEnd {α : Type} (B : Nat) (I : List α → World → Prop) (Ix : Code → List α → World → Prop) (xs : List α) (W : World) : Exit → Act → World → Prop
  | .normal, _, Y => Above B W Y ∧ I xs Y
  | .ret, _, Y => Above B W Y ∧ Ix .ret xs Y
  | .exit i, _, Y => Above B W Y ∧ Ix (.exit i) xs Y
  | .goto t, _, Y => Above B W Y ∧ Ix (.goto t) xs Y
  | .panic _, _, _ => False
  | .outgrown, _, _ => False
theorem putBelow {B l : Nat} (X : World) (o : Obj) (h : B ≤ l) : Below B X (X.putObj l o) := ⟨rfl, rfl, rfl, by simp [World.putObj], fun k hk => World.putObj_heap_other (by omega)⟩
theorem wpIn_rangeFunc_B {α : Type} {g : Operand} {ps : Array Tmp} {assign body : Code} {Q : Exit → Act → World → Prop} {a : Act} {w : World}
    (hro : F.round = none) (h1 : 1 ≤ n) {gf : Nat} {lb : Array Value} (hg : a.eval g = .func (.func gf) #[] lb) (hFg : F.fn gf) (eg : ∀ args w, (callFunc gf args).run P w = .ok (.enter gf args) w)
    {encs : α → Array Value} {Rd : World → Prop} {S Sp : List α → Prop} {N : Nat} (hseq : SeqB F (n - 1) P gf lb encs Rd S Sp N w) (hps : ∀ x, (encs x).size = ps.size)
    (I : List α → World → Prop) (Ix : Code → List α → World → Prop) (hRd : ∀ s X, I s X → Rd X) (hI : ∀ s X Y, I s X → Below w.heap.size X Y → I s Y) (hIx : ∀ c s X Y, Ix c s X → Below w.heap.size X Y → Ix c s Y) (h0 : I [] w) (ob : α → Obj) (a₁ : α → Nat → Act)
    (hassign : ∀ (l : Nat) (x : α) (W : World) (K : Act → World → Prop), (∀ q, q = W.heap.size → K (a₁ x q) (W.alloc (ob x))) →
      assign.wpIn (F.inRound l) (n - 1 - 1) P (Exit.then K (fun _ _ _ => False)) { tmps := (ps.zip (encs x)).foldl (fun t (p, v) => t.setIfInBounds p v) a.tmps, defers := [] } W)
    (hbody : ∀ (l q : Nat) (pre : List α) (x : α) (W : World), w.heap.size ≤ q → q < W.heap.size → W.heap[q]? = some (ob x) → I pre W → pre.length < N → body.wpIn (F.inRound l) (n - 1 - 1) P (roundEnd w.heap.size I Ix (pre ++ [x]) W) (a₁ x q) W)
    (hdone : ∀ (D : Nat) (xs : List α) (W : World), w.heap.size ≤ D → S xs → I xs W → W.heap[D]? = some (.deferred (some [])) → Q .normal { a with defers := { target := .collected D, args := #[] } :: a.defers } W)
    (hstop : ∀ (D : Nat) (c : Code) (pre : List α) (W : World), w.heap.size ≤ D → Sp pre → Ix c pre W → W.heap[D]? = some (.deferred (some [])) → c.wpIn F n P Q { a with defers := { target := .collected D, args := #[] } :: a.defers } W) :
    (Code.rangeFunc g ps assign body).wpIn F n P Q a w := by
  refine wpIn_rangeFunc fun fn hfn => ?_
  rw [hro]
  let B := w.heap.size
  let R : LoopState → Option Code → Loop := fun s j => { state := s, pending := j, fn, tmps := a.tmps, params := ps, assign, body, defers := B }
  let V := (w.alloc (.deferred (some []))).alloc (.loop (R .ready none))
  have sV : V.heap.size = B + 2 := by simp [V, B]
  have lV : V.heap[B + 1]? = some (.loop (R .ready none)) := by
    have h := World.alloc_heap_new (w.alloc (.deferred (some []))) (.loop (R .ready none))
    rw [World.size_alloc] at h
    exact h
  have dV : V.heap[B]? = some (.deferred (some [])) := (Below.heap_alloc _ _ _ (by simp [B])).trans (World.alloc_heap_new w _)
  have bV : Below B w V := ((Below.refl _ w).alloc (Nat.le_refl _) _).alloc (by simp) _
  have iV : I [] V := hI _ _ _ h0 bV
  let J : List α → World → Prop := fun pre Y => I pre Y ∧ Y.heap[B + 1]? = some (.loop (R .ready none)) ∧ Y.heap[B]? = some (.deferred (some []))
  let Jx : List α → World → Prop := fun xs Y => ∃ c, Ix c xs Y ∧ Y.heap[B + 1]? = some (.loop (R .done (some c))) ∧ Y.heap[B]? = some (.deferred (some []))
  refine ⟨B + 1, [{ target := .collected B, args := #[] }], V, { target := .fn (.func gf) lb, args := #[.func (.yield (B + 1)) #[] #[]] }, V, gf, #[.func (.yield (B + 1)) #[] #[]] ++ lb, V,
    run_enterLoop_outer _ _ _ _ _, by simp only [resolve, hg]; simp [go_sem], fun f' hf' => by simp [Target.leads] at hf'; subst hf'; exact hFg, by simp [invoke, go_sem, eg], fun _ => h1, ?_⟩
  refine (hseq (B + 1) J Jx V bV (by omega) (fun s X h => hRd s X h.1) ?_ ?_ ?_ ⟨iV, lV, dV⟩).mono ?_
  · rintro pre X Y ⟨hi, hl, hd⟩ hb
    exact ⟨hI _ _ _ hi (hb.mono (by omega)), (hb.block _ (by omega)).trans hl, (hb.block _ (by omega)).trans hd⟩
  · rintro pre X Y ⟨c, hx, hl, hd⟩ hb
    exact ⟨c, hIx _ _ _ _ hx (hb.mono (by omega)), (hb.block _ (by omega)).trans hl, (hb.block _ (by omega)).trans hd⟩
  · rintro pre x Y hVY ⟨hi, hl, hd⟩ hlen
    have hlt : B + 1 < Y.heap.size := by omega
    have hlq : (Y.alloc (ob x)).heap[B + 1]? = some (.loop (R .ready none)) := (Below.heap_alloc _ _ _ hlt).trans hl
    have hdq : (Y.alloc (ob x)).heap[B]? = some (.deferred (some [])) := (Below.heap_alloc _ _ _ (by omega)).trans hd
    have hiq : I pre (Y.alloc (ob x)) := hI _ _ _ hi ((Below.refl _ Y).alloc (by omega) _)
    have szq : (Y.alloc (ob x)).heap.size = Y.heap.size + 1 := by simp
    have hxq : (Y.alloc (ob x)).heap[Y.heap.size]? = some (ob x) := World.alloc_heap_new Y _
    refine ⟨fn, _, assign, body, run_yield (P := P) (args := encs x) hl (hps x), roundIn_of_wpIn hfn (hassign _ x Y _ (fun q hq => ?_))⟩
    subst hq
    refine ⟨_, run_beginRound hlq rfl, ?_⟩
    have habq : Above V.heap.size Y (Y.alloc (ob x)) := Above.below ((Below.refl _ Y).alloc (Nat.le_refl _) _)
    generalize Y.alloc (ob x) = Y' at *
    have hltq : B + 1 < Y'.heap.size := by omega
    have l2 : (Y'.putObj (B + 1) (.loop { R .ready none with state := .busy })).heap[B + 1]? = some (.loop { R .ready none with state := .busy }) := World.putObj_heap_same hltq
    have d2 : (Y'.putObj (B + 1) (.loop { R .ready none with state := .busy })).heap[B]? = some (.deferred (some [])) := (World.putObj_heap_other (by omega)).trans hdq
    have s2 : (Y'.putObj (B + 1) (.loop { R .ready none with state := .busy })).heap.size = Y'.heap.size := by simp [World.putObj]
    have a2 : Above V.heap.size Y' (Y'.putObj (B + 1) (.loop { R .ready none with state := .busy })) := Above.put _ _ (by omega)
    have lt2 := (Array.getElem?_eq_some_iff.1 l2).1
    refine wpIn_mono (hbody _ Y.heap.size pre x _ (by omega) (Nat.lt_of_lt_of_le (show Y.heap.size < Y'.heap.size by omega) (Nat.le_of_eq s2.symm)) ((World.putObj_heap_other (by omega)).trans hxq) (hI _ _ _ hiq (putBelow _ _ (by omega))) hlen) ?_
    rintro e a3 Z hZ
    have out : ∀ c : Code, Above B (Y'.putObj (B + 1) (.loop { R .ready none with state := .busy })) Z → Ix c (pre ++ [x]) Z → ∃ b Z', (Instr.endRound (B + 1) (some c)).run P Z = .ok b Z' ∧ (Above V.heap.size Y Z' ∧ ((Ending.returned b = .returned (.bool true) ∧ J (pre ++ [x]) Z') ∨ (Ending.returned b = .returned (.bool false) ∧ Jx (pre ++ [x]) Z'))) := fun c hk hx => by
      have l3 := (hk.2 _ (Nat.le_succ _) lt2).trans l2
      have d3 := (hk.2 _ (Nat.le_refl _) (Nat.lt_of_succ_lt lt2)).trans d2
      exact ⟨_, _, run_endRound (P := P) (some c) l3, habq.trans (a2.trans ((hk.more (by omega)).trans (Above.put _ _ (by omega)))), .inr ⟨rfl, c, hIx _ _ _ _ hx (putBelow _ _ (by omega)), World.putObj_heap_same (Array.getElem?_eq_some_iff.1 l3).1, (World.putObj_heap_other (by omega)).trans d3⟩⟩
    cases e with
    | normal =>
      obtain ⟨hk, hi3⟩ := hZ
      have l3 := (hk.2 _ (Nat.le_succ _) lt2).trans l2
      have d3 := (hk.2 _ (Nat.le_refl _) (Nat.lt_of_succ_lt lt2)).trans d2
      exact ⟨_, _, run_endRound (P := P) none l3, habq.trans (a2.trans ((hk.more (by omega)).trans (Above.put _ _ (by omega)))), .inl ⟨rfl, hI _ _ _ hi3 (putBelow _ _ (by omega)), World.putObj_heap_same (Array.getElem?_eq_some_iff.1 l3).1, (World.putObj_heap_other (by omega)).trans d3⟩⟩
    | ret => exact out _ hZ.1 hZ.2
    | exit i => exact out _ hZ.1 hZ.2
    | goto t => exact out _ hZ.1 hZ.2
    | _ => exact hZ.elim
  · rintro e Y ⟨⟨v, rfl⟩, (⟨xs, hS, hi, hl, hd⟩ | ⟨pre, hS, c, hx, hl, hd⟩)⟩
    · exact ⟨none, _, run_endLoop (P := P) hl (by simp [R]), hdone B _ _ (Nat.le_refl _) hS (hI _ _ _ hi (putBelow _ _ (by omega))) ((World.putObj_heap_other (by omega)).trans hd)⟩
    · exact ⟨some c, _, run_endLoop (P := P) hl (by simp [R]), hstop B c _ _ (Nat.le_refl _) hS (hIx _ _ _ _ hx (putBelow _ _ (by omega))) ((World.putObj_heap_other (by omega)).trans hd)⟩
end
/-- what a round asks of an operation that defers nothing is what a plain frame asks. -/
theorem uponIn_round {F : Fence} {n l : Nat} {P : Program} {o : Oper} {a : Act} {K K' : Act → World → Prop} {Q : Exit → Act → World → Prop} (hk : ∀ a w, K a w → K' a w) : ∀ r : Result Next, o.uponIn F n P a K Q r → o.uponIn (F.inRound l) n P a K' Q r
  | .ok (.value v) w', h => hk _ _ h
  | .ok .skip w', h => hk _ _ h
  | .ok (.defer d) w', h => hk _ _ h
  | .ok (.enter f args) w', h => ⟨h.1, h.2.mono fun e w q => by
      cases e with
      | returned v => exact hk _ _ q
      | panicked c => exact q
      | outgrown => exact q⟩
  | .ok (.row row args) w', h => ⟨h.1, h.2.mono fun v w q => hk _ _ q⟩
  | .ok (.round l f tmps assign body) w', h => ⟨h.1, h.2.mono fun e w q => by
      cases e with
      | returned v => exact hk _ _ q
      | panicked c => exact q
      | outgrown => exact q⟩
  | .halt (.panic v) w', h => h

theorem wpAnyIn_round {F : Fence} {n l : Nat} {P : Program} {md : Region.Mode} {ops : Array Oper} {Q : Exit → Act → World → Prop} (hro : F.round = none) (hnd : ∀ (i : Nat) (o : Oper), ops[i]? = some o → ∀ c, o.op ≠ Op.defer c) :
    ∀ (fuel : Nat) (listed : Array Bool) (a : Act) (w : World), wpAnyIn F n P md ops Q fuel listed a w → wpAnyIn (F.inRound l) n P md ops Q fuel listed a w
  | 0, _, _, _, h => h
  | fuel + 1, listed, a, w, h => ⟨h.1, fun i hi => by
    have h2 := h.2 i hi
    have ih := fun a w => wpAnyIn_round (n := n) (P := P) (md := md) (Q := Q) (l := l) hro hnd fuel (listed.setIfInBounds i true) a w
    unfold wpOpIn at h2 ⊢
    cases ho : ops[i]? with
    | none =>
      rw [ho] at h2
      exact ih _ _ h2
    | some o =>
      rw [ho] at h2
      simp only at h2 ⊢
      by_cases hw : Region.wanted o (yielded ops a.tmps) = true
      · rw [if_pos hw] at h2 ⊢
        refine ⟨h2.1, ?_⟩
        have h3 := h2.2
        rw [hro, Oper.semAt_none] at h3
        rw [Oper.semAt_eq _ _ _ (hnd i o ho)]
        exact uponIn_round ih _ h3
      · rw [if_neg hw] at h2 ⊢
        exact ⟨h2.1, ih _ _ h2.2⟩⟩
/-- a region that only reads, in a round: one walk serves every order. -/
theorem wpIn_quiet_round {F : Fence} {n lp id : Nat} {P : Program} {Q : Exit → Act → World → Prop} {a : Act} {w : World} {l : List Oper} (hro : F.round = none) (hm : P.follows .mixedOrders = true) (hB : Region.lexB .any l.toArray = true)
    (hnd : (l.all fun (o : Oper) => match o.op with | .defer _ => false | _ => true) = true)
    (h : wpQuietIn F n P l.toArray (fun w' => ∃ n, w' = w.drewN n) (fun a' => ∀ w', (∃ n, w' = w.drewN n) → Q .normal a' w') l a) : (Code.region id l.toArray true).wpIn (F.inRound lp) n P Q a w := by
  simp only [Region.lexB, Bool.and_eq_true] at hB
  refine wpIn_region_any hm (wpAnyIn_round hro (fun i o ho c hc => ?_) _ _ _ _ (wpAnyIn_of_quiet (C := fun w' => ∃ n, w' = w.drewN n) (Q := fun a' => ∀ w', (∃ n, w' = w.drewN n) → Q .normal a' w') hro (fun _ w' hw' h => h w' hw') _ _ _ _ ⟨1, rfl⟩ ?_))
  · have hm : o ∈ l := by
      have := Array.mem_of_getElem? ho
      simpa using this
    have := List.all_eq_true.1 hnd o hm
    rw [hc] at this
    simp at this
  · have := wpAnyQIn_lex (F := F) (n := n) (P := P) (C := fun w' => ∃ n, w' = w.drewN n) (md := .any) hB.1 l 0 (Array.replicate l.toArray.size false) a (by simp) (by simpa using hB.2) h
    simpa using this

theorem rowsIn_of {n : Nat} {P : Program} {row : String} {args : Array Value} {w : World} {R : Value → World → Prop} (h : Rows P row args w R) : RowsIn Fence.wide n P row args w R :=
  fun c cs _ => let ⟨v, w', r, s⟩ := h c cs; ⟨v, w', r, stepsIn_wide.2 s⟩
theorem uponIn_of {n l : Nat} {P : Program} {o : Oper} {a : Act} {K K' : Act → World → Prop} {Q : Exit → Act → World → Prop} (hk : ∀ a w, K a w → K' a w) : ∀ r : Result Next, o.upon P a K Q r → o.uponIn (Fence.wide.inRound l) n P a K' Q r
  | .ok (.value v) w', h => hk _ _ h
  | .ok .skip w', h => hk _ _ h
  | .ok (.defer d) w', h => hk _ _ h
  | .ok (.enter f args) w', h => ⟨fun h => absurd h (by simp [Fence.wide]), (callsIn_wide.2 h).mono fun e w q => by
      cases e with
      | returned v => exact hk _ _ q
      | panicked c => exact q
      | outgrown => exact q⟩
  | .ok (.row row args) w', h => ⟨fun h => absurd h (by simp [Fence.wide]), (rowsIn_of h).mono fun v w q => hk _ _ q⟩
  | .halt (.panic v) w', h => h
theorem wpAnyIn_of_plain {n l : Nat} {P : Program} {md : Region.Mode} {ops : Array Oper} {Q : Exit → Act → World → Prop} (hlet : ¬ LetsOut Q) (hnd : ∀ (i : Nat) (o : Oper), ops[i]? = some o → ∀ c, o.op ≠ Op.defer c) :
    ∀ (fuel : Nat) (listed : Array Bool) (a : Act) (w : World), wpAny P md ops Q fuel listed a w → wpAnyIn (Fence.wide.inRound l) n P md ops Q fuel listed a w
  | 0, _, _, _, h => h
  | fuel + 1, listed, a, w, h => ⟨h.1, fun i hi => by
    have h2 := h.2 i hi
    have ih := fun a w => wpAnyIn_of_plain (n := n) (P := P) (md := md) (Q := Q) (l := l) hlet hnd fuel (listed.setIfInBounds i true) a w
    unfold wpOp at h2
    unfold wpOpIn
    cases ho : ops[i]? with
    | none =>
      rw [ho] at h2
      exact ih _ _ h2
    | some o =>
      rw [ho] at h2
      simp only at h2 ⊢
      by_cases hw : Region.wanted o (yielded ops a.tmps) = true
      · rw [if_pos hw] at h2 ⊢
        refine ⟨fun _ _ => trivial, ?_⟩
        rcases h2 with h3 | h3
        · rw [Oper.semAt_eq _ _ _ (hnd i o ho)]
          exact uponIn_of ih _ h3
        · exact absurd h3.2 hlet
      · rw [if_neg hw] at h2 ⊢
        exact ⟨fun _ _ => trivial, ih _ _ h2⟩⟩
/-- a region in a round, an operation first that S settles. -/
theorem wpIn_held_round {n lp id : Nat} {P : Program} {Q : Exit → Act → World → Prop} {a : Act} {w : World} {l : List Oper} (S : World → Prop) (hm : P.follows .mixedOrders = true) (hlet : ¬ LetsOut Q)
    (hnd : (l.all fun (o : Oper) => match o.op with | .defer _ => false | _ => true) = true) (hS : S w.drew)
    (h : S w.drew → wpAnyH P .any l.toArray Q S l.toArray.size (Array.replicate l.toArray.size false) a w.drew) : (Code.region id l.toArray true).wpIn (Fence.wide.inRound lp) n P Q a w := by
  refine wpIn_region_any hm (wpAnyIn_of_plain hlet (fun i o ho c hc => ?_) _ _ _ _ (wpAny_of_held _ _ _ _ (h hS)))
  have hm : o ∈ l := by
    have := Array.mem_of_getElem? ho
    simpa using this
  have := List.all_eq_true.1 hnd o hm
  rw [hc] at this
  simp at this

/-- marks of ranges left behind one another. -/
def mkD (D : Nat) : Deferred := { target := .collected D, args := #[] }
def OpenD (B : Nat) (w : World) (Ds : List Nat) : Prop := Ds.Nodup ∧ ∀ D ∈ Ds, B ≤ D ∧ w.heap[D]? = some (.deferred (some []))
theorem OpenD.nil (B : Nat) (w : World) : OpenD B w [] := ⟨List.Pairwise.nil, fun D h => by cases h⟩
theorem OpenD.above {B : Nat} {w w' : World} {Ds : List Nat} (h : OpenD B w Ds) (hb : Above B w w') : OpenD B w' Ds := ⟨h.1, fun D hD => by
  obtain ⟨h1, h2⟩ := h.2 D hD
  exact ⟨h1, (hb.2 D h1 (Array.getElem?_eq_some_iff.1 h2).1).trans h2⟩⟩
theorem OpenD.below {B : Nat} {w w' : World} {Ds : List Nat} (h : OpenD B w Ds) (hb : Below w.heap.size w w') : OpenD B w' Ds := h.above (Above.below hb)
theorem OpenD.lt {B : Nat} {w : World} {Ds : List Nat} (h : OpenD B w Ds) : ∀ D ∈ Ds, D < w.heap.size := fun D hD => (Array.getElem?_eq_some_iff.1 (h.2 D hD).2).1
theorem OpenD.set {B : Nat} {w : World} {Ds : List Nat} (h : OpenD B w Ds) {a : Addr} {v : Value} (hc : w.cell? a = some v) (u : Value) : OpenD B (w.setCell a u) Ds := ⟨h.1, fun D hD => by
  obtain ⟨h1, h2⟩ := h.2 D hD
  refine ⟨h1, (Below.heap_setCell _ _ _ _ (fun e => ?_)).trans h2⟩
  subst e
  simp [World.cell?, h2] at hc⟩
theorem OpenD.snoc {B : Nat} {w : World} {Ds : List Nat} (h : OpenD B w Ds) {D : Nat} (hD : B ≤ D) (hn : D ∉ Ds) (he : w.heap[D]? = some (.deferred (some []))) : OpenD B w (D :: Ds) := ⟨List.pairwise_cons.2 ⟨fun x hx e => hn (e ▸ hx), h.1⟩, fun x hx => by
  rcases List.mem_cons.1 hx with rfl | hx
  · exact ⟨hD, he⟩
  · exact h.2 x hx⟩
theorem leavesD {F : Fence} {n : Nat} {P : Program} {fn : Func} {tmps : Array Value} {R : Ending → World → Prop} (B : Nat) : ∀ (Ds : List Nat) (w : World), B ≤ w.heap.size → OpenD B w Ds →
    (∀ w', Below B w w' → LeavesInM F n P fn tmps R [] .returning w') → LeavesInM F n P fn tmps R (Ds.map mkD) .returning w
  | [], w, _, _, h => h w (Below.refl _ _)
  | D :: Ds, w, hBw, ho, h => by
    obtain ⟨hD, he⟩ := ho.2 D (by simp)
    have hnd := List.pairwise_cons.1 ho.1
    have hg := grownBy_putObj' w D (.deferred none)
    have hb : Below B w (w.putObj D (.deferred none)) := (Below.refl B w).grown hg hBw (fun k e => by cases e; exact hD)
    refine ⟨by simp, .inl ⟨D, _, rfl, run_takeDeferred he, ?_⟩⟩
    refine leavesD B Ds _ (Nat.le_trans hBw hb.size) ⟨hnd.2, fun x hx => ?_⟩ (fun w' hb' => h w' (hb.trans hb'))
    obtain ⟨h1, h2⟩ := ho.2 x (List.mem_cons_of_mem _ hx)
    exact ⟨h1, (World.putObj_heap_other (fun e => hnd.1 x hx (by rw [e]))).trans h2⟩
end Go.Proofs.Ytohkkebiilaniaa.Tp

/- Heaps: which of two items goes ahead: the call again, whose draws are not taken back: what a sort asks for. -/
namespace Go.Proofs.Ytohkkebiilaniaa.Dr
set_option linter.unusedVariables false
open Go.RowKit
theorem Below.grow {W W' : World} (h : Below W.heap.size W W') : ∃ q os, W' = Go.Sort.grow (W.drewN q) os := by
  refine ⟨W'.drawn - W.drawn, W'.heap.extract W.heap.size W'.heap.size, ?_⟩
  have h1 : W.heap ++ W'.heap.extract W.heap.size W'.heap.size = W'.heap := by
    apply Array.ext_getElem?
    intro k
    by_cases hk : k < W.heap.size
    · rw [Array.getElem?_append_left hk, h.block k hk]
    · rw [Array.getElem?_append_right (by omega), Array.getElem?_extract]
      have := h.size
      by_cases hk2 : k < W'.heap.size
      · rw [if_pos (by omega)]
        congr 1
        omega
      · rw [if_neg (by omega), Array.getElem?_eq_none (by omega)]
  have h2 : W.drawn + (W'.drawn - W.drawn) = W'.drawn := by have := h.drawn; omega
  have h3 := h.os; have h4 := h.tape; have h5 := h.output
  unfold Go.Sort.grow World.drewN
  rw [h2]
  show W' = { W with heap := W.heap ++ W'.heap.extract W.heap.size W'.heap.size, drawn := W'.drawn }
  rw [h1, ← h3, ← h4, ← h5]
end Go.Proofs.Ytohkkebiilaniaa.Dr
namespace Go.Proofs.Ytohkkebiilaniaa.Hp
open Go.RowKit Go.Maps Go.Proofs.Ytohkkebiilaniaa.Tp
theorem cmp_dr (x d y e : Int) (h0 : -9223372036854775808 ≤ x) (h1 : x ≤ 9223372036854775807) (h2 : -9223372036854775808 ≤ d) (h3 : d ≤ 9223372036854775807) (k0 : -9223372036854775808 ≤ y) (k1 : y ≤ 9223372036854775807) (k2 : -9223372036854775808 ≤ e) (k3 : e ≤ 9223372036854775807) (w : World) :
    Calls Try.prog 36 #[.agg #[.int .i64 x, .int .i64 d], .agg #[.int .i64 y, .int .i64 e]] w fun E w' => E = .returned (.tuple #[.int .i64 (cmpR x d y e).1, .int .i64 (cmpR x d y e).2]) ∧ Dr.Below w.heap.size w w' := Dr.cmp_any x d y e h0 h1 h2 h3 k0 k1 k2 k3 w

set_option maxHeartbeats 1000000 in
theorem inTurn_dr (x y : It) (hx : OkI x) (hy : OkI y) (w : World) :
    Calls Try.prog 20 #[.agg #[.int .i64 (iD x), .int .i64 (kN x), .int .i64 (kD x), .int .i64 (tN x)], .agg #[.int .i64 (iD y), .int .i64 (kN y), .int .i64 (kD y), .int .i64 (tN y)]] w fun e w' => e = .returned (.int .i64 (turnZ x y)) ∧ Dr.Below w.heap.size w w' := by
  have c1 := hidd (fun W => cmp_dr (kN x) (kD x) (kN y) (kD y) hx.n0 hx.n1 hx.d0 hx.d1 hy.n0 hy.n1 hy.d0 hy.d1 W)
  have e1 : cmpR (kN x) (kD x) (kN y) (kD y) = (ordZ (kN x * kD y) (kN y * kD x), 0) := by simp [cmpR, hx.r, hy.r]
  rw [e1] at c1
  have c2 := hidd (fun a b W => Try.cmp_Compare_int a b W)
  have c3 := hidd (fun b c a d r hr W => or2_any b c a d r hr W)
  have hR : Hid (turnZ x y = if ordZ (kN x * kD y) (kN y * kD x) = 0 then Lib.compareInt (tN x) (tN y) else ordZ (kN x * kD y) (kN y * kD x)) := rfl
  clear e1 hx hy
  generalize turnZ x y = R at *
  generalize ordZ (kN x * kD y) (kN y * kD x) = z at *
  generalize iD x = a0 at *
  generalize kN x = a1 at *
  generalize kD x = a2 at *
  generalize tN x = a3 at *
  generalize iD y = b0 at *
  generalize kN y = b1 at *
  generalize kD y = b2 at *
  generalize tN y = b3 at *
  go_enter Try.func20, Try.ntmps20
  go_wp2_with fail
  refine (c1.out _).mono ?_
  rintro E w1 ⟨rfl, hb⟩
  obtain ⟨bc, bf⟩ := Dr.bcell hb
  have z2 : w.heap.size + 1 < w1.heap.size := by have := hb.size; simp at this; omega
  go_wp2_with fail
  refine (c2.out _ _ _).mono ?_
  rintro E w2 ⟨rfl, rfl⟩
  go_wp2_with fail
  refine (c3.out _ 2 z (Lib.compareInt a3 b3) R hR.out _ (by simp [go_sem]) (by simp [go_sem])).mono ?_
  rintro E w3 ⟨rfl, rfl⟩
  go_wp2_with fail
  go_ret
  exact ⟨rfl, by (repeat' (first | (with_reducible exact Dr.Below.refl _ _) | (with_reducible assumption) | (with_reducible apply Dr.Below.setCell) | (with_reducible apply Dr.Below.alloc) | (with_reducible apply Dr.Below.drew) | (with_reducible apply Dr.below_drewN) | (with_reducible refine Dr.Below.trans ?_ (Dr.Below.mono (by assumption) ?_)) | omega | (simp; done) | (simp; omega)))⟩
end Go.Proofs.Ytohkkebiilaniaa.Hp

/- Heaps: the library's sort puts items in order. -/
namespace Go.Proofs.Ytohkkebiilaniaa.Hp
set_option linter.unusedVariables false
open Go.RowKit Go.Maps Go.Shelf Go.Sort Go.Lib Go.Proofs.Ytohkkebiilaniaa.Tp

/-- items that may be. -/
abbrev IO : Type := { x : It // OkI x }
def ioI (x : IO) : It := x.1
theorem okI0 : OkI (0, 0, 1, 0) := ⟨by decide, by decide, by decide, by decide, by decide, by decide, by decide, by decide, by decide⟩
instance : Inhabited IO := ⟨⟨(0, 0, 1, 0), okI0⟩⟩
def ioV (x : IO) : List Value := itV x.1
theorem ioV_len (x : IO) : (ioV x).length = 4 := rfl
def ioC (x y : IO) : Int := turnZ x.1 y.1
theorem ioC_lt (x y : IO) : ltOf ioC x y = decide (Lt x.1 y.1) := by
  unfold ltOf ioC
  rw [decide_eq_decide]
  exact turnZ_lt x.1 y.1
theorem ioO : SWO (ltOf ioC) where
  irrefl x := by rw [ioC_lt]; simpa using lt_irrefl x.1
  trans x y z h1 h2 := by
    rw [ioC_lt] at *
    simp at *
    exact lt_of_lt_of_le x.2.pos y.2.pos z.2.pos h1 (le_of_lt h2)
  ntrans x y z h1 h2 := by
    rw [ioC_lt] at *
    simp at *
    exact le_trans z.2.pos y.2.pos x.2.pos h2 h1
theorem ioLays (blk off size : Nat) (w : World) : CmpLays Try.prog 20 #[] ioV 4 ioC blk off size w := fun m os dk hs x y =>
  (inTurn_dr x.1 y.1 x.2 y.2 _).mono fun e w' ⟨he, hb⟩ => ⟨he, hb.grow⟩
/-- the items of a list, as items that may be. -/
def toIO (L : List It) (h : OkL L) : List IO := L.attach.map fun x => ⟨x.1, h x.1 x.2⟩
theorem toIO_val (L : List It) (h : OkL L) : (toIO L h).map ioI = L := by
  unfold toIO
  rw [List.map_map]
  exact List.attach_map_subtype_val L
theorem toIO_len (L : List It) (h : OkL L) : (toIO L h).length = L.length := by simp [toIO]
theorem row_io (X : List IO) : rowOf ioV X = rowOf itV (X.map ioI) := by
  unfold rowOf
  rw [List.flatMap_map]
  rfl
theorem flat_io (d : Array IO) : (flatK ioV 4 d).toList = rowOf ioV d.toList := by
  apply List.ext_getElem?
  intro t
  have hl : (rowOf ioV d.toList).length = d.size * 4 := by rw [row_len ioV_len]; simp
  by_cases ht : t < d.size * 4
  · have h1 : t / 4 < d.size := by omega
    have e1 := row_at ioV_len d.toList (t / 4) d[t / 4] (by simp [h1])
    have e2 : t / 4 * 4 + t % 4 = t := by omega
    have h2 : t % 4 < (ioV d[t / 4]).length := by rw [ioV_len]; omega
    have e3 := e1 (t % 4) (ioV d[t / 4])[t % 4] (by simp [h2])
    rw [e2] at e3
    rw [e3, Array.getElem?_toList, Array.getElem?_eq_getElem (by simpa using ht)]
    have := get_flatK ioV 4 d t ht
    rw [getElem!_pos _ t (by simpa using ht), getElem!_pos d (t / 4) h1, getElem!_pos (ioV d[t / 4]) (t % 4) h2] at this
    rw [this]
  · rw [List.getElem?_eq_none (by simp; omega), List.getElem?_eq_none (by omega)]
theorem holds_own {w : World} {g : Nat} {cur : Array Value} {e : TypeId} {L : List IO} (hb : w.heap[g]? = some (.cells cur e (0, 0))) (ht : cur.toList.take (L.length * 4) = rowOf ioV L) : HoldsK ioV 4 w g 0 L.toArray := by
  intro j hj
  have hj' : j < L.length * 4 := by simpa using hj
  refine ⟨?_, by simp [World.frozen?, hb]⟩
  have h1 : (cur.toList.take (L.length * 4))[j]? = (rowOf ioV L)[j]? := by rw [ht]
  rw [List.getElem?_take_of_lt hj'] at h1
  have h2 : (flatK ioV 4 L.toArray).toList[j]? = (rowOf ioV L)[j]? := by rw [flat_io]
  rw [Array.getElem?_toList, Array.getElem?_eq_getElem (by simpa using hj')] at h2
  simp only [World.cell?, hb, Nat.zero_add, Option.isSome_none, Bool.false_eq_true, if_false]
  rw [← Array.getElem?_toList, h1, ← h2, getElem!_pos _ j hj]
  rfl
theorem heap_sortedK {w : World} {g n : Nat} {os : Array Obj} {cur : Array Value} {e : TypeId} {fr : Nat × Nat} (d : Array IO) (hb : w.heap[g]? = some (.cells cur e fr)) :
    (sortWorldK ioV 4 w g 0 n d os).heap[g]? = some (.cells (putCells id 0 (flatK ioV 4 d) cur) e fr) := by
  have hg : g < w.heap.size := (Array.getElem?_eq_some_iff.1 hb).1
  unfold sortWorldK
  rw [heap_grow_old _ _ (by rw [size_putRowK]; simpa using hg)]
  simp [putRowK, putRow, mapBlock, Sort.ahead, Array.getElem?_modify, hb, onCells]
theorem grownBy_sortedK {w : World} {g n : Nat} {os : Array Obj} (d : Array IO) : w.grownBy (sortWorldK ioV 4 w g 0 n d os) (some g) := by
  refine ⟨rfl, rfl, rfl, by unfold sortWorldK; simp [size_putRowK, Sort.ahead], fun k hk hne => ?_⟩
  unfold sortWorldK
  rw [heap_grow_old _ _ (by rw [size_putRowK]; simpa using hk)]
  have : g ≠ k := fun e => hne (by rw [e])
  simp [putRowK, putRow, mapBlock, Sort.ahead, Array.getElem?_modify, this]
theorem take_putK (cur F : Array Value) (h : F.size ≤ cur.size) : (putCells id 0 F cur).toList.take F.size = F.toList := by
  apply List.ext_getElem?
  intro j
  by_cases hj : j < F.size
  · rw [List.getElem?_take_of_lt hj, Array.getElem?_toList]
    simp [putCells, hj, show j < cur.size by omega]
  · rw [List.getElem?_take_eq_none (by omega), List.getElem?_eq_none (by simp; omega)]
theorem own_io {w : World} {base : Nat} {e : TypeId} {v : Value} {X : List IO} : OwnL ioV 4 w base e v X ↔ OwnL itV 4 w base e v (X.map ioI) := by
  unfold OwnL
  rw [row_io, List.length_map]
theorem own_sortedIO {w : World} {base g cap n : Nat} {e : TypeId} {os : Array Obj} {X : List IO} (h : OwnL ioV 4 w base e (.slice (some ⟨g, 0, none⟩) X.length cap) X) (d' : Array IO) (hd : d'.toList.length = X.length) :
    OwnL ioV 4 (sortWorldK ioV 4 w g 0 n d' os) base e (.slice (some ⟨g, 0, none⟩) X.length cap) d'.toList := by
  have hs : d'.size = X.length := by rw [← hd]; simp
  obtain ⟨h0, h1⟩ := h
  rcases h1 with ⟨hv, _⟩ | ⟨g', cap', cur, hv, hb, hh, hn, hm, hc, ht⟩
  · cases hv
  cases hv
  refine ⟨by rw [row_len ioV_len], .inr ⟨g, cap, _, by rw [hd], hb, heap_sortedK d' hh, by omega, hm, by simp [putCells, hc], ?_⟩⟩
  have e1 : d'.toList.length * 4 = (flatK ioV 4 d').size := by rw [size_flatK, hs, hd]
  rw [e1, take_putK _ _ (by rw [size_flatK, hs, hc]; exact Nat.mul_le_mul_right 4 hn), flat_io]
theorem own_holdsIO {w : World} {base g cap : Nat} {e : TypeId} {X : List IO} (h : OwnL ioV 4 w base e (.slice (some ⟨g, 0, none⟩) X.length cap) X) : HoldsK ioV 4 w g 0 X.toArray ∧ g < w.heap.size := by
  obtain ⟨_, h1⟩ := h
  rcases h1 with ⟨hv, _⟩ | ⟨g', cap', cur, hv, hb, hh, hn, hm, hc, ht⟩
  · cases hv
  cases hv
  exact ⟨holds_own hh ht, (Array.getElem?_eq_some_iff.1 hh).1⟩
/-- in order. -/
def Srt (L : List It) : Prop := L.Pairwise Le
theorem sortsItems (g cap base : Nat) (L : List It) (hok : OkL L) (W : World) (hL : L.length < 4611686018427387904) (hO : OwnL itV 4 W base 37 (.slice (some ⟨g, 0, none⟩) L.length cap) L) :
    Calls Try.prog 45 #[.slice (some ⟨g, 0, none⟩) L.length cap, .func (.func 20) #[] #[]] W fun e w' =>
      e = .returned (.tuple #[]) ∧ (∃ G, G.Perm L ∧ Srt G ∧ OwnL itV 4 w' base 37 (.slice (some ⟨g, 0, none⟩) G.length cap) G) ∧ W.grownBy w' (some g) := by
  have hX := own_io.2 (show OwnL itV 4 W base 37 (.slice (some ⟨g, 0, none⟩) (toIO L hok).length cap) ((toIO L hok).map ioI) from by rw [toIO_val, toIO_len]; exact hO)
  obtain ⟨hH, hb⟩ := own_holdsIO hX
  have eg : ∀ args w, (callFunc 20 args).run Try.prog w = .ok (.enter 20 args) w := enters_of Try.func20 (by kernel_rfl) rfl
  have h := AnyQ.slices_SortFunc Try.sortItem0 4 Try.isAgg37 Try.sizeOf37 ioV ioV_len (fun x => itV_one x.1) ioC ioO 20 #[] g 0 cap (toIO L hok).toArray W eg (ioLays g 0 (toIO L hok).toArray.size W) hH hb (by simp [toIO_len]; omega)
  change Calls Try.prog 45 _ _ _ at h
  rw [List.size_toArray, toIO_len] at h
  refine h.mono ?_
  rintro e w' ⟨rfl, d', n, os, hp, hs, rfl⟩
  have hperm : d'.toList.Perm (toIO L hok) := by
    have h1 := hp.2.2
    have e0 := hp.1
    simp [toIO_len] at h1 e0
    rw [List.take_of_length_le (by simp; omega), List.take_of_length_le (by rw [toIO_len]; exact Nat.le_refl _)] at h1
    exact h1
  have hl : d'.toList.length = (toIO L hok).length := hperm.length_eq
  refine ⟨rfl, ⟨d'.toList.map ioI, ?_, ?_, ?_⟩, grownBy_sortedK d'⟩
  · have := hperm.map ioI
    rwa [toIO_val] at this
  · unfold Srt
    rw [List.pairwise_map, List.pairwise_iff_getElem]
    intro i j hi hj hij
    have hj' : j < L.length := by rw [hl, toIO_len] at hj; exact hj
    have := hs i j (Nat.zero_le _) hij hj'
    rw [ioC_lt] at this
    simp at hi hj
    rw [getElem!_pos d' j hj, getElem!_pos d' i hi] at this
    simpa [Le, ioI] using this
  · have := own_io.1 (own_sortedIO (n := n) (os := os) hX d' hl)
    rw [List.length_map, hl]
    exact this
end Go.Proofs.Ytohkkebiilaniaa.Hp

/- Heaps: going over the items as they lie. -/
namespace Go.Proofs.Ytohkkebiilaniaa.Hp
set_option linter.unusedVariables false
open Go.RowKit Go.Maps Go.Sort Go.Shelf Go.Proofs.Ytohkkebiilaniaa.Tp
attribute [local go_sem] Oper.semAt_some

theorem Lie.it4 {w : World} {B : Nat} {A : Option Addr} {l : List It} (h : Lie itV 4 w B A l) (i : Nat) (hi : i < l.length) :
    ∃ ad, A = some ad ∧ (ad.add (i * 4)).block < B ∧ w.cell? (ad.add (i * 4)) = some (.int .i64 (iD (gI l i))) ∧ w.cell? ⟨(ad.add (i * 4)).block, (ad.add (i * 4)).off + 1, none⟩ = some (.int .i64 (kN (gI l i))) ∧ w.cell? ⟨(ad.add (i * 4)).block, (ad.add (i * 4)).off + 1 + 1, none⟩ = some (.int .i64 (kD (gI l i))) ∧ w.cell? ⟨(ad.add (i * 4)).block, (ad.add (i * 4)).off + 1 + 1 + 1, none⟩ = some (.int .i64 (tN (gI l i))) := by
  obtain ⟨ad, e, hB, hc⟩ := h (by omega)
  have hx : l[i]? = some l[i] := List.getElem?_eq_getElem hi
  rw [gI_at hi]
  have h0 := hc i _ hx 0 _ rfl
  have h1 := hc i _ hx 1 _ rfl
  have h2 := hc i _ hx 2 _ rfl
  have h3 := hc i _ hx 3 _ rfl
  rw [← add_of_add] at h1 h2 h3
  exact ⟨ad, e, by rw [block_of_add]; exact hB, h0, h1, h2, h3⟩
theorem take_oneI {L : List It} {k : Nat} (h : k < L.length) : L.take (k + 1) = L.take k ++ [gI L k] := by
  rw [gI_at h, List.take_succ_eq_append_getElem h]
set_option maxRecDepth 100000 in
set_option maxHeartbeats 4000000 in
theorem each1_some (n : Nat) (hn : 1 ≤ n) (q h mb : Nat) (v : Value) (L : List It) (T : Int) (D : DataW Unit) (w0 w : World) (H : HpAt w0 h mb v L T D) (hl : L.length ≤ 1000000) (hq : q < w0.heap.size) (hc : w0.cell? ⟨q, 0, none⟩ = some (.pointer (some ⟨h, 0, none⟩))) (hw : Below w0.heap.size w0 w) :
    SeqStopsK Fence.wide n Try.prog 46 #[.pointer (some ⟨q, 0, none⟩)] (fun x : It => #[agI x]) (Below w0.heap.size) (fun xs => xs = L) (fun pre => pre <+: L) L.length w := by
  intro l J Jx W hW hJ hJx hY h0
  have hB0 : Below w0.heap.size w0 W := hw.trans (hW.mono hw.size)
  obtain ⟨A, c, hv, hlc, hcm, hA⟩ := OwnL.lie H.own itV_len
  have FAC := hidd (fun W' (b : Below w0.heap.size w0 W') => (show W'.cell? ⟨q, 0, none⟩ = some (.pointer (some ⟨h, 0, none⟩)) ∧ W'.cell? ⟨h, 1, none⟩ = some v ∧ Lie itV 4 W' w0.heap.size A L from ⟨(b.cell (p := ⟨q, 0, none⟩) hq).trans hc, (b.cell (p := ⟨h, 1, none⟩) H.lt).trans H.c1, hA.keep b⟩))
  have ci := hidd (len_any W (H.below hB0))
  have HB0 := hidd hB0
  have HJ := hidd hJ
  have HY := hidd hY
  have H0 := hidd h0
  obtain ⟨PO, hPO⟩ : ∃ PO : Ending → World → Prop, (fun (e : Ending) (W' : World) => (∃ v, e = .returned v) ∧ ((∃ xs, xs = L ∧ J xs W') ∨ ∃ pre, pre <+: L ∧ Jx pre W')) = PO := ⟨_, rfl⟩
  rw [hPO]
  have HYES : Hid (∀ v W', J L W' → PO (.returned v) W') := hidd (fun v W' h => by rw [← hPO]; exact ⟨⟨_, rfl⟩, .inl ⟨_, rfl, h⟩⟩)
  have HNO : Hid (∀ v pre W', pre <+: L → Jx pre W' → PO (.returned v) W') := hidd (fun v pre W' h h2 => by rw [← hPO]; exact ⟨⟨_, rfl⟩, .inr ⟨_, h, h2⟩⟩)
  clear hW hJ hJx hY h0 hc hw hB0 hA H hPO hq
  subst hv
  obtain ⟨g0, g1, _⟩ := FAC.out W HB0.out
  refine callsIn_of_wp Try.func46 rfl trivial ?_ rfl
  simp only [Try.ntmps46, List.size_toArray, List.length_cons, List.length_nil, Nat.reduceAdd, Nat.reduceSub, Array.replicate_succ, Array.replicate_zero, List.push_toArray, List.append_toArray, List.nil_append, List.cons_append]
  refine wpIn_wide.2 ?_
  go_wp2_with fail
  refine ci.out.mono ?_
  rintro e w' ⟨rfl, rfl⟩
  clear g0 g1
  go_wp2_with fail
  refine (wpIn_wide (n := n)).1 ?_
  gi_loopw [6] (fun s6 wr => ∃ k : Nat, k ≤ L.length ∧ s6 = .int .i64 (k : Int) ∧ J (L.take k) wr ∧ Below w0.heap.size w0 wr) (fun s6 _ => L.length - (intOf s6).toNat)
  case atStart => exact ⟨0, Nat.zero_le _, rfl, by simpa using H0.out, HB0.out⟩
  case round =>
    obtain ⟨k, hk, rfl, hJk, hbk⟩ := hrel
    have HJK := hidd hJk
    have HBK := hidd hbk
    clear hJk hbk
    obtain ⟨g0, g1, hL⟩ := FAC.out wr HBK.out
    by_cases hlt : k < L.length
    · have hlt2 : (k : Int) < (L.length : Int) := by omega
      have hk0 : (0 : Int) ≤ (k : Int) := by omega
      obtain ⟨ad, rfl, hadb, hc0, hc1, hc2, hc3⟩ := Lie.it4 hL k hlt
      have htk := hidd (take_oneI hlt)
      have hlk : (L.take k).length < L.length := by rw [List.length_take]; omega
      obtain ⟨fn, tmps, assign, body, hy, hR⟩ := HY.out (L.take k) (gI L k) wr HJK.out hlk
      clear hlk hL
      unfold agI at hy
      generalize hgx : gI L k = x at *
      generalize iD x = a0 at *
      generalize kN x = a1 at *
      generalize kD x = a2 at *
      generalize tN x = a3 at *
      gi_wp2_with fail
      refine hR.mono ?_
      rintro e W4 (⟨rfl, hJ4, hk4⟩ | ⟨rfl, hJx⟩)
      · have HJ4 : Hid (J (L.take (k + 1)) W4) := hidd (by rw [htk.out]; exact hJ4)
        have HB4 := hidd (HBK.out.trans hk4)
        clear hJ4 hk4 hy hR hc0 hc1 hc2 hc3 g0 g1
        gi_wp2
        go_roundw
        case rel => exact ⟨k + 1, by omega, by go_num, HJ4.out, HB4.out⟩
        case measure => simp [intOf]; omega
      · have HJx : Hid (Jx (L.take (k + 1)) W4) := hidd (by rw [htk.out]; exact hJx)
        clear hJx hy hR hc0 hc1 hc2 hc3 g0 g1
        gi_wp2
        have hfin := fun v => HNO.out v _ _ (List.take_prefix _ _) HJx.out
        (try rw [Exit.noGoto_ret])
        first | exact hfin _ | exact bodyPost_ret (results_none rfl _ _ _) rfl (hfin _)
    · have hlt2 : ¬ (k : Int) < (L.length : Int) := by omega
      have he : Hid (L.take k = L) := hidd (List.take_of_length_le (by omega))
      gi_wp2
      have hfin : ∀ v, PO (.returned v) wr := fun v => HYES.out v _ (by rw [← he.out]; exact HJK.out)
      first | exact hfin _ | exact ⟨rfl, _, results_none rfl _ _ _, hfin _⟩ | (go_end0; exact hfin _)
end Go.Proofs.Ytohkkebiilaniaa.Hp

/- Heaps: all items, in order. -/
namespace Go.Proofs.Ytohkkebiilaniaa.Hp
set_option linter.unusedVariables false
open Go.RowKit Go.Maps Go.Sort Go.Shelf Go.Proofs.Ytohkkebiilaniaa.Tp
attribute [local go_sem] Oper.semAt_some

theorem itemInfo : (Try.prog.info? 37).map (fun i => (i.zero, i.size, i.bytes)) = some (some (.agg #[.int .i64 0, .int .i64 0, .int .i64 0, .int .i64 0]), 4, 32) := by kernel_rfl
theorem info_parts4 {P : Program} {t : TypeId} {z : Value} {n b : Nat} (h : (P.info? t).map (fun i => (i.zero, i.size, i.bytes)) = some (some z, n, b)) : ∃ i, P.info? t = some i ∧ i.zero = some z ∧ i.size = n ∧ i.bytes = b := by
  cases hi : P.info? t with
  | none => rw [hi] at h; cases h
  | some i => rw [hi] at h; simp at h; exact ⟨i, rfl, h.1, h.2.1, h.2.2⟩
theorem cell_four_new (w : World) (x y z u : Value) (t : TypeId) : ∀ j a, [x, y, z, u][j]? = some a → (w.alloc (.cells #[x, y, z, u] t)).cell? ((⟨w.heap.size, 0, none⟩ : Addr).add j) = some a := by
  intro j a hj
  match j, hj with
  | 0, hj => simp at hj; subst hj; simp [Addr.add, go_sem]
  | 1, hj => simp at hj; subst hj; simp [Addr.add, go_sem]
  | 2, hj => simp at hj; subst hj; simp [Addr.add, go_sem]
  | 3, hj => simp at hj; subst hj; simp [Addr.add, go_sem]
/-- a box that holds an item. -/
def ItemBox (W : World) (b : Nat) (x : It) : Prop := b < W.heap.size ∧ Cells4 W b x
theorem ItemBox.kept2 {X Y : World} {b : Nat} {x : It} {row : Option Nat} (h : ItemBox X b x) (hg : X.grownBy Y row) (hr : ∀ r, row = some r → ∃ o : Obj, X.heap[r]? = some o ∧ o.isCells = false) : ItemBox Y b x :=
  ⟨Nat.lt_of_lt_of_le h.1 hg.size, cell_kept h.2.1 hg hr, cell_kept h.2.2.1 hg hr, cell_kept h.2.2.2.1 hg hr, cell_kept h.2.2.2.2 hg hr⟩
theorem ItemBox.new (w : World) (t : TypeId) (x : It) : ItemBox (w.alloc (.cells #[.int .i64 (iD x), .int .i64 (kN x), .int .i64 (kD x), .int .i64 (tN x)] t)) w.heap.size x := ⟨by simp, by simp [go_sem], by simp [go_sem], by simp [go_sem], by simp [go_sem]⟩
set_option maxRecDepth 100000 in
set_option maxHeartbeats 4000000 in
theorem append_items (q h mb : Nat) (v0 : Value) (L : List It) (T : Int) (D : DataW Unit) (w : World) (H : HpAt w h mb v0 L T D) (hl : L.length ≤ 100000) (hq : q < w.heap.size) (hc : w.cell? ⟨q, 0, none⟩ = some (.pointer (some ⟨h, 0, none⟩))) :
    Calls Try.prog 59 #[.slice none 0 0, .func (.func 46) #[] #[.pointer (some ⟨q, 0, none⟩)]] w fun e w' => ∃ v', e = .returned v' ∧ OwnL itV 4 w' w.heap.size 37 v' L ∧ Below w.heap.size w w' := by
  obtain ⟨i0, hi, hz0, hz1, hz2⟩ := info_parts4 itemInfo
  have HIT := hidd (fun W (hW : Below w.heap.size w W) => each1_some (6 - 1) (by omega) q h mb v0 L T D w W H (by omega) hq hc hW)
  clear hc H hq
  refine (callsIn_wide (n := 6)).1 ?_
  refine callsIn_of_wp_marks Try.func59 rfl trivial ?_ rfl
  simp only [Try.ntmps59, List.size_toArray, List.length_cons, List.length_nil, Nat.reduceAdd, Nat.reduceSub, Array.replicate_succ, Array.replicate_zero, List.push_toArray, List.append_toArray, List.nil_append, List.cons_append]
  gi_wp2
  have bL := Boxed.new w 26 (.slice none 0 0)
  have hB0 : Below w.heap.size w (w.alloc (.cells #[.slice none 0 0] 26)) := (Below.refl _ w).alloc (Nat.le_refl _) _
  refine wpIn_rangeFunc_ownH rfl (by omega) (gf := 46) (lb := #[.pointer (some ⟨q, 0, none⟩)]) rfl trivial (enters_of Try.func46 (by kernel_rfl) rfl)
    (HIT.out _ hB0) belowK_t (belowK_b (by (first | omega | (simp; done) | (simp; omega)))) (Below.refl _ _) (fun _ => rfl)
    (fun pre W => (∃ v, Boxed W w.heap.size 26 v ∧ W.ownsRow w.heap.size 37 4 v pre.length (rowOf itV pre) ∧ True) ∧ Below w.heap.size w W)
    (fun _ _ _ => False)
    (OwnFrom.and (Own.from (holdsRow_own w.heap.size w.heap.size 26 37 4 (fun pre => pre.length) (fun pre => rowOf itV pre) (fun _ _ => True)) _) (ownFrom_below (Nat.le_refl _) (by (first | omega | (simp; done) | (simp; omega)))))
    (fun _ _ _ _ _ hs _ _ => hs)
    ⟨⟨_, bL, World.ownsRow_nil _ _ _ _, trivial⟩, hB0⟩
    (fun x a' W => ∃ Bx, w.heap.size < Bx ∧ ItemBox W Bx x ∧ a' = { tmps := #[.slice none 0 0, .func (.func 46) #[] #[.pointer (some ⟨q, 0, none⟩)], .pointer (some ⟨w.heap.size, 0, none⟩), undef, .slice none 0 0, .pointer (some ⟨Bx, 0, none⟩), .func (.func 46) #[] #[.pointer (some ⟨q, 0, none⟩)], .agg #[.int .i64 (iD x), .int .i64 (kN x), .int .i64 (kD x), .int .i64 (tN x)], undef, undef, undef, undef, undef], defers := [] })
    (fun x a' _ X Y row hs hg hr => by obtain ⟨Bx, h1, h2, h3⟩ := hs; exact ⟨Bx, h1, h2.kept2 hg (fun r e => (hr r e).2), h3⟩)
    ?assign ?body ?done ?stop
  case assign =>
    rintro l pre x W K ⟨⟨v, hv, hrow, _⟩, hB⟩ hK
    unfold agI
    gi_wp2
    exact hK _ _ ((KeepsOthers.alloc _ _).from _) ((Below.refl _ W).alloc hB.size _) ⟨⟨_, hv.alloc _, hrow.alloc _, trivial⟩, hB.alloc hB.size _⟩ ⟨W.heap.size, hv.lt, ItemBox.new W _ _, rfl⟩
  case body =>
    rintro l pre x a' W hl' ⟨r, hr⟩ ⟨⟨v, hv, hrow, _⟩, hB⟩ ⟨Bx, hBx, ⟨hb, x0, x1, x2, x3⟩, rfl⟩ hlt
    have hcv := hv.cell
    have hp : pre.length < 1000000 := by omega
    have hx := hidd (it_eta x)
    generalize iD x = a0 at *
    generalize kN x = a1 at *
    generalize kD x = a2 at *
    generalize tN x = a3 at *
    gi_wp2_with (gi_at_builtin; refine wpListIn_append_own _ rfl _ _ 26 rfl w.heap.size 37 i0 (.agg #[.int .i64 0, .int .i64 0, .int .i64 0, .int .i64 0]) 4 32 Try.underlying26 hi hz0 hz1 hz2 rfl (by decide) _ _ _ rfl (hrow.alloc _) ⟨W.heap.size, 0, none⟩ 1 1 [.int .i64 a0, .int .i64 a1, .int .i64 a2, .int .i64 a3] rfl rfl (cell_four_new _ _ _ _ _ _) (by simp [Value.oneCell']) (by unfold maxLen; omega) (by omega) (by have := hB.size; simp; omega) ?_; intro v' w1 hown' hgrow _; obtain ⟨g', cap', rfl⟩ := ownsRow_succ hown'; obtain ⟨hv1, hv2, hr2, hk2, hb2⟩ := hv.appended (by decide) hrow hB.size (Nat.le_refl _) hown' hgrow; have hc1 := hv1.cell; have hf1 := hv1.frozen)
    have hr3 : OwnL itV 4 _ w.heap.size 37 _ (pre ++ [(a0, a1, a2, a3)]) := OwnL.snoc (f := itV) (L := pre) (x := (a0, a1, a2, a3)) hr2 rfl rfl
    rw [hx.out]
    exact ⟨hk2.from _, hb2, And.intro ⟨_, hv2, hr3, trivial⟩ (hB.trans hb2)⟩
  case done =>
    rintro D ys W hD rfl ⟨⟨v, hv, hrow, _⟩, hB⟩ hK
    have hcv := hv.cell
    obtain ⟨A, c, rfl, _, _, _⟩ := OwnL.lie (f := itV) (L := ys) hrow itV_len
    have HO : Hid (OwnL itV 4 W w.heap.size 37 (.slice A ys.length c) ys) := hidd hrow
    have HB := hidd hB
    have HK := hidd hK
    clear hrow hv hB hK
    gi_wp2
    refine ⟨by simp, .inl ⟨_, _, rfl, run_takeDeferred HK.out, ?_⟩⟩
    exact ⟨_, results_tmp rfl _ _ _, .slice A ys.length c, rfl, ownsRow_putObj HO.out _ HK.out rfl, HB.out.trans (belowK_b (w := w) (Nat.le_refl _) W D _ _ (by simp at hD; omega) HK.out rfl rfl)⟩
  case stop =>
    rintro D c pre W _ _ h _
    exact h.elim
theorem collect_items (q h mb : Nat) (v0 : Value) (L : List It) (T : Int) (D : DataW Unit) (w : World) (H : HpAt w h mb v0 L T D) (hl : L.length ≤ 100000) (hq : q < w.heap.size) (hc : w.cell? ⟨q, 0, none⟩ = some (.pointer (some ⟨h, 0, none⟩))) :
    Calls Try.prog 44 #[.func (.func 46) #[] #[.pointer (some ⟨q, 0, none⟩)]] w fun e w' => ∃ A c, e = .returned (.slice A L.length c) ∧ OwnL itV 4 w' w.heap.size 37 (.slice A L.length c) L ∧ Below w.heap.size w w' := by
  have C := hidd (append_items q h mb v0 L T D w H hl hq hc)
  clear hq hc H hl
  go_enter Try.func44, Try.ntmps44
  go_wp2_with fail
  refine C.out.mono ?_
  rintro e w' ⟨v', rfl, ho, hb⟩
  obtain ⟨A, c, rfl, _, _, _⟩ := OwnL.lie ho itV_len
  have HO := hidd ho
  clear ho
  go_wp2_with fail
  go_ret
  exact ⟨A, c, rfl, HO.out, hb⟩
theorem sorted_items (q h mb : Nat) (v0 : Value) (L : List It) (T : Int) (D : DataW Unit) (w : World) (H : HpAt w h mb v0 L T D) (hok : OkL L) (hl : L.length ≤ 100000) (hq : q < w.heap.size) (hc : w.cell? ⟨q, 0, none⟩ = some (.pointer (some ⟨h, 0, none⟩))) :
    Calls Try.prog 31 #[.func (.func 46) #[] #[.pointer (some ⟨q, 0, none⟩)], .func (.func 20) #[] #[]] w fun e w' => ∃ A c G, e = .returned (.slice A G.length c) ∧ G.Perm L ∧ Srt G ∧ OwnL itV 4 w' w.heap.size 37 (.slice A G.length c) G ∧ Below w.heap.size w w' := by
  have C := hidd (collect_items q h mb v0 L T D w H hl hq hc)
  have cs0 := hidd (fun p c W => AnyF.slices_SortFunc_none Try.sortItem0 p c (.func (.func 20) #[] #[]) W)
  change Hid (∀ p c W, Calls Try.prog 45 _ _ _) at cs0
  have cs1 := hidd (fun g cap W hO => sortsItems g cap w.heap.size L hok W (by omega) hO)
  clear hq hc H hok hl
  go_enter Try.func31, Try.ntmps31
  go_wp2_with fail
  refine C.out.mono ?_
  rintro e w1 ⟨A, c, rfl, ho, hb⟩
  have HO := hidd ho
  have HB := hidd hb
  clear hb
  by_cases hz : L = []
  · subst hz
    clear ho
    go_wp2_with fail
    refine (cs0.out _ _ _).mono ?_
    rintro e w2 ⟨rfl, rfl⟩
    go_wp2_with fail
    go_ret
    exact ⟨A, c, [], rfl, List.Perm.refl _, List.Pairwise.nil, HO.out, HB.out⟩
  · obtain ⟨m, hm⟩ : ∃ m, L.length = m + 1 := ⟨L.length - 1, by have := List.length_pos_iff.2 hz; omega⟩
    have ho2 := ho
    unfold OwnL at ho2
    rw [hm] at ho2
    obtain ⟨g, cap, e⟩ := ownsRow_succ ho2
    cases e
    have CS := hidd (cs1.out g c w1 ho)
    obtain ⟨hg0, _⟩ := OwnL.lt HO.out g rfl
    have HG := hidd hg0
    clear ho ho2 hm hg0
    generalize hN : L.length = N at *
    have HN := hidd hN
    clear hN
    go_wp2_with fail
    refine CS.out.mono ?_
    rintro e w2 ⟨rfl, ⟨G, hp, hs, hO2⟩, hg⟩
    have HF := hidd (show G.length = N ∧ G.Perm L ∧ Srt G ∧ OwnL itV 4 w2 w.heap.size 37 (.slice (some ⟨g, 0, none⟩) G.length c) G ∧ Below w.heap.size w w2 from ⟨hp.length_eq.trans HN.out, hp, hs, hO2, HB.out.grown hg HB.out.size (fun k e => by cases e; exact HG.out)⟩)
    clear hp hs hO2 hg
    go_wp2_with fail
    go_ret
    obtain ⟨f0, f1, f2, f3, f4⟩ := HF.out
    exact ⟨some ⟨g, 0, none⟩, c, G, by rw [f0]; rfl, f1, f2, f3, f4⟩
theorem all_items {R : Nat → Prop} {h : Nat} {M : List It} {T : Int} (w : World) (H : HR R w h M T) :
    Calls Try.prog 12 #[.pointer (some ⟨h, 0, none⟩)] w fun e w' => ∃ q A c G, e = .returned (.func (.func 43) #[] #[.pointer (some ⟨q, 0, none⟩)]) ∧ G.Perm M ∧ Srt G ∧ OwnL itV 4 w' w.heap.size 37 (.slice A G.length c) G ∧ w'.cell? ⟨q, 0, none⟩ = some (.slice A G.length c) ∧ w.heap.size ≤ q ∧ q < w'.heap.size ∧ Below w.heap.size w w' := by
  obtain ⟨ht, mb, v, L, D, p, hH, hR⟩ := H
  have c1 := hidd (fun W => each_any (some ⟨h, 0, none⟩) W)
  have c2 := hidd (fun W (hb : Below w.heap.size w W) q (hq : q < W.heap.size) (hc : W.cell? ⟨q, 0, none⟩ = some (.pointer (some ⟨h, 0, none⟩))) => sorted_items q h mb v L T D W (hH.at_.below hb) hH.ok hH.lm hq hc)
  have c3 := hidd (fun A n c W => values_any (.slice A n c) ⟨_, _, _, rfl⟩ W)
  have P := hidd p
  clear ht hH hR p
  go_enter Try.func12, Try.ntmps12
  go_wp2_with fail
  refine (c1.out _).mono ?_
  rintro e w1 ⟨rfl, h1⟩
  have B1 := hidd (h1 ▸ below_new (Below.refl _ _) _ : Below w.heap.size w w1)
  have s1 : w.heap.size < w1.heap.size := by rw [h1]; simp
  have x1 : w1.cell? ⟨w.heap.size, 0, none⟩ = some (.pointer (some ⟨h, 0, none⟩)) := by rw [h1]; simp [go_sem]
  clear h1
  go_wp2_with fail
  refine (c2.out _ B1.out _ s1 x1).mono ?_
  rintro e w2 ⟨A, c, G, rfl, hp, hs, ho, h2⟩
  have B2 := hidd (B1.out.trans (h2.mono B1.out.size))
  have F := hidd (show G.Perm M ∧ Srt G ∧ OwnL itV 4 w2 w.heap.size 37 (.slice A G.length c) G from ⟨hp.trans P.out, hs, by
    obtain ⟨h0, h1⟩ := ho
    refine ⟨h0, ?_⟩
    rcases h1 with h | ⟨g, cap, cur, e1, e2, e3⟩
    · exact .inl h
    · exact .inr ⟨g, cap, cur, e1, by omega, e3⟩⟩)
  clear h2 x1 s1 hp hs ho
  generalize hN : G.length = N at *
  have HN := hidd hN
  clear hN
  go_wp2_with fail
  refine (c3.out _ _ _ _).mono ?_
  rintro e w3 ⟨rfl, h3⟩
  have B3 := hidd (h3 ▸ below_new B2.out _ : Below w.heap.size w w3)
  have B23 := hidd (h3 ▸ below_new (Below.refl _ _) _ : Below w2.heap.size w2 w3)
  have s3 : w2.heap.size < w3.heap.size := by rw [h3]; simp
  have x3 : w3.cell? ⟨w2.heap.size, 0, none⟩ = some (.slice A N c) := by rw [h3]; simp [go_sem]
  clear h3
  go_wp2_with fail
  go_ret
  obtain ⟨f1, f2, f3⟩ := F.out
  obtain rfl := HN.out
  exact ⟨w2.heap.size, A, c, G, rfl, f1, f2, f3.below B23.out, x3, B2.out.size, s3, B3.out⟩
end Go.Proofs.Ytohkkebiilaniaa.Hp

/- Heaps: going over a list of items. -/
namespace Go.Proofs.Ytohkkebiilaniaa.Hp
set_option linter.unusedVariables false
open Go.RowKit Go.Maps Go.Sort Go.Shelf Go.Proofs.Ytohkkebiilaniaa.Tp
attribute [local go_sem] Oper.semAt_some

set_option maxRecDepth 100000 in
set_option maxHeartbeats 4000000 in
theorem values1_some (n : Nat) (hn : 1 ≤ n) (q : Nat) (A : Option Addr) (c : Nat) (L : List It) (w0 w : World) (hlc : L.length ≤ c) (hcm : c ≤ maxLen) (hA : Lie itV 4 w0 w0.heap.size A L) (hq : q < w0.heap.size) (hc : w0.cell? ⟨q, 0, none⟩ = some (.slice A L.length c)) (hw : Below w0.heap.size w0 w) :
    SeqStopsK Fence.wide n Try.prog 43 #[.pointer (some ⟨q, 0, none⟩)] (fun x : It => #[agI x]) (Below w0.heap.size) (fun xs => xs = L) (fun pre => pre <+: L) L.length w := by
  have hL0 : L.length ≤ 9223372036854775807 := by unfold maxLen at hcm; omega
  intro l J Jx W hW hJ hJx hY h0
  have hB0 : Below w0.heap.size w0 W := hw.trans (hW.mono hw.size)
  have FAC := hidd (fun W' (b : Below w0.heap.size w0 W') => (show W'.cell? ⟨q, 0, none⟩ = some (.slice A L.length c) ∧ Lie itV 4 W' w0.heap.size A L from ⟨(b.cell (p := ⟨q, 0, none⟩) hq).trans hc, hA.keep b⟩))
  have HB0 := hidd hB0
  have HJ : Hid (∀ (s : List It) (W1 W2 : World), Below w0.heap.size w0 W1 → J s W1 → Below W1.heap.size W1 W2 → J s W2) := hidd (fun s W1 W2 b h1 h2 => abides_below hJ h1 h2)
  have HY := hidd hY
  have H0 := hidd h0
  obtain ⟨PO, hPO⟩ : ∃ PO : Ending → World → Prop, (fun (e : Ending) (W' : World) => (∃ v, e = .returned v) ∧ ((∃ xs, xs = L ∧ J xs W') ∨ ∃ pre, pre <+: L ∧ Jx pre W')) = PO := ⟨_, rfl⟩
  rw [hPO]
  have HYES : Hid (∀ v W', J L W' → PO (.returned v) W') := hidd (fun v W' h => by rw [← hPO]; exact ⟨⟨_, rfl⟩, .inl ⟨_, rfl, h⟩⟩)
  have HNO : Hid (∀ v pre W', pre <+: L → Jx pre W' → PO (.returned v) W') := hidd (fun v pre W' h h2 => by rw [← hPO]; exact ⟨⟨_, rfl⟩, .inr ⟨_, h, h2⟩⟩)
  clear hW hJ hJx hY h0 hc hw hB0 hA hPO hq
  obtain ⟨g0, _⟩ := FAC.out W HB0.out
  refine callsIn_of_wp Try.func43 rfl trivial ?_ rfl
  simp only [Try.ntmps43, List.size_toArray, List.length_cons, List.length_nil, Nat.reduceAdd, Nat.reduceSub, Array.replicate_succ, Array.replicate_zero, List.push_toArray, List.append_toArray, List.nil_append, List.cons_append]
  refine wpIn_wide.2 ?_
  go_wp2_with fail
  clear g0
  refine (wpIn_wide (n := n)).1 ?_
  gi_loopw [7] (fun s7 wr => ∃ k : Nat, k ≤ L.length ∧ s7 = .int .i64 (k : Int) ∧ J (L.take k) wr ∧ Below w0.heap.size w0 wr) (fun s7 _ => L.length - (intOf s7).toNat)
  case atStart => exact ⟨0, Nat.zero_le _, rfl, by simpa using H0.out, HB0.out⟩
  case round =>
    obtain ⟨k, hk, rfl, hJk, hbk⟩ := hrel
    have HJK := hidd hJk
    have HBK := hidd hbk
    clear hJk hbk
    obtain ⟨_, hL⟩ := FAC.out wr HBK.out
    by_cases hlt : k < L.length
    · have hlt2 : (k : Int) < (L.length : Int) := by omega
      have hk0 : (0 : Int) ≤ (k : Int) := by omega
      obtain ⟨ad, rfl, hadb, hc0, hc1, hc2, hc3⟩ := Lie.it4 hL k hlt
      have htk := hidd (take_oneI hlt)
      have hlk : (L.take k).length < L.length := by rw [List.length_take]; omega
      obtain ⟨Wb, hWb⟩ : ∃ Wb, wr.alloc (.cells #[.int .i64 (iD (gI L k)), .int .i64 (kN (gI L k)), .int .i64 (kD (gI L k)), .int .i64 (tN (gI L k))] 37) = Wb := ⟨_, rfl⟩
      have hJb : J (L.take k) Wb := HJ.out _ wr Wb HBK.out HJK.out (hWb ▸ below_new (Below.refl _ _) _)
      have HBb := hidd (hWb ▸ below_new HBK.out _ : Below w0.heap.size w0 Wb)
      obtain ⟨fn, tmps, assign, body, hy, hR⟩ := HY.out (L.take k) (gI L k) Wb hJb hlk
      clear hlk hL hJb
      rw [← hWb] at hy
      unfold agI at hy
      have HW := hidd hWb
      clear hWb
      generalize hgx : gI L k = x at *
      generalize iD x = a0 at *
      generalize kN x = a1 at *
      generalize kD x = a2 at *
      generalize tN x = a3 at *
      gi_wp2_with fail
      rw [HW.out]
      refine hR.mono ?_
      rintro e W4 (⟨rfl, hJ4, hk4⟩ | ⟨rfl, hJx⟩)
      · have HJ4 : Hid (J (L.take (k + 1)) W4) := hidd (by rw [htk.out]; exact hJ4)
        have HB4 := hidd (HBb.out.trans hk4)
        clear hJ4 hk4 hy hR hc0 hc1 hc2 hc3
        gi_wp2
        go_roundw
        case rel => exact ⟨k + 1, by omega, by go_num, HJ4.out, HB4.out⟩
        case measure => simp [intOf]; omega
      · have HJx : Hid (Jx (L.take (k + 1)) W4) := hidd (by rw [htk.out]; exact hJx)
        clear hJx hy hR hc0 hc1 hc2 hc3
        gi_wp2
        have hfin := fun v => HNO.out v _ _ (List.take_prefix _ _) HJx.out
        (try rw [Exit.noGoto_ret])
        first | exact hfin _ | exact bodyPost_ret (results_none rfl _ _ _) rfl (hfin _)
    · have hlt2 : ¬ (k : Int) < (L.length : Int) := by omega
      have he : Hid (L.take k = L) := hidd (List.take_of_length_le (by omega))
      gi_wp2
      have hfin : ∀ v, PO (.returned v) wr := fun v => HYES.out v _ (by rw [← he.out]; exact HJK.out)
      first | exact hfin _ | exact ⟨rfl, _, results_none rfl _ _ _, hfin _⟩ | (go_end0; exact hfin _)
end Go.Proofs.Ytohkkebiilaniaa.Hp

/- Heaps: what the heap's calls and the document's do agree, where the list is the items in order. -/
namespace Go.Proofs.Ytohkkebiilaniaa.Hp
set_option linter.unusedVariables false
open Go.RowKit Go.Maps Go.Sort Go.Proofs.Ytohkkebiilaniaa.Tp

/-- the list is the heap's items, in order. -/
structure Agr (M : List It) (T : Int) (G : List It) (TG : Int) : Prop where
  p : G.Perm M
  s : Srt G
  t : TG = T
theorem Srt.at_ {G : List It} (h : Srt G) {i j : Nat} (hij : i < j) (hj : j < G.length) : Le (gI G i) (gI G j) := by
  rw [gI_at (by omega), gI_at hj]
  exact List.pairwise_iff_getElem.1 h i j (by omega) hj hij
theorem Has.perm {G M : List It} (p : G.Perm M) (id : Int) : Has G id ↔ Has M id := by
  unfold Has
  constructor
  · rintro ⟨x, hx, e⟩; exact ⟨x, p.mem_iff.1 hx, e⟩
  · rintro ⟨x, hx, e⟩; exact ⟨x, p.mem_iff.2 hx, e⟩
theorem mem_gI2 {G : List It} {i : Nat} (h : i < G.length) : gI G i ∈ G := by rw [gI_at h]; exact List.getElem_mem h
theorem putA_srt {G : List It} {x : It} {k : Nat} (hs : Srt G) (hG : ∀ y ∈ G, 0 < kD y) (hx : 0 < kD x) (h : At G x k) : Srt (putA G x k) := by
  obtain ⟨hk, h1, h2⟩ := h
  unfold Srt putA
  rw [List.pairwise_append]
  refine ⟨hs.sublist (List.take_sublist _ _), ?_, ?_⟩
  · rw [List.pairwise_cons]
    refine ⟨fun y hy => ?_, hs.sublist (List.drop_sublist _ _)⟩
    obtain ⟨j, hj, rfl⟩ := List.getElem_of_mem hy
    rw [List.getElem_drop]
    have hj' : k + j < G.length := by rw [List.length_drop] at hj; omega
    have h3 := h2 (by omega)
    rw [← gI_at hj']
    rcases Nat.eq_zero_or_pos j with rfl | hj0
    · exact le_of_lt h3
    · exact le_trans hx (hG _ (mem_gI2 (by omega))) (hG _ (mem_gI2 hj')) (le_of_lt h3) (hs.at_ (by omega) hj')
  · intro a ha b hb
    obtain ⟨i, hi, rfl⟩ := List.getElem_of_mem ha
    rw [List.getElem_take]
    have hi' : i < k := by rw [List.length_take] at hi; omega
    have hai : Le (gI G i) x := h1 i hi'
    rw [← gI_at (by omega)]
    rcases List.mem_cons.1 hb with rfl | hb
    · exact hai
    · obtain ⟨j, hj, rfl⟩ := List.getElem_of_mem hb
      rw [List.getElem_drop]
      have hj' : k + j < G.length := by rw [List.length_drop] at hj; omega
      rw [← gI_at hj']
      exact hs.at_ (by omega) hj'
theorem wo_srt {G : List It} (hs : Srt G) (n : Nat) : Srt (wo G n) := by
  unfold Srt wo
  have : (G.take n ++ G.drop (n + 1)).Sublist G := by
    have e := List.take_append_drop n G
    have d : (G.drop (n + 1)).Sublist (G.drop n) := by
      rw [show n + 1 = n + 1 from rfl, ← List.drop_drop]
      exact List.drop_sublist _ _
    have := (List.Sublist.refl (G.take n)).append d
    rwa [e] at this
  exact hs.sublist this
theorem wo_perm {G : List It} {n : Nat} (h : n < G.length) : (wo G n).Perm (G.erase (gI G n)) := by
  have h1 : G.Perm (gI G n :: wo G n) := by
    have e := List.take_append_drop n G
    have d : G.drop n = gI G n :: G.drop (n + 1) := by rw [gI_at h]; exact List.drop_eq_getElem_cons h
    unfold wo
    have : (G.take n ++ gI G n :: G.drop (n + 1)).Perm (gI G n :: (G.take n ++ G.drop (n + 1))) := List.perm_middle
    rw [← d, e] at this
    exact this
  have h2 := h1.erase (gI G n)
  rw [List.erase_cons_head] at h2
  exact h2.symm
theorem may_pos {id n d : Int} (h : mayB id n d = true) : 0 < d := by
  have := ((mayB_iff _ _ _).1 h).2.2
  simp [rightB] at this
  omega
section
variable {R : Nat → Prop} {W : World} {h : Nat} {M M' G G' : List It} {T T' TG TG' : Int} {B : Bool} {id n d : Int}
theorem agr_1 (H : HR R W h M T) (A : Agr M T G TG) (s : Step1 id n d M T M' T' G TG G' TG' B) : B = true ∧ Agr M' T' G' TG' := by
  obtain ⟨p, hs, rfl⟩ := A
  have hpos : ∀ y ∈ G, 0 < kD y := fun y hy => (H.ok y (p.mem_iff.1 hy)).pos
  obtain ⟨er, eg, h1, h2, rfl⟩ := s
  rcases h1 with ⟨m1, rfl, rfl, rfl⟩ | ⟨m1, q1, rfl, rfl, rfl⟩ | ⟨m1, q1, rfl, rfl, rfl⟩ <;> rcases h2 with ⟨m2, rfl, rfl, rfl⟩ | ⟨m2, q2, rfl, rfl, rfl⟩ | ⟨m2, q2, ⟨k, hk, rfl⟩, rfl, rfl⟩
  · exact ⟨rfl, p, hs, rfl⟩
  · rw [m1] at m2; cases m2
  · rw [m1] at m2; cases m2
  · rw [m1] at m2; cases m2
  · exact ⟨rfl, p, hs, rfl⟩
  · exact absurd ((Has.perm p id).2 q1) q2
  · rw [m1] at m2; cases m2
  · exact absurd ((Has.perm p id).1 q2) q1
  · exact ⟨rfl, (putA_perm _ _ _).trans (p.append_right _), putA_srt hs hpos (may_pos m1) hk, rfl⟩
theorem agr_2 (H : HR R W h M T) (A : Agr M T G TG) (s : Step2 id n d M T M' T' G TG G' TG' B) : B = true ∧ Agr M' T' G' TG' := by
  obtain ⟨p, hs, rfl⟩ := A
  have hpos : ∀ y ∈ G, 0 < kD y := fun y hy => (H.ok y (p.mem_iff.1 hy)).pos
  obtain ⟨rfl, rfl, er, eg, h1, h2, rfl⟩ := s
  rcases h1 with ⟨m1, rfl, rfl⟩ | ⟨m1, q1, rfl, rfl⟩ | ⟨m1, x, hx, ex, rfl, rfl⟩ <;> rcases h2 with ⟨m2, rfl, rfl⟩ | ⟨m2, q2, rfl, rfl⟩ | ⟨m2, ⟨i, k, hi, ei, hk, rfl⟩, rfl⟩
  · exact ⟨rfl, p, hs, rfl⟩
  · rw [m1] at m2; cases m2
  · rw [m1] at m2; cases m2
  · rw [m1] at m2; cases m2
  · exact ⟨rfl, p, hs, rfl⟩
  · exact absurd ((Has.perm p id).1 ⟨_, mem_gI2 hi, ei⟩) q1
  · rw [m1] at m2; cases m2
  · exact absurd ((Has.perm p id).2 ⟨x, hx, ex⟩) q2
  · have e : gI G i = x := H.ids (p.mem_iff.1 (mem_gI2 hi)) hx (ei.trans ex.symm)
    subst e
    have pw : (wo G i).Perm (M.erase (gI G i)) := (wo_perm hi).trans (p.erase _)
    have hpw : ∀ y ∈ wo G i, 0 < kD y := fun y hy => hpos y (List.mem_of_mem_erase ((wo_perm hi).mem_iff.1 hy))
    exact ⟨rfl, (putA_perm _ _ _).trans (pw.append_right _), putA_srt (wo_srt hs i) hpw (may_pos m1) hk, rfl⟩
theorem agr_3 (H : HR R W h M T) (A : Agr M T G TG) (s : Step3 id M T M' T' G TG G' TG' B) : B = true ∧ Agr M' T' G' TG' := by
  obtain ⟨p, hs, rfl⟩ := A
  obtain ⟨rfl, rfl, er, eg, h1, h2, rfl⟩ := s
  rcases h1 with ⟨q1, rfl, rfl⟩ | ⟨x, hx, ex, rfl, rfl⟩ <;> rcases h2 with ⟨q2, rfl, rfl⟩ | ⟨⟨i, hi, ei, rfl⟩, rfl⟩
  · exact ⟨rfl, p, hs, rfl⟩
  · exact absurd ((Has.perm p id).1 ⟨_, mem_gI2 hi, ei⟩) q1
  · exact absurd ((Has.perm p id).2 ⟨x, hx, ex⟩) q2
  · have e : gI G i = x := H.ids (p.mem_iff.1 (mem_gI2 hi)) hx (ei.trans ex.symm)
    subst e
    exact ⟨rfl, (wo_perm hi).trans (p.erase _), wo_srt hs i, rfl⟩
theorem srt_min (p : G.Perm M) (hs : Srt G) (hl : 0 < G.length) : MinOf M (gI G 0) := by
  refine ⟨p.mem_iff.1 (mem_gI2 hl), fun y hy => ?_⟩
  obtain ⟨j, hj, rfl⟩ := List.getElem_of_mem (p.mem_iff.2 hy)
  rw [← gI_at hj]
  rcases Nat.eq_zero_or_pos j with rfl | h0
  · exact le_refl _
  · exact hs.at_ h0 hj
theorem agr_4 (H : HR R W h M T) (A : Agr M T G TG) (s : Step4 M T M' T' G TG G' TG' B) : B = true ∧ Agr M' T' G' TG' := by
  obtain ⟨p, hs, rfl⟩ := A
  obtain ⟨rfl, rfl, y, is, z, it, h1, h2, hB⟩ := s
  rcases h1 with ⟨rfl, rfl, rfl, rfl⟩ | ⟨m1, rfl, rfl⟩ <;> rcases h2 with ⟨rfl, rfl, rfl, rfl⟩ | ⟨q2, rfl, rfl, rfl⟩
  · exact ⟨hB.2 ⟨rfl, rfl⟩, p, hs, rfl⟩
  · have := p.length_eq; simp at this; subst this; simp at q2
  · have := p.nil_eq; subst this; exact absurd m1.1 (by simp)
  · have e : y = gI G 0 := MinOf.uniq H.1 m1 (srt_min p hs q2)
    subst e
    exact ⟨hB.2 ⟨rfl, rfl⟩, (wo_perm q2).trans (p.erase _), wo_srt hs 0, rfl⟩
end
end Go.Proofs.Ytohkkebiilaniaa.Hp

/- Heaps: is a heap the document's. -/
namespace Go.Proofs.Ytohkkebiilaniaa.Hp
set_option linter.unusedVariables false
open Go.RowKit Go.Maps Go.Sort Go.Shelf Go.Proofs.Ytohkkebiilaniaa.Tp
attribute [local go_sem] Oper.semAt_some

theorem Tur.tail {x : It} {M : List It} {T : Int} (h : Tur (x :: M) T) : Tur M T := ⟨fun y hy => h.le y (List.mem_cons_of_mem _ hy), (List.nodup_cons.1 (by simpa using h.nd)).2⟩
theorem srt_uniq : ∀ {G G' : List It} {T : Int}, Tur G T → Srt G → Srt G' → G'.Perm G → G' = G
  | [], G', T, _, _, _, p => p.eq_nil
  | x :: G, [], T, _, _, _, p => by have := p.length_eq; simp at this
  | x :: G, y :: G', T, ht, hs, hs', p => by
    have hx : MinOf (x :: G) x := ⟨by simp, fun z hz => by
      rcases List.mem_cons.1 hz with rfl | hz
      · exact le_refl _
      · exact (List.pairwise_cons.1 hs).1 z hz⟩
    have hy : MinOf (x :: G) y := ⟨p.mem_iff.1 (by simp), fun z hz => by
      rcases List.mem_cons.1 (p.mem_iff.2 hz) with rfl | hz
      · exact le_refl _
      · exact (List.pairwise_cons.1 hs').1 z hz⟩
    have e := MinOf.uniq ht hx hy
    subst e
    rw [srt_uniq ht.tail (List.pairwise_cons.1 hs).2 (List.pairwise_cons.1 hs').2 (List.perm_cons x |>.1 p)]
theorem wp_only {P : Program} {c : Code} {K : Act → World → Prop} {Q : Exit → Act → World → Prop} {a : Act} {w : World} (h : c.wp P (Exit.then K (fun _ _ _ => False)) a w) : c.wp P (Exit.then K Q) a w :=
  Code.wp_mono (fun e a w h => by cases e <;> first | exact h | exact h.elim) h
set_option maxRecDepth 100000 in
set_option maxHeartbeats 8000000 in
theorem same_yes {R : Nat → Prop} {w : World} {h : Nat} {M : List It} {T : Int} (H : HR R w h M T) {v : Value} {G : List It} {TG : Int} (HG : RL w v G) (hp : G.Perm M) (hs : Srt G) (hl : G.length ≤ 1000000) :
    Calls Try.prog 8 #[.pointer (some ⟨h, 0, none⟩), .agg #[v, .int .i64 TG]] w fun e w' => e = .returned (.bool true) ∧ Below w.heap.size w w' := by
  have hq := fun f fs cs w => eq_nilFunc f fs cs w
  obtain ⟨A, c, hv, hlc, hcm, hLie⟩ := OwnL.lie HG itV_len
  subst hv
  obtain ⟨W1, hW1⟩ : ∃ W1, (w.alloc (.cells #[.slice A G.length c, .int .i64 TG] 28)).alloc (.cells #[.bool false] 4) = W1 := ⟨_, rfl⟩
  have hz1 : W1.heap.size = w.heap.size + 2 := by rw [← hW1]; simp
  have hB1 : Below w.heap.size w W1 := by rw [← hW1]; (repeat' (first | (with_reducible exact Below.refl _ _) | (with_reducible assumption) | (with_reducible apply Below.setCell) | (with_reducible apply Below.alloc) | (with_reducible apply Below.drew) | (with_reducible apply below_drewN) | (with_reducible refine Below.trans ?_ (Below.mono (by assumption) ?_)) | omega | (simp; done) | (simp; omega)))
  have g0 : W1.cell? ⟨w.heap.size, 0, none⟩ = some (.slice A G.length c) := by rw [← hW1]; simp [go_sem]
  have r0 : W1.cell? ⟨w.heap.size + 1, 0, none⟩ = some (.bool false) := by rw [← hW1]; simp [go_sem]
  have r1 : W1.frozen? ⟨w.heap.size + 1, 0, none⟩ = false := by rw [← hW1]; simp [go_sem]
  have cA := hidd (fun W (b : Below w.heap.size w W) => all_items W (H.below b))
  have cL := hidd (fun W (b : Below w.heap.size w W) => leastH (H.below b))
  have cE := hidd (fun W (b : Below w.heap.size w W) => lenR (H.below b))
  have HP := hidd hp
  have HS := hidd hs
  have HT := hidd H.1
  have HL := hidd hLie
  have HW := hidd hW1
  have HB1 := hidd hB1
  have HZ := hidd hz1
  have G0 := hidd g0
  have R0 := hidd r0
  have R1 := hidd r1
  clear hp hs hLie H HG hW1 hB1 hz1 g0 r0 r1
  refine (callsIn_wide (n := 6)).1 ?_
  refine callsIn_of_wp_marks Try.func8 rfl trivial ?_ rfl
  simp only [Try.ntmps8, List.size_toArray, List.length_cons, List.length_nil, Nat.reduceAdd, Nat.reduceSub, Array.replicate_succ, Array.replicate_zero, List.push_toArray, List.append_toArray, List.nil_append, List.cons_append]
  gi_wp2_with fail
  rw [HW.out]
  refine ⟨trivial, ?_⟩; gi_at_call 12; refine (callsIn_wide.2 (cA.out _ HB1.out)).mono ?_; rintro e w2 ⟨q, A2, c2, G2, rfl, hp2, hs2, ho2, hc2, hq1, hq2, hb2⟩
  have e2 : G2 = G := srt_uniq (HT.out.perm HP.out.symm) HS.out hs2 (hp2.trans HP.out.symm)
  subst e2
  have HB2 := hidd (HB1.out.trans (hb2.mono HB1.out.size))
  have HB12 := hidd hb2
  have HO2 := hidd ho2
  have HC2 := hidd hc2
  have HQ := hidd (show W1.heap.size ≤ q ∧ q < w2.heap.size from ⟨hq1, hq2⟩)
  clear hp2 hs2 ho2 hc2 hq1 hq2 hb2
  gi_wp2_with fail
  obtain ⟨A3, c3, e3, hlc3, hcm3, lie3⟩ := OwnL.lie HO2.out itV_len
  cases e3
  have bN := Boxed.new w2 3 (.int .i64 0)
  have hB0 : Below w2.heap.size w2 (w2.alloc (.cells #[.int .i64 0] 3)) := (Below.refl _ w2).alloc (Nat.le_refl _) _
  have hs2 : w.heap.size + 1 < w2.heap.size := by have := HB12.out.size; have := HZ.out; omega
  have GG := hidd (fun W (b : Below w2.heap.size w2 W) => (show W.cell? ⟨w.heap.size, 0, none⟩ = some (.slice A G2.length c) ∧ Lie itV 4 W w.heap.size A G2 ∧ (W.cell? ⟨w.heap.size + 1, 0, none⟩ = some (.bool false) ∧ W.frozen? ⟨w.heap.size + 1, 0, none⟩ = false) from
    ⟨(b.cell (p := ⟨w.heap.size, 0, none⟩) (by show w.heap.size < _; omega)).trans ((HB12.out.cell (p := ⟨w.heap.size, 0, none⟩) (by have := HZ.out; show w.heap.size < _; omega)).trans G0.out), (HL.out.keep HB2.out).keep (b.mono (by omega)),
     (b.cell (p := ⟨w.heap.size + 1, 0, none⟩) hs2).trans ((HB12.out.cell (p := ⟨w.heap.size + 1, 0, none⟩) (by have := HZ.out; show w.heap.size + 1 < _; omega)).trans R0.out),
     (b.frozen (p := ⟨w.heap.size + 1, 0, none⟩) hs2).trans ((HB12.out.frozen (p := ⟨w.heap.size + 1, 0, none⟩) (by have := HZ.out; show w.heap.size + 1 < _; omega)).trans R1.out)⟩))
  have hmix : Try.prog.follows .mixedOrders = true := by kernel_rfl
  refine wpIn_rangeFunc_ownH rfl (by omega) (gf := 43) (lb := #[.pointer (some ⟨q, 0, none⟩)]) rfl trivial (enters_of Try.func43 (by kernel_rfl) rfl)
    (values1_some (6 - 1) (by omega) q A2 c2 G2 w2 _ hlc3 hcm3 lie3 HQ.out.2 HC2.out hB0) belowK_t (belowK_b (by (first | omega | (simp; done) | (simp; omega)))) (Below.refl _ _) (fun _ => rfl)
    (fun pre W => Boxed W w2.heap.size 3 (.int .i64 (pre.length : Int)) ∧ Below w2.heap.size w2 W)
    (fun _ xs _ => ∃ pre x, xs = pre ++ [x] ∧ x ≠ gI G2 pre.length ∧ pre.length < G2.length)
    (OwnFrom.and (Own.from (boxed_own w2.heap.size 3 (fun pre : List It => .int .i64 (pre.length : Int))) _) (ownFrom_below (Nat.le_refl _) (by (first | omega | (simp; done) | (simp; omega)))))
    (fun _ => ownFrom_pure _ _)
    ⟨bN, hB0⟩
    (fun x a' W => ∃ Bx, w2.heap.size < Bx ∧ ItemBox W Bx x ∧ a' = { tmps := #[.pointer (some ⟨h, 0, none⟩), .agg #[.slice A G2.length c, .int .i64 TG], undef, .pointer (some ⟨w.heap.size, 0, none⟩), .pointer (some ⟨w.heap.size + 1, 0, none⟩), .func (.func 43) #[] #[.pointer (some ⟨q, 0, none⟩)], .pointer (some ⟨w2.heap.size, 0, none⟩), .pointer (some ⟨Bx, 0, none⟩), undef, undef, .pointer (some ⟨h, 0, none⟩), .func (.func 43) #[] #[.pointer (some ⟨q, 0, none⟩)], .func (.func 43) #[] #[.pointer (some ⟨q, 0, none⟩)], .bool false, .func (.func 43) #[] #[.pointer (some ⟨q, 0, none⟩)], .agg #[.int .i64 (iD x), .int .i64 (kN x), .int .i64 (kD x), .int .i64 (tN x)], undef, undef, undef, undef, undef, undef, undef, undef, undef, undef, undef, undef, undef, undef, undef, undef, undef, undef, undef, undef, undef, undef, undef, undef, undef, undef, undef, undef, undef, undef, undef, undef, undef, undef, undef, undef, undef, undef, undef, undef, undef, undef, undef, undef, undef, undef, undef, undef, undef, undef], defers := [] })
    (fun x a' _ X Y row hs hg hr => by obtain ⟨Bx, h1, h2, h3⟩ := hs; exact ⟨Bx, h1, h2.kept2 hg (fun r e => (hr r e).2), h3⟩)
    ?assign ?body ?done ?stop
  case assign =>
    rintro l pre x W K ⟨hv, hB⟩ hK
    unfold agI
    gi_wp2
    exact hK _ _ ((KeepsOthers.alloc _ _).from _) ((Below.refl _ W).alloc hB.size _) ⟨hv.alloc _, hB.alloc hB.size _⟩ ⟨W.heap.size, hv.lt, ItemBox.new W _ _, rfl⟩
  case body =>
    rintro l pre x a' W hl' ⟨r, hr⟩ ⟨hv, hB⟩ ⟨Bx, hBx, ⟨hb, x0, x1, x2, x3⟩, rfl⟩ hlt
    have hcv := hv.cell
    have hfv := hv.frozen
    obtain ⟨gc, gl, gr, gf⟩ := GG.out W hB
    obtain ⟨ad, rfl, hadb, y0, y1, y2, y3⟩ := Lie.it4 gl pre.length hlt
    have z1 : ¬ (G2.length : Int) ≤ (pre.length : Int) := by omega
    have z2 : (pre.length : Int) < (G2.length : Int) := by omega
    have z0 : (0 : Int) ≤ (pre.length : Int) := by omega
    have hpm : (pre.length : Int) + 1 ≤ 1000000 := by omega
    have HV := hidd hv
    have HB := hidd hB
    have HLT := hidd hlt
    have eqq := fun W => item_run (iD x) (kN x) (kD x) (tN x) (iD (gI G2 pre.length)) (kN (gI G2 pre.length)) (kD (gI G2 pre.length)) (tN (gI G2 pre.length)) W
    rw [← it_eta, ← it_eta] at eqq
    have EB := hidd (eqB_iff (x := x) (y := gI G2 pre.length))
    clear hv hB gl hlt hr
    generalize hEQ : eqB x (gI G2 pre.length) = EQ at *
    clear hEQ
    have HX := hidd (rfl : x = x)
    generalize iD (gI G2 pre.length) = b0 at *
    generalize kN (gI G2 pre.length) = b1 at *
    generalize kD (gI G2 pre.length) = b2 at *
    generalize tN (gI G2 pre.length) = b3 at *
    generalize iD x = a0 at *
    generalize kN x = a1 at *
    generalize kD x = a2 at *
    generalize tN x = a3 at *
    generalize hPL : pre.length = pl at *
    generalize hGL : G2.length = gl2 at *
    have HPL := hidd hPL
    have HGL := hidd hGL
    clear hPL hGL
    have z5 : decide (gl2 ≤ pl) = false := decide_eq_false (by have := HLT.out; omega)
    cases EQ
    case true =>
      gi_wp2_with fail
      refine wpIn_quiet_round (F := Fence.wide) rfl hmix (by kernel_rfl) rfl ?_
      repeat (gi_big_quiet_step (fail))
      refine wpQuietIn_nil ?_
      intro _ hw'
      obtain ⟨nq, hw''⟩ := hw'
      subst hw''
      obtain ⟨X1, hX1⟩ : ∃ X1, W.drewN nq = X1 := ⟨_, rfl⟩
      rw [hX1]
      have hvx : Boxed X1 w2.heap.size 3 (.int .i64 (pl : Int)) := by rw [← hX1]; exact HV.out
      have hcx := hvx.cell
      have hfx := hvx.frozen
      have HVX := hidd hvx
      have HKX : Hid (KeepsOthers W X1) := hidd (by rw [← hX1]; exact ⟨Nat.le_refl _, fun _ _ h _ => h⟩)
      have HBX : Hid (Below W.heap.size W X1) := hidd (by rw [← hX1]; exact below_drewN (Below.refl _ _) _)
      have grx : X1.cell? ⟨w.heap.size + 1, 0, none⟩ = some (.bool false) := by rw [← hX1]; exact gr
      have gfx : X1.frozen? ⟨w.heap.size + 1, 0, none⟩ = false := by rw [← hX1]; exact gf
      have hwr : IntKind.i64.wrap ((pl : Int) + 1) = (pl : Int) + 1 := by rw [IntKind.wrap_i64]; omega
      clear hX1 hvx gr gf hcv hfv gc x0 x1 x2 x3 y0 y1 y2 y3
      gi_wp2_with fail
      refine ⟨(HKX.out.trans (KeepsOthers.setCell _ _ _)).from _, (HBX.out.mono HB.out.size).setCell (p := ⟨w2.heap.size, 0, none⟩) (Nat.le_refl _) _, And.intro ?_ (HB.out.trans ((HBX.out.mono HB.out.size).setCell (p := ⟨w2.heap.size, 0, none⟩) (Nat.le_refl _) _))⟩
      have := HVX.out.set (.int .i64 ((pl : Int) + 1))
      rw [List.length_append, HPL.out]
      simpa using this
    case false =>
      gi_wp2_with fail
      refine wpIn_quiet_round (F := Fence.wide) rfl hmix (by kernel_rfl) rfl ?_
      repeat (gi_big_quiet_step (fail))
      refine wpQuietIn_nil ?_
      intro _ hw'
      obtain ⟨nq, hw''⟩ := hw'
      subst hw''
      obtain ⟨X1, hX1⟩ : ∃ X1, W.drewN nq = X1 := ⟨_, rfl⟩
      rw [hX1]
      have hvx : Boxed X1 w2.heap.size 3 (.int .i64 (pl : Int)) := by rw [← hX1]; exact HV.out
      have hcx := hvx.cell
      have hfx := hvx.frozen
      have HVX := hidd hvx
      have HKX : Hid (KeepsOthers W X1) := hidd (by rw [← hX1]; exact ⟨Nat.le_refl _, fun _ _ h _ => h⟩)
      have HBX : Hid (Below W.heap.size W X1) := hidd (by rw [← hX1]; exact below_drewN (Below.refl _ _) _)
      have grx : X1.cell? ⟨w.heap.size + 1, 0, none⟩ = some (.bool false) := by rw [← hX1]; exact gr
      have gfx : X1.frozen? ⟨w.heap.size + 1, 0, none⟩ = false := by rw [← hX1]; exact gf
      have hwr : IntKind.i64.wrap ((pl : Int) + 1) = (pl : Int) + 1 := by rw [IntKind.wrap_i64]; omega
      clear hX1 hvx gr gf hcv hfv gc x0 x1 x2 x3 y0 y1 y2 y3
      gi_wp2_with fail
      refine ⟨(HKX.out.trans (KeepsOthers.setCell _ _ _)).from _, pre, x, rfl, fun e => ?_, ?_⟩
      · rw [HPL.out] at e
        exact absurd (EB.out.2 e) (by simp)
      · rw [HPL.out]; exact HLT.out
  case stop =>
    rintro D c' pre W _ hSp ⟨pre', x, rfl, hne, hlt'⟩ _
    exfalso
    apply hne
    obtain ⟨t, ht⟩ := hSp
    rw [← ht, gI_at (by simp)]
    simp
  case done =>
    rintro D ys W hD rfl ⟨hv, hB⟩ hK
    have hDl : D < W.heap.size := (Array.getElem?_eq_some_iff.1 hK).1
    have HBW := hidd (HB2.out.trans (hB.mono (by omega)))
    have HV := hidd hv
    have HB := hidd hB
    have HK := hidd hK
    have HDN := hidd (show w2.heap.size < D from by have := hD; simp at this; omega)
    clear hv hB hK hD
    gi_wp2_with fail
    refine ⟨trivial, ?_⟩; gi_at_call 16; refine (callsIn_wide.2 (cL.out _ HBW.out)).mono ?_; rintro e w3 ⟨⟨y, is, M', rfl, hT⟩, hb3⟩
    have HB3 := hidd (HB.out.trans (hb3.mono HB.out.size))
    have HBW3 := hidd (HBW.out.trans (hb3.mono HBW.out.size))
    have HK3 : Hid (w3.heap[D]? = some (.deferred (some []))) := hidd ((hb3.block D hDl).trans HK.out)
    have hvc := (hb3.cell (p := ⟨w2.heap.size, 0, none⟩) HV.out.lt).trans HV.out.cell
    obtain ⟨gc, gl, gr, gf⟩ := GG.out w3 HB3.out
    have hs3 : w2.heap.size < w3.heap.size := Nat.lt_of_lt_of_le HV.out.lt hb3.size
    have HT2 := hidd hT
    clear hb3 hT
    obtain ⟨y0, y1, y2, y3⟩ := y
    have hN0 : ys.length = M.length := HP.out.length_eq
    by_cases hz : ys = []
    · obtain ⟨ey, rfl⟩ : ((y0, y1, y2, y3) : It) = zI ∧ is = false := by
        rcases HT2.out with ⟨_, _, a, b⟩ | ⟨a, _⟩
        · exact ⟨a, b⟩
        · rw [hz] at hN0; have hM0 : M = [] := List.eq_nil_of_length_eq_zero (by simpa using hN0.symm); rw [hM0] at a; exact absurd a.1 (by simp)
      have zg : ¬ (0 : Int) < (ys.length : Int) := by rw [hz]; simp
      clear ey hz
      have CE0 := cE.out
      rw [← hN0] at CE0
      generalize hNN : ys.length = N at *
      have HNN := hidd hNN
      clear hNN
      clear hN0
      have zd : decide (0 < N) = false := decide_eq_false (by omega)
      unfold agI iD kN kD tN
      obtain ⟨W4, hW4⟩ : ∃ W4, w3.alloc (.cells #[.int .i64 y0, .int .i64 y1, .int .i64 y2, .int .i64 y3] 37) = W4 := ⟨_, rfl⟩
      have B34 : Below w3.heap.size w3 W4 := hW4 ▸ below_new (Below.refl _ _) _
      have k0 : W4.cell? ⟨w3.heap.size, 0, none⟩ = some (.int .i64 y0) := by rw [← hW4]; simp [go_sem]
      have k1 : W4.cell? ⟨w3.heap.size, 1, none⟩ = some (.int .i64 y1) := by rw [← hW4]; simp [go_sem]
      have k2 : W4.cell? ⟨w3.heap.size, 2, none⟩ = some (.int .i64 y2) := by rw [← hW4]; simp [go_sem]
      have k3 : W4.cell? ⟨w3.heap.size, 3, none⟩ = some (.int .i64 y3) := by rw [← hW4]; simp [go_sem]
      have vN := (B34.cell (p := ⟨w2.heap.size, 0, none⟩) hs3).trans hvc
      obtain ⟨gc4, gl4, gr4, gf4⟩ := GG.out W4 (HB3.out.trans (B34.mono (Nat.le_of_lt hs3)))
      have HB4 := hidd (HBW3.out.trans (B34.mono HBW3.out.size))
      have HD3 : D < w3.heap.size := (Array.getElem?_eq_some_iff.1 HK3.out).1
      have HK4 : Hid (W4.heap[D]? = some (.deferred (some []))) := hidd ((B34.block D HD3).trans HK3.out)
      have CEx : Hid (Calls Try.prog 19 #[.pointer (some ⟨h, 0, none⟩)] W4.drew fun e w' => e = .returned (.int .i64 (N : Int)) ∧ w' = W4.drew) := hidd ((CE0 W4.drew (HB4.out.trans (below_drewN (Below.refl _ _) 1))).mono fun e w' ⟨a, b⟩ => ⟨a, b.symm⟩)
      have h21 : w.heap.size + 1 < w2.heap.size := hs2
      have KEEP : Hid ((fun Y : World => Y.cell? ⟨w2.heap.size, 0, none⟩ = some (.int .i64 (N : Int)) ∧ Y.cell? ⟨w.heap.size, 0, none⟩ = some (.slice A N c) ∧ Y.cell? ⟨w3.heap.size, 0, none⟩ = some (.int .i64 y0) ∧ Y.cell? ⟨w3.heap.size, 1, none⟩ = some (.int .i64 y1) ∧ Y.cell? ⟨w3.heap.size, 2, none⟩ = some (.int .i64 y2) ∧ Y.cell? ⟨w3.heap.size, 3, none⟩ = some (.int .i64 y3)) (W4.drew.setCell ⟨w.heap.size + 1, 0, none⟩ (.bool true))) := hidd (by
        refine ⟨?_, ?_, ?_, ?_, ?_, ?_⟩ <;> refine (World.cell?_of_block (Below.heap_setCell _ _ _ _ (by dsimp only; omega))).trans ?_ <;> assumption)
      have HW4 := hidd hW4
      clear hW4 gc gl gr gf hvc B34 gl4 CE0
      gi_wp2_with fail
      rw [HW4.out]
      refine wpIn_wide.2 (wp_only ?_)
      refine wp_region_held_drew (S := (fun Y => Y.cell? ⟨w2.heap.size, 0, none⟩ = some (.int .i64 (N : Int)) ∧ Y.cell? ⟨w.heap.size, 0, none⟩ = some (.slice A N c) ∧ Y.cell? ⟨w3.heap.size, 0, none⟩ = some (.int .i64 y0) ∧ Y.cell? ⟨w3.heap.size, 1, none⟩ = some (.int .i64 y1) ∧ Y.cell? ⟨w3.heap.size, 2, none⟩ = some (.int .i64 y2) ∧ Y.cell? ⟨w3.heap.size, 3, none⟩ = some (.int .i64 y3))) (by kernel_rfl) ⟨vN, gc4, k0, k1, k2, k3⟩ (fun hH => ?_)
      refine wpAnyH_take (i := 0) (v := ?va0) (by (conv => lhs; simp only [List.getElem?_toArray, List.getElem?_cons_succ, List.getElem?_cons_zero])) (by kernel_rfl) (by kernel_rfl) (by kernel_rfl) ?hQ (Or.inl ⟨by rfl, ?hya0⟩) hH ?resta0
      case hQ => exact fun _ _ _ h => h
      case hya0 => (intro Y hY; obtain ⟨e0, e1, e2, e3, e4, e5⟩ := hY; go_simp; try (with_reducible rfl))
      try simp only [Act.put, List.setIfInBounds_toArray, List.set_cons_zero, List.set_cons_succ]
      refine wpAnyH_take (i := 1) (v := ?va1) (by (conv => lhs; simp only [List.getElem?_toArray, List.getElem?_cons_succ, List.getElem?_cons_zero])) (by kernel_rfl) (by kernel_rfl) (by kernel_rfl) ?hQ (Or.inl ⟨by rfl, ?hya1⟩) hH ?resta1
      case hQ => exact fun _ _ _ h => h
      case hya1 => (intro Y hY; obtain ⟨e0, e1, e2, e3, e4, e5⟩ := hY; go_simp; try (with_reducible rfl))
      try simp only [Act.put, List.setIfInBounds_toArray, List.set_cons_zero, List.set_cons_succ]
      refine wpAnyH_take (i := 2) (v := ?va2) (by (conv => lhs; simp only [List.getElem?_toArray, List.getElem?_cons_succ, List.getElem?_cons_zero])) (by kernel_rfl) (by kernel_rfl) (by kernel_rfl) ?hQ (Or.inl ⟨by rfl, ?hya2⟩) hH ?resta2
      case hQ => exact fun _ _ _ h => h
      case hya2 => (intro Y hY; obtain ⟨e0, e1, e2, e3, e4, e5⟩ := hY; go_simp; try (with_reducible rfl))
      try simp only [Act.put, List.setIfInBounds_toArray, List.set_cons_zero, List.set_cons_succ]
      refine wpAnyH_take (i := 3) (v := ?va3) (by (conv => lhs; simp only [List.getElem?_toArray, List.getElem?_cons_succ, List.getElem?_cons_zero])) (by kernel_rfl) (by kernel_rfl) (by kernel_rfl) ?hQ (Or.inl ⟨by rfl, ?hya3⟩) hH ?resta3
      case hQ => exact fun _ _ _ h => h
      case hya3 => (intro Y hY; obtain ⟨e0, e1, e2, e3, e4, e5⟩ := hY; go_simp; try (with_reducible rfl))
      try simp only [Act.put, List.setIfInBounds_toArray, List.set_cons_zero, List.set_cons_succ]
      refine wpAnyH_take (i := 4) (v := ?va4) (by (conv => lhs; simp only [List.getElem?_toArray, List.getElem?_cons_succ, List.getElem?_cons_zero])) (by kernel_rfl) (by kernel_rfl) (by kernel_rfl) ?hQ (Or.inl ⟨by rfl, ?hya4⟩) hH ?resta4
      case hQ => exact fun _ _ _ h => h
      case hya4 => (intro Y hY; obtain ⟨e0, e1, e2, e3, e4, e5⟩ := hY; go_simp; try (with_reducible rfl))
      try simp only [Act.put, List.setIfInBounds_toArray, List.set_cons_zero, List.set_cons_succ]
      refine wpAnyH_take (i := 5) (v := ?va5) (by (conv => lhs; simp only [List.getElem?_toArray, List.getElem?_cons_succ, List.getElem?_cons_zero])) (by kernel_rfl) (by kernel_rfl) (by kernel_rfl) ?hQ (Or.inl ⟨by rfl, ?hya5⟩) hH ?resta5
      case hQ => exact fun _ _ _ h => h
      case hya5 => (intro Y hY; obtain ⟨e0, e1, e2, e3, e4, e5⟩ := hY; go_simp; try (with_reducible rfl))
      try simp only [Act.put, List.setIfInBounds_toArray, List.set_cons_zero, List.set_cons_succ]
      refine wpAnyH_take (i := 6) (v := ?va6) (by (conv => lhs; simp only [List.getElem?_toArray, List.getElem?_cons_succ, List.getElem?_cons_zero])) (by kernel_rfl) (by kernel_rfl) (by kernel_rfl) ?hQ (Or.inl ⟨by rfl, ?hya6⟩) hH ?resta6
      case hQ => exact fun _ _ _ h => h
      case hya6 => (intro Y hY; obtain ⟨e0, e1, e2, e3, e4, e5⟩ := hY; go_simp; try (with_reducible rfl))
      try simp only [Act.put, List.setIfInBounds_toArray, List.set_cons_zero, List.set_cons_succ]
      refine wpAnyH_take (i := 8) (v := ?va8) (by (conv => lhs; simp only [List.getElem?_toArray, List.getElem?_cons_succ, List.getElem?_cons_zero])) (by kernel_rfl) (by kernel_rfl) (by kernel_rfl) ?hQ (Or.inl ⟨by rfl, ?hya8⟩) hH ?resta8
      case hQ => exact fun _ _ _ h => h
      case hya8 => (intro Y hY; obtain ⟨e0, e1, e2, e3, e4, e5⟩ := hY; go_simp; try (with_reducible rfl))
      try simp only [Act.put, List.setIfInBounds_toArray, List.set_cons_zero, List.set_cons_succ]
      refine wpAnyH_ready (rs := [7]) (by kernel_rfl) (by simp) ?_
      refine AllReadyH.cons (by (conv => lhs; simp only [List.getElem?_toArray, List.getElem?_cons_succ, List.getElem?_cons_zero])) (fun K hK => ?_) AllReadyH.nil
      go_simp
      go_at_call 19; refine CEx.out.mono ?_; rintro e w5 ⟨rfl, rfl⟩
      refine hK.out _ _ hH (fun hH1 => ?_)
      clear hK hH
      try simp only [Act.put, List.setIfInBounds_toArray, List.set_cons_zero, List.set_cons_succ]
      refine wpAnyH_take (i := 9) (v := ?vb9) (by (conv => lhs; simp only [List.getElem?_toArray, List.getElem?_cons_succ, List.getElem?_cons_zero])) (by kernel_rfl) (by kernel_rfl) (by kernel_rfl) ?hQ (Or.inl ⟨by rfl, ?hyb9⟩) hH1 ?restb9
      case hQ => exact fun _ _ _ h => h
      case hyb9 => (intro Y hY; obtain ⟨e0, e1, e2, e3, e4, e5⟩ := hY; go_simp; try (with_reducible rfl))
      try simp only [Act.put, List.setIfInBounds_toArray, List.set_cons_zero, List.set_cons_succ]
      refine wpAnyH_take (i := 10) (v := ?vb10) (by (conv => lhs; simp only [List.getElem?_toArray, List.getElem?_cons_succ, List.getElem?_cons_zero])) (by kernel_rfl) (by kernel_rfl) (by kernel_rfl) ?hQ (Or.inl ⟨by rfl, ?hyb10⟩) hH1 ?restb10
      case hQ => exact fun _ _ _ h => h
      case hyb10 => (intro Y hY; obtain ⟨e0, e1, e2, e3, e4, e5⟩ := hY; go_simp; try (with_reducible rfl))
      try simp only [Act.put, List.setIfInBounds_toArray, List.set_cons_zero, List.set_cons_succ]
      refine wpAnyH_take (i := 11) (v := ?vb11) (by (conv => lhs; simp only [List.getElem?_toArray, List.getElem?_cons_succ, List.getElem?_cons_zero])) (by kernel_rfl) (by kernel_rfl) (by kernel_rfl) ?hQ (Or.inl ⟨by rfl, ?hyb11⟩) hH1 ?restb11
      case hQ => exact fun _ _ _ h => h
      case hyb11 => (intro Y hY; obtain ⟨e0, e1, e2, e3, e4, e5⟩ := hY; go_simp; try (with_reducible rfl))
      try simp only [Act.put, List.setIfInBounds_toArray, List.set_cons_zero, List.set_cons_succ]
      refine wpAnyH_take (i := 12) (v := ?vb12) (by (conv => lhs; simp only [List.getElem?_toArray, List.getElem?_cons_succ, List.getElem?_cons_zero])) (by kernel_rfl) (by kernel_rfl) (by kernel_rfl) ?hQ (Or.inl ⟨by rfl, ?hyb12⟩) hH1 ?restb12
      case hQ => exact fun _ _ _ h => h
      case hyb12 => (intro Y hY; obtain ⟨e0, e1, e2, e3, e4, e5⟩ := hY; go_simp; try (with_reducible rfl))
      try simp only [Act.put, List.setIfInBounds_toArray, List.set_cons_zero, List.set_cons_succ]
      refine wpAnyH_take (i := 13) (v := ?vb13) (by (conv => lhs; simp only [List.getElem?_toArray, List.getElem?_cons_succ, List.getElem?_cons_zero])) (by kernel_rfl) (by kernel_rfl) (by kernel_rfl) ?hQ (Or.inl ⟨by rfl, ?hyb13⟩) hH1 ?restb13
      case hQ => exact fun _ _ _ h => h
      case hyb13 => (intro Y hY; obtain ⟨e0, e1, e2, e3, e4, e5⟩ := hY; go_simp; try (with_reducible rfl))
      try simp only [Act.put, List.setIfInBounds_toArray, List.set_cons_zero, List.set_cons_succ]
      refine wpAnyH_take (i := 14) (v := ?vb14) (by (conv => lhs; simp only [List.getElem?_toArray, List.getElem?_cons_succ, List.getElem?_cons_zero])) (by kernel_rfl) (by kernel_rfl) (by kernel_rfl) ?hQ (Or.inl ⟨by rfl, ?hyb14⟩) hH1 ?restb14
      case hQ => exact fun _ _ _ h => h
      case hyb14 => (intro Y hY; obtain ⟨e0, e1, e2, e3, e4, e5⟩ := hY; go_simp; try (with_reducible rfl))
      try simp only [Act.put, List.setIfInBounds_toArray, List.set_cons_zero, List.set_cons_succ]
      refine wpAnyH_take (i := 15) (v := ?vb15) (by (conv => lhs; simp only [List.getElem?_toArray, List.getElem?_cons_succ, List.getElem?_cons_zero])) (by kernel_rfl) (by kernel_rfl) (by kernel_rfl) ?hQ (Or.inl ⟨by rfl, ?hyb15⟩) hH1 ?restb15
      case hQ => exact fun _ _ _ h => h
      case hyb15 => (intro Y hY; obtain ⟨e0, e1, e2, e3, e4, e5⟩ := hY; go_simp; try (with_reducible rfl))
      try simp only [Act.put, List.setIfInBounds_toArray, List.set_cons_zero, List.set_cons_succ]
      refine wpAnyH_take (i := 16) (v := ?vb16) (by (conv => lhs; simp only [List.getElem?_toArray, List.getElem?_cons_succ, List.getElem?_cons_zero])) (by kernel_rfl) (by kernel_rfl) (by kernel_rfl) ?hQ (Or.inl ⟨by rfl, ?hyb16⟩) hH1 ?restb16
      case hQ => exact fun _ _ _ h => h
      case hyb16 => (intro Y hY; obtain ⟨e0, e1, e2, e3, e4, e5⟩ := hY; go_simp; try (with_reducible rfl))
      try simp only [Act.put, List.setIfInBounds_toArray, List.set_cons_zero, List.set_cons_succ]
      refine wpAnyH_take (i := 17) (v := ?vb17) (by (conv => lhs; simp only [List.getElem?_toArray, List.getElem?_cons_succ, List.getElem?_cons_zero])) (by kernel_rfl) (by kernel_rfl) (by kernel_rfl) ?hQ (Or.inl ⟨by rfl, ?hyb17⟩) hH1 ?restb17
      case hQ => exact fun _ _ _ h => h
      case hyb17 => (intro Y hY; obtain ⟨e0, e1, e2, e3, e4, e5⟩ := hY; go_simp; try (with_reducible rfl))
      try simp only [Act.put, List.setIfInBounds_toArray, List.set_cons_zero, List.set_cons_succ]
      refine wpAnyH_take (i := 18) (v := ?vb18) (by (conv => lhs; simp only [List.getElem?_toArray, List.getElem?_cons_succ, List.getElem?_cons_zero])) (by kernel_rfl) (by kernel_rfl) (by kernel_rfl) ?hQ (Or.inl ⟨by rfl, ?hyb18⟩) hH1 ?restb18
      case hQ => exact fun _ _ _ h => h
      case hyb18 => (intro Y hY; obtain ⟨e0, e1, e2, e3, e4, e5⟩ := hY; go_simp; try (with_reducible rfl))
      try simp only [Act.put, List.setIfInBounds_toArray, List.set_cons_zero, List.set_cons_succ]
      refine wpAnyH_take (i := 19) (v := ?vb19) (by (conv => lhs; simp only [List.getElem?_toArray, List.getElem?_cons_succ, List.getElem?_cons_zero])) (by kernel_rfl) (by kernel_rfl) (by kernel_rfl) ?hQ (Or.inl ⟨by rfl, ?hyb19⟩) hH1 ?restb19
      case hQ => exact fun _ _ _ h => h
      case hyb19 => (intro Y hY; obtain ⟨e0, e1, e2, e3, e4, e5⟩ := hY; go_simp; try (with_reducible rfl))
      try simp only [Act.put, List.setIfInBounds_toArray, List.set_cons_zero, List.set_cons_succ]
      refine wpAnyH_take (i := 20) (v := ?vb20) (by (conv => lhs; simp only [List.getElem?_toArray, List.getElem?_cons_succ, List.getElem?_cons_zero])) (by kernel_rfl) (by kernel_rfl) (by kernel_rfl) ?hQ (Or.inl ⟨by rfl, ?hyb20⟩) hH1 ?restb20
      case hQ => exact fun _ _ _ h => h
      case hyb20 => (intro Y hY; obtain ⟨e0, e1, e2, e3, e4, e5⟩ := hY; go_simp; try (with_reducible rfl))
      try simp only [Act.put, List.setIfInBounds_toArray, List.set_cons_zero, List.set_cons_succ]
      refine wpAnyH_take (i := 21) (v := undef) (by (conv => lhs; simp only [List.getElem?_toArray, List.getElem?_cons_succ, List.getElem?_cons_zero])) (by kernel_rfl) (by kernel_rfl) (by kernel_rfl) ?hQ (Or.inr ⟨by rfl, rfl⟩) hH1 ?rest21
      case hQ => exact fun _ _ _ h => h
      try simp only [Act.put, List.setIfInBounds_toArray, List.set_cons_zero, List.set_cons_succ]
      refine wpAnyH_take (i := 22) (v := undef) (by (conv => lhs; simp only [List.getElem?_toArray, List.getElem?_cons_succ, List.getElem?_cons_zero])) (by kernel_rfl) (by kernel_rfl) (by kernel_rfl) ?hQ (Or.inr ⟨by rfl, rfl⟩) hH1 ?rest22
      case hQ => exact fun _ _ _ h => h
      try simp only [Act.put, List.setIfInBounds_toArray, List.set_cons_zero, List.set_cons_succ]
      refine wpAnyH_take (i := 23) (v := undef) (by (conv => lhs; simp only [List.getElem?_toArray, List.getElem?_cons_succ, List.getElem?_cons_zero])) (by kernel_rfl) (by kernel_rfl) (by kernel_rfl) ?hQ (Or.inr ⟨by rfl, rfl⟩) hH1 ?rest23
      case hQ => exact fun _ _ _ h => h
      try simp only [Act.put, List.setIfInBounds_toArray, List.set_cons_zero, List.set_cons_succ]
      refine wpAnyH_take (i := 24) (v := undef) (by (conv => lhs; simp only [List.getElem?_toArray, List.getElem?_cons_succ, List.getElem?_cons_zero])) (by kernel_rfl) (by kernel_rfl) (by kernel_rfl) ?hQ (Or.inr ⟨by rfl, rfl⟩) hH1 ?rest24
      case hQ => exact fun _ _ _ h => h
      try simp only [Act.put, List.setIfInBounds_toArray, List.set_cons_zero, List.set_cons_succ]
      refine wpAnyH_take (i := 25) (v := undef) (by (conv => lhs; simp only [List.getElem?_toArray, List.getElem?_cons_succ, List.getElem?_cons_zero])) (by kernel_rfl) (by kernel_rfl) (by kernel_rfl) ?hQ (Or.inr ⟨by rfl, rfl⟩) hH1 ?rest25
      case hQ => exact fun _ _ _ h => h
      try simp only [Act.put, List.setIfInBounds_toArray, List.set_cons_zero, List.set_cons_succ]
      refine wpAnyH_take (i := 26) (v := undef) (by (conv => lhs; simp only [List.getElem?_toArray, List.getElem?_cons_succ, List.getElem?_cons_zero])) (by kernel_rfl) (by kernel_rfl) (by kernel_rfl) ?hQ (Or.inr ⟨by rfl, rfl⟩) hH1 ?rest26
      case hQ => exact fun _ _ _ h => h
      try simp only [Act.put, List.setIfInBounds_toArray, List.set_cons_zero, List.set_cons_succ]
      refine wpAnyH_take (i := 27) (v := ?vb27) (by (conv => lhs; simp only [List.getElem?_toArray, List.getElem?_cons_succ, List.getElem?_cons_zero])) (by kernel_rfl) (by kernel_rfl) (by kernel_rfl) ?hQ (Or.inl ⟨by rfl, ?hyb27⟩) hH1 ?restb27
      case hQ => exact fun _ _ _ h => h
      case hyb27 => (intro Y hY; obtain ⟨e0, e1, e2, e3, e4, e5⟩ := hY; go_simp; try (with_reducible rfl))
      try simp only [Act.put, List.setIfInBounds_toArray, List.set_cons_zero, List.set_cons_succ]
      refine wpAnyH_take (i := 28) (v := ?vb28) (by (conv => lhs; simp only [List.getElem?_toArray, List.getElem?_cons_succ, List.getElem?_cons_zero])) (by kernel_rfl) (by kernel_rfl) (by kernel_rfl) ?hQ (Or.inl ⟨by rfl, ?hyb28⟩) hH1 ?restb28
      case hQ => exact fun _ _ _ h => h
      case hyb28 => (intro Y hY; obtain ⟨e0, e1, e2, e3, e4, e5⟩ := hY; go_simp; try (with_reducible rfl))
      try simp only [Act.put, List.setIfInBounds_toArray, List.set_cons_zero, List.set_cons_succ]
      refine wpAnyH_ready (rs := [29]) (by kernel_rfl) (by simp) ?_
      refine AllReadyH.cons (by (conv => lhs; simp only [List.getElem?_toArray, List.getElem?_cons_succ, List.getElem?_cons_zero])) (fun K hK => ?_) AllReadyH.nil
      have gr5 : W4.drew.cell? ⟨w.heap.size + 1, 0, none⟩ = some (.bool false) := gr4
      have gf5 : W4.drew.frozen? ⟨w.heap.size + 1, 0, none⟩ = false := gf4
      have hH5 : (fun Y : World => Y.cell? ⟨w2.heap.size, 0, none⟩ = some (.int .i64 (N : Int)) ∧ Y.cell? ⟨w.heap.size, 0, none⟩ = some (.slice A N c) ∧ Y.cell? ⟨w3.heap.size, 0, none⟩ = some (.int .i64 y0) ∧ Y.cell? ⟨w3.heap.size, 1, none⟩ = some (.int .i64 y1) ∧ Y.cell? ⟨w3.heap.size, 2, none⟩ = some (.int .i64 y2) ∧ Y.cell? ⟨w3.heap.size, 3, none⟩ = some (.int .i64 y3)) (W4.drew.setCell ⟨w.heap.size + 1, 0, none⟩ (.bool true)) := KEEP.out
      clear gr4 gf4 k0 k1 k2 k3 vN gc4
      go_simp
      refine hK.out _ _ hH5 (fun hH6 => ?_)
      clear hK
      try simp only [Act.put]
      refine wpAnyH_done (by kernel_rfl) ?_ _
      gi_wp2_with fail
      have hne : D ≠ w.heap.size + 1 := by have := HDN.out; omega
      have hKS : (W4.setCell ⟨w.heap.size + 1, 0, none⟩ (.bool true)).drew.heap[D]? = some (.deferred (some [])) := (Below.heap_setCell _ _ _ _ hne).trans HK4.out
      have hrc : (W4.setCell ⟨w.heap.size + 1, 0, none⟩ (.bool true)).drew.cell? ⟨w.heap.size + 1, 0, none⟩ = some (.bool true) := World.cell?_setCell_same' W4.drew ⟨w.heap.size + 1, 0, none⟩ (.bool true) (by rw [gr5]; rfl)
      have hgp := grownBy_putObj' (W4.setCell ⟨w.heap.size + 1, 0, none⟩ (.bool true)).drew D (.deferred none)
      have hrp := cell_kept hrc hgp (fun r e => by cases e; exact ⟨_, hKS, rfl⟩)
      refine ⟨by simp, .inl ⟨_, _, rfl, run_takeDeferred hKS, ?_⟩⟩
      refine ⟨.bool true, ?_, rfl, ?_⟩
      · simp [results, Try.results8, go_sem, hrp]
      · exact (Below.drew (HB4.out.setCell (p := ⟨w.heap.size + 1, 0, none⟩) (by show w.heap.size ≤ w.heap.size + 1; omega) (.bool true))).grown hgp (Below.drew (HB4.out.setCell (p := ⟨w.heap.size + 1, 0, none⟩) (by show w.heap.size ≤ w.heap.size + 1; omega) (.bool true))).size (fun k e => by cases e; have := HDN.out; omega)
    · have hlp : 0 < ys.length := List.length_pos_iff.2 hz
      have hmn := srt_min HP.out HS.out hlp
      obtain ⟨ey, rfl⟩ : ((y0, y1, y2, y3) : It) = gI ys 0 ∧ is = true := by
        rcases HT2.out with ⟨a, _⟩ | ⟨a, _, b⟩
        · exact absurd (List.eq_nil_of_length_eq_zero (by rw [hN0, a]; rfl)) hz
        · exact ⟨MinOf.uniq HT.out a hmn, b⟩
      have zg : (0 : Int) < (ys.length : Int) := by omega
      have ITM := hidd (fun Y (g : Lie itV 4 Y w.heap.size A ys) => Lie.it4 g 0 hlp)
      rw [← ey] at ITM
      clear ey hz
      have CE0 := cE.out
      rw [← hN0] at CE0
      generalize hNN : ys.length = N at *
      have HNN := hidd hNN
      clear hNN
      clear hN0
      have zd : decide (0 < N) = true := decide_eq_true (by omega)
      unfold agI iD kN kD tN
      unfold iD kN kD tN at ITM
      obtain ⟨W4, hW4⟩ : ∃ W4, w3.alloc (.cells #[.int .i64 y0, .int .i64 y1, .int .i64 y2, .int .i64 y3] 37) = W4 := ⟨_, rfl⟩
      have B34 : Below w3.heap.size w3 W4 := hW4 ▸ below_new (Below.refl _ _) _
      have k0 : W4.cell? ⟨w3.heap.size, 0, none⟩ = some (.int .i64 y0) := by rw [← hW4]; simp [go_sem]
      have k1 : W4.cell? ⟨w3.heap.size, 1, none⟩ = some (.int .i64 y1) := by rw [← hW4]; simp [go_sem]
      have k2 : W4.cell? ⟨w3.heap.size, 2, none⟩ = some (.int .i64 y2) := by rw [← hW4]; simp [go_sem]
      have k3 : W4.cell? ⟨w3.heap.size, 3, none⟩ = some (.int .i64 y3) := by rw [← hW4]; simp [go_sem]
      have vN := (B34.cell (p := ⟨w2.heap.size, 0, none⟩) hs3).trans hvc
      obtain ⟨gc4, gl4, gr4, gf4⟩ := GG.out W4 (HB3.out.trans (B34.mono (Nat.le_of_lt hs3)))
      have HB4 := hidd (HBW3.out.trans (B34.mono HBW3.out.size))
      have HD3 : D < w3.heap.size := (Array.getElem?_eq_some_iff.1 HK3.out).1
      have HK4 : Hid (W4.heap[D]? = some (.deferred (some []))) := hidd ((B34.block D HD3).trans HK3.out)
      have CEx : Hid (Calls Try.prog 19 #[.pointer (some ⟨h, 0, none⟩)] W4.drew fun e w' => e = .returned (.int .i64 (N : Int)) ∧ w' = W4.drew) := hidd ((CE0 W4.drew (HB4.out.trans (below_drewN (Below.refl _ _) 1))).mono fun e w' ⟨a, b⟩ => ⟨a, b.symm⟩)
      have h21 : w.heap.size + 1 < w2.heap.size := hs2
      obtain ⟨ad, rfl, hadb, j0, j1, j2, j3⟩ := ITM.out W4 gl4
      have ead : ad.add (0 * 4) = ad := by cases ad; rfl
      rw [ead] at hadb j0 j1 j2 j3
      have j2 : W4.cell? ⟨ad.block, ad.off + 2, none⟩ = some (.int .i64 y2) := j2
      have j3 : W4.cell? ⟨ad.block, ad.off + 3, none⟩ = some (.int .i64 y3) := j3
      have hnb : ad.block ≠ w.heap.size + 1 := by omega
      have eqq := fun W => item_run y0 y1 y2 y3 y0 y1 y2 y3 W
      rw [eqB_iff.2 rfl] at eqq
      have KEEP : Hid ((fun Y : World => Y.cell? ⟨w2.heap.size, 0, none⟩ = some (.int .i64 (N : Int)) ∧ Y.cell? ⟨w.heap.size, 0, none⟩ = some (.slice (some ad) N c) ∧ Y.cell? ⟨w3.heap.size, 0, none⟩ = some (.int .i64 y0) ∧ Y.cell? ⟨w3.heap.size, 1, none⟩ = some (.int .i64 y1) ∧ Y.cell? ⟨w3.heap.size, 2, none⟩ = some (.int .i64 y2) ∧ Y.cell? ⟨w3.heap.size, 3, none⟩ = some (.int .i64 y3) ∧ Y.cell? ad = some (.int .i64 y0) ∧ Y.cell? ⟨ad.block, ad.off + 1, none⟩ = some (.int .i64 y1) ∧ Y.cell? ⟨ad.block, ad.off + 2, none⟩ = some (.int .i64 y2) ∧ Y.cell? ⟨ad.block, ad.off + 3, none⟩ = some (.int .i64 y3)) (W4.drew.setCell ⟨w.heap.size + 1, 0, none⟩ (.bool true))) := hidd (by
        refine ⟨?_, ?_, ?_, ?_, ?_, ?_, ?_, ?_, ?_, ?_⟩ <;> refine (World.cell?_of_block (Below.heap_setCell _ _ _ _ (by first | exact hnb | (dsimp only; omega)))).trans ?_ <;> assumption)
      have HW4 := hidd hW4
      clear hW4 gc gl gr gf hvc B34 gl4 CE0 ITM
      gi_wp2_with fail
      rw [HW4.out]
      refine wpIn_wide.2 (wp_only ?_)
      refine wp_region_held_drew (S := (fun Y => Y.cell? ⟨w2.heap.size, 0, none⟩ = some (.int .i64 (N : Int)) ∧ Y.cell? ⟨w.heap.size, 0, none⟩ = some (.slice (some ad) N c) ∧ Y.cell? ⟨w3.heap.size, 0, none⟩ = some (.int .i64 y0) ∧ Y.cell? ⟨w3.heap.size, 1, none⟩ = some (.int .i64 y1) ∧ Y.cell? ⟨w3.heap.size, 2, none⟩ = some (.int .i64 y2) ∧ Y.cell? ⟨w3.heap.size, 3, none⟩ = some (.int .i64 y3) ∧ Y.cell? ad = some (.int .i64 y0) ∧ Y.cell? ⟨ad.block, ad.off + 1, none⟩ = some (.int .i64 y1) ∧ Y.cell? ⟨ad.block, ad.off + 2, none⟩ = some (.int .i64 y2) ∧ Y.cell? ⟨ad.block, ad.off + 3, none⟩ = some (.int .i64 y3))) (by kernel_rfl) ⟨vN, gc4, k0, k1, k2, k3, j0, j1, j2, j3⟩ (fun hH => ?_)
      refine wpAnyH_take (i := 0) (v := ?vc0) (by (conv => lhs; simp only [List.getElem?_toArray, List.getElem?_cons_succ, List.getElem?_cons_zero])) (by kernel_rfl) (by kernel_rfl) (by kernel_rfl) ?hQ (Or.inl ⟨by rfl, ?hyc0⟩) hH ?restc0
      case hQ => exact fun _ _ _ h => h
      case hyc0 => (intro Y hY; obtain ⟨e0, e1, e2, e3, e4, e5, e6, e7, e8, e9⟩ := hY; go_simp; try (with_reducible rfl))
      try simp only [Act.put, List.setIfInBounds_toArray, List.set_cons_zero, List.set_cons_succ]
      refine wpAnyH_take (i := 1) (v := ?vc1) (by (conv => lhs; simp only [List.getElem?_toArray, List.getElem?_cons_succ, List.getElem?_cons_zero])) (by kernel_rfl) (by kernel_rfl) (by kernel_rfl) ?hQ (Or.inl ⟨by rfl, ?hyc1⟩) hH ?restc1
      case hQ => exact fun _ _ _ h => h
      case hyc1 => (intro Y hY; obtain ⟨e0, e1, e2, e3, e4, e5, e6, e7, e8, e9⟩ := hY; go_simp; try (with_reducible rfl))
      try simp only [Act.put, List.setIfInBounds_toArray, List.set_cons_zero, List.set_cons_succ]
      refine wpAnyH_take (i := 2) (v := ?vc2) (by (conv => lhs; simp only [List.getElem?_toArray, List.getElem?_cons_succ, List.getElem?_cons_zero])) (by kernel_rfl) (by kernel_rfl) (by kernel_rfl) ?hQ (Or.inl ⟨by rfl, ?hyc2⟩) hH ?restc2
      case hQ => exact fun _ _ _ h => h
      case hyc2 => (intro Y hY; obtain ⟨e0, e1, e2, e3, e4, e5, e6, e7, e8, e9⟩ := hY; go_simp; try (with_reducible rfl))
      try simp only [Act.put, List.setIfInBounds_toArray, List.set_cons_zero, List.set_cons_succ]
      refine wpAnyH_take (i := 3) (v := ?vc3) (by (conv => lhs; simp only [List.getElem?_toArray, List.getElem?_cons_succ, List.getElem?_cons_zero])) (by kernel_rfl) (by kernel_rfl) (by kernel_rfl) ?hQ (Or.inl ⟨by rfl, ?hyc3⟩) hH ?restc3
      case hQ => exact fun _ _ _ h => h
      case hyc3 => (intro Y hY; obtain ⟨e0, e1, e2, e3, e4, e5, e6, e7, e8, e9⟩ := hY; go_simp; try (with_reducible rfl))
      try simp only [Act.put, List.setIfInBounds_toArray, List.set_cons_zero, List.set_cons_succ]
      refine wpAnyH_take (i := 4) (v := ?vc4) (by (conv => lhs; simp only [List.getElem?_toArray, List.getElem?_cons_succ, List.getElem?_cons_zero])) (by kernel_rfl) (by kernel_rfl) (by kernel_rfl) ?hQ (Or.inl ⟨by rfl, ?hyc4⟩) hH ?restc4
      case hQ => exact fun _ _ _ h => h
      case hyc4 => (intro Y hY; obtain ⟨e0, e1, e2, e3, e4, e5, e6, e7, e8, e9⟩ := hY; go_simp; try (with_reducible rfl))
      try simp only [Act.put, List.setIfInBounds_toArray, List.set_cons_zero, List.set_cons_succ]
      refine wpAnyH_take (i := 5) (v := ?vc5) (by (conv => lhs; simp only [List.getElem?_toArray, List.getElem?_cons_succ, List.getElem?_cons_zero])) (by kernel_rfl) (by kernel_rfl) (by kernel_rfl) ?hQ (Or.inl ⟨by rfl, ?hyc5⟩) hH ?restc5
      case hQ => exact fun _ _ _ h => h
      case hyc5 => (intro Y hY; obtain ⟨e0, e1, e2, e3, e4, e5, e6, e7, e8, e9⟩ := hY; go_simp; try (with_reducible rfl))
      try simp only [Act.put, List.setIfInBounds_toArray, List.set_cons_zero, List.set_cons_succ]
      refine wpAnyH_take (i := 6) (v := ?vc6) (by (conv => lhs; simp only [List.getElem?_toArray, List.getElem?_cons_succ, List.getElem?_cons_zero])) (by kernel_rfl) (by kernel_rfl) (by kernel_rfl) ?hQ (Or.inl ⟨by rfl, ?hyc6⟩) hH ?restc6
      case hQ => exact fun _ _ _ h => h
      case hyc6 => (intro Y hY; obtain ⟨e0, e1, e2, e3, e4, e5, e6, e7, e8, e9⟩ := hY; go_simp; try (with_reducible rfl))
      try simp only [Act.put, List.setIfInBounds_toArray, List.set_cons_zero, List.set_cons_succ]
      refine wpAnyH_take (i := 8) (v := ?vc8) (by (conv => lhs; simp only [List.getElem?_toArray, List.getElem?_cons_succ, List.getElem?_cons_zero])) (by kernel_rfl) (by kernel_rfl) (by kernel_rfl) ?hQ (Or.inl ⟨by rfl, ?hyc8⟩) hH ?restc8
      case hQ => exact fun _ _ _ h => h
      case hyc8 => (intro Y hY; obtain ⟨e0, e1, e2, e3, e4, e5, e6, e7, e8, e9⟩ := hY; go_simp; try (with_reducible rfl))
      try simp only [Act.put, List.setIfInBounds_toArray, List.set_cons_zero, List.set_cons_succ]
      refine wpAnyH_ready (rs := [7]) (by kernel_rfl) (by simp) ?_
      refine AllReadyH.cons (by (conv => lhs; simp only [List.getElem?_toArray, List.getElem?_cons_succ, List.getElem?_cons_zero])) (fun K hK => ?_) AllReadyH.nil
      go_simp
      go_at_call 19; refine CEx.out.mono ?_; rintro e w5 ⟨rfl, rfl⟩
      refine hK.out _ _ hH (fun hH1 => ?_)
      clear hK hH
      try simp only [Act.put, List.setIfInBounds_toArray, List.set_cons_zero, List.set_cons_succ]
      refine wpAnyH_take (i := 9) (v := ?vd9) (by (conv => lhs; simp only [List.getElem?_toArray, List.getElem?_cons_succ, List.getElem?_cons_zero])) (by kernel_rfl) (by kernel_rfl) (by kernel_rfl) ?hQ (Or.inl ⟨by rfl, ?hyd9⟩) hH1 ?restd9
      case hQ => exact fun _ _ _ h => h
      case hyd9 => (intro Y hY; obtain ⟨e0, e1, e2, e3, e4, e5, e6, e7, e8, e9⟩ := hY; go_simp; try (with_reducible rfl))
      try simp only [Act.put, List.setIfInBounds_toArray, List.set_cons_zero, List.set_cons_succ]
      refine wpAnyH_take (i := 10) (v := ?vd10) (by (conv => lhs; simp only [List.getElem?_toArray, List.getElem?_cons_succ, List.getElem?_cons_zero])) (by kernel_rfl) (by kernel_rfl) (by kernel_rfl) ?hQ (Or.inl ⟨by rfl, ?hyd10⟩) hH1 ?restd10
      case hQ => exact fun _ _ _ h => h
      case hyd10 => (intro Y hY; obtain ⟨e0, e1, e2, e3, e4, e5, e6, e7, e8, e9⟩ := hY; go_simp; try (with_reducible rfl))
      try simp only [Act.put, List.setIfInBounds_toArray, List.set_cons_zero, List.set_cons_succ]
      refine wpAnyH_take (i := 11) (v := ?vd11) (by (conv => lhs; simp only [List.getElem?_toArray, List.getElem?_cons_succ, List.getElem?_cons_zero])) (by kernel_rfl) (by kernel_rfl) (by kernel_rfl) ?hQ (Or.inl ⟨by rfl, ?hyd11⟩) hH1 ?restd11
      case hQ => exact fun _ _ _ h => h
      case hyd11 => (intro Y hY; obtain ⟨e0, e1, e2, e3, e4, e5, e6, e7, e8, e9⟩ := hY; go_simp; try (with_reducible rfl))
      try simp only [Act.put, List.setIfInBounds_toArray, List.set_cons_zero, List.set_cons_succ]
      refine wpAnyH_take (i := 12) (v := ?vd12) (by (conv => lhs; simp only [List.getElem?_toArray, List.getElem?_cons_succ, List.getElem?_cons_zero])) (by kernel_rfl) (by kernel_rfl) (by kernel_rfl) ?hQ (Or.inl ⟨by rfl, ?hyd12⟩) hH1 ?restd12
      case hQ => exact fun _ _ _ h => h
      case hyd12 => (intro Y hY; obtain ⟨e0, e1, e2, e3, e4, e5, e6, e7, e8, e9⟩ := hY; go_simp; try (with_reducible rfl))
      try simp only [Act.put, List.setIfInBounds_toArray, List.set_cons_zero, List.set_cons_succ]
      refine wpAnyH_take (i := 13) (v := ?vd13) (by (conv => lhs; simp only [List.getElem?_toArray, List.getElem?_cons_succ, List.getElem?_cons_zero])) (by kernel_rfl) (by kernel_rfl) (by kernel_rfl) ?hQ (Or.inl ⟨by rfl, ?hyd13⟩) hH1 ?restd13
      case hQ => exact fun _ _ _ h => h
      case hyd13 => (intro Y hY; obtain ⟨e0, e1, e2, e3, e4, e5, e6, e7, e8, e9⟩ := hY; go_simp; try (with_reducible rfl))
      try simp only [Act.put, List.setIfInBounds_toArray, List.set_cons_zero, List.set_cons_succ]
      refine wpAnyH_take (i := 14) (v := ?vd14) (by (conv => lhs; simp only [List.getElem?_toArray, List.getElem?_cons_succ, List.getElem?_cons_zero])) (by kernel_rfl) (by kernel_rfl) (by kernel_rfl) ?hQ (Or.inl ⟨by rfl, ?hyd14⟩) hH1 ?restd14
      case hQ => exact fun _ _ _ h => h
      case hyd14 => (intro Y hY; obtain ⟨e0, e1, e2, e3, e4, e5, e6, e7, e8, e9⟩ := hY; go_simp; try (with_reducible rfl))
      try simp only [Act.put, List.setIfInBounds_toArray, List.set_cons_zero, List.set_cons_succ]
      refine wpAnyH_take (i := 15) (v := ?vd15) (by (conv => lhs; simp only [List.getElem?_toArray, List.getElem?_cons_succ, List.getElem?_cons_zero])) (by kernel_rfl) (by kernel_rfl) (by kernel_rfl) ?hQ (Or.inl ⟨by rfl, ?hyd15⟩) hH1 ?restd15
      case hQ => exact fun _ _ _ h => h
      case hyd15 => (intro Y hY; obtain ⟨e0, e1, e2, e3, e4, e5, e6, e7, e8, e9⟩ := hY; go_simp; try (with_reducible rfl))
      try simp only [Act.put, List.setIfInBounds_toArray, List.set_cons_zero, List.set_cons_succ]
      refine wpAnyH_take (i := 16) (v := ?vd16) (by (conv => lhs; simp only [List.getElem?_toArray, List.getElem?_cons_succ, List.getElem?_cons_zero])) (by kernel_rfl) (by kernel_rfl) (by kernel_rfl) ?hQ (Or.inl ⟨by rfl, ?hyd16⟩) hH1 ?restd16
      case hQ => exact fun _ _ _ h => h
      case hyd16 => (intro Y hY; obtain ⟨e0, e1, e2, e3, e4, e5, e6, e7, e8, e9⟩ := hY; go_simp; try (with_reducible rfl))
      try simp only [Act.put, List.setIfInBounds_toArray, List.set_cons_zero, List.set_cons_succ]
      refine wpAnyH_take (i := 17) (v := ?vd17) (by (conv => lhs; simp only [List.getElem?_toArray, List.getElem?_cons_succ, List.getElem?_cons_zero])) (by kernel_rfl) (by kernel_rfl) (by kernel_rfl) ?hQ (Or.inl ⟨by rfl, ?hyd17⟩) hH1 ?restd17
      case hQ => exact fun _ _ _ h => h
      case hyd17 => (intro Y hY; obtain ⟨e0, e1, e2, e3, e4, e5, e6, e7, e8, e9⟩ := hY; go_simp; try (with_reducible rfl))
      try simp only [Act.put, List.setIfInBounds_toArray, List.set_cons_zero, List.set_cons_succ]
      refine wpAnyH_take (i := 18) (v := ?vd18) (by (conv => lhs; simp only [List.getElem?_toArray, List.getElem?_cons_succ, List.getElem?_cons_zero])) (by kernel_rfl) (by kernel_rfl) (by kernel_rfl) ?hQ (Or.inl ⟨by rfl, ?hyd18⟩) hH1 ?restd18
      case hQ => exact fun _ _ _ h => h
      case hyd18 => (intro Y hY; obtain ⟨e0, e1, e2, e3, e4, e5, e6, e7, e8, e9⟩ := hY; go_simp; try (with_reducible rfl))
      try simp only [Act.put, List.setIfInBounds_toArray, List.set_cons_zero, List.set_cons_succ]
      refine wpAnyH_take (i := 19) (v := ?vd19) (by (conv => lhs; simp only [List.getElem?_toArray, List.getElem?_cons_succ, List.getElem?_cons_zero])) (by kernel_rfl) (by kernel_rfl) (by kernel_rfl) ?hQ (Or.inl ⟨by rfl, ?hyd19⟩) hH1 ?restd19
      case hQ => exact fun _ _ _ h => h
      case hyd19 => (intro Y hY; obtain ⟨e0, e1, e2, e3, e4, e5, e6, e7, e8, e9⟩ := hY; go_simp; try (with_reducible rfl))
      try simp only [Act.put, List.setIfInBounds_toArray, List.set_cons_zero, List.set_cons_succ]
      refine wpAnyH_take (i := 20) (v := ?vd20) (by (conv => lhs; simp only [List.getElem?_toArray, List.getElem?_cons_succ, List.getElem?_cons_zero])) (by kernel_rfl) (by kernel_rfl) (by kernel_rfl) ?hQ (Or.inl ⟨by rfl, ?hyd20⟩) hH1 ?restd20
      case hQ => exact fun _ _ _ h => h
      case hyd20 => (intro Y hY; obtain ⟨e0, e1, e2, e3, e4, e5, e6, e7, e8, e9⟩ := hY; go_simp; try (with_reducible rfl))
      try simp only [Act.put, List.setIfInBounds_toArray, List.set_cons_zero, List.set_cons_succ]
      refine wpAnyH_take (i := 21) (v := ?vd21) (by (conv => lhs; simp only [List.getElem?_toArray, List.getElem?_cons_succ, List.getElem?_cons_zero])) (by kernel_rfl) (by kernel_rfl) (by kernel_rfl) ?hQ (Or.inl ⟨by rfl, ?hyd21⟩) hH1 ?restd21
      case hQ => exact fun _ _ _ h => h
      case hyd21 => (intro Y hY; obtain ⟨e0, e1, e2, e3, e4, e5, e6, e7, e8, e9⟩ := hY; go_simp; try (with_reducible rfl))
      try simp only [Act.put, List.setIfInBounds_toArray, List.set_cons_zero, List.set_cons_succ]
      refine wpAnyH_take (i := 22) (v := ?vd22) (by (conv => lhs; simp only [List.getElem?_toArray, List.getElem?_cons_succ, List.getElem?_cons_zero])) (by kernel_rfl) (by kernel_rfl) (by kernel_rfl) ?hQ (Or.inl ⟨by rfl, ?hyd22⟩) hH1 ?restd22
      case hQ => exact fun _ _ _ h => h
      case hyd22 => (intro Y hY; obtain ⟨e0, e1, e2, e3, e4, e5, e6, e7, e8, e9⟩ := hY; go_simp; try (with_reducible rfl))
      try simp only [Act.put, List.setIfInBounds_toArray, List.set_cons_zero, List.set_cons_succ]
      refine wpAnyH_take (i := 23) (v := ?vd23) (by (conv => lhs; simp only [List.getElem?_toArray, List.getElem?_cons_succ, List.getElem?_cons_zero])) (by kernel_rfl) (by kernel_rfl) (by kernel_rfl) ?hQ (Or.inl ⟨by rfl, ?hyd23⟩) hH1 ?restd23
      case hQ => exact fun _ _ _ h => h
      case hyd23 => (intro Y hY; obtain ⟨e0, e1, e2, e3, e4, e5, e6, e7, e8, e9⟩ := hY; go_simp; try (with_reducible rfl))
      try simp only [Act.put, List.setIfInBounds_toArray, List.set_cons_zero, List.set_cons_succ]
      refine wpAnyH_take (i := 24) (v := ?vd24) (by (conv => lhs; simp only [List.getElem?_toArray, List.getElem?_cons_succ, List.getElem?_cons_zero])) (by kernel_rfl) (by kernel_rfl) (by kernel_rfl) ?hQ (Or.inl ⟨by rfl, ?hyd24⟩) hH1 ?restd24
      case hQ => exact fun _ _ _ h => h
      case hyd24 => (intro Y hY; obtain ⟨e0, e1, e2, e3, e4, e5, e6, e7, e8, e9⟩ := hY; go_simp; try (with_reducible rfl))
      try simp only [Act.put, List.setIfInBounds_toArray, List.set_cons_zero, List.set_cons_succ]
      refine wpAnyH_take (i := 25) (v := ?vd25) (by (conv => lhs; simp only [List.getElem?_toArray, List.getElem?_cons_succ, List.getElem?_cons_zero])) (by kernel_rfl) (by kernel_rfl) (by kernel_rfl) ?hQ (Or.inl ⟨by rfl, ?hyd25⟩) hH1 ?restd25
      case hQ => exact fun _ _ _ h => h
      case hyd25 => (intro Y hY; obtain ⟨e0, e1, e2, e3, e4, e5, e6, e7, e8, e9⟩ := hY; go_simp; try (with_reducible rfl))
      try simp only [Act.put, List.setIfInBounds_toArray, List.set_cons_zero, List.set_cons_succ]
      refine wpAnyH_take (i := 26) (v := ?vd26) (by (conv => lhs; simp only [List.getElem?_toArray, List.getElem?_cons_succ, List.getElem?_cons_zero])) (by kernel_rfl) (by kernel_rfl) (by kernel_rfl) ?hQ (Or.inl ⟨by rfl, ?hyd26⟩) hH1 ?restd26
      case hQ => exact fun _ _ _ h => h
      case hyd26 => (intro Y hY; obtain ⟨e0, e1, e2, e3, e4, e5, e6, e7, e8, e9⟩ := hY; go_simp; try (with_reducible rfl))
      try simp only [Act.put, List.setIfInBounds_toArray, List.set_cons_zero, List.set_cons_succ]
      refine wpAnyH_take (i := 27) (v := ?vd27) (by (conv => lhs; simp only [List.getElem?_toArray, List.getElem?_cons_succ, List.getElem?_cons_zero])) (by kernel_rfl) (by kernel_rfl) (by kernel_rfl) ?hQ (Or.inl ⟨by rfl, ?hyd27⟩) hH1 ?restd27
      case hQ => exact fun _ _ _ h => h
      case hyd27 => (intro Y hY; obtain ⟨e0, e1, e2, e3, e4, e5, e6, e7, e8, e9⟩ := hY; go_simp; try (with_reducible rfl))
      try simp only [Act.put, List.setIfInBounds_toArray, List.set_cons_zero, List.set_cons_succ]
      refine wpAnyH_take (i := 28) (v := ?vd28) (by (conv => lhs; simp only [List.getElem?_toArray, List.getElem?_cons_succ, List.getElem?_cons_zero])) (by kernel_rfl) (by kernel_rfl) (by kernel_rfl) ?hQ (Or.inl ⟨by rfl, ?hyd28⟩) hH1 ?restd28
      case hQ => exact fun _ _ _ h => h
      case hyd28 => (intro Y hY; obtain ⟨e0, e1, e2, e3, e4, e5, e6, e7, e8, e9⟩ := hY; go_simp; try (with_reducible rfl))
      try simp only [Act.put, List.setIfInBounds_toArray, List.set_cons_zero, List.set_cons_succ]
      refine wpAnyH_ready (rs := [29]) (by kernel_rfl) (by simp) ?_
      refine AllReadyH.cons (by (conv => lhs; simp only [List.getElem?_toArray, List.getElem?_cons_succ, List.getElem?_cons_zero])) (fun K hK => ?_) AllReadyH.nil
      have gr5 : W4.drew.cell? ⟨w.heap.size + 1, 0, none⟩ = some (.bool false) := gr4
      have gf5 : W4.drew.frozen? ⟨w.heap.size + 1, 0, none⟩ = false := gf4
      have hH5 : (fun Y : World => Y.cell? ⟨w2.heap.size, 0, none⟩ = some (.int .i64 (N : Int)) ∧ Y.cell? ⟨w.heap.size, 0, none⟩ = some (.slice (some ad) N c) ∧ Y.cell? ⟨w3.heap.size, 0, none⟩ = some (.int .i64 y0) ∧ Y.cell? ⟨w3.heap.size, 1, none⟩ = some (.int .i64 y1) ∧ Y.cell? ⟨w3.heap.size, 2, none⟩ = some (.int .i64 y2) ∧ Y.cell? ⟨w3.heap.size, 3, none⟩ = some (.int .i64 y3) ∧ Y.cell? ad = some (.int .i64 y0) ∧ Y.cell? ⟨ad.block, ad.off + 1, none⟩ = some (.int .i64 y1) ∧ Y.cell? ⟨ad.block, ad.off + 2, none⟩ = some (.int .i64 y2) ∧ Y.cell? ⟨ad.block, ad.off + 3, none⟩ = some (.int .i64 y3)) (W4.drew.setCell ⟨w.heap.size + 1, 0, none⟩ (.bool true)) := KEEP.out
      clear gr4 gf4 k0 k1 k2 k3 vN gc4 j0 j1 j2 j3
      go_simp
      refine hK.out _ _ hH5 (fun hH6 => ?_)
      clear hK
      try simp only [Act.put]
      refine wpAnyH_done (by kernel_rfl) ?_ _
      gi_wp2_with fail
      have hne : D ≠ w.heap.size + 1 := by have := HDN.out; omega
      have hKS : (W4.setCell ⟨w.heap.size + 1, 0, none⟩ (.bool true)).drew.heap[D]? = some (.deferred (some [])) := (Below.heap_setCell _ _ _ _ hne).trans HK4.out
      have hrc : (W4.setCell ⟨w.heap.size + 1, 0, none⟩ (.bool true)).drew.cell? ⟨w.heap.size + 1, 0, none⟩ = some (.bool true) := World.cell?_setCell_same' W4.drew ⟨w.heap.size + 1, 0, none⟩ (.bool true) (by rw [gr5]; rfl)
      have hgp := grownBy_putObj' (W4.setCell ⟨w.heap.size + 1, 0, none⟩ (.bool true)).drew D (.deferred none)
      have hrp := cell_kept hrc hgp (fun r e => by cases e; exact ⟨_, hKS, rfl⟩)
      refine ⟨by simp, .inl ⟨_, _, rfl, run_takeDeferred hKS, ?_⟩⟩
      refine ⟨.bool true, ?_, rfl, ?_⟩
      · simp [results, Try.results8, go_sem, hrp]
      · exact (Below.drew (HB4.out.setCell (p := ⟨w.heap.size + 1, 0, none⟩) (by show w.heap.size ≤ w.heap.size + 1; omega) (.bool true))).grown hgp (Below.drew (HB4.out.setCell (p := ⟨w.heap.size + 1, 0, none⟩) (by show w.heap.size ≤ w.heap.size + 1; omega) (.bool true))).size (fun k e => by cases e; have := HDN.out; omega)
end Go.Proofs.Ytohkkebiilaniaa.Hp

/- Heaps: a call of the law's does, where the list is the heap's items in order. -/
namespace Go.Proofs.Ytohkkebiilaniaa.Hp
set_option linter.unusedVariables false
open Go.RowKit Go.Maps Go.Sort Go.Proofs.Ytohkkebiilaniaa.Tp
/-- the heap and the document's list beside it. -/
structure Play (R : Nat → Prop) (w : World) (h : Nat) (v : Value) (M : List It) (T : Int) (G : List It) : Prop where
  hr : HR R w h M T
  rl : RL w v G
  ag : Agr M T G T
  sep : ∀ q, v.ownBlock = some q → ¬ R q
section
variable {R : Nat → Prop} {w w' : World} {h : Nat} {v : Value} {M G : List It} {T : Int}
theorem Play.okl (P : Play R w h v M T G) : OkL G := fun x hx => P.hr.ok x (P.ag.p.mem_iff.1 hx)
theorem Play.len (P : Play R w h v M T G) : G.length = M.length := P.ag.p.length_eq
theorem Play.below (P : Play R w h v M T G) (hb : Below w.heap.size w w') : Play R w' h v M T G := ⟨P.hr.below hb, P.rl.below hb, P.ag, P.sep⟩
theorem Play.keep (P : Play R w h v M T G) {g : Nat} (hb : ∀ k, k ≠ g → w'.heap[k]? = w.heap[k]?) (hg : ¬ R g) (hv : ∀ q, v.ownBlock = some q → q ≠ g) : Play R w' h v M T G :=
  ⟨P.hr.keep (fun k hk => hb k (fun e => hg (e ▸ hk))), OwnL.to P.rl (fun q e => hb q (hv q e)), P.ag, P.sep⟩
/-- what a call leaves. -/
def PlayEnd (R : Nat → Prop) (w : World) (h : Nat) (v : Value) (M : List It) (T : Int) (e : Ending) (w' : World) : Prop :=
  ∃ R' M' T' v' G', e = .returned (.tuple #[.agg #[v', .int .i64 T'], .bool true]) ∧ Play R' w' h v' M' T' G' ∧ Sav R w w' ∧ Nxt R R' w ∧ New w v v' ∧ M'.length ≤ M.length + 1 ∧ 0 ≤ T' ∧ T' ≤ T + 1
theorem does_play (P : Play R w h v M T G) (x : Int × Int × Int × Int) (hx : WdA x) (hL : M.length < 100000) (hT0 : 0 ≤ T) (hT1 : T < 1000000) :
    Calls Try.prog 7 #[.pointer (some ⟨h, 0, none⟩), .agg #[v, .int .i64 T], .agg #[.int .i64 x.1, .int .i64 x.2.1, .int .i64 x.2.2.1, .int .i64 x.2.2.2]] w (PlayEnd R w h v M T) := by
  have hO := P.okl
  have hLG : G.length < 100000 := by rw [P.len]; exact hL
  obtain ⟨H, HG, A, hsep⟩ := P
  obtain ⟨kind, id, n, d⟩ := x
  obtain ⟨i0, i1, h0, h1, h2, h3⟩ := hx
  by_cases k1 : kind = 1
  · subst k1
    refine (does_1 H HG hO hsep i0 i1 h0 h1 h2 h3 hL hT0 hT1 hLG hT0 hT1).mono ?_
    rintro e w' ⟨R', M', T', v', G', TG', B, he, s, hb⟩
    obtain ⟨rfl, A'⟩ := agr_1 H A s
    obtain ⟨er, eg, p, _, _⟩ := s
    have := len1 p
    obtain rfl := A'.t
    exact ⟨R', M', _, v', G', he, ⟨hb.hr, hb.rl, A', hb.sep⟩, hb.sav, hb.nxt, hb.new, this.1, by omega, this.2.2⟩
  by_cases k2 : kind = 2
  · subst k2
    refine (does_2 H HG hO hsep i0 i1 h0 h1 h2 h3 hL hT0 hT1 hLG hT0 hT1).mono ?_
    rintro e w' ⟨R', M', T', v', G', TG', B, he, s, hb⟩
    obtain ⟨rfl, A'⟩ := agr_2 H A s
    obtain ⟨e1, e2, er, eg, p, _, _⟩ := s
    have := len2 p
    obtain rfl := A'.t
    exact ⟨R', M', _, v', G', he, ⟨hb.hr, hb.rl, A', hb.sep⟩, hb.sav, hb.nxt, hb.new, this, by omega, by omega⟩
  by_cases k3 : kind = 3
  · subst k3
    refine (does_3 H HG hO hsep i0 i1 h0 h1 h2 h3 hL hT0 hT1 hLG hT0 hT1).mono ?_
    rintro e w' ⟨R', M', T', v', G', TG', B, he, s, hb⟩
    obtain ⟨rfl, A'⟩ := agr_3 H A s
    obtain ⟨e1, e2, er, eg, p, _, _⟩ := s
    have := len3 p
    obtain rfl := A'.t
    exact ⟨R', M', _, v', G', he, ⟨hb.hr, hb.rl, A', hb.sep⟩, hb.sav, hb.nxt, hb.new, this, by omega, by omega⟩
  by_cases k4 : kind = 4
  · subst k4
    refine (does_4 H HG hO hsep i0 i1 h0 h1 h2 h3 hL hT0 hT1 hLG hT0 hT1).mono ?_
    rintro e w' ⟨R', M', T', v', G', TG', B, he, s, hb⟩
    obtain ⟨rfl, A'⟩ := agr_4 H A s
    obtain ⟨e1, e2, y, is, z, it, p, _, _⟩ := s
    have := len4 p
    obtain rfl := A'.t
    exact ⟨R', M', _, v', G', he, ⟨hb.hr, hb.rl, A', hb.sep⟩, hb.sav, hb.nxt, hb.new, this, by omega, by omega⟩
  refine (does_other H HG hO hsep i0 i1 h0 h1 h2 h3 hL hT0 hT1 hLG hT0 hT1 kind (by simp [k1, k2, k3, k4])).mono ?_
  rintro e w' ⟨he, hb⟩
  exact ⟨R, M, T, v, G, he, ⟨H.below hb, HG.below hb, A, hsep⟩, Sav.of hb, Nxt.refl R w, fun q e => .inl e, by omega, by omega, by omega⟩
end
/-- the document's heap in block g. -/
def DAt (w : World) (g : Nat) (v : Value) (T : Int) : Prop := w.heap[g]? = some (.cells #[v, .int .i64 T] 28 (0, 0))
section
variable {w w' : World} {g : Nat} {v : Value} {T : Int}
theorem DAt.lt (h : DAt w g v T) : g < w.heap.size := (Array.getElem?_eq_some_iff.1 h).1
theorem DAt.cells (h : DAt w g v T) : w.cell? ⟨g, 0, none⟩ = some v ∧ w.cell? ⟨g, 1, none⟩ = some (.int .i64 T) := by
  unfold DAt at h
  refine ⟨?_, ?_⟩ <;> simp [World.cell?, h]
theorem DAt.of (h : DAt w g v T) (e : w'.heap[g]? = w.heap[g]?) : DAt w' g v T := e.trans h
theorem DAt.below (h : DAt w g v T) (hb : Below w.heap.size w w') : DAt w' g v T := h.of (hb.block g h.lt)
theorem DAt.new (w : World) (v : Value) (T : Int) : DAt (w.alloc (.cells #[v, .int .i64 T] 28)) w.heap.size v T := World.alloc_heap_new w _
end
end Go.Proofs.Ytohkkebiilaniaa.Hp

/- Heaps: HeapPlay's walk. -/
namespace Go.Proofs.Ytohkkebiilaniaa.Hp
set_option linter.unusedVariables false
open Go.RowKit Go.Maps Go.Sort Go.Proofs.Ytohkkebiilaniaa.Tp
set_option maxRecDepth 100000 in
set_option maxHeartbeats 16000000 in
theorem play_walk (A : Option Addr) (L : List (Int × Int × Int × Int)) (c : Nat) (hWd : ∀ x ∈ L, WdA x) (hlc : L.length ≤ c) (hcm : c ≤ maxLen) (id : Int) (hid : -9223372036854775808 ≤ id ∧ id ≤ 9223372036854775807) (w : World) (hA : Lie actV 4 w w.heap.size A L) :
    Calls Try.prog 3 #[.slice A L.length c, .int .i64 id] w fun e w' => e = .returned (.bool true) ∧ Below w.heap.size w w' := by
  have cK := hidd (fun W => known11_any W)
  have cN := hidd (fun W => newR W)
  by_cases h60 : 60 < L.length
  · have z : (60 : Int) < (L.length : Int) := by omega
    generalize L.length = N at *
    clear hWd hA hid
    go_enter Try.func3, Try.ntmps3
    go_wp2_with fail
    refine (cK.out _).mono ?_
    rintro e w1 ⟨rfl, hb⟩
    go_wp2_with fail
    go_ret
    exact ⟨rfl, by (repeat' (first | (with_reducible exact Below.refl _ _) | (with_reducible assumption) | (with_reducible apply Below.setCell) | (with_reducible apply Below.alloc) | (with_reducible apply Below.drew) | (with_reducible apply below_drewN) | (with_reducible refine Below.trans ?_ (Below.mono (by assumption) ?_)) | omega | (simp; done) | (simp; omega)))⟩
  have z60 : ¬ (60 : Int) < (L.length : Int) := by omega
  have HWd := hidd hWd
  have HA := hidd hA
  have cD := hidd (fun W R v M T G h (P : Play R W h v M T G) x hx hL h0 h1 => does_play P x hx hL h0 h1)
  have cS := hidd (fun W R v M T G h (P : Play R W h v M T G) hl => same_yes (TG := T) P.hr P.rl P.ag.p P.ag.s hl)
  have cG := hidd (fun W R h M T (H : HR R W h M T) => getH H hid.1 hid.2)
  have cF := hidd (fun W v G T hm (H : RL W v G) => find11_any v G T id hm W H)
  clear hA hWd hid
  unfold PlayEnd at cD
  go_enter Try.func3, Try.ntmps3
  go_wp2_with fail
  refine (cN.out _).mono ?_
  rintro e w0 ⟨rfl, ⟨R0, hR0, hn0⟩, hb0⟩
  have HB0 := hidd hb0
  have HR0 := hidd hR0
  have N0 := hidd hn0
  have hwg0 : w.heap.size ≤ w0.heap.size := hb0.size
  clear hb0 hR0 hn0
  generalize w.heap.size + 1 = h at *
  go_wp2_with fail
  obtain ⟨W0, hW0⟩ : ∃ W0 : World, w0.alloc (.cells #[.slice none 0 0, .int .i64 0] 28) = W0 := ⟨_, rfl⟩
  have HG0 : Hid (DAt W0 w0.heap.size (.slice none 0 0) 0) := hidd (by rw [← hW0]; exact DAt.new _ _ _)
  have H0 : Hid (Below w.heap.size w W0) := hidd (by rw [← hW0]; exact below_new HB0.out _)
  have HP0 : Hid (Play R0 W0 h (.slice none ([] : List It).length 0) [] 0 []) := hidd (by rw [← hW0]; exact ⟨HR0.out.below (below_new (Below.refl _ _) _), OwnL.nil _ 0 _, ⟨List.Perm.refl _, List.Pairwise.nil, rfl⟩, fun q e => by cases e⟩)
  have NG0 : Hid (¬ R0 w0.heap.size) := hidd (fun r => by have := HR0.out.lt _ r; omega)
  rw [hW0]
  clear hW0 HB0 HR0
  generalize w0.heap.size = g at *
  go_loopg [7] L.length (fun gk s7 wr => ∃ (i : Nat) (R : Nat → Prop) (GA : Option Addr) (gc : Nat) (M : List It) (T : Int) (G : List It), i + gk = L.length ∧ s7 = .int .i64 (i : Int) ∧ Play R wr h (.slice GA G.length gc) M T G ∧ (∀ k, R k → w.heap.size ≤ k) ∧ ¬ R g ∧ (∀ q, (Value.slice GA G.length gc).ownBlock = some q → q ≠ g) ∧ DAt wr g (.slice GA G.length gc) T ∧ Below w.heap.size w wr ∧ M.length ≤ i ∧ 0 ≤ T ∧ T ≤ (i : Int))
  case atStart => exact ⟨0, R0, none, 0, [], 0, [], by omega, rfl, HP0.out, N0.out, NG0.out, (fun q e => by cases e), HG0.out, H0.out, by simp, by omega, by omega⟩
  case round =>
    clear HP0 HG0 H0 NG0 N0
    obtain ⟨i, R, GA, gc, M, T, G, hk, rfl, hP, hN, hgn, hvg, hD, hB, hMl, hT0, hT1⟩ := hrel
    have HP := hidd hP
    have HN := hidd hN
    have HGN := hidd (And.intro hgn hvg)
    have HD := hidd hD
    have HB := hidd hB
    have HK := hidd hk
    clear hP hN hgn hvg hD hB
    by_cases hlt : i < L.length
    · have z1 : (i : Int) < (L.length : Int) := by omega
      have z2 : (0 : Int) ≤ (i : Int) := by omega
      obtain ⟨ad, rfl, ha, c0, c1, c2, c3⟩ := Lie.act (HA.out.keep HB.out) i hlt
      have CD := hidd (fun W (b : Below wr.heap.size wr W) => cD.out W R _ M T G h (HP.out.below b) (aA L i) (HWd.out _ (by rw [aA_at hlt]; exact List.getElem_mem hlt : aA L i ∈ L)) (by omega) hT0 (by omega))
      have CS := hidd (fun W R v M' T' G' (P : Play R W h v M' T' G') (hl : M'.length ≤ M.length + 1) => cS.out W R v M' T' G' h P (by rw [P.len]; omega))
      generalize (aA L i).1 = r0 at *
      generalize (aA L i).2.1 = r1 at *
      generalize (aA L i).2.2.1 = r2 at *
      generalize (aA L i).2.2.2 = r3 at *
      obtain ⟨g0, g1⟩ := HD.out.cells
      have hgs := HD.out.lt
      have haw : (ad.add (i * 4)).block < wr.heap.size := Nat.lt_of_lt_of_le ha HB.out.size
      have har : ¬ R (ad.add (i * 4)).block := fun r => by have := HN.out _ r; omega
      generalize hGL : G.length = gl at *
      have HGL := hidd hGL
      clear hGL
      have KEEP := hidd (fun Y (hb : Sav R wr Y) => (show (Y.cell? (ad.add (i * 4)) = some (.int .i64 r0) ∧ Y.cell? ⟨(ad.add (i * 4)).block, (ad.add (i * 4)).off + 1, none⟩ = some (.int .i64 r1) ∧ Y.cell? ⟨(ad.add (i * 4)).block, (ad.add (i * 4)).off + 2, none⟩ = some (.int .i64 r2) ∧ Y.cell? ⟨(ad.add (i * 4)).block, (ad.add (i * 4)).off + 3, none⟩ = some (.int .i64 r3)) ∧ Y.cell? ⟨g, 0, none⟩ = some (.slice GA gl gc) ∧ Y.cell? ⟨g, 1, none⟩ = some (.int .i64 T) from
        ⟨⟨(hb.cell haw har).trans c0, (hb.cell (p := ⟨(ad.add (i * 4)).block, (ad.add (i * 4)).off + 1, none⟩) haw har).trans c1, (hb.cell (p := ⟨(ad.add (i * 4)).block, (ad.add (i * 4)).off + 2, none⟩) haw har).trans c2, (hb.cell (p := ⟨(ad.add (i * 4)).block, (ad.add (i * 4)).off + 3, none⟩) haw har).trans c3⟩, (hb.cell (p := ⟨g, 0, none⟩) hgs HGN.out.1).trans g0, (hb.cell (p := ⟨g, 1, none⟩) hgs HGN.out.1).trans g1⟩))
      clear ha
      go_wp2_with fail
      go_cut [8, 9] (fun s8 s9 wy => ∃ (q : Nat) (R' : Nat → Prop) (GA' : Option Addr) (gc' n' : Nat) (M' : List It) (T' : Int) (G' : List It), s8 = .pointer (some ⟨q, 0, none⟩) ∧ s9 = .bool true ∧ G'.length = n' ∧ Play R' wy h (.slice GA' n' gc') M' T' G' ∧ DAt wy q (.slice GA' n' gc') T' ∧ ¬ R' q ∧ (∀ k, (Value.slice GA' n' gc').ownBlock = some k → k ≠ q) ∧ wr.heap.size ≤ q ∧ Nxt R R' wr ∧ New wr (.slice GA gl gc) (.slice GA' n' gc') ∧ Sav R wr wy ∧ M'.length ≤ M.length + 1 ∧ 0 ≤ T' ∧ T' ≤ T + 1)
      case first =>
        refine wp_region_held_drew (S := (fun Y => (Y.cell? (ad.add (i * 4)) = some (.int .i64 r0) ∧ Y.cell? ⟨(ad.add (i * 4)).block, (ad.add (i * 4)).off + 1, none⟩ = some (.int .i64 r1) ∧ Y.cell? ⟨(ad.add (i * 4)).block, (ad.add (i * 4)).off + 2, none⟩ = some (.int .i64 r2) ∧ Y.cell? ⟨(ad.add (i * 4)).block, (ad.add (i * 4)).off + 3, none⟩ = some (.int .i64 r3)) ∧ Y.cell? ⟨g, 0, none⟩ = some (.slice GA gl gc) ∧ Y.cell? ⟨g, 1, none⟩ = some (.int .i64 T))) (by kernel_rfl) (KEEP.out _ (Sav.of (Below.drew (Below.refl _ _)))) (fun hH => ?_)
        refine wpAnyH_take (i := 0) (v := ?va0) (by (conv => lhs; simp only [List.getElem?_toArray, List.getElem?_cons_succ, List.getElem?_cons_zero])) (by kernel_rfl) (by kernel_rfl) (by kernel_rfl) ?hQ (Or.inl ⟨by rfl, ?hya0⟩) hH ?resta0
        case hQ => exact fun _ _ _ h => h
        case hya0 => (intro Y hY; obtain ⟨⟨e0, e1, e2, e3⟩, e4, e5⟩ := hY; go_simp; try (with_reducible rfl))
        try simp only [Act.put, List.setIfInBounds_toArray, List.set_cons_zero, List.set_cons_succ]
        refine wpAnyH_take (i := 1) (v := ?va1) (by (conv => lhs; simp only [List.getElem?_toArray, List.getElem?_cons_succ, List.getElem?_cons_zero])) (by kernel_rfl) (by kernel_rfl) (by kernel_rfl) ?hQ (Or.inl ⟨by rfl, ?hya1⟩) hH ?resta1
        case hQ => exact fun _ _ _ h => h
        case hya1 => (intro Y hY; obtain ⟨⟨e0, e1, e2, e3⟩, e4, e5⟩ := hY; go_simp; try (with_reducible rfl))
        try simp only [Act.put, List.setIfInBounds_toArray, List.set_cons_zero, List.set_cons_succ]
        refine wpAnyH_take (i := 2) (v := ?va2) (by (conv => lhs; simp only [List.getElem?_toArray, List.getElem?_cons_succ, List.getElem?_cons_zero])) (by kernel_rfl) (by kernel_rfl) (by kernel_rfl) ?hQ (Or.inl ⟨by rfl, ?hya2⟩) hH ?resta2
        case hQ => exact fun _ _ _ h => h
        case hya2 => (intro Y hY; obtain ⟨⟨e0, e1, e2, e3⟩, e4, e5⟩ := hY; go_simp; try (with_reducible rfl))
        try simp only [Act.put, List.setIfInBounds_toArray, List.set_cons_zero, List.set_cons_succ]
        refine wpAnyH_take (i := 3) (v := ?va3) (by (conv => lhs; simp only [List.getElem?_toArray, List.getElem?_cons_succ, List.getElem?_cons_zero])) (by kernel_rfl) (by kernel_rfl) (by kernel_rfl) ?hQ (Or.inl ⟨by rfl, ?hya3⟩) hH ?resta3
        case hQ => exact fun _ _ _ h => h
        case hya3 => (intro Y hY; obtain ⟨⟨e0, e1, e2, e3⟩, e4, e5⟩ := hY; go_simp; try (with_reducible rfl))
        try simp only [Act.put, List.setIfInBounds_toArray, List.set_cons_zero, List.set_cons_succ]
        refine wpAnyH_take (i := 4) (v := ?va4) (by (conv => lhs; simp only [List.getElem?_toArray, List.getElem?_cons_succ, List.getElem?_cons_zero])) (by kernel_rfl) (by kernel_rfl) (by kernel_rfl) ?hQ (Or.inl ⟨by rfl, ?hya4⟩) hH ?resta4
        case hQ => exact fun _ _ _ h => h
        case hya4 => (intro Y hY; obtain ⟨⟨e0, e1, e2, e3⟩, e4, e5⟩ := hY; go_simp; try (with_reducible rfl))
        try simp only [Act.put, List.setIfInBounds_toArray, List.set_cons_zero, List.set_cons_succ]
        refine wpAnyH_take (i := 5) (v := ?va5) (by (conv => lhs; simp only [List.getElem?_toArray, List.getElem?_cons_succ, List.getElem?_cons_zero])) (by kernel_rfl) (by kernel_rfl) (by kernel_rfl) ?hQ (Or.inl ⟨by rfl, ?hya5⟩) hH ?resta5
        case hQ => exact fun _ _ _ h => h
        case hya5 => (intro Y hY; obtain ⟨⟨e0, e1, e2, e3⟩, e4, e5⟩ := hY; go_simp; try (with_reducible rfl))
        try simp only [Act.put, List.setIfInBounds_toArray, List.set_cons_zero, List.set_cons_succ]
        refine wpAnyH_ready (rs := [6, 10]) (by kernel_rfl) (by simp) ?_
        refine AllReadyH.cons (by (conv => lhs; simp only [List.getElem?_toArray, List.getElem?_cons_succ, List.getElem?_cons_zero])) (fun K hK => ?_) (AllReadyH.cons (by (conv => lhs; simp only [List.getElem?_toArray, List.getElem?_cons_succ, List.getElem?_cons_zero])) (fun K hK => ?_) AllReadyH.nil)
        · go_simp
          go_at_call 7; refine (CD.out _ (Below.drew (Below.refl _ _))).mono ?_; rintro e w5 ⟨R5, M5, T5, v5, G5, rfl, hP5, hS5, hN5, hW5, hl5, ht5, hu5⟩; obtain ⟨A5, c5, hv5, _⟩ := OwnL.lie hP5.rl itV_len; subst hv5
          have cum1 : Sav R wr w5 := (Sav.of (Below.drew (Below.refl _ _))).tr hS5
          have cumA := fun o => cum1.tr (Sav.of (below_new (Below.refl _ w5) o))
          have P5 := hidd hP5
          have NX := hidd hN5
          have NW := hidd hW5
          have SV := hidd hS5
          clear hP5 hN5 hW5 hS5
          generalize hn5 : G5.length = n5 at *
          have HN5 := hidd hn5
          clear hn5
          refine hK.out _ _ (KEEP.out _ cum1) (fun hH1 => ?_)
          clear hK hH
          try simp only [Act.put, List.setIfInBounds_toArray, List.set_cons_zero, List.set_cons_succ]
          refine wpAnyH_take (i := 7) (v := ?vb7) (by (conv => lhs; simp only [List.getElem?_toArray, List.getElem?_cons_succ, List.getElem?_cons_zero])) (by kernel_rfl) (by kernel_rfl) (by kernel_rfl) ?hQ (Or.inl ⟨by rfl, ?hyb7⟩) hH1 ?restb7
          case hQ => exact fun _ _ _ h => h
          case hyb7 => (intro Y hY; obtain ⟨⟨e0, e1, e2, e3⟩, e4, e5⟩ := hY; go_simp; try (with_reducible rfl))
          try simp only [Act.put, List.setIfInBounds_toArray, List.set_cons_zero, List.set_cons_succ]
          refine wpAnyH_take (i := 8) (v := ?vb8) (by (conv => lhs; simp only [List.getElem?_toArray, List.getElem?_cons_succ, List.getElem?_cons_zero])) (by kernel_rfl) (by kernel_rfl) (by kernel_rfl) ?hQ (Or.inl ⟨by rfl, ?hyb8⟩) hH1 ?restb8
          case hQ => exact fun _ _ _ h => h
          case hyb8 => (intro Y hY; obtain ⟨⟨e0, e1, e2, e3⟩, e4, e5⟩ := hY; go_simp; try (with_reducible rfl))
          try simp only [Act.put, List.setIfInBounds_toArray, List.set_cons_zero, List.set_cons_succ]
          refine wpAnyH_take (i := 9) (v := ?vb9) (by (conv => lhs; simp only [List.getElem?_toArray, List.getElem?_cons_succ, List.getElem?_cons_zero])) (by kernel_rfl) (by kernel_rfl) (by kernel_rfl) ?hQ (Or.inl ⟨by rfl, ?hyb9⟩) hH1 ?restb9
          case hQ => exact fun _ _ _ h => h
          case hyb9 => (intro Y hY; obtain ⟨⟨e0, e1, e2, e3⟩, e4, e5⟩ := hY; go_simp; try (with_reducible rfl))
          try simp only [Act.put, List.setIfInBounds_toArray, List.set_cons_zero, List.set_cons_succ]
          refine wpAnyH_ready (rs := [10]) (by kernel_rfl) (by simp) ?_
          refine AllReadyH.cons (by (conv => lhs; simp only [List.getElem?_toArray, List.getElem?_cons_succ, List.getElem?_cons_zero])) (fun K hK => ?_) AllReadyH.nil
          go_simp
          refine hK.out _ _ (KEEP.out _ (cumA _)) (fun hH2 => ?_)
          clear hK hH1
          try simp only [Act.put, List.setIfInBounds_toArray, List.set_cons_zero, List.set_cons_succ]
          refine wpAnyH_ready (rs := [11]) (by kernel_rfl) (by simp) ?_
          refine AllReadyH.cons (by (conv => lhs; simp only [List.getElem?_toArray, List.getElem?_cons_succ, List.getElem?_cons_zero])) (fun K hK => ?_) AllReadyH.nil
          clear hH2 g0 g1 c0 c1 c2 c3
          go_simp
          refine hK.out _ _ (KEEP.out _ (cumA _)) (fun hH3 => ?_)
          clear hK
          try simp only [Act.put, List.setIfInBounds_toArray, List.set_cons_zero, List.set_cons_succ]
          refine wpAnyH_take (i := 12) (v := ?vc12) (by (conv => lhs; simp only [List.getElem?_toArray, List.getElem?_cons_succ, List.getElem?_cons_zero])) (by kernel_rfl) (by kernel_rfl) (by kernel_rfl) ?hQ (Or.inl ⟨by rfl, ?hyc12⟩) hH3 ?restc12
          case hQ => exact fun _ _ _ h => h
          case hyc12 => (intro Y hY; obtain ⟨⟨e0, e1, e2, e3⟩, e4, e5⟩ := hY; go_simp; try (with_reducible rfl))
          try simp only [Act.put, List.setIfInBounds_toArray, List.set_cons_zero, List.set_cons_succ]
          refine wpAnyH_done (by kernel_rfl) ?_ _
          go_wp2_with fail
          go_meet
          exact ⟨w5.heap.size, R5, A5, c5, n5, M5, T5, G5, rfl, rfl, HN5.out, P5.out.below (below_new (Below.refl _ _) _), DAt.new _ _ _, fun r => (by have := P5.out.hr.lt _ r; omega), fun k e => (by have := (OwnL.lt P5.out.rl k e).2; omega), cum1.size, NX.out, NW.out, cumA _, hl5, ht5, hu5⟩
        · go_simp
          refine hK.out _ _ (KEEP.out _ (Sav.of (below_new (Below.drew (Below.refl _ _)) _))) (fun hH1 => ?_)
          clear hK hH
          try simp only [Act.put, List.setIfInBounds_toArray, List.set_cons_zero, List.set_cons_succ]
          refine wpAnyH_ready (rs := [6]) (by kernel_rfl) (by simp) ?_
          refine AllReadyH.cons (by (conv => lhs; simp only [List.getElem?_toArray, List.getElem?_cons_succ, List.getElem?_cons_zero])) (fun K hK => ?_) AllReadyH.nil
          go_simp
          go_at_call 7; refine (CD.out _ (below_new (Below.drew (Below.refl _ _)) _)).mono ?_; rintro e w5 ⟨R5, M5, T5, v5, G5, rfl, hP5, hS5, hN5, hW5, hl5, ht5, hu5⟩; obtain ⟨A5, c5, hv5, _⟩ := OwnL.lie hP5.rl itV_len; subst hv5
          have cum1 : Sav R wr w5 := (Sav.of (below_new (Below.drew (Below.refl _ _)) _)).tr hS5
          have hnr : ¬ R wr.heap.size := fun r => by have := HP.out.hr.lt _ r; omega
          have hrow : w5.heap[wr.heap.size]? = some (.cells #[.slice none 0 0, .int .i64 0] 28 (0, 0)) := by first | exact (hS5.block wr.heap.size (by simp) hnr).trans (World.alloc_heap_new wr.drew _) | exact (hS5.block wr.heap.size (by simp) hnr).trans (World.alloc_heap_new wr _)
          have hnq : ¬ R5 wr.heap.size := fun r => hnr (hN5 _ (by simp) r)
          have hvq : ∀ k, (Value.slice A5 G5.length c5).ownBlock = some k → k ≠ wr.heap.size := fun k e => by rcases hW5 k e with h1 | h1; have := (OwnL.lt HP.out.rl k h1).2; omega; simp at h1; omega
          have hNX : Nxt R R5 wr := fun k hk r => hN5 k (by simp; omega) r
          have hNW : New wr (.slice GA gl gc) (.slice A5 G5.length c5) := fun k e => by rcases hW5 k e with h1 | h1; exact .inl h1; exact .inr (by simp at h1; omega)
          have P5 := hidd hP5
          have NX := hidd hNX
          have NW := hidd hNW
          have HQ := hidd (And.intro hnq hvq)
          clear hP5 hN5 hW5 hS5 hNX hNW hnq hvq
          generalize hn5 : G5.length = n5 at *
          have HN5 := hidd hn5
          clear hn5
          refine hK.out _ _ (KEEP.out _ cum1) (fun hH2 => ?_)
          clear hK hH1
          try simp only [Act.put, List.setIfInBounds_toArray, List.set_cons_zero, List.set_cons_succ]
          refine wpAnyH_take (i := 7) (v := ?vd7) (by (conv => lhs; simp only [List.getElem?_toArray, List.getElem?_cons_succ, List.getElem?_cons_zero])) (by kernel_rfl) (by kernel_rfl) (by kernel_rfl) ?hQ (Or.inl ⟨by rfl, ?hyd7⟩) hH2 ?restd7
          case hQ => exact fun _ _ _ h => h
          case hyd7 => (intro Y hY; obtain ⟨⟨e0, e1, e2, e3⟩, e4, e5⟩ := hY; go_simp; try (with_reducible rfl))
          try simp only [Act.put, List.setIfInBounds_toArray, List.set_cons_zero, List.set_cons_succ]
          refine wpAnyH_take (i := 8) (v := ?vd8) (by (conv => lhs; simp only [List.getElem?_toArray, List.getElem?_cons_succ, List.getElem?_cons_zero])) (by kernel_rfl) (by kernel_rfl) (by kernel_rfl) ?hQ (Or.inl ⟨by rfl, ?hyd8⟩) hH2 ?restd8
          case hQ => exact fun _ _ _ h => h
          case hyd8 => (intro Y hY; obtain ⟨⟨e0, e1, e2, e3⟩, e4, e5⟩ := hY; go_simp; try (with_reducible rfl))
          try simp only [Act.put, List.setIfInBounds_toArray, List.set_cons_zero, List.set_cons_succ]
          refine wpAnyH_take (i := 9) (v := ?vd9) (by (conv => lhs; simp only [List.getElem?_toArray, List.getElem?_cons_succ, List.getElem?_cons_zero])) (by kernel_rfl) (by kernel_rfl) (by kernel_rfl) ?hQ (Or.inl ⟨by rfl, ?hyd9⟩) hH2 ?restd9
          case hQ => exact fun _ _ _ h => h
          case hyd9 => (intro Y hY; obtain ⟨⟨e0, e1, e2, e3⟩, e4, e5⟩ := hY; go_simp; try (with_reducible rfl))
          try simp only [Act.put, List.setIfInBounds_toArray, List.set_cons_zero, List.set_cons_succ]
          refine wpAnyH_ready (rs := [11]) (by kernel_rfl) (by simp) ?_
          refine AllReadyH.cons (by (conv => lhs; simp only [List.getElem?_toArray, List.getElem?_cons_succ, List.getElem?_cons_zero])) (fun K hK => ?_) AllReadyH.nil
          clear hH2 g0 g1 c0 c1 c2 c3
          rw [if_pos (by rfl)]
          refine wp_store_row 28 (.tmp 8) (.tmp 33) (by rfl) wr.heap.size #[.slice A5 n5 c5, .int .i64 T5] (by rfl) (by rfl) _ _ hrow (by kernel_rfl) (by rfl) (by simp [Value.oneCell']) ?_
          have hrow2 := setRow_heap w5 wr.heap.size _ #[.slice A5 n5 c5, .int .i64 T5] _ _ hrow
          have cum2 : Sav R wr (w5.setRow wr.heap.size #[.slice A5 n5 c5, .int .i64 T5]) := ⟨cum1.os, cum1.tape, cum1.output, by rw [setRow_size]; exact cum1.size, fun k h1 h2 => (setRow_other w5 _ k _ (by omega)).trans (cum1.block k h1 h2)⟩
          refine hK.out _ _ (KEEP.out _ cum2) (fun hH3 => ?_)
          clear hK
          try simp only [Act.put]
          refine wpAnyH_take (i := 12) (v := ?ve12) (by (conv => lhs; simp only [List.getElem?_toArray, List.getElem?_cons_succ, List.getElem?_cons_zero])) (by kernel_rfl) (by kernel_rfl) (by kernel_rfl) ?hQ (Or.inl ⟨by rfl, ?hye12⟩) hH3 ?reste12
          case hQ => exact fun _ _ _ h => h
          case hye12 => (intro Y hY; obtain ⟨⟨e0, e1, e2, e3⟩, e4, e5⟩ := hY; go_simp; try (with_reducible rfl))
          try simp only [Act.put, List.setIfInBounds_toArray, List.set_cons_zero, List.set_cons_succ]
          refine wpAnyH_done (by kernel_rfl) ?_ _
          go_wp2_with fail
          go_meet
          exact ⟨wr.heap.size, R5, A5, c5, n5, M5, T5, G5, rfl, rfl, HN5.out, P5.out.keep (fun k hk => setRow_other w5 _ k _ hk) HQ.out.1 HQ.out.2, hrow2, HQ.out.1, HQ.out.2, Nat.le_refl _, NX.out, NW.out, cum2, hl5, ht5, hu5⟩
      case rest =>
        obtain ⟨wk, rfl⟩ : ∃ wk : World, wk = wc := ⟨_, rfl⟩
        obtain ⟨q, R', GA', gc', n', M', T', G', rfl, rfl, hn', hP', hD', hq1, hq2, hqs, hNx, hNw, hSv, hl', ht0, ht1⟩ := hcut
        clear KEEP CD c0 c1 c2 c3 g0 g1 haw har
        have hrg : ¬ R' g := fun r => HGN.out.1 (hNx g hgs r)
        have hvg : ∀ k, (Value.slice GA' n' gc').ownBlock = some k → k ≠ g := fun k e => by
          rcases hNw k e with h1 | h1
          · exact HGN.out.2 k h1
          · omega
        have HNR : Hid (∀ k, R' k → w.heap.size ≤ k) := hidd (fun k r => by
          rcases Nat.lt_or_ge k wr.heap.size with h1 | h1
          · exact HN.out k (hNx k h1 r)
          · have := HB.out.size; omega)
        have hB2 : Below w.heap.size w wk := HB.out.trans (hSv.below HB.out.size HN.out)
        have hDg : DAt wk g (.slice GA gl gc) T := HD.out.of (hSv.block g hgs HGN.out.1)
        have HP' := hidd hP'
        have HDq := hidd hD'
        have HB2 := hidd hB2
        have HDg := hidd hDg
        have HGN' := hidd (And.intro hrg hvg)
        have cs := hidd (CS.out wk R' _ M' T' G' hP' hl')
        have hgw : g < wk.heap.size := hDg.lt
        have hwg : w.heap.size ≤ wr.heap.size := HB.out.size
        have HGW := hidd hD'.lt
        obtain ⟨q0, q1⟩ := hD'.cells
        clear hP' hD' hNx hNw hSv hrg hvg hB2 hDg HP HN HGN HD HB CS
        go_wp2_with fail
        refine cs.out.mono ?_
        rintro e w6 ⟨rfl, hb6⟩
        have HP6 := hidd (HP'.out.below hb6)
        have HD6 := hidd (HDq.out.below hb6)
        have HG6 := hidd (HDg.out.below hb6)
        have HB6 := hidd (HB2.out.trans (hb6.mono HB2.out.size))
        clear hb6 cs HP' HDq HDg HB2 q0 q1
        obtain ⟨q0, q1⟩ := HD6.out.cells
        have hrow : Hid (w6.heap[g]? = some (.cells #[.slice GA gl gc, .int .i64 T] 28 (0, 0))) := HG6
        have hinf : Hid ((Try.prog.info? 28).map (·.size) = some 2) := hidd (by kernel_rfl)
        have hout := hidd (setRow_heap w6 g _ #[.slice GA' n' gc', .int .i64 T'] _ _ hrow.out)
        have hoth := hidd (fun k (h : k ≠ g) => setRow_other w6 g k #[.slice GA' n' gc', .int .i64 T'] h)
        have hbl := hidd (below_setRow (g := g) HB6.out (by omega) #[.slice GA' n' gc', .int .i64 T'])
        obtain ⟨wz, hwz⟩ : ∃ wz : World, w6.setRow g #[.slice GA' n' gc', .int .i64 T'] = wz := ⟨_, rfl⟩
        have HWZ := hidd hwz
        rw [hwz] at hout hbl hoth
        clear hwz
        go_wp2_with (refine wpList_store_row rfl 28 (.tmp 6) (.tmp 43) rfl g #[.slice GA' n' gc', .int .i64 T'] rfl rfl 28 _ hrow.out hinf.out rfl (by simp [Value.oneCell']) ?_; rw [HWZ.out])
        have hk := HK.out
        subst hn'
        go_roundg (gk - 1)
        case measure => omega
        case rel => exact ⟨i + 1, R', GA', gc', M', T', G', by omega, by go_num, HP6.out.keep hoth.out HGN'.out.1 HGN'.out.2, HNR.out, HGN'.out.1, HGN'.out.2, hout.out, hbl.out, by omega, ht0, by omega⟩
    · have z1 : ¬ (i : Int) < (L.length : Int) := by omega
      have hM60 : M.length ≤ 60 := by omega
      have CG := hidd (cG.out wr R h M T HP.out.hr)
      have CF := hidd (fun W (b : Below wr.heap.size wr W) => cF.out W _ G T (by rw [HP.out.len]; omega) (HP.out.rl.below b))
      have HLi := hidd (fun W (b : Below wr.heap.size wr W) => (show Lie itV 4 W W.heap.size GA G from by obtain ⟨A', c', e, _, _, hl⟩ := OwnL.lie (HP.out.rl.below b) itV_len; cases e; exact hl))
      have hgl : G.length ≤ 60 := by rw [HP.out.len]; omega
      clear HA HWd cD cS cG cF cN HN HGN HK
      generalize L.length = N at *
      obtain ⟨g0, g1⟩ := HD.out.cells
      go_wp2_with fail
      refine CG.out.mono ?_
      rintro e w1 ⟨⟨y, is, rfl, hy⟩, hb1⟩
      have HY := hidd hy
      obtain ⟨y0, y1, y2, y3⟩ := y
      unfold agI iD kN kD tN
      have HB1 := hidd (HB.out.trans (hb1.mono HB.out.size))
      have BR1 := hidd hb1
      have HD1 := hidd (HD.out.below hb1)
      have hgs : g < wr.heap.size := HD.out.lt
      clear hb1 hy g0 g1 HD CG
      obtain ⟨g0, g1⟩ := HD1.out.cells
      have hgs1 : g < w1.heap.size := HD1.out.lt
      have hne1 : g ≠ w1.heap.size := by omega
      go_wp2_with fail
      obtain ⟨W2, hW2⟩ : ∃ W2 : World, w1.alloc (.cells #[.int .i64 y0, .int .i64 y1, .int .i64 y2, .int .i64 y3] 37) = W2 := ⟨_, rfl⟩
      have b12 : Below w1.heap.size w1 W2 := hW2 ▸ below_new (Below.refl _ _) _
      have x2 : Hid (Cells4 W2 w1.heap.size (y0, y1, y2, y3)) := hidd (by rw [← hW2]; refine ⟨?_, ?_, ?_, ?_⟩ <;> simp [go_sem] <;> rfl)
      have hs2 : w1.heap.size < W2.heap.size := by rw [← hW2]; simp
      rw [hW2]
      clear hW2
      have HB2 := hidd (HB1.out.trans (b12.mono HB1.out.size))
      have BR2 := hidd (BR1.out.trans (b12.mono BR1.out.size))
      have HD2 := hidd (HD1.out.below b12)
      clear b12 g0 g1
      obtain ⟨g0, g1⟩ := HD2.out.cells
      go_wp2_with fail
      refine (CF.out _ BR2.out).mono ?_
      rintro e w3 ⟨rfl, hb3⟩
      have HB3 := hidd (HB2.out.trans (hb3.mono HB2.out.size))
      have BR3 := hidd (BR2.out.trans (hb3.mono BR2.out.size))
      have HD3 := hidd (HD2.out.below hb3)
      obtain ⟨d0, d1, d2, d3⟩ := x2.out
      have d0 := (hb3.cell (p := ⟨w1.heap.size, 0, none⟩) hs2).trans d0
      have d1 := (hb3.cell (p := ⟨w1.heap.size, 1, none⟩) hs2).trans d1
      have d2 := (hb3.cell (p := ⟨w1.heap.size, 2, none⟩) hs2).trans d2
      have d3 := (hb3.cell (p := ⟨w1.heap.size, 3, none⟩) hs2).trans d3
      unfold iD at d0
      unfold kN at d1
      unfold kD at d2
      unfold tN at d3
      clear hb3 g0 g1
      obtain ⟨g0, g1⟩ := HD3.out.cells
      cases is
      case true =>
        have hy : (y0, y1, y2, y3) ∈ M ∧ iD (y0, y1, y2, y3) = id := by
          rcases HY.out with ⟨_, a, b⟩ | ⟨a, _⟩
          · exact ⟨a, b⟩
          · cases a
        have hhas : Has G id := ⟨_, HP.out.ag.p.mem_iff.2 hy.1, hy.2⟩
        obtain ⟨j, hj, ej, ep⟩ := posI_pos hhas
        have egj : gI G j = (y0, y1, y2, y3) := HP.out.hr.ids (HP.out.ag.p.mem_iff.1 (mem_gI2 hj)) hy.1 (ej.trans hy.2.symm)
        obtain ⟨ad, rfl, hadb, j0, j1, j2, j3⟩ := Lie.it4 (HLi.out w3 BR3.out) j hj
        rw [egj] at j0 j1 j2 j3
        unfold iD at j0
        unfold kN at j1
        unfold kD at j2
        unfold tN at j3
        rw [ep]
        have eqq := fun W => item_run y0 y1 y2 y3 y0 y1 y2 y3 W
        rw [eqB_iff.2 rfl] at eqq
        have w0 : (0 : Int) ≤ (j : Int) := by omega
        have w1' : (j : Int) < (G.length : Int) := by omega
        have wd : decide (G.length ≤ j) = false := decide_eq_false (by omega)
        clear hy hhas ej egj ep HY HLi HP CF BR3 x2
        generalize G.length = gl at *
        go_wp2_with fail
        go_quiet (fail)
        go_wp2_with fail
        refine (cK.out _).mono ?_
        rintro e w4 ⟨rfl, hb4⟩
        go_wp2_with fail
        go_ret
        exact ⟨rfl, (below_drewN HB3.out _).trans (hb4.mono HB3.out.size)⟩
      case false =>
        have hy : (y0, y1, y2, y3) = zI ∧ ¬ Has M id := by
          rcases HY.out with ⟨a, _⟩ | ⟨_, a, b⟩
          · cases a
          · exact ⟨a, b⟩
        have hno : ¬ Has G id := fun q => hy.2 ((Has.perm HP.out.ag.p id).1 q)
        have ep := posI_neg hno
        obtain ⟨e0, e1, e2, e3⟩ : y0 = 0 ∧ y1 = 0 ∧ y2 = 0 ∧ y3 = 0 := by
          have := hy.1
          unfold zI at this
          simpa using this
        subst e0 e1 e2 e3
        rw [ep]
        have eqq := fun W => item_run 0 0 0 0 0 0 0 0 W
        rw [eqB_iff.2 rfl] at eqq
        clear hy hno ep HY HLi HP CF BR3 x2
        generalize G.length = gl at *
        go_wp2_with fail
        go_quiet (fail)
        go_wp2_with fail
        refine (cK.out _).mono ?_
        rintro e w4 ⟨rfl, hb4⟩
        go_wp2_with fail
        go_ret
        exact ⟨rfl, (below_drewN HB3.out _).trans (hb4.mono HB3.out.size)⟩
end Go.Proofs.Ytohkkebiilaniaa.Hp

/- Heaps: are two lists of the document's the same. -/
namespace Go.Proofs.Ytohkkebiilaniaa.Hp
set_option linter.unusedVariables false
open Go.RowKit Go.Maps Go.Sort Go.Proofs.Ytohkkebiilaniaa.Tp

theorem list_ext_gI {L M : List It} (hn : L.length = M.length) (h : ∀ j, j < L.length → gI L j = gI M j) : L = M :=
  List.ext_getElem hn fun j h1 h2 => by have := h j h1; rw [gI_at h1, gI_at h2] at this; exact this
set_option maxRecDepth 100000 in
set_option maxHeartbeats 4000000 in
theorem same11_any (A B : Option Addr) (L M : List It) (c d : Nat) (hL : L.length ≤ 1000000) (hM : M.length ≤ 1000000) (w : World) (hA : Lie itV 4 w w.heap.size A L) (hB : Lie itV 4 w w.heap.size B M) :
    Calls Try.prog 14 #[.slice A L.length c, .slice B M.length d] w fun e w' => e = .returned (.bool (decide (L = M))) ∧ ∃ q, w' = w.drewN q := by
  have HA := hidd hA
  have HB := hidd hB
  obtain ⟨R, hR⟩ : ∃ R, decide (L = M) = R := ⟨_, rfl⟩
  rw [hR]
  have HR := hidd hR
  clear hA hB hR
  by_cases hn : L.length = M.length
  · have HN := hidd hn
    obtain ⟨n, hln⟩ : ∃ n, L.length = n := ⟨_, rfl⟩
    have HLN := hidd hln
    rw [← hn, hln]
    rw [hln] at hL
    clear hn hln hM
    go_enter Try.func14, Try.ntmps14
    go_wp2_with fail
    go_loopg [5] (n + 1) (fun g s wr => ∃ (i q : Nat), i ≤ n ∧ i + g = n + 1 ∧ s = .int .i64 (i : Int) ∧ (∀ j, j < i → gI L j = gI M j) ∧ wr = w.drewN q)
    case atStart => exact ⟨0, 0, by omega, by omega, rfl, fun j hj => absurd hj (by omega), rfl⟩
    case round =>
      obtain ⟨i, q, hi, hg, rfl, hs, rfl⟩ := hrel
      have HG := hidd hg
      have HS := hidd hs
      clear hg hs
      by_cases hin : i < n
      · obtain ⟨ad, rfl, ha, x0, x1, x2, x3⟩ := Lie.it4 HA.out i (by rw [HLN.out]; exact hin)
        obtain ⟨bd, rfl, hb, y0, y1, y2, y3⟩ := Lie.it4 HB.out i (by rw [← HN.out, HLN.out]; exact hin)
        have hin2 : (i : Int) < (n : Int) := by omega
        have hi0 : (0 : Int) ≤ (i : Int) := by omega
        have HNO := hidd (fun (h : eqB (gI L i) (gI M i) = false) => (show R = false from by
          rw [← HR.out]
          refine decide_eq_false (fun e => ?_)
          rw [e, eqB_iff.2 rfl] at h
          cases h))
        have HST := hidd (fun (h : eqB (gI L i) (gI M i) = true) => (show ∀ j, j < i + 1 → gI L j = gI M j from fun j hj => by
          by_cases e : j = i
          · subst e; exact eqB_iff.1 h
          · exact HS.out j (by omega)))
        have eqq := fun W => item_run (iD (gI L i)) (kN (gI L i)) (kD (gI L i)) (tN (gI L i)) (iD (gI M i)) (kN (gI M i)) (kD (gI M i)) (tN (gI M i)) W
        rw [← it_eta, ← it_eta] at eqq
        generalize eqB (gI L i) (gI M i) = EQ at *
        generalize iD (gI L i) = a0 at *
        generalize kN (gI L i) = a1 at *
        generalize kD (gI L i) = a2 at *
        generalize tN (gI L i) = a3 at *
        generalize iD (gI M i) = b0 at *
        generalize kN (gI M i) = b1 at *
        generalize kD (gI M i) = b2 at *
        generalize tN (gI M i) = b3 at *
        cases EQ
        case true =>
          have HN1 := hidd (HST.out rfl)
          clear HNO HST
          go_wp2_with fail
          go_quiet (fail)
          go_wp2_with fail
          have hg := HG.out
          go_roundg (gk - 1)
          case measure => omega
          case rel => exact ⟨i + 1, _, by omega, by omega, by go_num, HN1.out, by first | rfl | (rw [World.drewN_drewN]; done)⟩
        case false =>
          have hr := HNO.out rfl
          subst hr
          clear HNO HST
          go_wp2_with fail
          go_quiet (fail)
          go_wp2_with fail
          go_ret
          exact ⟨by simp, _, by first | rfl | (rw [World.drewN_drewN]; done)⟩
      · have hin2 : ¬ (i : Int) < (n : Int) := by omega
        have hr : R = true := by
          rw [← HR.out]
          refine decide_eq_true (list_ext_gI HN.out fun j h1 => HS.out j (by rw [HLN.out] at h1; omega))
        subst hr
        go_wp2_with fail
        go_ret
        exact ⟨by simp, _, rfl⟩
  · have hne : ((L.length : Int) != (M.length : Int)) = true := by simp; omega
    have hr : R = false := by
      rw [← HR.out]
      exact decide_eq_false (fun e => hn (by rw [e]))
    subst hr
    clear hn
    go_enter Try.func14, Try.ntmps14
    go_wp2_with fail
    go_ret
    exact ⟨by simp, 0, rfl⟩
end Go.Proofs.Ytohkkebiilaniaa.Hp

/- Heaps: going over the items as they lie, each told to be one of them. -/
namespace Go.Proofs.Ytohkkebiilaniaa.Hp
set_option linter.unusedVariables false
open Go.RowKit Go.Maps Go.Sort Go.Shelf Go.Proofs.Ytohkkebiilaniaa.Tp
attribute [local go_sem] Oper.semAt_some

theorem take_attach {L : List It} {k : Nat} (h : k < L.length) (x : {x : It // x ∈ L}) (hx : x.1 = gI L k) : L.attach.take (k + 1) = L.attach.take k ++ [x] := by
  have h' : k < L.attach.length := by rw [List.length_attach]; exact h
  rw [List.take_succ_eq_append_getElem h']
  congr 1
  congr 1
  refine Subtype.ext ?_
  rw [hx, gI_at h]
  simp
set_option maxRecDepth 100000 in
set_option maxHeartbeats 4000000 in
theorem each1_in (n : Nat) (hn : 1 ≤ n) (q h mb : Nat) (v : Value) (L : List It) (T : Int) (D : DataW Unit) (w0 w : World) (H : HpAt w0 h mb v L T D) (hl : L.length ≤ 1000000) (hq : q < w0.heap.size) (hc : w0.cell? ⟨q, 0, none⟩ = some (.pointer (some ⟨h, 0, none⟩))) (hw : Below w0.heap.size w0 w) :
    SeqStopsK Fence.wide n Try.prog 46 #[.pointer (some ⟨q, 0, none⟩)] (fun x : {x : It // x ∈ L} => #[agI x.1]) (Below w0.heap.size) (fun xs => xs = L.attach) (fun pre => pre <+: L.attach) L.length w := by
  intro l J Jx W hW hJ hJx hY h0
  have hB0 : Below w0.heap.size w0 W := hw.trans (hW.mono hw.size)
  obtain ⟨A, c, hv, hlc, hcm, hA⟩ := OwnL.lie H.own itV_len
  have FAC := hidd (fun W' (b : Below w0.heap.size w0 W') => (show W'.cell? ⟨q, 0, none⟩ = some (.pointer (some ⟨h, 0, none⟩)) ∧ W'.cell? ⟨h, 1, none⟩ = some v ∧ Lie itV 4 W' w0.heap.size A L from ⟨(b.cell (p := ⟨q, 0, none⟩) hq).trans hc, (b.cell (p := ⟨h, 1, none⟩) H.lt).trans H.c1, hA.keep b⟩))
  have ci := hidd (len_any W (H.below hB0))
  have HB0 := hidd hB0
  have HJ := hidd hJ
  have HY := hidd hY
  have H0 := hidd h0
  obtain ⟨PO, hPO⟩ : ∃ PO : Ending → World → Prop, (fun (e : Ending) (W' : World) => (∃ v, e = .returned v) ∧ ((∃ xs, xs = L.attach ∧ J xs W') ∨ ∃ pre, pre <+: L.attach ∧ Jx pre W')) = PO := ⟨_, rfl⟩
  rw [hPO]
  have HYES : Hid (∀ v W', J L.attach W' → PO (.returned v) W') := hidd (fun v W' h => by rw [← hPO]; exact ⟨⟨_, rfl⟩, .inl ⟨_, rfl, h⟩⟩)
  have HNO : Hid (∀ v pre W', pre <+: L.attach → Jx pre W' → PO (.returned v) W') := hidd (fun v pre W' h h2 => by rw [← hPO]; exact ⟨⟨_, rfl⟩, .inr ⟨_, h, h2⟩⟩)
  clear hW hJ hJx hY h0 hc hw hB0 hA H hPO hq
  subst hv
  obtain ⟨g0, g1, _⟩ := FAC.out W HB0.out
  refine callsIn_of_wp Try.func46 rfl trivial ?_ rfl
  simp only [Try.ntmps46, List.size_toArray, List.length_cons, List.length_nil, Nat.reduceAdd, Nat.reduceSub, Array.replicate_succ, Array.replicate_zero, List.push_toArray, List.append_toArray, List.nil_append, List.cons_append]
  refine wpIn_wide.2 ?_
  go_wp2_with fail
  refine ci.out.mono ?_
  rintro e w' ⟨rfl, rfl⟩
  clear g0 g1
  go_wp2_with fail
  refine (wpIn_wide (n := n)).1 ?_
  gi_loopw [6] (fun s6 wr => ∃ k : Nat, k ≤ L.length ∧ s6 = .int .i64 (k : Int) ∧ J (L.attach.take k) wr ∧ Below w0.heap.size w0 wr) (fun s6 _ => L.length - (intOf s6).toNat)
  case atStart => exact ⟨0, Nat.zero_le _, rfl, by simpa using H0.out, HB0.out⟩
  case round =>
    obtain ⟨k, hk, rfl, hJk, hbk⟩ := hrel
    have HJK := hidd hJk
    have HBK := hidd hbk
    clear hJk hbk
    obtain ⟨g0, g1, hL⟩ := FAC.out wr HBK.out
    by_cases hlt : k < L.length
    · have hlt2 : (k : Int) < (L.length : Int) := by omega
      have hk0 : (0 : Int) ≤ (k : Int) := by omega
      obtain ⟨ad, rfl, hadb, hc0, hc1, hc2, hc3⟩ := Lie.it4 hL k hlt
      obtain ⟨x, hx⟩ : ∃ x : {x : It // x ∈ L}, x.1 = gI L k := ⟨⟨gI L k, mem_gI2 hlt⟩, rfl⟩
      have htk := hidd (take_attach hlt x hx)
      rw [← hx] at hc0 hc1 hc2 hc3
      have hlk : (L.attach.take k).length < L.length := by rw [List.length_take, List.length_attach]; omega
      obtain ⟨fn, tmps, assign, body, hy, hR⟩ := HY.out (L.attach.take k) x wr HJK.out hlk
      clear hlk hL
      unfold agI at hy
      clear hx
      generalize iD x.1 = a0 at *
      generalize kN x.1 = a1 at *
      generalize kD x.1 = a2 at *
      generalize tN x.1 = a3 at *
      gi_wp2_with fail
      refine hR.mono ?_
      rintro e W4 (⟨rfl, hJ4, hk4⟩ | ⟨rfl, hJx⟩)
      · have HJ4 : Hid (J (L.attach.take (k + 1)) W4) := hidd (by rw [htk.out]; exact hJ4)
        have HB4 := hidd (HBK.out.trans hk4)
        clear hJ4 hk4 hy hR hc0 hc1 hc2 hc3 g0 g1
        gi_wp2
        go_roundw
        case rel => exact ⟨k + 1, by omega, by go_num, HJ4.out, HB4.out⟩
        case measure => simp [intOf]; omega
      · have HJx : Hid (Jx (L.attach.take (k + 1)) W4) := hidd (by rw [htk.out]; exact hJx)
        clear hJx hy hR hc0 hc1 hc2 hc3 g0 g1
        gi_wp2
        have hfin := fun v => HNO.out v _ _ (List.take_prefix _ _) HJx.out
        (try rw [Exit.noGoto_ret])
        first | exact hfin _ | exact bodyPost_ret (results_none rfl _ _ _) rfl (hfin _)
    · have hlt2 : ¬ (k : Int) < (L.length : Int) := by omega
      have he : Hid (L.attach.take k = L.attach) := hidd (List.take_of_length_le (by rw [List.length_attach]; omega))
      gi_wp2
      have hfin : ∀ v, PO (.returned v) wr := fun v => HYES.out v _ (by rw [← he.out]; exact HJK.out)
      first | exact hfin _ | exact ⟨rfl, _, results_none rfl _ _ _, hfin _⟩ | (go_end0; exact hfin _)
end Go.Proofs.Ytohkkebiilaniaa.Hp

/- Heaps: are two heaps the same. -/
namespace Go.Proofs.Ytohkkebiilaniaa.Hp
set_option linter.unusedVariables false
open Go.RowKit Go.Maps Go.Sort Go.Shelf Go.Proofs.Ytohkkebiilaniaa.Tp
attribute [local go_sem] Oper.semAt_some

/-- all items of the one are the other's, and they are as many. -/
def Sb (M1 M2 : List It) : Bool := decide ((∀ x ∈ M1, x ∈ M2) ∧ M1.length = M2.length)
theorem isNoneR {R : Nat → Prop} {W : World} {h : Nat} {M : List It} {T : Int} (H : HR R W h M T) : Calls Try.prog 26 #[.pointer (some ⟨h, 0, none⟩)] W fun e w' => e = .returned (.bool false) ∧ W = w' := by
  obtain ⟨_, mb, v, L, D, _, hH, _⟩ := H
  exact isNone_at h (some mb) W hH.at_.c0
set_option maxRecDepth 100000 in
set_option maxHeartbeats 8000000 in
theorem heapSame_any {R1 R2 : Nat → Prop} {w : World} {h1 h2 : Nat} {M1 M2 : List It} {T1 T2 : Int} (H1 : HR R1 w h1 M1 T1) (H2 : HR R2 w h2 M2 T2) (hl : M1.length ≤ 1000000) :
    Calls Try.prog 13 #[.pointer (some ⟨h1, 0, none⟩), .pointer (some ⟨h2, 0, none⟩)] w fun e w' => e = .returned (.bool (Sb M1 M2)) ∧ Below w.heap.size w w' := by
  have cI1 := hidd (fun W (b : Below w.heap.size w W) => isNoneR (H1.below b))
  have cI2 := hidd (fun W (b : Below w.heap.size w W) => isNoneR (H2.below b))
  have cL1 := hidd (fun W (b : Below w.heap.size w W) => lenR (H1.below b))
  have cL2 := hidd (fun W (b : Below w.heap.size w W) => lenR (H2.below b))
  have cG := hidd (fun W (b : Below w.heap.size w W) x (hx : OkI x) => getH (H2.below b) (id := iD x) (by have := hx.i0; omega) (by have := hx.i1; omega))
  have cGy := hidd (fun W (b : Below w.heap.size w W) x (hx : x ∈ M2) => getR (H2.below b) hx)
  have OK := hidd H1.ok
  obtain ⟨_, mb, v, L, D0, pL, hH, _⟩ := H1
  have PL := hidd pL
  have cE1 := hidd (fun W (b : Below w.heap.size w W) q hq hc => each1_in (6 - 1) (by omega) q h1 mb v L T1 D0 W W (hH.at_.below b) (by rw [pL.length_eq]; exact hl) hq hc (Below.refl _ _))
  have cF := hidd (fun W => each_any (some ⟨h1, 0, none⟩) W)
  obtain ⟨W1, hW1⟩ : ∃ W1, (w.alloc (.cells #[.pointer (some ⟨h2, 0, none⟩)] 24)).alloc (.cells #[.bool false] 4) = W1 := ⟨_, rfl⟩
  have B1 := hidd (hW1 ▸ below_new (below_new (Below.refl _ _) _) _ : Below w.heap.size w W1)
  have hz1 : Hid (W1.heap.size = w.heap.size + 2) := hidd (by rw [← hW1]; simp)
  have r0 : W1.cell? ⟨w.heap.size, 0, none⟩ = some (.pointer (some ⟨h2, 0, none⟩)) := by rw [← hW1]; simp [go_sem]
  have R1 := hidd (show Boxed W1 (w.heap.size + 1) 4 (.bool false) from by rw [← hW1]; have := Boxed.new (w.alloc (.cells #[.pointer (some ⟨h2, 0, none⟩)] 24)) 4 (.bool false); simpa using this)
  have r2 : W1.frozen? ⟨w.heap.size + 1, 0, none⟩ = false := R1.out.frozen
  have r1 : W1.cell? ⟨w.heap.size + 1, 0, none⟩ = some (.bool false) := R1.out.cell
  have R0 := hidd r0
  have HW := hidd hW1
  clear hW1 H2 pL hH hl
  refine (callsIn_wide (n := 6)).1 ?_
  refine callsIn_of_wp_marks Try.func13 rfl trivial ?_ rfl
  simp only [Try.ntmps13, List.size_toArray, List.length_cons, List.length_nil, Nat.reduceAdd, Nat.reduceSub, Array.replicate_succ, Array.replicate_zero, List.push_toArray, List.append_toArray, List.nil_append, List.cons_append]
  gi_wp2_with fail
  rw [HW.out]
  refine ⟨trivial, ?_⟩; gi_at_call 26; refine (callsIn_wide.2 (cI1.out _ B1.out)).mono ?_; rintro e w' ⟨rfl, rfl⟩
  gi_wp2_with fail
  refine ⟨trivial, ?_⟩; gi_at_call 26; refine (callsIn_wide.2 (cI2.out _ B1.out)).mono ?_; rintro e w' ⟨rfl, rfl⟩
  gi_wp2_with fail
  refine ⟨trivial, ?_⟩; gi_at_call 32; refine (callsIn_wide.2 (cF.out _)).mono ?_; rintro e W2 ⟨rfl, hW2⟩
  have HB2 := hidd (show Below w.heap.size w W2 from by rw [hW2]; exact below_new B1.out _)
  have hq2 : W1.heap.size < W2.heap.size := by rw [hW2]; simp
  have hc2 : W2.cell? ⟨W1.heap.size, 0, none⟩ = some (.pointer (some ⟨h1, 0, none⟩)) := by rw [hW2]; simp [go_sem]
  have b12 : Below W1.heap.size W1 W2 := by rw [hW2]; exact below_new (Below.refl _ _) _
  have hs1 := hz1.out
  have hw2 : w.heap.size + 1 < W2.heap.size := by omega
  have R2 := hidd (show W2.cell? ⟨w.heap.size, 0, none⟩ = some (.pointer (some ⟨h2, 0, none⟩)) from (b12.cell (p := ⟨w.heap.size, 0, none⟩) (by dsimp only; omega)).trans R0.out)
  have RB2 := hidd (show Boxed W2 (w.heap.size + 1) 4 (.bool false) from (b12.block _ (by omega)).trans R1.out)
  clear r0 r1 r2 hW2 b12 hs1
  gi_wp2_with fail
  refine wpIn_rangeFunc_ownH rfl (by omega) (gf := 46) (lb := #[.pointer (some ⟨W1.heap.size, 0, none⟩)]) rfl trivial (enters_of Try.func46 (by kernel_rfl) rfl)
    (cE1.out W2 HB2.out W1.heap.size hq2 hc2) belowK_t (belowK_b (Nat.le_refl _)) (Below.refl _ _) (fun _ => rfl)
    (fun pre W => Below W2.heap.size W2 W ∧ ∀ y ∈ pre, y.1 ∈ M2)
    (fun c xs W => (Boxed W (w.heap.size + 1) 4 (.bool false) ∧ Below w.heap.size w W) ∧ (c = .ret ∧ ∃ y : {x : It // x ∈ L}, y.1 ∉ M2))
    (OwnFrom.and (ownFrom_below (Nat.le_refl _) (Nat.le_refl _)) (ownFrom_pure _ _))
    (fun c => OwnFrom.and (OwnFrom.and (Own.from (boxed_own (w.heap.size + 1) 4 (fun _ => .bool false)) _) (ownFrom_below (Nat.le_refl _) HB2.out.size)) (ownFrom_pure _ _))
    ⟨Below.refl _ _, fun y hy => by simp at hy⟩
    (fun x a' W => ∃ Bx, W2.heap.size ≤ Bx ∧ ItemBox W Bx x.1 ∧ a' = { tmps := #[.pointer (some ⟨h1, 0, none⟩), .pointer (some ⟨h2, 0, none⟩), undef, .pointer (some ⟨w.heap.size, 0, none⟩), .pointer (some ⟨w.heap.size + 1, 0, none⟩), .pointer (some ⟨Bx, 0, none⟩), undef, undef, .pointer (some ⟨h1, 0, none⟩), .bool false, .bool false, .pointer (some ⟨h2, 0, none⟩), .bool false, .bool false, undef, undef, undef, undef, undef, undef, .pointer (some ⟨h1, 0, none⟩), .func (.func 46) #[] #[.pointer (some ⟨W1.heap.size, 0, none⟩)], .agg #[.int .i64 (iD x.1), .int .i64 (kN x.1), .int .i64 (kD x.1), .int .i64 (tN x.1)], undef, undef, undef, undef, undef, undef, undef, undef, undef, undef, undef, undef, undef, undef, undef, undef, undef, undef, undef], defers := [] })
    (fun x a' _ X Y row hs hg hr => by obtain ⟨Bx, h1, h2, h3⟩ := hs; exact ⟨Bx, h1, h2.kept2 hg (fun r e => (hr r e).2), h3⟩)
    ?assign ?body ?done ?stop
  case assign =>
    rintro l pre x W K ⟨hB, hp⟩ hK
    unfold agI
    gi_wp2
    exact hK _ _ ((KeepsOthers.alloc _ _).from _) ((Below.refl _ W).alloc hB.size _) ⟨hB.alloc hB.size _, hp⟩ ⟨W.heap.size, hB.size, ItemBox.new W _ _, rfl⟩
  case body =>
    rintro l pre x a' W hl' ⟨r, hr⟩ ⟨hB, hp⟩ ⟨Bx, hBx, ⟨hb, x0, x1, x2, x3⟩, rfl⟩ hlt
    have g3 := (hB.cell (p := ⟨w.heap.size, 0, none⟩) (by dsimp only; omega)).trans R2.out
    have hx1 : x.1 ∈ M1 := PL.out.mem_iff.1 x.2
    have HBW := hidd (HB2.out.trans (hB.mono HB2.out.size))
    have HB := hidd hB
    have HPP := hidd hp
    have hbx := (hB.block (w.heap.size + 1) (by omega)).trans RB2.out
    have RBX := hidd (show Boxed W (w.heap.size + 1) 4 (.bool false) from hbx)
    by_cases hm : x.1 ∈ M2
    · have CG := hidd (cGy.out W HBW.out x.1 hm)
      have HM := hidd hm
      have eqq := fun W => item_run (iD x.1) (kN x.1) (kD x.1) (tN x.1) (iD x.1) (kN x.1) (kD x.1) (tN x.1) W
      rw [eqB_iff.2 rfl] at eqq
      clear hm hx1 hB hp hr hlt hbx
      unfold agI at CG
      generalize iD x.1 = a0 at *
      generalize kN x.1 = a1 at *
      generalize kD x.1 = a2 at *
      generalize tN x.1 = a3 at *
      gi_wp2_with fail
      refine ⟨trivial, ?_⟩; gi_at_call 9; refine (callsIn_wide.2 CG.out).mono ?_; rintro e w4 ⟨rfl, hb4⟩
      have x0 := (hb4.cell (p := ⟨Bx, 0, none⟩) hb).trans x0
      have x1 := (hb4.cell (p := ⟨Bx, 1, none⟩) hb).trans x1
      have x2 := (hb4.cell (p := ⟨Bx, 2, none⟩) hb).trans x2
      have x3 := (hb4.cell (p := ⟨Bx, 3, none⟩) hb).trans x3
      have hb := Nat.lt_of_lt_of_le hb hb4.size
      have hnw : Bx ≠ w4.heap.size := by omega
      have HB4 := hidd hb4
      clear hb4 g3
      gi_wp2_with fail
      refine ⟨Above.keeps (Above.below (below_new HB4.out _)), (below_new HB4.out _).mono HB.out.size, HB.out.trans ((below_new HB4.out _).mono HB.out.size), fun y hy => ?_⟩
      rcases List.mem_append.1 hy with h | h
      · exact HPP.out y h
      · simp at h; subst h; exact HM.out
    · have CG := hidd (cG.out W HBW.out x.1 (OK.out _ hx1))
      have NM := hidd hm
      have HXV := hidd (show ∀ y, y ∈ M2 → eqB x.1 y = false from fun y hy => by
        cases e : eqB x.1 y
        · rfl
        · rw [eqB_iff.1 e] at hm; exact absurd hy hm)
      clear hx1 hB hp hr hlt hm
      have eqq := fun y W => item_run (iD x.1) (kN x.1) (kD x.1) (tN x.1) (iD y) (kN y) (kD y) (tN y) W
      rw [← it_eta] at eqq
      unfold agI at CG
      generalize iD x.1 = a0 at *
      generalize kN x.1 = a1 at *
      generalize kD x.1 = a2 at *
      generalize tN x.1 = a3 at *
      have rbc := RBX.out.cell
      have rbf := RBX.out.frozen
      gi_wp2_with fail
      refine ⟨trivial, ?_⟩; gi_at_call 9; refine (callsIn_wide.2 CG.out).mono ?_; rintro e w4 ⟨⟨y, is, rfl, hy⟩, hb4⟩
      have x0 := (hb4.cell (p := ⟨Bx, 0, none⟩) hb).trans x0
      have x1 := (hb4.cell (p := ⟨Bx, 1, none⟩) hb).trans x1
      have x2 := (hb4.cell (p := ⟨Bx, 2, none⟩) hb).trans x2
      have x3 := (hb4.cell (p := ⟨Bx, 3, none⟩) hb).trans x3
      have hb := Nat.lt_of_lt_of_le hb hb4.size
      have hrs : w.heap.size + 1 < W.heap.size := by have := HB.out.size; omega
      have rbc := (hb4.cell (p := ⟨w.heap.size + 1, 0, none⟩) hrs).trans rbc
      have rbf := (hb4.frozen (p := ⟨w.heap.size + 1, 0, none⟩) hrs).trans rbf
      have hrs := Nat.lt_of_lt_of_le hrs hb4.size
      have hnw : Bx ≠ w4.heap.size := by omega
      have HB4 := hidd hb4
      have hbx4 := hidd (show Boxed w4 (w.heap.size + 1) 4 (.bool false) from (hb4.block _ (by have := HB.out.size; omega)).trans RBX.out)
      have eqq := eqq y
      rw [← it_eta] at eqq
      have heq : is = true → eqB x.1 y = false := fun e => by
        rcases hy with ⟨_, a, _⟩ | ⟨a, _⟩
        · exact HXV.out y a
        · rw [a] at e; cases e
      clear hb4 g3 hy
      generalize iD y = b0 at *
      generalize kN y = b1 at *
      generalize kD y = b2 at *
      generalize tN y = b3 at *
      cases is
      case true =>
        rw [heq rfl] at eqq
        clear heq
        gi_wp2_with fail
        exact ⟨Above.keeps (((Above.below HB4.out).trans (Above.set _ ⟨w.heap.size + 1, 0, none⟩ _ (by show w.heap.size + 1 < W2.heap.size; omega))).trans (Above.below (below_new (Below.refl _ _) _))), ⟨(hbx4.out.set _).alloc _, below_new ((HBW.out.trans (HB4.out.mono HBW.out.size)).setCell (p := ⟨w.heap.size + 1, 0, none⟩) (by show w.heap.size ≤ w.heap.size + 1; omega) _) _⟩, rfl, x, NM.out⟩
      case false =>
        clear eqq heq
        gi_wp2_with fail
        exact ⟨Above.keeps (((Above.below HB4.out).trans (Above.set _ ⟨w.heap.size + 1, 0, none⟩ _ (by show w.heap.size + 1 < W2.heap.size; omega))).trans (Above.below (below_new (Below.refl _ _) _))), ⟨(hbx4.out.set _).alloc _, below_new ((HBW.out.trans (HB4.out.mono HBW.out.size)).setCell (p := ⟨w.heap.size + 1, 0, none⟩) (by show w.heap.size ≤ w.heap.size + 1; omega) _) _⟩, rfl, x, NM.out⟩
  case stop =>
    rintro D c' pre W hD hSp ⟨⟨hbx, hB⟩, rfl, y, hy⟩ hK
    have HK := hidd hK
    have HBW := hidd hB
    have HDN := hidd (show w.heap.size + 1 < D from by have := hq2; omega)
    have RES : Ending.returned (.bool false) = .returned (.bool (Sb M1 M2)) := by
      have : Sb M1 M2 = false := decide_eq_false (fun e => hy (e.1 _ (PL.out.mem_iff.1 y.2)))
      rw [this]
    clear hB hK hy
    gi_wp2_with fail
    have hne : D ≠ w.heap.size + 1 := by have := HDN.out; omega
    have hKS : (W).heap[D]? = some (.deferred (some [])) := HK.out
    have hrc : (W).cell? ⟨w.heap.size + 1, 0, none⟩ = some (.bool false) := hbx.cell
    have hgp := grownBy_putObj' (W) D (.deferred none)
    have hrp := cell_kept hrc hgp (fun r e => by cases e; exact ⟨_, hKS, rfl⟩)
    refine ⟨by simp, .inl ⟨_, _, rfl, run_takeDeferred hKS, ?_⟩⟩
    refine ⟨.bool false, ?_, ?_, ?_⟩
    · simp [results, Try.results13, go_sem, hrp]
    · exact RES
    · exact (HBW.out).grown hgp (HBW.out).size (fun k e => by cases e; have := HDN.out; omega)
  case done =>
    rintro D ys W hD rfl ⟨hB, hp⟩ hK
    have g3 := (hB.cell (p := ⟨w.heap.size, 0, none⟩) (by dsimp only; omega)).trans R2.out
    have hbx : Boxed W (w.heap.size + 1) 4 (.bool false) := (hB.block (w.heap.size + 1) (by omega)).trans RB2.out
    have r3 := hbx.cell
    have rf3 := hbx.frozen
    have HBW := hidd (HB2.out.trans (hB.mono HB2.out.size))
    have HK := hidd hK
    have HDN := hidd (show w.heap.size + 1 < D from by omega)
    obtain ⟨EQL, hEQL⟩ : ∃ EQL, decide (M1.length = M2.length) = EQL := ⟨_, rfl⟩
    have RES : Ending.returned (.bool EQL) = .returned (.bool (Sb M1 M2)) := by
      have h0 : ∀ x ∈ M1, x ∈ M2 := fun x hx => hp ⟨x, PL.out.mem_iff.2 hx⟩ (List.mem_attach _ _)
      have : Sb M1 M2 = EQL := by rw [← hEQL]; unfold Sb; exact decide_eq_decide.2 ⟨fun e => e.2, fun e => ⟨h0, e⟩⟩
      rw [this]
    have hEI : ((M1.length : Int) == (M2.length : Int)) = EQL := by
      rw [← hEQL]
      by_cases e : M1.length = M2.length
      · rw [e]; simp
      · have e2 : ¬ (M1.length : Int) = (M2.length : Int) := by omega
        simp [e, e2]
    clear hB hp hK hbx
    generalize M1.length = n1 at *
    generalize M2.length = n2 at *
    gi_wp2_with fail
    refine wpIn_wide.2 (wp_only ?_)
    refine wp_region_held_drew (S := fun Y => Y.cell? ⟨w.heap.size, 0, none⟩ = some (.pointer (some ⟨h2, 0, none⟩))) (by kernel_rfl) g3 (fun hH => ?_)
    refine wpAnyH_take (i := 0) (v := ?va0) (by (conv => lhs; simp only [List.getElem?_toArray, List.getElem?_cons_succ, List.getElem?_cons_zero])) (by kernel_rfl) (by kernel_rfl) (by kernel_rfl) ?hQ (Or.inl ⟨by rfl, ?hya0⟩) hH ?resta0
    case hQ => exact fun _ _ _ h => h
    case hya0 => (intro Y e0; go_simp; try (with_reducible rfl))
    try simp only [Act.put, List.setIfInBounds_toArray, List.set_cons_zero, List.set_cons_succ]
    refine wpAnyH_take (i := 2) (v := ?va2) (by (conv => lhs; simp only [List.getElem?_toArray, List.getElem?_cons_succ, List.getElem?_cons_zero])) (by kernel_rfl) (by kernel_rfl) (by kernel_rfl) ?hQ (Or.inl ⟨by rfl, ?hya2⟩) hH ?resta2
    case hQ => exact fun _ _ _ h => h
    case hya2 => (intro Y e0; go_simp; try (with_reducible rfl))
    try simp only [Act.put, List.setIfInBounds_toArray, List.set_cons_zero, List.set_cons_succ]
    refine wpAnyH_ready (rs := [1]) (by kernel_rfl) (by simp) ?_
    refine AllReadyH.cons (by (conv => lhs; simp only [List.getElem?_toArray, List.getElem?_cons_succ, List.getElem?_cons_zero])) (fun K hK => ?_) AllReadyH.nil
    go_simp
    go_at_call 19; refine (cL1.out W.drew (Below.drew HBW.out)).mono ?_; rintro e w5 ⟨rfl, rfl⟩
    refine hK.out _ _ hH (fun hH1 => ?_)
    clear hK hH
    try simp only [Act.put, List.setIfInBounds_toArray, List.set_cons_zero, List.set_cons_succ]
    refine wpAnyH_ready (rs := [3]) (by kernel_rfl) (by simp) ?_
    refine AllReadyH.cons (by (conv => lhs; simp only [List.getElem?_toArray, List.getElem?_cons_succ, List.getElem?_cons_zero])) (fun K hK => ?_) AllReadyH.nil
    go_simp
    go_at_call 19; refine (cL2.out W.drew (Below.drew HBW.out)).mono ?_; rintro e w6 ⟨rfl, rfl⟩
    refine hK.out _ _ hH1 (fun hH2 => ?_)
    clear hK hH1
    try simp only [Act.put, List.setIfInBounds_toArray, List.set_cons_zero, List.set_cons_succ]
    refine wpAnyH_take (i := 4) (v := ?vb4) (by (conv => lhs; simp only [List.getElem?_toArray, List.getElem?_cons_succ, List.getElem?_cons_zero])) (by kernel_rfl) (by kernel_rfl) (by kernel_rfl) ?hQ (Or.inl ⟨by rfl, ?hyb4⟩) hH2 ?restb4
    case hQ => exact fun _ _ _ h => h
    case hyb4 => (intro Y e0; go_simp; try (with_reducible rfl))
    try simp only [Act.put, List.setIfInBounds_toArray, List.set_cons_zero, List.set_cons_succ]
    refine wpAnyH_ready (rs := [5]) (by kernel_rfl) (by simp) ?_
    refine AllReadyH.cons (by (conv => lhs; simp only [List.getElem?_toArray, List.getElem?_cons_succ, List.getElem?_cons_zero])) (fun K hK => ?_) AllReadyH.nil
    have r5 : W.drew.cell? ⟨w.heap.size + 1, 0, none⟩ = some (.bool false) := r3
    have rf5 : W.drew.frozen? ⟨w.heap.size + 1, 0, none⟩ = false := rf3
    have hH5 : (fun Y : World => Y.cell? ⟨w.heap.size, 0, none⟩ = some (.pointer (some ⟨h2, 0, none⟩))) (W.drew.setCell ⟨w.heap.size + 1, 0, none⟩ (.bool EQL)) := (World.cell?_of_block (Below.heap_setCell _ _ _ _ (by dsimp only; omega))).trans g3
    clear r3 rf3
    go_simp
    refine hK.out _ _ hH5 (fun hH6 => ?_)
    clear hK
    try simp only [Act.put]
    refine wpAnyH_done (by kernel_rfl) ?_ _
    gi_wp2_with fail
    have hne : D ≠ w.heap.size + 1 := by have := HDN.out; omega
    have hKS : ((W.setCell ⟨w.heap.size + 1, 0, none⟩ (.bool EQL)).drew).heap[D]? = some (.deferred (some [])) := (Below.heap_setCell _ _ _ _ hne).trans HK.out
    have hrc : ((W.setCell ⟨w.heap.size + 1, 0, none⟩ (.bool EQL)).drew).cell? ⟨w.heap.size + 1, 0, none⟩ = some (.bool EQL) := World.cell?_setCell_same' W.drew ⟨w.heap.size + 1, 0, none⟩ (.bool EQL) (by rw [r5]; rfl)
    have hgp := grownBy_putObj' ((W.setCell ⟨w.heap.size + 1, 0, none⟩ (.bool EQL)).drew) D (.deferred none)
    have hrp := cell_kept hrc hgp (fun r e => by cases e; exact ⟨_, hKS, rfl⟩)
    refine ⟨by simp, .inl ⟨_, _, rfl, run_takeDeferred hKS, ?_⟩⟩
    refine ⟨.bool EQL, ?_, ?_, ?_⟩
    · simp [results, Try.results13, go_sem, hrp]
    · exact RES
    · exact (Below.drew (HBW.out.setCell (p := ⟨w.heap.size + 1, 0, none⟩) (by show w.heap.size ≤ w.heap.size + 1; omega) (.bool EQL))).grown hgp (Below.drew (HBW.out.setCell (p := ⟨w.heap.size + 1, 0, none⟩) (by show w.heap.size ≤ w.heap.size + 1; omega) (.bool EQL))).size (fun k e => by cases e; have := HDN.out; omega)
end Go.Proofs.Ytohkkebiilaniaa.Hp

/- Heaps: Copy. -/
namespace Go.Proofs.Ytohkkebiilaniaa.Hp
set_option linter.unusedVariables false
open Go.RowKit Go.Maps Go.Sort Go.Proofs.Ytohkkebiilaniaa.Tp
set_option maxRecDepth 100000 in
set_option maxHeartbeats 2000000 in
theorem cloneItems_any (A : Option Addr) (L : List It) (c : Nat) (hL : L.length ≤ 1000000) (w : World) (hA : Lie itV 4 w w.heap.size A L) :
    Calls Try.prog 29 #[.slice A L.length c] w fun e w' => ∃ v', e = .returned v' ∧ OwnL itV 4 w' w.heap.size 37 v' L ∧ Below w.heap.size w w' := by
  obtain ⟨i0, hi, hz0, hz1, hz2⟩ := info_parts4 itemInfo
  have q28 := hidd (fun (W : World) (a : Option Addr) (n c n' c' : Nat) => Lib.run_eql_slice_nil (P := Try.prog) W _ _ a n c n' c' Try.underlying26)
  cases A with
  | none =>
    have h0 : L.length = 0 := by
      rcases Nat.eq_zero_or_pos L.length with h | h
      · exact h
      · obtain ⟨ad, e, _⟩ := hA h; cases e
    have : L = [] := List.eq_nil_of_length_eq_zero h0
    subst this
    have q := fun W => q28.out W none 0 c 0 0
    clear hA h0
    simp only [List.length_nil]
    go_enter Try.func29, Try.ntmps29
    go_wp2_with fail
    go_ret
    exact ⟨.slice none 0 0, rfl, OwnL.nil _ _ _, by (repeat' (first | (with_reducible exact Below.refl _ _) | (with_reducible assumption) | (with_reducible apply Below.setCell) | (with_reducible apply Below.alloc) | (with_reducible apply Below.drew) | (with_reducible apply below_drewN) | (with_reducible refine Below.trans ?_ (Below.mono (by assumption) ?_)) | omega | (simp; done) | (simp; omega)))⟩
  | some ad =>
    have q := fun W => q28.out W (some ad) L.length c 0 0
    have hO : Hid ((w.alloc (.cells #[] 37)).ownsRow w.heap.size 37 4 (.slice (some ⟨w.heap.size, 0, none⟩) 0 0) 0 []) := hidd ⟨rfl, .inr ⟨w.heap.size, 0, #[], rfl, Nat.le_refl _, (MapKept.heap_alloc w _).1, Nat.le_refl _, Nat.zero_le _, rfl, rfl⟩⟩
    have hb1 : Below w.heap.size w (w.alloc (.cells #[] 37)) := by (repeat' (first | (with_reducible exact Below.refl _ _) | (with_reducible assumption) | (with_reducible apply Below.setCell) | (with_reducible apply Below.alloc) | (with_reducible apply Below.drew) | (with_reducible apply below_drewN) | (with_reducible refine Below.trans ?_ (Below.mono (by assumption) ?_)) | omega | (simp; done) | (simp; omega)))
    have hs1 := hA.below hb1
    have hsrc : Hid (0 < L.length → ∃ ad', some ad = some ad' ∧ ∀ j u, (rowOf itV L)[j]? = some u → (w.alloc (.cells #[] 37)).cell? (ad'.add j) = some u) := hidd (fun hl => by
      obtain ⟨a2, e2, _, hc⟩ := hs1 hl
      refine ⟨a2, e2, fun j u hj => ?_⟩
      have hjl : j < (rowOf itV L).length := (List.getElem?_eq_some_iff.1 hj).1
      rw [row_len itV_len] at hjl
      have h1 : j / 4 < L.length := by omega
      have h2 : (itV L[j / 4])[j % 4]? = some ((itV L[j / 4])[j % 4]'(by rw [itV_len]; omega)) := List.getElem?_eq_getElem _
      have h3 := row_at itV_len L (j / 4) L[j / 4] (List.getElem?_eq_getElem h1) (j % 4) _ h2
      have e4 : j / 4 * 4 + j % 4 = j := by omega
      rw [e4, hj] at h3
      have h5 := hc (j / 4) L[j / 4] (List.getElem?_eq_getElem h1) (j % 4) _ h2
      rw [e4] at h5
      rw [h5]
      exact h3.symm)
    have HL := hidd hL
    have hmax : Hid (0 + L.length ≤ maxLen) := hidd (by unfold maxLen; omega)
    have hby : Hid ((0 + L.length) * 32 ≤ 140737488355328) := hidd (by omega)
    have HB1 := hidd hb1
    have HR := hidd (row_len itV_len L)
    have HONE := hidd (rowOf_one itV_one L)
    clear hA hs1 hb1 hL
    go_enter Try.func29, Try.ntmps29
    go_wp2_with (first | (at_builtin; refine wpList_append_some rfl _ _ 26 rfl w.heap.size 37 i0 (.agg #[.int .i64 0, .int .i64 0, .int .i64 0, .int .i64 0]) 4 32 Try.underlying26 hi hz0 hz1 hz2 rfl (by decide) (.slice (some ⟨w.heap.size, 0, none⟩) 0 0) 0 [] rfl hO.out (some ad) L.length c (rowOf itV L) rfl HR.out hsrc.out HONE.out hmax.out hby.out (by simp) ?_; intro v' w1 hown' hgrow hor; have HO2 := hidd hown'; have HG := hidd hgrow; clear hown' hgrow hor) | fail)
    go_ret
    have h2 := HO2.out
    rw [Nat.zero_add, List.nil_append] at h2
    have h3 : OwnL itV 4 w1 w.heap.size 37 v' L := h2
    exact ⟨v', rfl, h3, HB1.out.grown HG.out (by simp) (fun k hk => by simp [Value.ownBlock] at hk; omega)⟩
set_option maxRecDepth 100000 in
set_option maxHeartbeats 8000000 in
theorem copyR {R : Nat → Prop} {w : World} {h : Nat} {M : List It} {T : Int} (H : HR R w h M T) :
    Calls Try.prog 11 #[.pointer (some ⟨h, 0, none⟩)] w fun e w' => ∃ hc R', e = .returned (.pointer (some ⟨hc, 0, none⟩)) ∧ HR R' w' hc M T ∧ (∀ k, R' k → w.heap.size ≤ k) ∧ Below w.heap.size w w' := by
  have cI := hidd (fun W (b : Below w.heap.size w W) => isNoneR (H.below b))
  obtain ⟨ht, mb, v, L, D, pL, hH, _⟩ := H
  obtain ⟨A, c, hv, _, _, hLie⟩ := OwnL.lie hH.at_.own itV_len
  subst hv
  have hlt := hH.at_.lt
  have c0 := hH.at_.c0
  have c1 := hH.at_.c1
  have c2 := hH.at_.c2
  have c3 := hH.at_.c3
  have HH := hidd hH
  have HT := hidd ht
  have PL := hidd pL
  have hlm := hH.lm
  have CC := hidd (fun W (b : Below w.heap.size w W) => cloneItems_any A L c (by omega) W (hLie.below b))
  have CM : Hid (∀ W, Below w.heap.size w W → Calls Try.prog 28 #[.map (some mb)] W fun e w' => e = .returned (.map (some W.heap.size)) ∧ MapK w' W.heap.size D ∧ Below W.heap.size W w') := hidd (fun W b => by
    obtain ⟨N0, ho⟩ := (hH.at_.below b).map
    exact (AnyW.maps_Clone_owns Try.cloneMap _ _ mb N0 D W ho).mono (fun e w' ⟨a, b1, _, b3⟩ => ⟨a, ⟨N0, b1⟩, b3⟩))
  generalize hn : L.length = n at *
  have HN := hidd hn
  have KEEP := hidd (fun Y (hb : Below w.heap.size w Y) => (show Y.cell? ⟨h, 0, none⟩ = some (.map (some mb)) ∧ Y.cell? ⟨h, 1, none⟩ = some (.slice A n c) ∧ Y.cell? ⟨h, 2, none⟩ = some (.func (.func 20) #[] #[]) ∧ Y.cell? ⟨h, 3, none⟩ = some (.int .i64 T) from
    ⟨(hb.cell (p := ⟨h, 0, none⟩) hlt).trans c0, (hb.cell (p := ⟨h, 1, none⟩) hlt).trans c1, (hb.cell (p := ⟨h, 2, none⟩) hlt).trans c2, (hb.cell (p := ⟨h, 3, none⟩) hlt).trans c3⟩))
  clear hH ht pL hLie hn hlm
  go_enter Try.func11, Try.ntmps11
  go_wp2_with fail
  refine (cI.out _ (Below.refl _ _)).mono ?_
  rintro e w' ⟨rfl, rfl⟩
  go_wp2_with fail
  refine wp_region_held_drew (S := (fun Y => Y.cell? ⟨h, 0, none⟩ = some (.map (some mb)) ∧ Y.cell? ⟨h, 1, none⟩ = some (.slice A n c) ∧ Y.cell? ⟨h, 2, none⟩ = some (.func (.func 20) #[] #[]) ∧ Y.cell? ⟨h, 3, none⟩ = some (.int .i64 T))) (by kernel_rfl) (KEEP.out _ (Below.drew (Below.refl _ _))) (fun hH => ?_)
  refine wpAnyH_take (i := 0) (v := ?va0) (by (conv => lhs; simp only [List.getElem?_toArray, List.getElem?_cons_succ, List.getElem?_cons_zero])) (by kernel_rfl) (by kernel_rfl) (by kernel_rfl) ?hQ (Or.inl ⟨by rfl, ?hya0⟩) hH ?resta0
  case hQ => exact fun _ _ _ h => h
  case hya0 => (intro Y hY; obtain ⟨e0, e1, e2, e3⟩ := hY; go_simp; try (with_reducible rfl))
  try simp only [Act.put, List.setIfInBounds_toArray, List.set_cons_zero, List.set_cons_succ]
  refine wpAnyH_take (i := 1) (v := ?va1) (by (conv => lhs; simp only [List.getElem?_toArray, List.getElem?_cons_succ, List.getElem?_cons_zero])) (by kernel_rfl) (by kernel_rfl) (by kernel_rfl) ?hQ (Or.inl ⟨by rfl, ?hya1⟩) hH ?resta1
  case hQ => exact fun _ _ _ h => h
  case hya1 => (intro Y hY; obtain ⟨e0, e1, e2, e3⟩ := hY; go_simp; try (with_reducible rfl))
  try simp only [Act.put, List.setIfInBounds_toArray, List.set_cons_zero, List.set_cons_succ]
  refine wpAnyH_take (i := 2) (v := ?va2) (by (conv => lhs; simp only [List.getElem?_toArray, List.getElem?_cons_succ, List.getElem?_cons_zero])) (by kernel_rfl) (by kernel_rfl) (by kernel_rfl) ?hQ (Or.inl ⟨by rfl, ?hya2⟩) hH ?resta2
  case hQ => exact fun _ _ _ h => h
  case hya2 => (intro Y hY; obtain ⟨e0, e1, e2, e3⟩ := hY; go_simp; try (with_reducible rfl))
  try simp only [Act.put, List.setIfInBounds_toArray, List.set_cons_zero, List.set_cons_succ]
  refine wpAnyH_take (i := 3) (v := ?va3) (by (conv => lhs; simp only [List.getElem?_toArray, List.getElem?_cons_succ, List.getElem?_cons_zero])) (by kernel_rfl) (by kernel_rfl) (by kernel_rfl) ?hQ (Or.inl ⟨by rfl, ?hya3⟩) hH ?resta3
  case hQ => exact fun _ _ _ h => h
  case hya3 => (intro Y hY; obtain ⟨e0, e1, e2, e3⟩ := hY; go_simp; try (with_reducible rfl))
  try simp only [Act.put, List.setIfInBounds_toArray, List.set_cons_zero, List.set_cons_succ]
  refine wpAnyH_take (i := 5) (v := ?va5) (by (conv => lhs; simp only [List.getElem?_toArray, List.getElem?_cons_succ, List.getElem?_cons_zero])) (by kernel_rfl) (by kernel_rfl) (by kernel_rfl) ?hQ (Or.inl ⟨by rfl, ?hya5⟩) hH ?resta5
  case hQ => exact fun _ _ _ h => h
  case hya5 => (intro Y hY; obtain ⟨e0, e1, e2, e3⟩ := hY; go_simp; try (with_reducible rfl))
  try simp only [Act.put, List.setIfInBounds_toArray, List.set_cons_zero, List.set_cons_succ]
  refine wpAnyH_take (i := 6) (v := ?va6) (by (conv => lhs; simp only [List.getElem?_toArray, List.getElem?_cons_succ, List.getElem?_cons_zero])) (by kernel_rfl) (by kernel_rfl) (by kernel_rfl) ?hQ (Or.inl ⟨by rfl, ?hya6⟩) hH ?resta6
  case hQ => exact fun _ _ _ h => h
  case hya6 => (intro Y hY; obtain ⟨e0, e1, e2, e3⟩ := hY; go_simp; try (with_reducible rfl))
  try simp only [Act.put, List.setIfInBounds_toArray, List.set_cons_zero, List.set_cons_succ]
  refine wpAnyH_take (i := 7) (v := ?va7) (by (conv => lhs; simp only [List.getElem?_toArray, List.getElem?_cons_succ, List.getElem?_cons_zero])) (by kernel_rfl) (by kernel_rfl) (by kernel_rfl) ?hQ (Or.inl ⟨by rfl, ?hya7⟩) hH ?resta7
  case hQ => exact fun _ _ _ h => h
  case hya7 => (intro Y hY; obtain ⟨e0, e1, e2, e3⟩ := hY; go_simp; try (with_reducible rfl))
  try simp only [Act.put, List.setIfInBounds_toArray, List.set_cons_zero, List.set_cons_succ]
  refine wpAnyH_take (i := 8) (v := ?va8) (by (conv => lhs; simp only [List.getElem?_toArray, List.getElem?_cons_succ, List.getElem?_cons_zero])) (by kernel_rfl) (by kernel_rfl) (by kernel_rfl) ?hQ (Or.inl ⟨by rfl, ?hya8⟩) hH ?resta8
  case hQ => exact fun _ _ _ h => h
  case hya8 => (intro Y hY; obtain ⟨e0, e1, e2, e3⟩ := hY; go_simp; try (with_reducible rfl))
  try simp only [Act.put, List.setIfInBounds_toArray, List.set_cons_zero, List.set_cons_succ]
  refine wpAnyH_take (i := 10) (v := ?va10) (by (conv => lhs; simp only [List.getElem?_toArray, List.getElem?_cons_succ, List.getElem?_cons_zero])) (by kernel_rfl) (by kernel_rfl) (by kernel_rfl) ?hQ (Or.inl ⟨by rfl, ?hya10⟩) hH ?resta10
  case hQ => exact fun _ _ _ h => h
  case hya10 => (intro Y hY; obtain ⟨e0, e1, e2, e3⟩ := hY; go_simp; try (with_reducible rfl))
  try simp only [Act.put, List.setIfInBounds_toArray, List.set_cons_zero, List.set_cons_succ]
  refine wpAnyH_take (i := 11) (v := ?va11) (by (conv => lhs; simp only [List.getElem?_toArray, List.getElem?_cons_succ, List.getElem?_cons_zero])) (by kernel_rfl) (by kernel_rfl) (by kernel_rfl) ?hQ (Or.inl ⟨by rfl, ?hya11⟩) hH ?resta11
  case hQ => exact fun _ _ _ h => h
  case hya11 => (intro Y hY; obtain ⟨e0, e1, e2, e3⟩ := hY; go_simp; try (with_reducible rfl))
  try simp only [Act.put, List.setIfInBounds_toArray, List.set_cons_zero, List.set_cons_succ]
  refine wpAnyH_take (i := 12) (v := ?va12) (by (conv => lhs; simp only [List.getElem?_toArray, List.getElem?_cons_succ, List.getElem?_cons_zero])) (by kernel_rfl) (by kernel_rfl) (by kernel_rfl) ?hQ (Or.inl ⟨by rfl, ?hya12⟩) hH ?resta12
  case hQ => exact fun _ _ _ h => h
  case hya12 => (intro Y hY; obtain ⟨e0, e1, e2, e3⟩ := hY; go_simp; try (with_reducible rfl))
  try simp only [Act.put, List.setIfInBounds_toArray, List.set_cons_zero, List.set_cons_succ]
  refine wpAnyH_take (i := 13) (v := ?va13) (by (conv => lhs; simp only [List.getElem?_toArray, List.getElem?_cons_succ, List.getElem?_cons_zero])) (by kernel_rfl) (by kernel_rfl) (by kernel_rfl) ?hQ (Or.inl ⟨by rfl, ?hya13⟩) hH ?resta13
  case hQ => exact fun _ _ _ h => h
  case hya13 => (intro Y hY; obtain ⟨e0, e1, e2, e3⟩ := hY; go_simp; try (with_reducible rfl))
  try simp only [Act.put, List.setIfInBounds_toArray, List.set_cons_zero, List.set_cons_succ]
  refine wpAnyH_take (i := 14) (v := ?va14) (by (conv => lhs; simp only [List.getElem?_toArray, List.getElem?_cons_succ, List.getElem?_cons_zero])) (by kernel_rfl) (by kernel_rfl) (by kernel_rfl) ?hQ (Or.inl ⟨by rfl, ?hya14⟩) hH ?resta14
  case hQ => exact fun _ _ _ h => h
  case hya14 => (intro Y hY; obtain ⟨e0, e1, e2, e3⟩ := hY; go_simp; try (with_reducible rfl))
  try simp only [Act.put, List.setIfInBounds_toArray, List.set_cons_zero, List.set_cons_succ]
  refine wpAnyH_take (i := 15) (v := ?va15) (by (conv => lhs; simp only [List.getElem?_toArray, List.getElem?_cons_succ, List.getElem?_cons_zero])) (by kernel_rfl) (by kernel_rfl) (by kernel_rfl) ?hQ (Or.inl ⟨by rfl, ?hya15⟩) hH ?resta15
  case hQ => exact fun _ _ _ h => h
  case hya15 => (intro Y hY; obtain ⟨e0, e1, e2, e3⟩ := hY; go_simp; try (with_reducible rfl))
  try simp only [Act.put, List.setIfInBounds_toArray, List.set_cons_zero, List.set_cons_succ]
  refine wpAnyH_take (i := 16) (v := ?va16) (by (conv => lhs; simp only [List.getElem?_toArray, List.getElem?_cons_succ, List.getElem?_cons_zero])) (by kernel_rfl) (by kernel_rfl) (by kernel_rfl) ?hQ (Or.inl ⟨by rfl, ?hya16⟩) hH ?resta16
  case hQ => exact fun _ _ _ h => h
  case hya16 => (intro Y hY; obtain ⟨e0, e1, e2, e3⟩ := hY; go_simp; try (with_reducible rfl))
  try simp only [Act.put, List.setIfInBounds_toArray, List.set_cons_zero, List.set_cons_succ]
  refine wpAnyH_take (i := 17) (v := ?va17) (by (conv => lhs; simp only [List.getElem?_toArray, List.getElem?_cons_succ, List.getElem?_cons_zero])) (by kernel_rfl) (by kernel_rfl) (by kernel_rfl) ?hQ (Or.inl ⟨by rfl, ?hya17⟩) hH ?resta17
  case hQ => exact fun _ _ _ h => h
  case hya17 => (intro Y hY; obtain ⟨e0, e1, e2, e3⟩ := hY; go_simp; try (with_reducible rfl))
  try simp only [Act.put, List.setIfInBounds_toArray, List.set_cons_zero, List.set_cons_succ]
  refine wpAnyH_ready (rs := [4]) (by kernel_rfl) (by simp) ?_
  refine AllReadyH.cons (by (conv => lhs; simp only [List.getElem?_toArray, List.getElem?_cons_succ, List.getElem?_cons_zero])) (fun K hK => ?_) AllReadyH.nil
  clear c0 c1 c2 c3
  go_simp
  refine (CM.out _ (Below.drew (Below.refl _ _))).mono ?_
  rintro e w3 ⟨rfl, hm3, hb3⟩
  have cum3 : Below w.heap.size w w3 := (Below.drew (Below.refl _ _)).trans hb3
  have HM3 := hidd hm3
  clear hm3 hb3
  refine hK.out _ _ (KEEP.out _ cum3) (fun hH3 => ?_)
  clear hK hH
  try simp only [Act.put, List.setIfInBounds_toArray, List.set_cons_zero, List.set_cons_succ]
  refine wpAnyH_ready (rs := [9]) (by kernel_rfl) (by simp) ?_
  refine AllReadyH.cons (by (conv => lhs; simp only [List.getElem?_toArray, List.getElem?_cons_succ, List.getElem?_cons_zero])) (fun K hK => ?_) AllReadyH.nil
  go_simp
  refine (CC.out _ cum3).mono ?_
  rintro e w5 ⟨v5, rfl, hO5, hb5⟩
  obtain ⟨A5, c5, hv5, _⟩ := OwnL.lie hO5 itV_len
  subst hv5
  generalize hn5 : L.length = n5 at *
  have HN5 := hidd hn5
  clear hn5
  have HO5 := hidd hO5
  have cum5 : Below w.heap.size w w5 := cum3.trans (hb5.mono cum3.size)
  have HB5 := hidd hb5
  clear hO5 hb5
  refine hK.out _ _ (KEEP.out _ cum5) (fun hH5 => ?_)
  clear hK hH3
  try simp only [Act.put, List.setIfInBounds_toArray, List.set_cons_zero, List.set_cons_succ]
  refine wpAnyH_take (i := 18) (v := ?vb18) (by (conv => lhs; simp only [List.getElem?_toArray, List.getElem?_cons_succ, List.getElem?_cons_zero])) (by kernel_rfl) (by kernel_rfl) (by kernel_rfl) ?hQ (Or.inl ⟨by rfl, ?hyb18⟩) hH5 ?restb18
  case hQ => exact fun _ _ _ h => h
  case hyb18 => (intro Y hY; obtain ⟨e0, e1, e2, e3⟩ := hY; go_simp; try (with_reducible rfl))
  try simp only [Act.put, List.setIfInBounds_toArray, List.set_cons_zero, List.set_cons_succ]
  refine wpAnyH_ready (rs := [19]) (by kernel_rfl) (by simp) ?_
  refine AllReadyH.cons (by (conv => lhs; simp only [List.getElem?_toArray, List.getElem?_cons_succ, List.getElem?_cons_zero])) (fun K hK => ?_) AllReadyH.nil
  clear hH5
  go_simp
  refine hK.out _ _ (KEEP.out _ (below_new cum5 _)) (fun hH6 => ?_)
  clear hK
  try simp only [Act.put, List.setIfInBounds_toArray, List.set_cons_zero, List.set_cons_succ]
  refine wpAnyH_take (i := 20) (v := ?vc20) (by (conv => lhs; simp only [List.getElem?_toArray, List.getElem?_cons_succ, List.getElem?_cons_zero])) (by kernel_rfl) (by kernel_rfl) (by kernel_rfl) ?hQ (Or.inl ⟨by rfl, ?hyc20⟩) hH6 ?restc20
  case hQ => exact fun _ _ _ h => h
  case hyc20 => (intro Y hY; obtain ⟨e0, e1, e2, e3⟩ := hY; go_simp; try (with_reducible rfl))
  try simp only [Act.put, List.setIfInBounds_toArray, List.set_cons_zero, List.set_cons_succ]
  refine wpAnyH_done (by kernel_rfl) ?_ _
  go_wp2_with fail
  go_ret
  have hO := HO5.out
  have hlt5 := fun k e => OwnL.lt hO k e
  obtain ⟨es, cl, hm⟩ := HM3.out.blk
  have hms : w.heap.size < w3.heap.size := (Array.getElem?_eq_some_iff.1 hm).1
  have hs5 := HB5.out.size
  refine ⟨w5.heap.size, Blk w5.heap.size w.heap.size (.slice A5 n5 c5), rfl, ⟨HT.out, w.heap.size, .slice A5 n5 c5, L, D, PL.out, ⟨⟨?_, ?_, ?_, ?_, ?_, ?_, ?_, ?_⟩, HH.out.ok, HH.out.ids, HH.out.pl, HH.out.sz, HH.out.lm, HH.out.heap⟩, fun k => Iff.rfl⟩, ?_, below_new cum5 _⟩
  · exact ⟨_, World.alloc_heap_new _ _⟩
  · simp [go_sem]
  · simp [go_sem]
  · simp [go_sem]
  · simp [go_sem]
  · exact OwnL.base' (hO.alloc _) 0 (Nat.zero_le _)
  · exact HM3.out.to ((below_new HB5.out _).block _ hms)
  · intro e
    have := (hlt5 _ e).2
    omega
  · rintro k (e | e | e)
    · rw [e]; omega
    · rw [e]; exact Nat.le_refl _
    · have := (hlt5 k e).1; omega
end Go.Proofs.Ytohkkebiilaniaa.Hp

/- Heaps: HeapCopies' walk. -/
namespace Go.Proofs.Ytohkkebiilaniaa.Hp
set_option linter.unusedVariables false
open Go.RowKit Go.Maps Go.Sort Go.Shelf Go.Proofs.Ytohkkebiilaniaa.Tp
attribute [local go_sem] Oper.semAt_some
/-- the law's own boxes, and what lay ahead. -/
structure Kept (w W : World) (k : Int) : Prop where
  box : Boxed W w.heap.size 3 (.int .i64 k)
  res : Boxed W (w.heap.size + 1) 4 (.bool false)
  bel : Below w.heap.size w W
theorem Kept.sav {w W W' : World} {k : Int} (h : Kept w W k) {S : Nat → Prop} (hs : Sav S W W') (hS : ∀ j, S j → w.heap.size + 2 ≤ j) : Kept w W' k :=
  ⟨(hs.block _ h.box.lt (fun q => by have := hS _ q; omega)).trans h.box, (hs.block _ h.res.lt (fun q => by have := hS _ q; omega)).trans h.res, h.bel.trans (hs.below h.bel.size (fun j q => by have := hS j q; omega))⟩
theorem Kept.below {w W W' : World} {k : Int} (h : Kept w W k) (hb : Below W.heap.size W W') : Kept w W' k := h.sav (S := fun _ => False) (Sav.of hb) (fun _ q => q.elim)
theorem perm_sub : ∀ (M M2 : List It), M.Nodup → (∀ x ∈ M, x ∈ M2) → M.length = M2.length → M.Perm M2
  | [], M2, _, _, h => by have : M2 = [] := List.eq_nil_of_length_eq_zero h.symm; rw [this]
  | x :: M, M2, nd, hs, h => by
    have hx := hs x (by simp)
    have hn := List.nodup_cons.1 nd
    have hl := List.length_erase_of_mem hx
    have h0 := List.length_pos_of_mem hx
    have := perm_sub M (M2.erase x) hn.2 (fun y hy => (List.mem_erase_of_ne (by intro e; subst e; exact hn.1 hy)).2 (hs y (List.mem_cons_of_mem _ hy))) (by simp at h; omega)
    exact (this.cons x).trans (List.perm_cons_erase hx).symm
/-- a region that does not panic. -/
def NoP (Q : Exit → Act → World → Prop) : Exit → Act → World → Prop
  | .panic _, _, _ => False
  | e, a, w => Q e a w
theorem wp_noP {P : Program} {c : Code} {Q : Exit → Act → World → Prop} {a : Act} {w : World} (h : c.wp P (NoP Q) a w) : c.wp P Q a w :=
  Code.wp_mono (fun e a w h => by cases e <;> first | exact h | exact h.elim) h
theorem noP_of {Q : Exit → Act → World → Prop} {a : Act} {w : World} (h : Q .normal a w) : NoP Q .normal a w := h
theorem ownFrom_or {β : Type} {B : Nat} {I I' : β → World → Prop} (h : OwnFrom B I) (h' : OwnFrom B I') : OwnFrom B (fun s W => I s W ∨ I' s W) := fun s W W' row hs hg hr => hs.imp (fun q => h s W W' row q hg hr) (fun q => h' s W W' row q hg hr)
theorem OwnL.lieX {w : World} {base : Nat} {A : Option Addr} {n c : Nat} {L : List It} (h : OwnL itV 4 w base 37 (.slice A n c) L) : Lie itV 4 w w.heap.size A L := by
  obtain ⟨A', c', e, _, _, hl⟩ := OwnL.lie h itV_len
  cases e
  exact hl
theorem sb_dec {M M2 G G2 : List It} {T : Int} (ht : Tur M T) {T2 : Int} (ht2 : Tur M2 T2) (p : G.Perm M) (p2 : G2.Perm M2) (hs : Srt G) (hs2 : Srt G2) : Sb M M2 = decide (G = G2) := by
  unfold Sb
  refine decide_eq_decide.2 ⟨fun ⟨h1, h2⟩ => ?_, fun e => ?_⟩
  · have nd : M.Nodup := (List.pairwise_map.1 ht.nd).imp (fun h e => h (by rw [e]))
    have pm : M.Perm M2 := perm_sub M M2 nd h1 h2
    exact (srt_uniq (ht.perm p.symm) hs hs2 (p2.trans (pm.symm.trans p.symm))).symm
  · subst e
    exact ⟨fun x hx => p2.mem_iff.1 (p.mem_iff.2 hx), by rw [← p.length_eq, ← p2.length_eq]⟩
theorem sb_self (M : List It) : Sb M M = true := decide_eq_true ⟨fun x hx => hx, rfl⟩
set_option maxRecDepth 100000 in
set_option pp.deepTerms true in
set_option pp.maxSteps 100000 in
set_option maxHeartbeats 16000000 in
theorem copies_walk (A1 : Option Addr) (L1 : List (Int × Int × Int × Int)) (ca1 : Nat) (hWd1 : ∀ x ∈ L1, WdA x) (hlc1 : L1.length ≤ ca1) (hcm1 : ca1 ≤ maxLen) (A2 : Option Addr) (L2 : List (Int × Int × Int × Int)) (ca2 : Nat) (hWd2 : ∀ x ∈ L2, WdA x) (hlc2 : L2.length ≤ ca2) (hcm2 : ca2 ≤ maxLen) (hs1 : L1.length ≤ 8796093022208) (hs2 : L2.length ≤ 8796093022208) (k : Int) (w : World) (lA1 : Lie actV 4 w w.heap.size A1 L1) (lA2 : Lie actV 4 w w.heap.size A2 L2) :
    Calls Try.prog 4 #[.slice A1 L1.length ca1, .slice A2 L2.length ca2, .int .i64 k] w fun e w' => e = .returned (.bool true) ∧ Below w.heap.size w w' := by
  have hsep := True.intro
  have hqn := fun f fs cs w => eq_nilFunc f fs cs w
  have cK := hidd (fun W => known11_any W)
  obtain ⟨W1, hW1⟩ : ∃ W1, (w.alloc (.cells #[.int .i64 k] 3)).alloc (.cells #[.bool false] 4) = W1 := ⟨_, rfl⟩
  have B1 := hidd (hW1 ▸ below_new (below_new (Below.refl _ _) _) _ : Below w.heap.size w W1)
  have hz1 : Hid (W1.heap.size = w.heap.size + 2) := hidd (by rw [← hW1]; simp)
  have R1 := hidd (show Boxed W1 (w.heap.size + 1) 4 (.bool false) from by rw [← hW1]; have := Boxed.new (w.alloc (.cells #[.int .i64 k] 3)) 4 (.bool false); simpa using this)
  have RK := hidd (show Boxed W1 w.heap.size 3 (.int .i64 k) from by rw [← hW1]; exact (Boxed.new w 3 (.int .i64 k)).alloc _)
  have r0 := RK.out.cell
  have r1 := R1.out.cell
  have r2 := R1.out.frozen
  have HW := hidd hW1
  clear hW1
  have hwr : IntKind.i64.wrap ((L1.length : Int) + (L2.length : Int)) = (L1.length : Int) + (L2.length : Int) := by rw [IntKind.wrap_i64]; unfold maxLen at *; omega
  by_cases za : (60 : Int) < (L1.length : Int) + (L2.length : Int)
  · generalize L1.length = N1 at *
    generalize L2.length = N2 at *
    clear hWd1 hWd2 lA1 lA2 hsep
    refine (callsIn_wide (n := 6)).1 ?_
    refine callsIn_of_wp_marks Try.func4 rfl trivial ?_ rfl
    simp only [Try.ntmps4, List.size_toArray, List.length_cons, List.length_nil, Nat.reduceAdd, Nat.reduceSub, Array.replicate_succ, Array.replicate_zero, List.push_toArray, List.append_toArray, List.nil_append, List.cons_append]
    refine wpIn_wide.2 ?_
    go_wp2_with fail
    rw [HW.out]
    refine (cK.out _).mono ?_
    rintro e w1 ⟨rfl, hb⟩
    have rb : Boxed w1 (w.heap.size + 1) 4 (.bool false) := (hb.block _ R1.out.lt).trans R1.out
    have rc := rb.cell
    have rf := rb.frozen
    have HB := hidd (B1.out.trans (hb.mono B1.out.size))
    clear hb r0 r1 r2
    go_wp2_with fail
    have hrc := World.cell?_setCell_same' w1 ⟨w.heap.size + 1, 0, none⟩ (.bool true) (by rw [rc]; rfl)
    refine ⟨.bool true, ?_, rfl, ?_⟩
    · simp [results, Try.results4, go_sem, hrc]
    · exact HB.out.setCell (p := ⟨w.heap.size + 1, 0, none⟩) (by simp) (.bool true)
  by_cases zb : k < 1
  · generalize L1.length = N1 at *
    generalize L2.length = N2 at *
    clear hWd1 hWd2 lA1 lA2 hsep
    refine (callsIn_wide (n := 6)).1 ?_
    refine callsIn_of_wp_marks Try.func4 rfl trivial ?_ rfl
    simp only [Try.ntmps4, List.size_toArray, List.length_cons, List.length_nil, Nat.reduceAdd, Nat.reduceSub, Array.replicate_succ, Array.replicate_zero, List.push_toArray, List.append_toArray, List.nil_append, List.cons_append]
    refine wpIn_wide.2 ?_
    go_wp2_with fail
    rw [HW.out]
    refine (cK.out _).mono ?_
    rintro e w1 ⟨rfl, hb⟩
    have rb : Boxed w1 (w.heap.size + 1) 4 (.bool false) := (hb.block _ R1.out.lt).trans R1.out
    have rc := rb.cell
    have rf := rb.frozen
    have HB := hidd (B1.out.trans (hb.mono B1.out.size))
    clear hb r0 r1 r2
    go_wp2_with fail
    have hrc := World.cell?_setCell_same' w1 ⟨w.heap.size + 1, 0, none⟩ (.bool true) (by rw [rc]; rfl)
    refine ⟨.bool true, ?_, rfl, ?_⟩
    · simp [results, Try.results4, go_sem, hrc]
    · exact HB.out.setCell (p := ⟨w.heap.size + 1, 0, none⟩) (by simp) (.bool true)
  by_cases zc : 40 < k
  · generalize L1.length = N1 at *
    generalize L2.length = N2 at *
    clear hWd1 hWd2 lA1 lA2 hsep
    refine (callsIn_wide (n := 6)).1 ?_
    refine callsIn_of_wp_marks Try.func4 rfl trivial ?_ rfl
    simp only [Try.ntmps4, List.size_toArray, List.length_cons, List.length_nil, Nat.reduceAdd, Nat.reduceSub, Array.replicate_succ, Array.replicate_zero, List.push_toArray, List.append_toArray, List.nil_append, List.cons_append]
    refine wpIn_wide.2 ?_
    go_wp2_with fail
    rw [HW.out]
    refine (cK.out _).mono ?_
    rintro e w1 ⟨rfl, hb⟩
    have rb : Boxed w1 (w.heap.size + 1) 4 (.bool false) := (hb.block _ R1.out.lt).trans R1.out
    have rc := rb.cell
    have rf := rb.frozen
    have HB := hidd (B1.out.trans (hb.mono B1.out.size))
    clear hb r0 r1 r2
    go_wp2_with fail
    have hrc := World.cell?_setCell_same' w1 ⟨w.heap.size + 1, 0, none⟩ (.bool true) (by rw [rc]; rfl)
    refine ⟨.bool true, ?_, rfl, ?_⟩
    · simp [results, Try.results4, go_sem, hrc]
    · exact HB.out.setCell (p := ⟨w.heap.size + 1, 0, none⟩) (by simp) (.bool true)
  have HWd1 := hidd hWd1
  have HWd2 := hidd hWd2
  have HA1 := hidd lA1
  have HA2 := hidd lA2
  have cN := hidd (fun W => newR W)
  have cD := hidd (fun W R v M T G h (P : Play R W h v M T G) x hx hL h0 h1 => does_play P x hx hL h0 h1)
  have cS := hidd (fun W R v M T G h (P : Play R W h v M T G) hl => same_yes (TG := T) P.hr P.rl P.ag.p P.ag.s hl)
  have cY := hidd (fun W R h M T (H : HR R W h M T) => copyR H)
  have cA := hidd (fun W R h M T (H : HR R W h M T) => all_items W H)
  have cE := hidd (fun W R R' h h' M M' T T' (H : HR R W h M T) (H' : HR R' W h' M' T') hl => heapSame_any H H' hl)
  unfold PlayEnd at cD
  clear lA1 lA2 hWd1 hWd2 hsep
  have K1 := hidd (⟨RK.out, R1.out, B1.out⟩ : Kept w W1 k)
  refine (callsIn_wide (n := 6)).1 ?_
  refine callsIn_of_wp_marks Try.func4 rfl trivial ?_ rfl
  simp only [Try.ntmps4, List.size_toArray, List.length_cons, List.length_nil, Nat.reduceAdd, Nat.reduceSub, Array.replicate_succ, Array.replicate_zero, List.push_toArray, List.append_toArray, List.nil_append, List.cons_append]
  refine wpIn_wide.2 ?_
  go_wp2_with fail
  rw [HW.out]
  refine (cN.out _).mono ?_
  rintro e w0 ⟨rfl, ⟨R0, hR0, hn0⟩, hb0⟩
  have K2 := hidd (K1.out.below hb0)
  have HR0 := hidd hR0
  have N0 : Hid (∀ j, R0 j → w.heap.size + 2 ≤ j) := hidd (fun j q => by have := hn0 j q; have := hz1.out; omega)
  have hwg0 : w.heap.size + 2 ≤ w0.heap.size := by have := hb0.size; have := hz1.out; omega
  clear hb0 hR0 hn0 r0 r1 r2 HW K1
  generalize W1.heap.size + 1 = h at *
  go_wp2_with fail
  obtain ⟨W0, hW0⟩ : ∃ W0 : World, w0.alloc (.cells #[.slice none 0 0, .int .i64 0] 28) = W0 := ⟨_, rfl⟩
  have HG0 : Hid (DAt W0 w0.heap.size (.slice none 0 0) 0) := hidd (by rw [← hW0]; exact DAt.new _ _ _)
  have K3 : Hid (Kept w W0 k) := hidd (by rw [← hW0]; exact K2.out.below (below_new (Below.refl _ _) _))
  have HP0 : Hid (Play R0 W0 h (.slice none ([] : List It).length 0) [] 0 []) := hidd (by rw [← hW0]; exact ⟨HR0.out.below (below_new (Below.refl _ _) _), OwnL.nil _ 0 _, ⟨List.Perm.refl _, List.Pairwise.nil, rfl⟩, fun q e => by cases e⟩)
  have NG0 : Hid (¬ R0 w0.heap.size) := hidd (fun r => by have := HR0.out.lt _ r; omega)
  rw [hW0]
  clear hW0 K2 HR0 R1 RK B1 hz1
  generalize w0.heap.size = g at *
  go_loopg [9] L1.length (fun gk s9 wr => ∃ (i : Nat) (R : Nat → Prop) (GA : Option Addr) (gc : Nat) (M : List It) (T : Int) (G : List It), i + gk = L1.length ∧ s9 = .int .i64 (i : Int) ∧ Play R wr h (.slice GA G.length gc) M T G ∧ (∀ j, R j → w.heap.size + 2 ≤ j) ∧ ¬ R g ∧ (∀ q, (Value.slice GA G.length gc).ownBlock = some q → q ≠ g) ∧ DAt wr g (.slice GA G.length gc) T ∧ Kept w wr k ∧ M.length ≤ i ∧ 0 ≤ T ∧ T ≤ (i : Int))
  case atStart => exact ⟨0, R0, none, 0, [], 0, [], by omega, rfl, HP0.out, N0.out, NG0.out, (fun q e => by cases e), HG0.out, K3.out, by simp, by omega, by omega⟩
  case round =>
    clear HP0 HG0 K3 NG0 N0
    obtain ⟨i, R, GA, gc, M, T, G, hk, rfl, hP, hN, hgn, hvg, hD, hB, hMl, hT0, hT1⟩ := hrel
    have HP := hidd hP
    have HN := hidd hN
    have HGN := hidd (And.intro hgn hvg)
    have HD := hidd hD
    have HB := hidd hB
    have HK := hidd hk
    have hgs := hD.lt
    obtain ⟨g0, g1⟩ := hD.cells
    clear hP hN hgn hvg hD hB
    by_cases hlt : i < L1.length
    · have z1 : (i : Int) < (L1.length : Int) := by omega
      have z2 : (0 : Int) ≤ (i : Int) := by omega
      obtain ⟨ad, rfl, ha, c0, c1, c2, c3⟩ := Lie.act (HA1.out.keep HB.out.bel) i hlt
      have CD := hidd (fun W (b : Below wr.heap.size wr W) => cD.out W R _ M T G h (HP.out.below b) (aA L1 i) (HWd1.out _ (by rw [aA_at hlt]; exact List.getElem_mem hlt : aA L1 i ∈ L1)) (by omega) hT0 (by omega))
      generalize (aA L1 i).1 = r0 at *
      generalize (aA L1 i).2.1 = r1 at *
      generalize (aA L1 i).2.2.1 = r2 at *
      generalize (aA L1 i).2.2.2 = r3 at *
      have haw : (ad.add (i * 4)).block < wr.heap.size := Nat.lt_of_lt_of_le ha HB.out.bel.size
      have har : ¬ R (ad.add (i * 4)).block := fun r => by have := HN.out _ r; omega
      have hag : (ad.add (i * 4)).block ≠ g := by omega
      generalize hGL : G.length = gl at *
      have HGL := hidd hGL
      clear hGL
      have KEEP := hidd (fun Y (hb : Sav R wr Y) => (show Y.cell? (ad.add (i * 4)) = some (.int .i64 r0) ∧ Y.cell? ⟨(ad.add (i * 4)).block, (ad.add (i * 4)).off + 1, none⟩ = some (.int .i64 r1) ∧ Y.cell? ⟨(ad.add (i * 4)).block, (ad.add (i * 4)).off + 2, none⟩ = some (.int .i64 r2) ∧ Y.cell? ⟨(ad.add (i * 4)).block, (ad.add (i * 4)).off + 3, none⟩ = some (.int .i64 r3) from
        ⟨(hb.cell haw har).trans c0, (hb.cell (p := ⟨(ad.add (i * 4)).block, (ad.add (i * 4)).off + 1, none⟩) haw har).trans c1, (hb.cell (p := ⟨(ad.add (i * 4)).block, (ad.add (i * 4)).off + 2, none⟩) haw har).trans c2, (hb.cell (p := ⟨(ad.add (i * 4)).block, (ad.add (i * 4)).off + 3, none⟩) haw har).trans c3⟩))
      clear ha
      go_wp2_with fail
      refine wp_noP ?_
      refine wp_region_held_drew (S := (fun Y => Y.cell? (ad.add (i * 4)) = some (.int .i64 r0) ∧ Y.cell? ⟨(ad.add (i * 4)).block, (ad.add (i * 4)).off + 1, none⟩ = some (.int .i64 r1) ∧ Y.cell? ⟨(ad.add (i * 4)).block, (ad.add (i * 4)).off + 2, none⟩ = some (.int .i64 r2) ∧ Y.cell? ⟨(ad.add (i * 4)).block, (ad.add (i * 4)).off + 3, none⟩ = some (.int .i64 r3))) (by kernel_rfl) (KEEP.out _ (Sav.of (Below.drew (Below.refl _ _)))) (fun hH => ?_)
      refine wpAnyH_take (i := 0) (v := ?vxa0) (by (conv => lhs; simp only [List.getElem?_toArray, List.getElem?_cons_succ, List.getElem?_cons_zero])) (by kernel_rfl) (by kernel_rfl) (by kernel_rfl) ?hQ (Or.inl ⟨by rfl, ?hyxa0⟩) hH ?restxa0
      case hQ => exact fun _ _ _ h => h
      case hyxa0 => (intro Y hY; obtain ⟨e0, e1, e2, e3⟩ := hY; go_simp; try (with_reducible rfl))
      try simp only [Act.put, List.setIfInBounds_toArray, List.set_cons_zero, List.set_cons_succ]
      refine wpAnyH_take (i := 2) (v := ?vxa2) (by (conv => lhs; simp only [List.getElem?_toArray, List.getElem?_cons_succ, List.getElem?_cons_zero])) (by kernel_rfl) (by kernel_rfl) (by kernel_rfl) ?hQ (Or.inl ⟨by rfl, ?hyxa2⟩) hH ?restxa2
      case hQ => exact fun _ _ _ h => h
      case hyxa2 => (intro Y hY; obtain ⟨e0, e1, e2, e3⟩ := hY; go_simp; try (with_reducible rfl))
      try simp only [Act.put, List.setIfInBounds_toArray, List.set_cons_zero, List.set_cons_succ]
      refine wpAnyH_take (i := 3) (v := ?vxa3) (by (conv => lhs; simp only [List.getElem?_toArray, List.getElem?_cons_succ, List.getElem?_cons_zero])) (by kernel_rfl) (by kernel_rfl) (by kernel_rfl) ?hQ (Or.inl ⟨by rfl, ?hyxa3⟩) hH ?restxa3
      case hQ => exact fun _ _ _ h => h
      case hyxa3 => (intro Y hY; obtain ⟨e0, e1, e2, e3⟩ := hY; go_simp; try (with_reducible rfl))
      try simp only [Act.put, List.setIfInBounds_toArray, List.set_cons_zero, List.set_cons_succ]
      refine wpAnyH_take (i := 4) (v := ?vxa4) (by (conv => lhs; simp only [List.getElem?_toArray, List.getElem?_cons_succ, List.getElem?_cons_zero])) (by kernel_rfl) (by kernel_rfl) (by kernel_rfl) ?hQ (Or.inl ⟨by rfl, ?hyxa4⟩) hH ?restxa4
      case hQ => exact fun _ _ _ h => h
      case hyxa4 => (intro Y hY; obtain ⟨e0, e1, e2, e3⟩ := hY; go_simp; try (with_reducible rfl))
      try simp only [Act.put, List.setIfInBounds_toArray, List.set_cons_zero, List.set_cons_succ]
      refine wpAnyH_take (i := 5) (v := ?vxa5) (by (conv => lhs; simp only [List.getElem?_toArray, List.getElem?_cons_succ, List.getElem?_cons_zero])) (by kernel_rfl) (by kernel_rfl) (by kernel_rfl) ?hQ (Or.inl ⟨by rfl, ?hyxa5⟩) hH ?restxa5
      case hQ => exact fun _ _ _ h => h
      case hyxa5 => (intro Y hY; obtain ⟨e0, e1, e2, e3⟩ := hY; go_simp; try (with_reducible rfl))
      try simp only [Act.put, List.setIfInBounds_toArray, List.set_cons_zero, List.set_cons_succ]
      have u0 : wr.drew.cell? ⟨g, 0, none⟩ = some (.slice GA gl gc) := g0
      have u1 : wr.drew.cell? ⟨g, 1, none⟩ = some (.int .i64 T) := g1
      refine wpAnyH_ready (rs := [1]) (by kernel_rfl) (by simp) ?_
      refine AllReadyH.cons (by (conv => lhs; simp only [List.getElem?_toArray, List.getElem?_cons_succ, List.getElem?_cons_zero])) (fun K hK => ?_) AllReadyH.nil
      go_simp
      refine hK.out _ _ hH (fun hH0 => ?_)
      clear hK hH u0 u1
      try simp only [Act.put, List.setIfInBounds_toArray, List.set_cons_zero, List.set_cons_succ]
      refine wpAnyH_ready (rs := [6]) (by kernel_rfl) (by simp) ?_
      refine AllReadyH.cons (by (conv => lhs; simp only [List.getElem?_toArray, List.getElem?_cons_succ, List.getElem?_cons_zero])) (fun K hK => ?_) AllReadyH.nil
      clear c0 c1 c2 c3 g0 g1
      go_simp
      go_at_call 7; refine (CD.out _ (Below.drew (Below.refl _ _))).mono ?_; rintro e w5 ⟨R5, M5, T5, v5, G5, rfl, hP5, hS5, hN5, hW5, hl5, ht5, hu5⟩; obtain ⟨A5, c5, hv5, _⟩ := OwnL.lie hP5.rl itV_len; subst hv5
      have cum1 : Sav R wr w5 := (Sav.of (Below.drew (Below.refl _ _))).tr hS5
      have P5 := hidd hP5
      have NX := hidd (show Nxt R R5 wr from hN5)
      have NW := hidd (show New wr (.slice GA gl gc) (.slice A5 G5.length c5) from hW5)
      clear hP5 hN5 hW5 hS5
      generalize hn5 : G5.length = n5 at *
      have HN5 := hidd hn5
      clear hn5
      refine hK.out _ _ (KEEP.out _ cum1) (fun hH1 => ?_)
      clear hK hH0
      try simp only [Act.put, List.setIfInBounds_toArray, List.set_cons_zero, List.set_cons_succ]
      refine wpAnyH_take (i := 7) (v := ?vxb7) (by (conv => lhs; simp only [List.getElem?_toArray, List.getElem?_cons_succ, List.getElem?_cons_zero])) (by kernel_rfl) (by kernel_rfl) (by kernel_rfl) ?hQ (Or.inl ⟨by rfl, ?hyxb7⟩) hH1 ?restxb7
      case hQ => exact fun _ _ _ h => h
      case hyxb7 => (intro Y hY; obtain ⟨e0, e1, e2, e3⟩ := hY; go_simp; try (with_reducible rfl))
      try simp only [Act.put, List.setIfInBounds_toArray, List.set_cons_zero, List.set_cons_succ]
      refine wpAnyH_take (i := 8) (v := ?vxb8) (by (conv => lhs; simp only [List.getElem?_toArray, List.getElem?_cons_succ, List.getElem?_cons_zero])) (by kernel_rfl) (by kernel_rfl) (by kernel_rfl) ?hQ (Or.inl ⟨by rfl, ?hyxb8⟩) hH1 ?restxb8
      case hQ => exact fun _ _ _ h => h
      case hyxb8 => (intro Y hY; obtain ⟨e0, e1, e2, e3⟩ := hY; go_simp; try (with_reducible rfl))
      try simp only [Act.put, List.setIfInBounds_toArray, List.set_cons_zero, List.set_cons_succ]
      refine wpAnyH_take (i := 9) (v := ?vxb9) (by (conv => lhs; simp only [List.getElem?_toArray, List.getElem?_cons_succ, List.getElem?_cons_zero])) (by kernel_rfl) (by kernel_rfl) (by kernel_rfl) ?hQ (Or.inl ⟨by rfl, ?hyxb9⟩) hH1 ?restxb9
      case hQ => exact fun _ _ _ h => h
      case hyxb9 => (intro Y hY; obtain ⟨e0, e1, e2, e3⟩ := hY; go_simp; try (with_reducible rfl))
      try simp only [Act.put, List.setIfInBounds_toArray, List.set_cons_zero, List.set_cons_succ]
      refine wpAnyH_ready (rs := [10]) (by kernel_rfl) (by simp) ?_
      refine AllReadyH.cons (by (conv => lhs; simp only [List.getElem?_toArray, List.getElem?_cons_succ, List.getElem?_cons_zero])) (fun K hK => ?_) AllReadyH.nil
      clear hH1
      have hrow : w5.heap[g]? = some (.cells #[.slice GA gl gc, .int .i64 T] 28 (0, 0)) := HD.out.of (cum1.block g hgs HGN.out.1)
      rw [if_pos (by rfl)]
      refine wp_store_row 28 (.tmp 8) (.tmp 47) (by rfl) g #[.slice A5 n5 c5, .int .i64 T5] (by rfl) (by rfl) _ _ hrow (by kernel_rfl) (by rfl) (by simp [Value.oneCell']) ?_
      have hrow2 : DAt (w5.setRow g #[.slice A5 n5 c5, .int .i64 T5]) g (.slice A5 n5 c5) T5 := setRow_heap w5 g _ #[.slice A5 n5 c5, .int .i64 T5] _ _ hrow
      have hoth := fun k (h : k ≠ g) => setRow_other w5 g k #[.slice A5 n5 c5, .int .i64 T5] h
      have hszz := setRow_size w5 g #[.slice A5 n5 c5, .int .i64 T5]
      have hSA := KEEP.out _ cum1
      have hH5 : (fun Y : World => Y.cell? (ad.add (i * 4)) = some (.int .i64 r0) ∧ Y.cell? ⟨(ad.add (i * 4)).block, (ad.add (i * 4)).off + 1, none⟩ = some (.int .i64 r1) ∧ Y.cell? ⟨(ad.add (i * 4)).block, (ad.add (i * 4)).off + 2, none⟩ = some (.int .i64 r2) ∧ Y.cell? ⟨(ad.add (i * 4)).block, (ad.add (i * 4)).off + 3, none⟩ = some (.int .i64 r3)) (w5.setRow g #[.slice A5 n5 c5, .int .i64 T5]) := ⟨(cell_setRow_other _ _ _ _ hag).trans hSA.1, (cell_setRow_other _ _ _ ⟨(ad.add (i * 4)).block, (ad.add (i * 4)).off + 1, none⟩ hag).trans hSA.2.1, (cell_setRow_other _ _ _ ⟨(ad.add (i * 4)).block, (ad.add (i * 4)).off + 2, none⟩ hag).trans hSA.2.2.1, (cell_setRow_other _ _ _ ⟨(ad.add (i * 4)).block, (ad.add (i * 4)).off + 3, none⟩ hag).trans hSA.2.2.2⟩
      have SAVG : Hid (Sav (fun j => R j ∨ j = g) wr (w5.setRow g #[.slice A5 n5 c5, .int .i64 T5])) := hidd ⟨cum1.os, cum1.tape, cum1.output, by rw [hszz]; exact cum1.size, fun j h1 h2 => (hoth j (fun e => h2 (.inr e))).trans (cum1.block j h1 (fun r => h2 (.inl r)))⟩
      have SV1 := hidd cum1
      have ROW := hidd hrow2
      have OTH := hidd hoth
      have SZ := hidd hszz
      clear hrow2 hoth hszz hSA hrow cum1
      refine hK.out _ _ hH5 (fun hH6 => ?_)
      clear hK
      try simp only [Act.put]
      obtain ⟨wz, hwz⟩ : ∃ wz : World, w5.setRow g #[.slice A5 n5 c5, .int .i64 T5] = wz := ⟨_, rfl⟩
      rw [hwz] at ROW OTH SZ SAVG
      rw [hwz]
      clear hwz hH5 hH6 KEEP CD
      refine wpAnyH_done (by kernel_rfl) (noP_of ?_) _
      go_wp2_with fail
      have hk := HK.out
      have hn5 := HN5.out
      subst hn5
      have hrg : ¬ R5 g := fun r => HGN.out.1 (NX.out g hgs r)
      have hvg : ∀ k, (Value.slice A5 G5.length c5).ownBlock = some k → k ≠ g := fun k e => by
        rcases NW.out k e with h1 | h1
        · exact HGN.out.2 k h1
        · omega
      have SVg : Sav (fun j => R j ∨ j = g) wr wz := SAVG.out
      go_roundg (gk - 1)
      case measure => omega
      case rel => exact ⟨i + 1, R5, A5, c5, M5, T5, G5, by omega, by go_num, P5.out.keep OTH.out hrg hvg, (fun j r => by
        rcases Nat.lt_or_ge j wr.heap.size with h1 | h1
        · exact HN.out j (NX.out j h1 r)
        · have := HB.out.bel.size; omega), hrg, hvg, ROW.out, HB.out.sav SVg (fun j r => by rcases r with r | r; exact HN.out j r; omega), by omega, ht5, by omega⟩
    · have z1 : ¬ (i : Int) < (L1.length : Int) := by omega
      have hM60 : M.length ≤ L1.length := by omega
      have hT60 : T ≤ (L1.length : Int) := by omega
      have hsum : L1.length + L2.length ≤ 60 := by omega
      have CY := hidd (cY.out wr R h M T HP.out.hr)
      clear HA1 HWd1 g0 g1 HK hwr hlc1 hcm1
      generalize L1.length = N1 at *
      go_wp2_with fail
      refine CY.out.mono ?_
      rintro e w1 ⟨hc, R2, rfl, hR2, hn2, hb1⟩
      have HP1 := hidd (HP.out.below hb1)
      have HC1 := hidd hR2
      have HD1 := hidd (HD.out.below hb1)
      have HB1 := hidd (HB.out.below hb1)
      have DJ : Hid (∀ j, R j → ¬ R2 j) := hidd (fun j a b => by have := HP.out.hr.lt j a; have := hn2 j b; omega)
      have DG : Hid (¬ R2 g) := hidd (fun b => by have := hn2 g b; omega)
      have DV : Hid (∀ q, (Value.slice GA G.length gc).ownBlock = some q → ¬ R2 q) := hidd (fun q e b => by have := (OwnL.lt HP.out.rl q e).2; have := hn2 q b; omega)
      have HN2 : Hid (∀ j, R2 j → w.heap.size + 2 ≤ j) := hidd (fun j b => by have := hn2 j b; have := HB.out.res.lt; omega)
      clear HP HD HB hR2 hn2 hb1 CY hgs cY cN
      go_wp2_with fail
      refine (cA.out w1 R h M T HP1.out.hr).mono ?_
      rintro e w2 ⟨q, A3, c3, G3, rfl, hp3, hs3, ho3, hc3, hq1, hq2, hb2⟩
      have e3 : G3 = G := srt_uniq (HP1.out.hr.1.perm HP1.out.ag.p.symm) HP1.out.ag.s hs3 (hp3.trans HP1.out.ag.p.symm)
      subst e3
      have HP2 := hidd (HP1.out.below hb2)
      have HC2 := hidd (HC1.out.below hb2)
      have HD2 := hidd (HD1.out.below hb2)
      have HB2 := hidd (HB1.out.below hb2)
      have HO3 := hidd ho3
      have HC3 := hidd hc3
      have HQ := hidd hq2
      have hRlt := HC2.out.lt
      have HRL := hidd hRlt
      clear hp3 hs3 ho3 hc3 hq1 hq2 hb2 HP1 HC1 HD1 HB1 cA hRlt
      go_wp2_with fail
      rename_i Kc hKc
      have REST : ∀ (D : Nat) (W : World), w2.heap.size < D → Boxed W w2.heap.size 3 (.int .i64 (min k (G3.length : Int))) → Below w2.heap.size w2 W → W.heap[D]? = some (.deferred (some [])) → Kc { tmps := #[.slice A1 N1 ca1, .slice A2 L2.length ca2, .int .i64 k, undef, undef, .pointer (some ⟨w.heap.size, 0, none⟩), .pointer (some ⟨w.heap.size + 1, 0, none⟩), .pointer (some ⟨h, 0, none⟩), .pointer (some ⟨g, 0, none⟩), .int .i64 (i : Int), .pointer (some ⟨hc, 0, none⟩), .func (.func 43) #[] #[.pointer (some ⟨q, 0, none⟩)], .pointer (some ⟨w2.heap.size, 0, none⟩), undef, undef, undef, .slice A1 N1 ca1, .int .i64 (N1 : Int), .slice A2 L2.length ca2, .int .i64 (L2.length : Int), .int .i64 ((N1 : Int) + (L2.length : Int)), .bool false, .bool false, .int .i64 k, .bool false, .bool false, .bool false, .int .i64 k, .bool false, .bool false, undef, .pointer (some ⟨h, 0, none⟩), .agg #[.slice none 0 0, .int .i64 0], .int .i64 (i : Int), .slice A1 N1 ca1, .int .i64 (N1 : Int), .bool false, u37, u38, u39, u40, u41, u42, u43, u44, u45, u46, u47, u48, .pointer (some ⟨h, 0, none⟩), .pointer (some ⟨hc, 0, none⟩), .pointer (some ⟨h, 0, none⟩), .func (.func 43) #[] #[.pointer (some ⟨q, 0, none⟩)], .func (.func 43) #[] #[.pointer (some ⟨q, 0, none⟩)], .bool false, .func (.func 43) #[] #[.pointer (some ⟨q, 0, none⟩)], undef, undef, undef, undef, undef, undef, undef, undef, undef, undef, undef, undef, undef, undef, undef, undef, undef, undef, undef, undef, undef, undef, undef, undef, undef, undef, undef, undef, undef, undef, undef, undef, undef, undef, undef, undef, undef, undef, undef, undef, undef, undef, undef, undef, undef, undef, undef, undef, undef, undef, undef, undef, undef, undef, undef, undef, undef, undef, undef, undef, undef, undef, undef, undef, undef, undef, undef, undef, undef, undef, undef, undef, undef], defers := [{ target := .collected D, args := #[] }] } W := by
        intro D W hD hIx hBW hKD
        refine hKc _ _ ?_
        have hw0 : w.heap.size + 1 < w2.heap.size := HB2.out.res.lt
        have hDW : D < W.heap.size := (Array.getElem?_eq_some_iff.1 hKD).1
        have K4 := hidd (HB2.out.sav (S := fun _ => False) (Sav.of hBW) (fun _ q => q.elim))
        have HP4 := hidd (HP2.out.below hBW)
        have HC4 := hidd (HC2.out.below hBW)
        have HD4 := hidd (HD2.out.below hBW)
        have HKD := hidd hKD
        have HIX := hidd hIx
        have hgs := HD4.out.lt
        have hw2W := hBW.size
        obtain ⟨g0, g1⟩ := HD4.out.cells
        clear hKc hKD hIx hBW HP2 HC2 HD2 HB2 HO3 HC3 HQ
        go_wp2_with fail
        obtain ⟨W4, hW4⟩ : ∃ W4 : World, W.alloc (.cells #[.slice GA G3.length gc, .int .i64 T] 28) = W4 := ⟨_, rfl⟩
        have b4 : Hid (Below W.heap.size W W4) := hidd (by rw [← hW4]; exact below_new (Below.refl _ _) _)
        have hs4 : Hid (W4.heap.size = W.heap.size + 1) := hidd (by rw [← hW4]; simp)
        have HG4 : Hid (DAt W4 W.heap.size (.slice GA G3.length gc) T) := hidd (by rw [← hW4]; exact DAt.new _ _ _)
        have HP5 := hidd (HP4.out.below b4.out)
        have HC5 := hidd (HC4.out.below b4.out)
        have HD5 := hidd (HD4.out.below b4.out)
        have K5 := hidd (K4.out.below b4.out)
        have HI5 : Hid (Boxed W4 w2.heap.size 3 (.int .i64 (min k (G3.length : Int)))) := hidd ((b4.out.block _ HIX.out.lt).trans HIX.out)
        have HK5 : Hid (W4.heap[D]? = some (.deferred (some []))) := hidd ((b4.out.block _ hDW).trans HKD.out)
        have OLD := hidd (fun q (e : (Value.slice GA G3.length gc).ownBlock = some q) => (OwnL.lt HP4.out.rl q e).2)
        have RLT := hidd HP4.out.hr.lt
        rw [hW4]
        clear hW4 K4 HP4 HC4 HD4 HKD HIX g0 g1
        generalize W.heap.size = g2 at *
        have NG2 : Hid (¬ R2 g2) := hidd (fun b => by have := HRL.out _ b; omega)
        have HPF := hidd (fun Y (s : Sav (fun j => R2 j ∨ j = g2) W4 Y) => (⟨HP5.out.hr.sav s (fun j a b => by rcases b with b | b; exact DJ.out j a b; have := RLT.out j a; omega), OwnL.to HP5.out.rl (fun q e => s.block q (by have := OLD.out q e; have := hs4.out; omega) (fun b => by rcases b with b | b; exact DV.out q e b; have := OLD.out q e; omega)), HP5.out.ag, HP5.out.sep⟩ : Play R Y h (.slice GA G3.length gc) M T G3))
        have HDF := hidd (fun Y (s : Sav (fun j => R2 j ∨ j = g2) W4 Y) => HD5.out.of (s.block g HD5.out.lt (fun b => by rcases b with b | b; exact DG.out b; omega)))
        have HIF := hidd (fun Y (s : Sav (fun j => R2 j ∨ j = g2) W4 Y) => (show Boxed Y w2.heap.size 3 (.int .i64 (min k (G3.length : Int))) from (s.block _ HI5.out.lt (fun b => by rcases b with b | b; have := HRL.out _ b; omega; omega)).trans HI5.out))
        have HDD := hidd (fun Y (s : Sav (fun j => R2 j ∨ j = g2) W4 Y) => (s.block D (by have := hs4.out; omega) (fun b => by rcases b with b | b; have := HRL.out _ b; omega; omega)).trans HK5.out)
        have HKF := hidd (fun Y (s : Sav (fun j => R2 j ∨ j = g2) W4 Y) => K5.out.sav s (fun j b => by rcases b with b | b; exact HN2.out j b; have := K5.out.res.lt; have := hs4.out; have := HI5.out.lt; omega))
        have hMN := hM60
        have HA2' := HA2
        generalize GA = GAo at *
        generalize gc = gco at *
        generalize M = Mo at *
        generalize T = To at *
        generalize R = Ro at *
        have HDlt := hidd hD
        go_loopg [15] L2.length (fun gk s15 wr => ∃ (i : Nat) (R : Nat → Prop) (GA : Option Addr) (gc : Nat) (M : List It) (T : Int) (G : List It), i + gk = L2.length ∧ s15 = .int .i64 (i : Int) ∧ Play R wr hc (.slice GA G.length gc) M T G ∧ (∀ j, j < W4.heap.size → R j → R2 j) ∧ (∀ q, (Value.slice GA G.length gc).ownBlock = some q → q ≠ g2) ∧ DAt wr g2 (.slice GA G.length gc) T ∧ Sav (fun j => R2 j ∨ j = g2) W4 wr ∧ M.length ≤ N1 + i ∧ 0 ≤ T ∧ T ≤ (N1 : Int) + (i : Int))
        case atStart => exact ⟨0, R2, _, _, _, _, G3, by omega, rfl, ⟨HC5.out, HP5.out.rl, HP5.out.ag, DV.out⟩, fun j _ b => b, fun q e => by have := OLD.out q e; omega, HG4.out, Sav.refl _ _, by omega, hT0, by omega⟩
        case round =>
          clear HG4 HP5 HC5 HD5 K5 HI5 HK5 b4 hMl hT0 hT1
          obtain ⟨i, R, GA, gc, M, T, G, hk, rfl, hP, hN, hvg, hD, hSV, hMl, hT0, hT1⟩ := hrel
          have HP := hidd hP
          have HSV := hidd hSV
          have HB := hidd (HKF.out wr hSV)
          have HNn := hidd hN
          have HN : Hid (∀ j, R j → w.heap.size + 2 ≤ j) := hidd (fun j r => by
            rcases Nat.lt_or_ge j W4.heap.size with h1 | h1
            · exact HN2.out j (hN j h1 r)
            · have := (HKF.out W4 (Sav.refl _ _)).res.lt; omega)
          have hgn : ¬ R g2 := fun r => NG2.out (hN g2 (by have := hs4.out; omega) r)
          have HGN := hidd (And.intro hgn hvg)
          have HD := hidd hD
          have HK := hidd hk
          have hgs2 := hD.lt
          obtain ⟨g0, g1⟩ := hD.cells
          clear hP hN hgn hvg hD hSV
          by_cases hlt : i < L2.length
          · have z1 : (i : Int) < (L2.length : Int) := by omega
            have z2 : (0 : Int) ≤ (i : Int) := by omega
            have hgs : g2 < wr.heap.size := hgs2
            obtain ⟨ad, rfl, ha, c0, c1, c2, c3⟩ := Lie.act (HA2.out.keep HB.out.bel) i hlt
            have CD := hidd (fun W (b : Below wr.heap.size wr W) => cD.out W R _ M T G hc (HP.out.below b) (aA L2 i) (HWd2.out _ (by rw [aA_at hlt]; exact List.getElem_mem hlt : aA L2 i ∈ L2)) (by omega) hT0 (by omega))
            generalize (aA L2 i).1 = r0 at *
            generalize (aA L2 i).2.1 = r1 at *
            generalize (aA L2 i).2.2.1 = r2 at *
            generalize (aA L2 i).2.2.2 = r3 at *
            have haw : (ad.add (i * 4)).block < wr.heap.size := Nat.lt_of_lt_of_le ha HB.out.bel.size
            have har : ¬ R (ad.add (i * 4)).block := fun r => by have := HN.out _ r; omega
            have hag : (ad.add (i * 4)).block ≠ g2 := by omega
            generalize hGL : G.length = gl at *
            have HGL := hidd hGL
            clear hGL
            have KEEP := hidd (fun Y (hb : Sav R wr Y) => (show Y.cell? (ad.add (i * 4)) = some (.int .i64 r0) ∧ Y.cell? ⟨(ad.add (i * 4)).block, (ad.add (i * 4)).off + 1, none⟩ = some (.int .i64 r1) ∧ Y.cell? ⟨(ad.add (i * 4)).block, (ad.add (i * 4)).off + 2, none⟩ = some (.int .i64 r2) ∧ Y.cell? ⟨(ad.add (i * 4)).block, (ad.add (i * 4)).off + 3, none⟩ = some (.int .i64 r3) from
              ⟨(hb.cell haw har).trans c0, (hb.cell (p := ⟨(ad.add (i * 4)).block, (ad.add (i * 4)).off + 1, none⟩) haw har).trans c1, (hb.cell (p := ⟨(ad.add (i * 4)).block, (ad.add (i * 4)).off + 2, none⟩) haw har).trans c2, (hb.cell (p := ⟨(ad.add (i * 4)).block, (ad.add (i * 4)).off + 3, none⟩) haw har).trans c3⟩))
            clear ha
            go_wp2_with fail
            refine wp_noP ?_
            refine wp_region_held_drew (S := (fun Y => Y.cell? (ad.add (i * 4)) = some (.int .i64 r0) ∧ Y.cell? ⟨(ad.add (i * 4)).block, (ad.add (i * 4)).off + 1, none⟩ = some (.int .i64 r1) ∧ Y.cell? ⟨(ad.add (i * 4)).block, (ad.add (i * 4)).off + 2, none⟩ = some (.int .i64 r2) ∧ Y.cell? ⟨(ad.add (i * 4)).block, (ad.add (i * 4)).off + 3, none⟩ = some (.int .i64 r3))) (by kernel_rfl) (KEEP.out _ (Sav.of (Below.drew (Below.refl _ _)))) (fun hH => ?_)
            refine wpAnyH_take (i := 0) (v := ?vya0) (by (conv => lhs; simp only [List.getElem?_toArray, List.getElem?_cons_succ, List.getElem?_cons_zero])) (by kernel_rfl) (by kernel_rfl) (by kernel_rfl) ?hQ (Or.inl ⟨by rfl, ?hyya0⟩) hH ?restya0
            case hQ => exact fun _ _ _ h => h
            case hyya0 => (intro Y hY; obtain ⟨e0, e1, e2, e3⟩ := hY; go_simp; try (with_reducible rfl))
            try simp only [Act.put, List.setIfInBounds_toArray, List.set_cons_zero, List.set_cons_succ]
            refine wpAnyH_take (i := 2) (v := ?vya2) (by (conv => lhs; simp only [List.getElem?_toArray, List.getElem?_cons_succ, List.getElem?_cons_zero])) (by kernel_rfl) (by kernel_rfl) (by kernel_rfl) ?hQ (Or.inl ⟨by rfl, ?hyya2⟩) hH ?restya2
            case hQ => exact fun _ _ _ h => h
            case hyya2 => (intro Y hY; obtain ⟨e0, e1, e2, e3⟩ := hY; go_simp; try (with_reducible rfl))
            try simp only [Act.put, List.setIfInBounds_toArray, List.set_cons_zero, List.set_cons_succ]
            refine wpAnyH_take (i := 3) (v := ?vya3) (by (conv => lhs; simp only [List.getElem?_toArray, List.getElem?_cons_succ, List.getElem?_cons_zero])) (by kernel_rfl) (by kernel_rfl) (by kernel_rfl) ?hQ (Or.inl ⟨by rfl, ?hyya3⟩) hH ?restya3
            case hQ => exact fun _ _ _ h => h
            case hyya3 => (intro Y hY; obtain ⟨e0, e1, e2, e3⟩ := hY; go_simp; try (with_reducible rfl))
            try simp only [Act.put, List.setIfInBounds_toArray, List.set_cons_zero, List.set_cons_succ]
            refine wpAnyH_take (i := 4) (v := ?vya4) (by (conv => lhs; simp only [List.getElem?_toArray, List.getElem?_cons_succ, List.getElem?_cons_zero])) (by kernel_rfl) (by kernel_rfl) (by kernel_rfl) ?hQ (Or.inl ⟨by rfl, ?hyya4⟩) hH ?restya4
            case hQ => exact fun _ _ _ h => h
            case hyya4 => (intro Y hY; obtain ⟨e0, e1, e2, e3⟩ := hY; go_simp; try (with_reducible rfl))
            try simp only [Act.put, List.setIfInBounds_toArray, List.set_cons_zero, List.set_cons_succ]
            refine wpAnyH_take (i := 5) (v := ?vya5) (by (conv => lhs; simp only [List.getElem?_toArray, List.getElem?_cons_succ, List.getElem?_cons_zero])) (by kernel_rfl) (by kernel_rfl) (by kernel_rfl) ?hQ (Or.inl ⟨by rfl, ?hyya5⟩) hH ?restya5
            case hQ => exact fun _ _ _ h => h
            case hyya5 => (intro Y hY; obtain ⟨e0, e1, e2, e3⟩ := hY; go_simp; try (with_reducible rfl))
            try simp only [Act.put, List.setIfInBounds_toArray, List.set_cons_zero, List.set_cons_succ]
            have u0 : wr.drew.cell? ⟨g2, 0, none⟩ = some (.slice GA gl gc) := g0
            have u1 : wr.drew.cell? ⟨g2, 1, none⟩ = some (.int .i64 T) := g1
            refine wpAnyH_ready (rs := [1]) (by kernel_rfl) (by simp) ?_
            refine AllReadyH.cons (by (conv => lhs; simp only [List.getElem?_toArray, List.getElem?_cons_succ, List.getElem?_cons_zero])) (fun K hK => ?_) AllReadyH.nil
            go_simp
            refine hK.out _ _ hH (fun hH0 => ?_)
            clear hK hH u0 u1
            try simp only [Act.put, List.setIfInBounds_toArray, List.set_cons_zero, List.set_cons_succ]
            refine wpAnyH_ready (rs := [6]) (by kernel_rfl) (by simp) ?_
            refine AllReadyH.cons (by (conv => lhs; simp only [List.getElem?_toArray, List.getElem?_cons_succ, List.getElem?_cons_zero])) (fun K hK => ?_) AllReadyH.nil
            clear c0 c1 c2 c3 g0 g1
            go_simp
            go_at_call 7; refine (CD.out _ (Below.drew (Below.refl _ _))).mono ?_; rintro e w5 ⟨R5, M5, T5, v5, G5, rfl, hP5, hS5, hN5, hW5, hl5, ht5, hu5⟩; obtain ⟨A5, c5, hv5, _⟩ := OwnL.lie hP5.rl itV_len; subst hv5
            have cum1 : Sav R wr w5 := (Sav.of (Below.drew (Below.refl _ _))).tr hS5
            have P5 := hidd hP5
            have NX := hidd (show Nxt R R5 wr from hN5)
            have NW := hidd (show New wr (.slice GA gl gc) (.slice A5 G5.length c5) from hW5)
            clear hP5 hN5 hW5 hS5
            generalize hn5 : G5.length = n5 at *
            have HN5 := hidd hn5
            clear hn5
            refine hK.out _ _ (KEEP.out _ cum1) (fun hH1 => ?_)
            clear hK hH0
            try simp only [Act.put, List.setIfInBounds_toArray, List.set_cons_zero, List.set_cons_succ]
            refine wpAnyH_take (i := 7) (v := ?vyb7) (by (conv => lhs; simp only [List.getElem?_toArray, List.getElem?_cons_succ, List.getElem?_cons_zero])) (by kernel_rfl) (by kernel_rfl) (by kernel_rfl) ?hQ (Or.inl ⟨by rfl, ?hyyb7⟩) hH1 ?restyb7
            case hQ => exact fun _ _ _ h => h
            case hyyb7 => (intro Y hY; obtain ⟨e0, e1, e2, e3⟩ := hY; go_simp; try (with_reducible rfl))
            try simp only [Act.put, List.setIfInBounds_toArray, List.set_cons_zero, List.set_cons_succ]
            refine wpAnyH_take (i := 8) (v := ?vyb8) (by (conv => lhs; simp only [List.getElem?_toArray, List.getElem?_cons_succ, List.getElem?_cons_zero])) (by kernel_rfl) (by kernel_rfl) (by kernel_rfl) ?hQ (Or.inl ⟨by rfl, ?hyyb8⟩) hH1 ?restyb8
            case hQ => exact fun _ _ _ h => h
            case hyyb8 => (intro Y hY; obtain ⟨e0, e1, e2, e3⟩ := hY; go_simp; try (with_reducible rfl))
            try simp only [Act.put, List.setIfInBounds_toArray, List.set_cons_zero, List.set_cons_succ]
            refine wpAnyH_take (i := 9) (v := ?vyb9) (by (conv => lhs; simp only [List.getElem?_toArray, List.getElem?_cons_succ, List.getElem?_cons_zero])) (by kernel_rfl) (by kernel_rfl) (by kernel_rfl) ?hQ (Or.inl ⟨by rfl, ?hyyb9⟩) hH1 ?restyb9
            case hQ => exact fun _ _ _ h => h
            case hyyb9 => (intro Y hY; obtain ⟨e0, e1, e2, e3⟩ := hY; go_simp; try (with_reducible rfl))
            try simp only [Act.put, List.setIfInBounds_toArray, List.set_cons_zero, List.set_cons_succ]
            refine wpAnyH_ready (rs := [10]) (by kernel_rfl) (by simp) ?_
            refine AllReadyH.cons (by (conv => lhs; simp only [List.getElem?_toArray, List.getElem?_cons_succ, List.getElem?_cons_zero])) (fun K hK => ?_) AllReadyH.nil
            clear hH1
            have hrow : w5.heap[g2]? = some (.cells #[.slice GA gl gc, .int .i64 T] 28 (0, 0)) := HD.out.of (cum1.block g2 hgs HGN.out.1)
            rw [if_pos (by rfl)]
            refine wp_store_row 28 (.tmp 14) (.tmp 91) (by rfl) g2 #[.slice A5 n5 c5, .int .i64 T5] (by rfl) (by rfl) _ _ hrow (by kernel_rfl) (by rfl) (by simp [Value.oneCell']) ?_
            have hrow2 : DAt (w5.setRow g2 #[.slice A5 n5 c5, .int .i64 T5]) g2 (.slice A5 n5 c5) T5 := setRow_heap w5 g2 _ #[.slice A5 n5 c5, .int .i64 T5] _ _ hrow
            have hoth := fun k (h : k ≠ g2) => setRow_other w5 g2 k #[.slice A5 n5 c5, .int .i64 T5] h
            have hszz := setRow_size w5 g2 #[.slice A5 n5 c5, .int .i64 T5]
            have hSA := KEEP.out _ cum1
            have hH5 : (fun Y : World => Y.cell? (ad.add (i * 4)) = some (.int .i64 r0) ∧ Y.cell? ⟨(ad.add (i * 4)).block, (ad.add (i * 4)).off + 1, none⟩ = some (.int .i64 r1) ∧ Y.cell? ⟨(ad.add (i * 4)).block, (ad.add (i * 4)).off + 2, none⟩ = some (.int .i64 r2) ∧ Y.cell? ⟨(ad.add (i * 4)).block, (ad.add (i * 4)).off + 3, none⟩ = some (.int .i64 r3)) (w5.setRow g2 #[.slice A5 n5 c5, .int .i64 T5]) := ⟨(cell_setRow_other _ _ _ _ hag).trans hSA.1, (cell_setRow_other _ _ _ ⟨(ad.add (i * 4)).block, (ad.add (i * 4)).off + 1, none⟩ hag).trans hSA.2.1, (cell_setRow_other _ _ _ ⟨(ad.add (i * 4)).block, (ad.add (i * 4)).off + 2, none⟩ hag).trans hSA.2.2.1, (cell_setRow_other _ _ _ ⟨(ad.add (i * 4)).block, (ad.add (i * 4)).off + 3, none⟩ hag).trans hSA.2.2.2⟩
            have SAVG : Hid (Sav (fun j => R j ∨ j = g2) wr (w5.setRow g2 #[.slice A5 n5 c5, .int .i64 T5])) := hidd ⟨cum1.os, cum1.tape, cum1.output, by rw [hszz]; exact cum1.size, fun j h1 h2 => (hoth j (fun e => h2 (.inr e))).trans (cum1.block j h1 (fun r => h2 (.inl r)))⟩
            have SV1 := hidd cum1
            have ROW := hidd hrow2
            have OTH := hidd hoth
            have SZ := hidd hszz
            clear hrow2 hoth hszz hSA hrow cum1
            refine hK.out _ _ hH5 (fun hH6 => ?_)
            clear hK
            try simp only [Act.put]
            obtain ⟨wz, hwz⟩ : ∃ wz : World, w5.setRow g2 #[.slice A5 n5 c5, .int .i64 T5] = wz := ⟨_, rfl⟩
            rw [hwz] at ROW OTH SZ SAVG
            rw [hwz]
            clear hwz hH5 hH6 KEEP CD
            refine wpAnyH_done (by kernel_rfl) (noP_of ?_) _
            go_wp2_with fail
            have hk := HK.out
            have hn5 := HN5.out
            subst hn5
            have hrg : ¬ R5 g2 := fun r => HGN.out.1 (NX.out g2 hgs r)
            have hvg : ∀ k, (Value.slice A5 G5.length c5).ownBlock = some k → k ≠ g2 := fun k e => by
              rcases NW.out k e with h1 | h1
              · exact HGN.out.2 k h1
              · omega
            go_roundg (gk - 1)
            case measure => omega
            case rel => exact ⟨i + 1, R5, A5, c5, M5, T5, G5, by omega, by go_num, P5.out.keep OTH.out hrg hvg, (fun j h1 r => HNn.out j h1 (NX.out j (Nat.lt_of_lt_of_le h1 HSV.out.size) r)), hvg, ROW.out, HSV.out.trans SAVG.out (fun j h1 b => by rcases b with b | b; exact .inl (HNn.out j h1 b); exact .inr b), by omega, ht5, by omega⟩
          · have z1 : ¬ (i : Int) < (L2.length : Int) := by omega
            have HPo := hidd (HPF.out wr HSV.out)
            have HDo := hidd (HDF.out wr HSV.out)
            have HIo := hidd (HIF.out wr HSV.out)
            have HDe := hidd (HDD.out wr HSV.out)
            have KF := hidd (HKF.out wr HSV.out)
            have CS1 := hidd (fun W (b : Below wr.heap.size wr W) => cS.out W Ro _ Mo To G3 h (HPo.out.below b) (by rw [HPo.out.len]; omega))
            have CS2 := hidd (fun W (b : Below wr.heap.size wr W) => cS.out W R _ M T G hc (HP.out.below b) (by rw [HP.out.len]; omega))
            have hSB : Sb Mo M = decide (G3 = G) := sb_dec HPo.out.hr.1 HP.out.hr.1 HPo.out.ag.p HP.out.ag.p HPo.out.ag.s HP.out.ag.s
            have CE1 := hidd (fun W (b : Below wr.heap.size wr W) => (show Calls Try.prog 13 #[.pointer (some ⟨h, 0, none⟩), .pointer (some ⟨hc, 0, none⟩)] W fun e w' => e = .returned (.bool (decide (G3 = G))) ∧ Below W.heap.size W w' from by rw [← hSB]; exact cE.out W Ro R h hc Mo M To T (HPo.out.hr.below b) (HP.out.hr.below b) (by omega)))
            have CE2 := hidd (fun W (b : Below wr.heap.size wr W) => (show Calls Try.prog 13 #[.pointer (some ⟨h, 0, none⟩), .pointer (some ⟨h, 0, none⟩)] W fun e w' => e = .returned (.bool true) ∧ Below W.heap.size W w' from by rw [← sb_self Mo]; exact cE.out W Ro Ro h h Mo Mo To To (HPo.out.hr.below b) (HPo.out.hr.below b) (by omega)))
            have CR := hidd (fun W (b : Below wr.heap.size wr W) => same11_any GAo GA G3 G gco gc (by rw [HPo.out.len]; omega) (by rw [HP.out.len]; omega) W (OwnL.lieX (HPo.out.rl.below b)) (OwnL.lieX (HP.out.rl.below b)))
            obtain ⟨o0, o1⟩ := HDo.out.cells
            have hix := HIo.out.cell
            have hkx := KF.out.box.cell
            have hil := HIo.out.lt
            have hkl := KF.out.box.lt
            have hgl0 := HDo.out.lt
            have hg2l := hgs2
            have hDl : Hid (D < wr.heap.size) := hidd (Array.getElem?_eq_some_iff.1 HDe.out).1
            have HNE := hidd (show g ≠ w.heap.size + 1 ∧ g2 ≠ w.heap.size + 1 from ⟨by omega, by omega⟩)
            clear hSB HPF HDF HIF HDD HKF HN HNn HGN HD HK HB HSV HA2 HA2' HWd2 cD cS cE HPo HP HDo OLD RLT DJ DG DV HN2 HRL NG2
            generalize decide (G3 = G) = DQ at *
            generalize G3.length = gl3 at *
            generalize G.length = gl at *
            generalize L2.length = N2 at *
            have KEEP := hidd (fun Y (hb : Below wr.heap.size wr Y) => (show Y.cell? ⟨w2.heap.size, 0, none⟩ = some (.int .i64 (min k (gl3 : Int))) ∧ Y.cell? ⟨w.heap.size, 0, none⟩ = some (.int .i64 k) ∧ Y.cell? ⟨g, 0, none⟩ = some (.slice GAo gl3 gco) ∧ Y.cell? ⟨g, 1, none⟩ = some (.int .i64 To) ∧ Y.cell? ⟨g2, 0, none⟩ = some (.slice GA gl gc) ∧ Y.cell? ⟨g2, 1, none⟩ = some (.int .i64 T) from
              ⟨(hb.cell (p := ⟨w2.heap.size, 0, none⟩) hil).trans hix, (hb.cell (p := ⟨w.heap.size, 0, none⟩) hkl).trans hkx, (hb.cell (p := ⟨g, 0, none⟩) hgl0).trans o0, (hb.cell (p := ⟨g, 1, none⟩) hgl0).trans o1, (hb.cell (p := ⟨g2, 0, none⟩) hg2l).trans g0, (hb.cell (p := ⟨g2, 1, none⟩) hg2l).trans g1⟩))
            clear hix hkx o0 o1 g0 g1
            go_wp2_with fail
            refine wp_noP ?_
            refine wp_region_held_drew (S := (fun Y => Y.cell? ⟨w2.heap.size, 0, none⟩ = some (.int .i64 (min k (gl3 : Int))) ∧ Y.cell? ⟨w.heap.size, 0, none⟩ = some (.int .i64 k) ∧ Y.cell? ⟨g, 0, none⟩ = some (.slice GAo gl3 gco) ∧ Y.cell? ⟨g, 1, none⟩ = some (.int .i64 To) ∧ Y.cell? ⟨g2, 0, none⟩ = some (.slice GA gl gc) ∧ Y.cell? ⟨g2, 1, none⟩ = some (.int .i64 T))) (by kernel_rfl) (KEEP.out _ (Below.drew (Below.refl _ _))) (fun hH => ?_)
            refine wpAnyH_take (i := 0) (v := ?vp0) (by (conv => lhs; simp only [List.getElem?_toArray, List.getElem?_cons_succ, List.getElem?_cons_zero])) (by kernel_rfl) (by kernel_rfl) (by kernel_rfl) ?hQ (Or.inl ⟨by rfl, ?hyp0⟩) hH ?restp0
            case hQ => exact fun _ _ _ h => h
            case hyp0 => (intro Y hY; obtain ⟨e0, e1, e2, e3, e4, e5⟩ := hY; go_simp; try (with_reducible rfl))
            try simp only [Act.put, List.setIfInBounds_toArray, List.set_cons_zero, List.set_cons_succ]
            refine wpAnyH_take (i := 1) (v := ?vp1) (by (conv => lhs; simp only [List.getElem?_toArray, List.getElem?_cons_succ, List.getElem?_cons_zero])) (by kernel_rfl) (by kernel_rfl) (by kernel_rfl) ?hQ (Or.inl ⟨by rfl, ?hyp1⟩) hH ?restp1
            case hQ => exact fun _ _ _ h => h
            case hyp1 => (intro Y hY; obtain ⟨e0, e1, e2, e3, e4, e5⟩ := hY; go_simp; try (with_reducible rfl))
            try simp only [Act.put, List.setIfInBounds_toArray, List.set_cons_zero, List.set_cons_succ]
            refine wpAnyH_take (i := 2) (v := ?vp2) (by (conv => lhs; simp only [List.getElem?_toArray, List.getElem?_cons_succ, List.getElem?_cons_zero])) (by kernel_rfl) (by kernel_rfl) (by kernel_rfl) ?hQ (Or.inl ⟨by rfl, ?hyp2⟩) hH ?restp2
            case hQ => exact fun _ _ _ h => h
            case hyp2 => (intro Y hY; obtain ⟨e0, e1, e2, e3, e4, e5⟩ := hY; go_simp; try (with_reducible rfl))
            try simp only [Act.put, List.setIfInBounds_toArray, List.set_cons_zero, List.set_cons_succ]
            refine wpAnyH_take (i := 3) (v := ?vp3) (by (conv => lhs; simp only [List.getElem?_toArray, List.getElem?_cons_succ, List.getElem?_cons_zero])) (by kernel_rfl) (by kernel_rfl) (by kernel_rfl) ?hQ (Or.inl ⟨by rfl, ?hyp3⟩) hH ?restp3
            case hQ => exact fun _ _ _ h => h
            case hyp3 => (intro Y hY; obtain ⟨e0, e1, e2, e3, e4, e5⟩ := hY; go_simp; try (with_reducible rfl))
            try simp only [Act.put, List.setIfInBounds_toArray, List.set_cons_zero, List.set_cons_succ]
            refine wpAnyH_take (i := 4) (v := ?vp4) (by (conv => lhs; simp only [List.getElem?_toArray, List.getElem?_cons_succ, List.getElem?_cons_zero])) (by kernel_rfl) (by kernel_rfl) (by kernel_rfl) ?hQ (Or.inl ⟨by rfl, ?hyp4⟩) hH ?restp4
            case hQ => exact fun _ _ _ h => h
            case hyp4 => (intro Y hY; obtain ⟨e0, e1, e2, e3, e4, e5⟩ := hY; go_simp; try (with_reducible rfl))
            try simp only [Act.put, List.setIfInBounds_toArray, List.set_cons_zero, List.set_cons_succ]
            refine wpAnyH_take (i := 5) (v := ?vp5) (by (conv => lhs; simp only [List.getElem?_toArray, List.getElem?_cons_succ, List.getElem?_cons_zero])) (by kernel_rfl) (by kernel_rfl) (by kernel_rfl) ?hQ (Or.inl ⟨by rfl, ?hyp5⟩) hH ?restp5
            case hQ => exact fun _ _ _ h => h
            case hyp5 => (intro Y hY; obtain ⟨e0, e1, e2, e3, e4, e5⟩ := hY; go_simp; try (with_reducible rfl))
            try simp only [Act.put, List.setIfInBounds_toArray, List.set_cons_zero, List.set_cons_succ]
            refine wpAnyH_take (i := 6) (v := ?vp6) (by (conv => lhs; simp only [List.getElem?_toArray, List.getElem?_cons_succ, List.getElem?_cons_zero])) (by kernel_rfl) (by kernel_rfl) (by kernel_rfl) ?hQ (Or.inl ⟨by rfl, ?hyp6⟩) hH ?restp6
            case hQ => exact fun _ _ _ h => h
            case hyp6 => (intro Y hY; obtain ⟨e0, e1, e2, e3, e4, e5⟩ := hY; go_simp; try (with_reducible rfl))
            try simp only [Act.put, List.setIfInBounds_toArray, List.set_cons_zero, List.set_cons_succ]
            refine wpAnyH_take (i := 7) (v := ?vp7) (by (conv => lhs; simp only [List.getElem?_toArray, List.getElem?_cons_succ, List.getElem?_cons_zero])) (by kernel_rfl) (by kernel_rfl) (by kernel_rfl) ?hQ (Or.inl ⟨by rfl, ?hyp7⟩) hH ?restp7
            case hQ => exact fun _ _ _ h => h
            case hyp7 => (intro Y hY; obtain ⟨e0, e1, e2, e3, e4, e5⟩ := hY; go_simp; try (with_reducible rfl))
            try simp only [Act.put, List.setIfInBounds_toArray, List.set_cons_zero, List.set_cons_succ]
            refine wpAnyH_take (i := 8) (v := ?vp8) (by (conv => lhs; simp only [List.getElem?_toArray, List.getElem?_cons_succ, List.getElem?_cons_zero])) (by kernel_rfl) (by kernel_rfl) (by kernel_rfl) ?hQ (Or.inl ⟨by rfl, ?hyp8⟩) hH ?restp8
            case hQ => exact fun _ _ _ h => h
            case hyp8 => (intro Y hY; obtain ⟨e0, e1, e2, e3, e4, e5⟩ := hY; go_simp; try (with_reducible rfl))
            try simp only [Act.put, List.setIfInBounds_toArray, List.set_cons_zero, List.set_cons_succ]
            refine wpAnyH_take (i := 9) (v := ?vp9) (by (conv => lhs; simp only [List.getElem?_toArray, List.getElem?_cons_succ, List.getElem?_cons_zero])) (by kernel_rfl) (by kernel_rfl) (by kernel_rfl) ?hQ (Or.inl ⟨by rfl, ?hyp9⟩) hH ?restp9
            case hQ => exact fun _ _ _ h => h
            case hyp9 => (intro Y hY; obtain ⟨e0, e1, e2, e3, e4, e5⟩ := hY; go_simp; try (with_reducible rfl))
            try simp only [Act.put, List.setIfInBounds_toArray, List.set_cons_zero, List.set_cons_succ]
            refine wpAnyH_ready (rs := [10]) (by kernel_rfl) (by simp) ?_
            refine AllReadyH.cons (by (conv => lhs; simp only [List.getElem?_toArray, List.getElem?_cons_succ, List.getElem?_cons_zero])) (fun K hK => ?_) AllReadyH.nil
            go_simp
            go_at_call 8; refine (CS1.out _ (Below.drew (Below.refl _ _))).mono ?_; rintro e v1 ⟨rfl, hb1⟩
            have cum1 : Below wr.heap.size wr v1 := (Below.drew (Below.refl _ _)).trans hb1
            refine hK.out _ _ (KEEP.out _ cum1) (fun hH1 => ?_)
            clear hK hH
            try simp only [Act.put, List.setIfInBounds_toArray, List.set_cons_zero, List.set_cons_succ]
            refine wpAnyH_take (i := 11) (v := ?vq11) (by (conv => lhs; simp only [List.getElem?_toArray, List.getElem?_cons_succ, List.getElem?_cons_zero])) (by kernel_rfl) (by kernel_rfl) (by kernel_rfl) ?hQ (Or.inl ⟨by rfl, ?hyq11⟩) hH1 ?restq11
            case hQ => exact fun _ _ _ h => h
            case hyq11 => (intro Y hY; obtain ⟨e0, e1, e2, e3, e4, e5⟩ := hY; go_simp; try (with_reducible rfl))
            try simp only [Act.put, List.setIfInBounds_toArray, List.set_cons_zero, List.set_cons_succ]
            refine wpAnyH_take (i := 12) (v := ?vq12) (by (conv => lhs; simp only [List.getElem?_toArray, List.getElem?_cons_succ, List.getElem?_cons_zero])) (by kernel_rfl) (by kernel_rfl) (by kernel_rfl) ?hQ (Or.inl ⟨by rfl, ?hyq12⟩) hH1 ?restq12
            case hQ => exact fun _ _ _ h => h
            case hyq12 => (intro Y hY; obtain ⟨e0, e1, e2, e3, e4, e5⟩ := hY; go_simp; try (with_reducible rfl))
            try simp only [Act.put, List.setIfInBounds_toArray, List.set_cons_zero, List.set_cons_succ]
            refine wpAnyH_take (i := 13) (v := ?vq13) (by (conv => lhs; simp only [List.getElem?_toArray, List.getElem?_cons_succ, List.getElem?_cons_zero])) (by kernel_rfl) (by kernel_rfl) (by kernel_rfl) ?hQ (Or.inl ⟨by rfl, ?hyq13⟩) hH1 ?restq13
            case hQ => exact fun _ _ _ h => h
            case hyq13 => (intro Y hY; obtain ⟨e0, e1, e2, e3, e4, e5⟩ := hY; go_simp; try (with_reducible rfl))
            try simp only [Act.put, List.setIfInBounds_toArray, List.set_cons_zero, List.set_cons_succ]
            refine wpAnyH_take (i := 14) (v := ?vq14) (by (conv => lhs; simp only [List.getElem?_toArray, List.getElem?_cons_succ, List.getElem?_cons_zero])) (by kernel_rfl) (by kernel_rfl) (by kernel_rfl) ?hQ (Or.inl ⟨by rfl, ?hyq14⟩) hH1 ?restq14
            case hQ => exact fun _ _ _ h => h
            case hyq14 => (intro Y hY; obtain ⟨e0, e1, e2, e3, e4, e5⟩ := hY; go_simp; try (with_reducible rfl))
            try simp only [Act.put, List.setIfInBounds_toArray, List.set_cons_zero, List.set_cons_succ]
            refine wpAnyH_ready (rs := [15]) (by kernel_rfl) (by simp) ?_
            refine AllReadyH.cons (by (conv => lhs; simp only [List.getElem?_toArray, List.getElem?_cons_succ, List.getElem?_cons_zero])) (fun K hK => ?_) AllReadyH.nil
            go_simp
            go_at_call 8; refine (CS2.out _ cum1).mono ?_; rintro e v2 ⟨rfl, hb2⟩
            have cum2 : Below wr.heap.size wr v2 := cum1.trans (hb2.mono cum1.size)
            refine hK.out _ _ (KEEP.out _ cum2) (fun hH2 => ?_)
            clear hK hH1
            try simp only [Act.put, List.setIfInBounds_toArray, List.set_cons_zero, List.set_cons_succ]
            refine wpAnyH_take (i := 16) (v := ?vr16) (by (conv => lhs; simp only [List.getElem?_toArray, List.getElem?_cons_succ, List.getElem?_cons_zero])) (by kernel_rfl) (by kernel_rfl) (by kernel_rfl) ?hQ (Or.inl ⟨by rfl, ?hyr16⟩) hH2 ?restr16
            case hQ => exact fun _ _ _ h => h
            case hyr16 => (intro Y hY; obtain ⟨e0, e1, e2, e3, e4, e5⟩ := hY; go_simp; try (with_reducible rfl))
            try simp only [Act.put, List.setIfInBounds_toArray, List.set_cons_zero, List.set_cons_succ]
            refine wpAnyH_take (i := 17) (v := ?vr17) (by (conv => lhs; simp only [List.getElem?_toArray, List.getElem?_cons_succ, List.getElem?_cons_zero])) (by kernel_rfl) (by kernel_rfl) (by kernel_rfl) ?hQ (Or.inl ⟨by rfl, ?hyr17⟩) hH2 ?restr17
            case hQ => exact fun _ _ _ h => h
            case hyr17 => (intro Y hY; obtain ⟨e0, e1, e2, e3, e4, e5⟩ := hY; go_simp; try (with_reducible rfl))
            try simp only [Act.put, List.setIfInBounds_toArray, List.set_cons_zero, List.set_cons_succ]
            refine wpAnyH_take (i := 18) (v := ?vr18) (by (conv => lhs; simp only [List.getElem?_toArray, List.getElem?_cons_succ, List.getElem?_cons_zero])) (by kernel_rfl) (by kernel_rfl) (by kernel_rfl) ?hQ (Or.inl ⟨by rfl, ?hyr18⟩) hH2 ?restr18
            case hQ => exact fun _ _ _ h => h
            case hyr18 => (intro Y hY; obtain ⟨e0, e1, e2, e3, e4, e5⟩ := hY; go_simp; try (with_reducible rfl))
            try simp only [Act.put, List.setIfInBounds_toArray, List.set_cons_zero, List.set_cons_succ]
            refine wpAnyH_take (i := 19) (v := ?vr19) (by (conv => lhs; simp only [List.getElem?_toArray, List.getElem?_cons_succ, List.getElem?_cons_zero])) (by kernel_rfl) (by kernel_rfl) (by kernel_rfl) ?hQ (Or.inl ⟨by rfl, ?hyr19⟩) hH2 ?restr19
            case hQ => exact fun _ _ _ h => h
            case hyr19 => (intro Y hY; obtain ⟨e0, e1, e2, e3, e4, e5⟩ := hY; go_simp; try (with_reducible rfl))
            try simp only [Act.put, List.setIfInBounds_toArray, List.set_cons_zero, List.set_cons_succ]
            refine wpAnyH_take (i := 21) (v := ?vr21) (by (conv => lhs; simp only [List.getElem?_toArray, List.getElem?_cons_succ, List.getElem?_cons_zero])) (by kernel_rfl) (by kernel_rfl) (by kernel_rfl) ?hQ (Or.inl ⟨by rfl, ?hyr21⟩) hH2 ?restr21
            case hQ => exact fun _ _ _ h => h
            case hyr21 => (intro Y hY; obtain ⟨e0, e1, e2, e3, e4, e5⟩ := hY; go_simp; try (with_reducible rfl))
            try simp only [Act.put, List.setIfInBounds_toArray, List.set_cons_zero, List.set_cons_succ]
            refine wpAnyH_take (i := 22) (v := ?vr22) (by (conv => lhs; simp only [List.getElem?_toArray, List.getElem?_cons_succ, List.getElem?_cons_zero])) (by kernel_rfl) (by kernel_rfl) (by kernel_rfl) ?hQ (Or.inl ⟨by rfl, ?hyr22⟩) hH2 ?restr22
            case hQ => exact fun _ _ _ h => h
            case hyr22 => (intro Y hY; obtain ⟨e0, e1, e2, e3, e4, e5⟩ := hY; go_simp; try (with_reducible rfl))
            try simp only [Act.put, List.setIfInBounds_toArray, List.set_cons_zero, List.set_cons_succ]
            refine wpAnyH_take (i := 23) (v := ?vr23) (by (conv => lhs; simp only [List.getElem?_toArray, List.getElem?_cons_succ, List.getElem?_cons_zero])) (by kernel_rfl) (by kernel_rfl) (by kernel_rfl) ?hQ (Or.inl ⟨by rfl, ?hyr23⟩) hH2 ?restr23
            case hQ => exact fun _ _ _ h => h
            case hyr23 => (intro Y hY; obtain ⟨e0, e1, e2, e3, e4, e5⟩ := hY; go_simp; try (with_reducible rfl))
            try simp only [Act.put, List.setIfInBounds_toArray, List.set_cons_zero, List.set_cons_succ]
            refine wpAnyH_take (i := 24) (v := ?vr24) (by (conv => lhs; simp only [List.getElem?_toArray, List.getElem?_cons_succ, List.getElem?_cons_zero])) (by kernel_rfl) (by kernel_rfl) (by kernel_rfl) ?hQ (Or.inl ⟨by rfl, ?hyr24⟩) hH2 ?restr24
            case hQ => exact fun _ _ _ h => h
            case hyr24 => (intro Y hY; obtain ⟨e0, e1, e2, e3, e4, e5⟩ := hY; go_simp; try (with_reducible rfl))
            try simp only [Act.put, List.setIfInBounds_toArray, List.set_cons_zero, List.set_cons_succ]
            refine wpAnyH_ready (rs := [20]) (by kernel_rfl) (by simp) ?_
            refine AllReadyH.cons (by (conv => lhs; simp only [List.getElem?_toArray, List.getElem?_cons_succ, List.getElem?_cons_zero])) (fun K hK => ?_) AllReadyH.nil
            go_simp
            go_at_call 13; refine (CE1.out _ cum2).mono ?_; rintro e v3 ⟨rfl, hb3⟩
            have cum3 : Below wr.heap.size wr v3 := cum2.trans (hb3.mono cum2.size)
            refine hK.out _ _ (KEEP.out _ cum3) (fun hH3 => ?_)
            clear hK hH2
            try simp only [Act.put, List.setIfInBounds_toArray, List.set_cons_zero, List.set_cons_succ]
            refine wpAnyH_ready (rs := [25]) (by kernel_rfl) (by simp) ?_
            refine AllReadyH.cons (by (conv => lhs; simp only [List.getElem?_toArray, List.getElem?_cons_succ, List.getElem?_cons_zero])) (fun K hK => ?_) AllReadyH.nil
            go_simp
            go_at_call 14; refine (CR.out _ cum3).mono ?_; rintro e v4 ⟨rfl, nq4, rfl⟩
            have cum4 : Below wr.heap.size wr (v3.drewN nq4) := below_drewN cum3 _
            refine hK.out _ _ (KEEP.out _ cum4) (fun hH4 => ?_)
            clear hK hH3
            try simp only [Act.put, List.setIfInBounds_toArray, List.set_cons_zero, List.set_cons_succ]
            refine wpAnyH_take (i := 26) (v := ?vs26) (by (conv => lhs; simp only [List.getElem?_toArray, List.getElem?_cons_succ, List.getElem?_cons_zero])) (by kernel_rfl) (by kernel_rfl) (by kernel_rfl) ?hQ (Or.inl ⟨by rfl, ?hys26⟩) hH4 ?rests26
            case hQ => exact fun _ _ _ h => h
            case hys26 => (intro Y hY; obtain ⟨e0, e1, e2, e3, e4, e5⟩ := hY; go_simp; try (with_reducible rfl))
            try simp only [Act.put, List.setIfInBounds_toArray, List.set_cons_zero, List.set_cons_succ]
            refine wpAnyH_take (i := 27) (v := ?vs27) (by (conv => lhs; simp only [List.getElem?_toArray, List.getElem?_cons_succ, List.getElem?_cons_zero])) (by kernel_rfl) (by kernel_rfl) (by kernel_rfl) ?hQ (Or.inl ⟨by rfl, ?hys27⟩) hH4 ?rests27
            case hQ => exact fun _ _ _ h => h
            case hys27 => (intro Y hY; obtain ⟨e0, e1, e2, e3, e4, e5⟩ := hY; go_simp; try (with_reducible rfl))
            try simp only [Act.put, List.setIfInBounds_toArray, List.set_cons_zero, List.set_cons_succ]
            refine wpAnyH_take (i := 28) (v := ?vs28) (by (conv => lhs; simp only [List.getElem?_toArray, List.getElem?_cons_succ, List.getElem?_cons_zero])) (by kernel_rfl) (by kernel_rfl) (by kernel_rfl) ?hQ (Or.inl ⟨by rfl, ?hys28⟩) hH4 ?rests28
            case hQ => exact fun _ _ _ h => h
            case hys28 => (intro Y hY; obtain ⟨e0, e1, e2, e3, e4, e5⟩ := hY; go_simp; try (with_reducible rfl))
            try simp only [Act.put, List.setIfInBounds_toArray, List.set_cons_zero, List.set_cons_succ]
            refine wpAnyH_take (i := 29) (v := ?vs29) (by (conv => lhs; simp only [List.getElem?_toArray, List.getElem?_cons_succ, List.getElem?_cons_zero])) (by kernel_rfl) (by kernel_rfl) (by kernel_rfl) ?hQ (Or.inl ⟨by rfl, ?hys29⟩) hH4 ?rests29
            case hQ => exact fun _ _ _ h => h
            case hys29 => (intro Y hY; obtain ⟨e0, e1, e2, e3, e4, e5⟩ := hY; go_simp; try (with_reducible rfl))
            try simp only [Act.put, List.setIfInBounds_toArray, List.set_cons_zero, List.set_cons_succ]
            refine wpAnyH_take (i := 30) (v := ?vs30) (by (conv => lhs; simp only [List.getElem?_toArray, List.getElem?_cons_succ, List.getElem?_cons_zero])) (by kernel_rfl) (by kernel_rfl) (by kernel_rfl) ?hQ (Or.inl ⟨by rfl, ?hys30⟩) hH4 ?rests30
            case hQ => exact fun _ _ _ h => h
            case hys30 => (intro Y hY; obtain ⟨e0, e1, e2, e3, e4, e5⟩ := hY; go_simp; try (with_reducible rfl))
            try simp only [Act.put, List.setIfInBounds_toArray, List.set_cons_zero, List.set_cons_succ]
            refine wpAnyH_ready (rs := [31]) (by kernel_rfl) (by simp) ?_
            refine AllReadyH.cons (by (conv => lhs; simp only [List.getElem?_toArray, List.getElem?_cons_succ, List.getElem?_cons_zero])) (fun K hK => ?_) AllReadyH.nil
            go_simp
            go_at_call 13; refine (CE2.out _ cum4).mono ?_; rintro e v5 ⟨rfl, hb5⟩
            have cum5 : Below wr.heap.size wr v5 := cum4.trans (hb5.mono cum4.size)
            refine hK.out _ _ (KEEP.out _ cum5) (fun hH5 => ?_)
            clear hK hH4
            try simp only [Act.put, List.setIfInBounds_toArray, List.set_cons_zero, List.set_cons_succ]
            refine wpAnyH_take (i := 32) (v := ?vt32) (by (conv => lhs; simp only [List.getElem?_toArray, List.getElem?_cons_succ, List.getElem?_cons_zero])) (by kernel_rfl) (by kernel_rfl) (by kernel_rfl) ?hQ (Or.inl ⟨by rfl, ?hyt32⟩) hH5 ?restt32
            case hQ => exact fun _ _ _ h => h
            case hyt32 => (intro Y hY; obtain ⟨e0, e1, e2, e3, e4, e5⟩ := hY; go_simp; try (with_reducible rfl))
            try simp only [Act.put, List.setIfInBounds_toArray, List.set_cons_zero, List.set_cons_succ]
            refine wpAnyH_take (i := 33) (v := ?vt33) (by (conv => lhs; simp only [List.getElem?_toArray, List.getElem?_cons_succ, List.getElem?_cons_zero])) (by kernel_rfl) (by kernel_rfl) (by kernel_rfl) ?hQ (Or.inl ⟨by rfl, ?hyt33⟩) hH5 ?restt33
            case hQ => exact fun _ _ _ h => h
            case hyt33 => (intro Y hY; obtain ⟨e0, e1, e2, e3, e4, e5⟩ := hY; go_simp; try (with_reducible rfl))
            try simp only [Act.put, List.setIfInBounds_toArray, List.set_cons_zero, List.set_cons_succ]
            refine wpAnyH_ready (rs := [34]) (by kernel_rfl) (by simp) ?_
            refine AllReadyH.cons (by (conv => lhs; simp only [List.getElem?_toArray, List.getElem?_cons_succ, List.getElem?_cons_zero])) (fun K hK => ?_) AllReadyH.nil
            go_simp
            go_at_call 5; refine (cK.out _).mono ?_; rintro e v6 ⟨rfl, hb6⟩
            have cum6 : Below wr.heap.size wr v6 := cum5.trans (hb6.mono cum5.size)
            refine hK.out _ _ (KEEP.out _ cum6) (fun hH6 => ?_)
            clear hK hH5
            try simp only [Act.put, List.setIfInBounds_toArray, List.set_cons_zero, List.set_cons_succ]
            refine wpAnyH_take (i := 35) (v := ?vu35) (by (conv => lhs; simp only [List.getElem?_toArray, List.getElem?_cons_succ, List.getElem?_cons_zero])) (by kernel_rfl) (by kernel_rfl) (by kernel_rfl) ?hQ (Or.inl ⟨by rfl, ?hyu35⟩) hH6 ?restu35
            case hQ => exact fun _ _ _ h => h
            case hyu35 => (intro Y hY; obtain ⟨e0, e1, e2, e3, e4, e5⟩ := hY; go_simp; try (with_reducible rfl))
            try simp only [Act.put, List.setIfInBounds_toArray, List.set_cons_zero, List.set_cons_succ]
            refine wpAnyH_ready (rs := [36]) (by kernel_rfl) (by simp) ?_
            refine AllReadyH.cons (by (conv => lhs; simp only [List.getElem?_toArray, List.getElem?_cons_succ, List.getElem?_cons_zero])) (fun K hK => ?_) AllReadyH.nil
            have rb6 : Boxed v6 (w.heap.size + 1) 4 (.bool false) := (cum6.block _ KF.out.res.lt).trans KF.out.res
            have rc6 := rb6.cell
            have rf6 := rb6.frozen
            have hK6 := KEEP.out _ cum6
            have hH9 : (fun Y : World => Y.cell? ⟨w2.heap.size, 0, none⟩ = some (.int .i64 (min k (gl3 : Int))) ∧ Y.cell? ⟨w.heap.size, 0, none⟩ = some (.int .i64 k) ∧ Y.cell? ⟨g, 0, none⟩ = some (.slice GAo gl3 gco) ∧ Y.cell? ⟨g, 1, none⟩ = some (.int .i64 To) ∧ Y.cell? ⟨g2, 0, none⟩ = some (.slice GA gl gc) ∧ Y.cell? ⟨g2, 1, none⟩ = some (.int .i64 T)) (v6.setCell ⟨w.heap.size + 1, 0, none⟩ (.bool true)) := by
              obtain ⟨e0, e1, e2, e3, e4, e5⟩ := hK6
              refine ⟨?_, ?_, ?_, ?_, ?_, ?_⟩ <;> refine (World.cell?_of_block (Below.heap_setCell _ _ _ _ (by first | (dsimp only; omega) | exact HNE.out.1 | exact HNE.out.2))).trans ?_ <;> assumption
            clear hK6 hH6
            go_simp
            refine hK.out _ _ hH9 (fun hH10 => ?_)
            clear hK hH9 hH10
            try simp only [Act.put]
            refine wpAnyH_done (by kernel_rfl) (noP_of ?_) _
            go_wp2_with fail
            have hne : D ≠ w.heap.size + 1 := by have := HDlt.out; omega
            have hKS : (v6.setCell ⟨w.heap.size + 1, 0, none⟩ (.bool true)).heap[D]? = some (.deferred (some [])) := (Below.heap_setCell _ _ _ _ hne).trans ((cum6.block D hDl.out).trans HDe.out)
            have hrc := World.cell?_setCell_same' v6 ⟨w.heap.size + 1, 0, none⟩ (.bool true) (by rw [rc6]; rfl)
            have hgp := grownBy_putObj' (v6.setCell ⟨w.heap.size + 1, 0, none⟩ (.bool true)) D (.deferred none)
            have hrp := cell_kept hrc hgp (fun r e => by cases e; exact ⟨_, hKS, rfl⟩)
            have hBl := (KF.out.bel.trans (cum6.mono KF.out.bel.size)).setCell (p := ⟨w.heap.size + 1, 0, none⟩) (by show w.heap.size ≤ w.heap.size + 1; omega) (.bool true)
            refine ⟨by simp, .inl ⟨_, _, rfl, run_takeDeferred hKS, ?_⟩⟩
            refine ⟨.bool true, ?_, rfl, ?_⟩
            · simp [results, Try.results4, go_sem, hrp]
            · exact hBl.grown hgp hBl.size (fun k e => by cases e; have := HDlt.out; omega)
      obtain ⟨A3', c3', e3, hlc3, hcm3, lie3⟩ := OwnL.lie HO3.out itV_len
      cases e3
      have hB0 : Below w2.heap.size w2 (w2.alloc (.cells #[.int .i64 0] 3)) := (Below.refl _ w2).alloc (Nat.le_refl _) _
      have hmix : Try.prog.follows .mixedOrders = true := by kernel_rfl
      have hGm : G3.length ≤ 60 := by rw [HP2.out.len]; omega
      have bN := Boxed.new w2 3 (.int .i64 0)
      have zb1 : 0 < k := by omega
      refine (wpIn_wide (n := 6)).1 ?_
      refine wpIn_rangeFunc_ownH rfl (by omega) (gf := 43) (lb := #[.pointer (some ⟨q, 0, none⟩)]) rfl trivial (enters_of Try.func43 (by kernel_rfl) rfl)
        (values1_some (6 - 1) (by omega) q _ _ G3 w2 _ hlc3 hcm3 lie3 HQ.out HC3.out hB0) belowK_t (belowK_b (by (first | omega | (simp; done) | (simp; omega)))) (Below.refl _ _) (fun _ => rfl)
        (fun pre W => (Boxed W w2.heap.size 3 (.int .i64 (pre.length : Int)) ∧ Below w2.heap.size w2 W) ∧ (pre.length : Int) < k)
        (fun cc xs W => ((Boxed W w2.heap.size 3 (.int .i64 (xs.length : Int)) ∧ Below w2.heap.size w2 W) ∧ (cc = .exit 2 ∧ (xs.length : Int) = k)) ∨ (∃ pre x, xs = pre ++ [x] ∧ x ≠ gI G3 pre.length ∧ pre.length < G3.length))
        (OwnFrom.and (OwnFrom.and (Own.from (boxed_own w2.heap.size 3 (fun pre : List It => .int .i64 (pre.length : Int))) _) (ownFrom_below (Nat.le_refl _) (by (first | omega | (simp; done) | (simp; omega))))) (ownFrom_pure _ _))
        (fun cc => ownFrom_or (OwnFrom.and (OwnFrom.and (Own.from (boxed_own w2.heap.size 3 (fun xs : List It => .int .i64 (xs.length : Int))) _) (ownFrom_below (Nat.le_refl _) (by (first | omega | (simp; done) | (simp; omega))))) (ownFrom_pure _ _)) (ownFrom_pure _ _))
        ⟨⟨bN, hB0⟩, zb1⟩
        (fun x a' W => ∃ Bx, w2.heap.size < Bx ∧ ItemBox W Bx x ∧ a' = { tmps := #[.slice A1 N1 ca1, .slice A2 L2.length ca2, .int .i64 k, undef, undef, .pointer (some ⟨w.heap.size, 0, none⟩), .pointer (some ⟨w.heap.size + 1, 0, none⟩), .pointer (some ⟨h, 0, none⟩), .pointer (some ⟨g, 0, none⟩), .int .i64 (i : Int), .pointer (some ⟨hc, 0, none⟩), .func (.func 43) #[] #[.pointer (some ⟨q, 0, none⟩)], .pointer (some ⟨w2.heap.size, 0, none⟩), .pointer (some ⟨Bx, 0, none⟩), undef, undef, .slice A1 N1 ca1, .int .i64 (N1 : Int), .slice A2 L2.length ca2, .int .i64 (L2.length : Int), .int .i64 ((N1 : Int) + (L2.length : Int)), .bool false, .bool false, .int .i64 k, .bool false, .bool false, .bool false, .int .i64 k, .bool false, .bool false, undef, .pointer (some ⟨h, 0, none⟩), .agg #[.slice none 0 0, .int .i64 0], .int .i64 (i : Int), .slice A1 N1 ca1, .int .i64 (N1 : Int), .bool false, u37, u38, u39, u40, u41, u42, u43, u44, u45, u46, u47, u48, .pointer (some ⟨h, 0, none⟩), .pointer (some ⟨hc, 0, none⟩), .pointer (some ⟨h, 0, none⟩), .func (.func 43) #[] #[.pointer (some ⟨q, 0, none⟩)], .func (.func 43) #[] #[.pointer (some ⟨q, 0, none⟩)], .bool false, .func (.func 43) #[] #[.pointer (some ⟨q, 0, none⟩)], .agg #[.int .i64 (iD x), .int .i64 (kN x), .int .i64 (kD x), .int .i64 (tN x)], undef, undef, undef, undef, undef, undef, undef, undef, undef, undef, undef, undef, undef, undef, undef, undef, undef, undef, undef, undef, undef, undef, undef, undef, undef, undef, undef, undef, undef, undef, undef, undef, undef, undef, undef, undef, undef, undef, undef, undef, undef, undef, undef, undef, undef, undef, undef, undef, undef, undef, undef, undef, undef, undef, undef, undef, undef, undef, undef, undef, undef, undef, undef, undef, undef, undef, undef, undef, undef, undef, undef, undef], defers := [] })
        (fun x a' _ X Y row hs hg hr => by obtain ⟨Bx, h1, h2, h3⟩ := hs; exact ⟨Bx, h1, h2.kept2 hg (fun r e => (hr r e).2), h3⟩)
        ?assign ?body ?done ?stop
      case assign =>
        rintro l pre x W K ⟨⟨hv, hB⟩, hp⟩ hK
        unfold agI
        gi_wp2
        exact hK _ _ ((KeepsOthers.alloc _ _).from _) ((Below.refl _ W).alloc hB.size _) ⟨⟨hv.alloc _, hB.alloc hB.size _⟩, hp⟩ ⟨W.heap.size, hv.lt, ItemBox.new W _ _, rfl⟩
      case body =>
        rintro l pre x a' W hl' ⟨r, hr⟩ ⟨⟨hv, hB⟩, hp⟩ ⟨Bx, hBx, ⟨hb, x0, x1, x2, x3⟩, rfl⟩ hlt
        have hcv := hv.cell
        have hfv := hv.frozen
        have HKW := hidd (HB2.out.sav (S := fun _ => False) (Sav.of hB) (fun _ q => q.elim))
        have kb := HKW.out.box.cell
        obtain ⟨gc0, gc1⟩ := (HD2.out.below hB).cells
        obtain ⟨ad, eA, hadb, y0, y1, y2, y3⟩ := Lie.it4 ((OwnL.lieX HP2.out.rl).keep hB) pre.length hlt
        subst eA
        have z1 : ¬ (G3.length : Int) ≤ (pre.length : Int) := by omega
        have z2 : (pre.length : Int) < (G3.length : Int) := by omega
        have z0 : (0 : Int) ≤ (pre.length : Int) := by omega
        have hpm : (pre.length : Int) + 1 ≤ 1000000 := by omega
        have HV := hidd hv
        have HB := hidd hB
        have HLT := hidd hlt
        have HPK := hidd hp
        have eqq := fun W => item_run (iD x) (kN x) (kD x) (tN x) (iD (gI G3 pre.length)) (kN (gI G3 pre.length)) (kD (gI G3 pre.length)) (tN (gI G3 pre.length)) W
        rw [← it_eta, ← it_eta] at eqq
        have EB := hidd (eqB_iff (x := x) (y := gI G3 pre.length))
        clear hv hB hlt hr hp
        generalize hEQ : eqB x (gI G3 pre.length) = EQ at *
        clear hEQ
        generalize iD (gI G3 pre.length) = b0 at *
        generalize kN (gI G3 pre.length) = b1 at *
        generalize kD (gI G3 pre.length) = b2 at *
        generalize tN (gI G3 pre.length) = b3 at *
        generalize iD x = a0 at *
        generalize kN x = a1 at *
        generalize kD x = a2 at *
        generalize tN x = a3 at *
        generalize hPL : pre.length = pl at *
        generalize hGL : G3.length = gl2 at *
        have HPL := hidd hPL
        have HGL := hidd hGL
        clear hPL hGL
        have z5 : decide (gl2 ≤ pl) = false := decide_eq_false (by have := HLT.out; omega)
        have hwr : IntKind.i64.wrap ((pl : Int) + 1) = (pl : Int) + 1 := by rw [IntKind.wrap_i64]; omega
        cases EQ
        case true =>
          gi_wp2_with fail
          refine wpIn_quiet_round (F := Fence.wide) rfl hmix (by kernel_rfl) rfl ?_
          repeat (gi_big_quiet_step (fail))
          refine wpQuietIn_nil ?_
          intro _ hw'
          obtain ⟨nq, hw''⟩ := hw'
          subst hw''
          obtain ⟨X1, hX1⟩ : ∃ X1, W.drewN nq = X1 := ⟨_, rfl⟩
          rw [hX1]
          have hvx : Boxed X1 w2.heap.size 3 (.int .i64 (pl : Int)) := by rw [← hX1]; exact HV.out
          have hcx := hvx.cell
          have hfx := hvx.frozen
          have HVX := hidd hvx
          have HKX : Hid (KeepsOthers W X1) := hidd (by rw [← hX1]; exact ⟨Nat.le_refl _, fun _ _ h _ => h⟩)
          have HBX : Hid (Below W.heap.size W X1) := hidd (by rw [← hX1]; exact below_drewN (Below.refl _ _) _)
          have kbx : X1.cell? ⟨w.heap.size, 0, none⟩ = some (.int .i64 k) := by rw [← hX1]; exact kb
          clear hX1 hvx kb hcv hfv gc0 gc1 x0 x1 x2 x3 y0 y1 y2 y3
          have hne : w.heap.size ≠ w2.heap.size := by have := HB2.out.box.lt; omega
          by_cases hkk : (pl : Int) + 1 = k
          · have hkb : (((pl : Int) + 1) == k) = true := by rw [hkk]; simp
            gi_wp2_with fail
            refine ⟨(HKX.out.trans (KeepsOthers.setCell _ _ _)).from _, .inl ⟨⟨?_, HB.out.trans ((HBX.out.mono HB.out.size).setCell (p := ⟨w2.heap.size, 0, none⟩) (Nat.le_refl _) _)⟩, rfl, ?_⟩⟩
            · have := HVX.out.set (.int .i64 k)
              rw [List.length_append, HPL.out]
              simpa [hkk] using this
            · rw [List.length_append, HPL.out]; simpa using hkk
          · have hkb : (((pl : Int) + 1) == k) = false := by simpa using hkk
            gi_wp2_with fail
            refine ⟨(HKX.out.trans (KeepsOthers.setCell _ _ _)).from _, (HBX.out.mono HB.out.size).setCell (p := ⟨w2.heap.size, 0, none⟩) (Nat.le_refl _) _, ⟨⟨?_, HB.out.trans ((HBX.out.mono HB.out.size).setCell (p := ⟨w2.heap.size, 0, none⟩) (Nat.le_refl _) _)⟩, ?_⟩⟩
            · have := HVX.out.set (.int .i64 ((pl : Int) + 1))
              rw [List.length_append, HPL.out]
              simpa using this
            · have := HPK.out
              rw [List.length_append, HPL.out]; simp; omega
        case false =>
          have rb := HKW.out.res.cell
          have rf := HKW.out.res.frozen
          gi_wp2_with fail
          refine wpIn_quiet_round (F := Fence.wide) rfl hmix (by kernel_rfl) rfl ?_
          repeat (gi_big_quiet_step (fail))
          refine wpQuietIn_nil ?_
          intro _ hw'
          obtain ⟨nq, hw''⟩ := hw'
          subst hw''
          obtain ⟨X1, hX1⟩ : ∃ X1, W.drewN nq = X1 := ⟨_, rfl⟩
          rw [hX1]
          have hvx : Boxed X1 w2.heap.size 3 (.int .i64 (pl : Int)) := by rw [← hX1]; exact HV.out
          have hcx := hvx.cell
          have hfx := hvx.frozen
          have HVX := hidd hvx
          have HKX : Hid (KeepsOthers W X1) := hidd (by rw [← hX1]; exact ⟨Nat.le_refl _, fun _ _ h _ => h⟩)
          have HBX : Hid (Below W.heap.size W X1) := hidd (by rw [← hX1]; exact below_drewN (Below.refl _ _) _)
          have kbx : X1.cell? ⟨w.heap.size, 0, none⟩ = some (.int .i64 k) := by rw [← hX1]; exact kb
          have rbx : X1.cell? ⟨w.heap.size + 1, 0, none⟩ = some (.bool false) := by rw [← hX1]; exact rb
          have rfx : X1.frozen? ⟨w.heap.size + 1, 0, none⟩ = false := by rw [← hX1]; exact rf
          clear hX1 hvx kb rb rf hcv hfv gc0 gc1 x0 x1 x2 x3 y0 y1 y2 y3
          gi_wp2_with fail
          refine ⟨(HKX.out.trans (KeepsOthers.setCell _ _ _)).from _, .inr ⟨pre, x, rfl, fun e => ?_, ?_⟩⟩
          · rw [HPL.out] at e
            exact absurd (EB.out.2 e) (by simp)
          · rw [HPL.out]; exact HLT.out
      case stop =>
        rintro D c' xs W hD hSp hX hK
        rcases hX with ⟨⟨hv, hB⟩, rfl, e⟩ | ⟨pre', x, rfl, hne, hlt'⟩
        · have hl : xs.length ≤ G3.length := hSp.length_le
          have := REST D W (by have := hD; simp at this; omega) (by rw [show min k (G3.length : Int) = (xs.length : Int) by omega]; exact hv) hB hK
          gi_wp2_with fail
          exact this
        · exfalso
          apply hne
          obtain ⟨t, ht⟩ := hSp
          rw [← ht, gI_at (by simp)]
          simp
      case done =>
        rintro D xs W hD rfl ⟨⟨hv, hB⟩, hp⟩ hK
        exact REST D W (by have := hD; simp at this; omega) (by rw [show min k (xs.length : Int) = (xs.length : Int) by omega]; exact hv) hB hK
end Go.Proofs.Ytohkkebiilaniaa.Hp

/- Whatever the calls, HeapCopies answers true; no conditions. -/
namespace Go.Proofs.Ytohkkebiilaniaa.Hp
namespace RowK
open Go.ChangeShapes Go.WideShapes Go.ChangeAt Go.RowKit Go.Joins Go.Deep
set_option linter.unusedVariables false
section
variable {H : Type} {enc : TypeId × Value → H}
theorem handed_sized {a : Assume} {C : Checked} {os : Os} {f : FuncId} {fn : Func} {s : ChangeSpec} {conds : List PathCond} {apart fresh handsOn again : Bool}
    (ow : ownKnob C.prog.godebug = none) (started : os.Started) (noInit : C.prog.inits.idxOf? f = none) (hfn : C.prog.funcs[f]? = some fn)
    (witness : ∃ (w : World) (tape : Tape) (i : Input), w.os = os ∧ (w.forCall tape i).Shaped C.prog ∧ i.vars = [] ∧ Input.okWide C.prog (w.forCall tape i) .any w.heap.size f i ∧
      s.pre6 enc C.prog fn conds apart (w.forCall tape i).memory i.args ∧ a.holds C.prog (lone (Frame.enter C.prog f i.args .normal) [] (w.forCall tape i)))
    (contract : ∀ (W : World) (base : Nat) (args : Array Value) (ds gs : List (DataW H)) (before : List MemPlace),
      (∀ (j : Nat) t v, fn.params[j]? = some t → args[j]? = some v → Value.okWide C.prog W .any base t v) →
      DataW.Whole enc C.prog fn.params.toList s.vars apart W args.toList ds gs before →
      (DataW.weightsEach C.prog (fn.params.toList ++ s.plain.varTypes C.prog) (ds ++ gs)).all (· ≤ reachBytes) = true →
      Calls C.prog f args W fun e W' => ∃ v, e = .returned v ∧ s.post enc C.prog fn apart fresh handsOn again W args v W') :
    ReturnsInHanded a C os f .any (s.pre6 enc C.prog fn conds apart) (s.post enc C.prog fn apart fresh handsOn again) := by
  refine returnsInHanded_of_calls ow started noInit witness ?_
  intro w tape i _ _ _ hok hpre hholds
  obtain ⟨_, _, _, fn', hfn', _, _, _, _, hval⟩ := hok
  obtain rfl : fn' = fn := Option.some.inj (hfn'.symm.trans hfn)
  obtain ⟨⟨ds, gs, before, hw, _⟩, hz⟩ := hpre
  refine (contract (w.forCall tape i) w.heap.size i.args ds gs before hval (DataW.Whole.of_heap (w' := w.forCall tape i) (by rfl) hw) (hz.weights hw)).mono fun e W' ⟨v, he, hp⟩ => ?_
  subst he
  exact ChangeSpec.post_blind hp
theorem slice_reach {P : Program} {ts : List TypeId} {ds : List (DataW H)} (h : (DataW.weightsEach P ts ds).all (· ≤ reachBytes) = true) {j : Nat} {t e : TypeId} {d : DataW H} (ht : ts[j]? = some t) (hd : ds[j]? = some d) (hu : P.underlying t = some (.slice e))
    {W : World} {base : Nat} {spare : Nat → Bool} {held : Bool} {A : Option Addr} {n c : Nat} {p : List MemPlace} (hT : DataW.Trod enc P W base spare held t (.slice A n c) d p) (hn : 0 < n) : n * P.bytesOf e ≤ 140737488351232 := by
  obtain ⟨fuel, hf⟩ := hT
  rcases DataW.trod_slice hu hf with ⟨hc, hx⟩ | ⟨a, len, cap, elems, rest, k, _, hc, hx, _, _, _, hl, _⟩
  · simp only [Value.cells, List.cons.injEq, Value.slice.injEq] at hc
    omega
  · have hs : (elems.map (·.1)).length = n := by
      simp only [Value.cells, List.cons.injEq, Value.slice.injEq] at hc
      rw [List.length_map]
      omega
    have hd' : ds[j]? = some (.slice (elems.map (·.1)) (rest.map (·.1))) := by rw [hd]; exact congrArg some (congrArg Prod.fst hx)
    have := sized_slice h ht hd' hu
    rw [hs] at this
    have h2 : n * P.bytesOf e ≤ (n + (rest.map (·.1)).length) * P.bytesOf e := Nat.mul_le_mul_right _ (by omega)
    have h3 : reachBytes = 140737488351232 := by decide
    omega
end
end RowK
end Go.Proofs.Ytohkkebiilaniaa.Hp
namespace Go.Proofs.Ytohkkebiilaniaa.heapCopies
open Go.ChangeShapes Go.WideShapes Go.ChangeAt Go.RowKit Go.Joins Go.Proofs.Ytohkkebiilaniaa.Tp Go.Proofs.Ytohkkebiilaniaa.Hp Go.Proofs.Ytohkkebiilaniaa.Hp.RowK
set_option linter.unusedVariables false
set_option maxRecDepth 100000 in
theorem lifted (os : Os) (started : os.Started) (H : Type) (enc : TypeId × Value → H) :
    ReturnsInHanded {} Try.checked os 4 .any (Rows.heapCopiesSpec.pre6 enc Try.prog Try.f4 Rows.heapCopiesRow.domain false) (Rows.heapCopiesSpec.post enc Try.prog Try.f4 false true false false) := by
  refine handed_sized (C := Try.checked) RowK.own started (by kernel_rfl) Try.func4
    (ChangeSpec.witness6 (enc := enc) (C := Try.checked) false ⟨#[], #[.slice none 0 0, .slice none 0 0, .int .i64 0], []⟩ 8 (by kernel_rfl) (by kernel_rfl) (by kernel_rfl) (by kernel_rfl)) ?_
  intro W base args ds gs before hval0 hW hsz
  rw [Try.params4] at hsz
  have hval : ∀ (j : Nat) t v, Try.f4.params[j]? = some t → args[j]? = some v → Value.okWide Try.prog W .any base t v := hval0
  have hW' := hW
  obtain ⟨p, q, hA0, hV, rfl, hfz, hnd⟩ := hW
  have hA : DataW.TrodAll enc Try.prog W 0 (fun _ => true) true Try.f4.params.toList args.toList ds p := hA0
  rw [Try.params4] at hA hval
  obtain ⟨v0, vs0, d0, ds0, p0, q0, hargs, rfl, rfl, h0, r0⟩ := trodAll_cons hA
  obtain ⟨v1, vs1, d1, ds1, p1, q1, rfl, rfl, rfl, h1, r1⟩ := trodAll_cons r0
  obtain ⟨v2, vs2, d2, ds2, p2, q2, rfl, rfl, rfl, h2, r2⟩ := trodAll_cons r1
  obtain ⟨rfl, rfl, rfl⟩ := trodAll_nil r2
  obtain rfl : args = #[v0, v1, v2] := by cases args; simp_all
  obtain ⟨rfl, rfl⟩ := trodVars_none hV
  obtain ⟨A0, L0, c0, rfl, m0, n0, o0, l0⟩ : ∃ (A : Option Addr) (L : List (Int × Int × Int × Int)) (c : Nat), v0 = .slice A L.length c ∧ L.length ≤ c ∧ c ≤ maxLen ∧ (∀ x ∈ L, WdA x) ∧ Lie actV 4 W W.heap.size A L := by
    obtain ⟨ptr, len, cap, rfl⟩ := okWide_slice Try.underlying22 (hval 0 22 v0 rfl rfl)
    obtain ⟨fuel, hf⟩ := h0
    obtain ⟨A, L, c, e, hh⟩ := open_acts hf
    exact ⟨A, L, c, by simpa [Value.cells] using e, hh⟩
  have z0 : L0.length ≤ 8796093022208 := by
    rcases Nat.eq_zero_or_pos L0.length with q | q
    · omega
    · have q1 := slice_reach hsz (j := 0) (t := 22) (e := 34) rfl rfl Try.underlying22 h0 q
      have q2 : Try.checked.prog.bytesOf 34 = 32 := by kernel_rfl
      rw [q2] at q1
      omega
  obtain ⟨A1, L1, c1, rfl, m1, n1, o1, l1⟩ : ∃ (A : Option Addr) (L : List (Int × Int × Int × Int)) (c : Nat), v1 = .slice A L.length c ∧ L.length ≤ c ∧ c ≤ maxLen ∧ (∀ x ∈ L, WdA x) ∧ Lie actV 4 W W.heap.size A L := by
    obtain ⟨ptr, len, cap, rfl⟩ := okWide_slice Try.underlying22 (hval 1 22 v1 rfl rfl)
    obtain ⟨fuel, hf⟩ := h1
    obtain ⟨A, L, c, e, hh⟩ := open_acts hf
    exact ⟨A, L, c, by simpa [Value.cells] using e, hh⟩
  have z1 : L1.length ≤ 8796093022208 := by
    rcases Nat.eq_zero_or_pos L1.length with q | q
    · omega
    · have q1 := slice_reach hsz (j := 1) (t := 22) (e := 34) rfl rfl Try.underlying22 h1 q
      have q2 : Try.checked.prog.bytesOf 34 = 32 := by kernel_rfl
      rw [q2] at q1
      omega
  obtain ⟨a2, rfl, e2, f2, w2⟩ := open_int Try.underlying3 (hval 2 3 v2 rfl rfl) h2
  refine (Ytohkkebiilaniaa.Hp.copies_walk A0 L0 c0 o0 m0 n0 A1 L1 c1 o1 m1 n1 z0 z1 a2 W l0 l1).mono fun e W' ⟨he, hg⟩ => ?_
  subst he
  exact ⟨_, rfl, post_law RowK.laidOut (by rw [Try.params4]; intro t ht; simp at ht; first | (rcases ht with rfl | rfl | rfl <;> exact ⟨by kernel_rfl, of_decide_eq_true (by kernel_rfl)⟩) | (rcases ht with rfl | rfl <;> exact ⟨by kernel_rfl, of_decide_eq_true (by kernel_rfl)⟩)) hW' hA0 rfl (fun _ _ _ => (trodAll_cons_mk (shut_bool Try.underlying4 _) trodAll_mk0)) (fun _ => rfl) hg (ok_one (by kernel_rfl) rfl (okWide_bool_mk Try.underlying4 _))⟩

theorem over : Rows.heapCopiesRow.holds Try.pinned (OpenSpec.ofChange Rows.heapCopiesSpec) :=
  OpenClaim.holds_of_wide 4 Try.f4 rfl rfl rfl rfl rfl rfl rfl ⟨rfl, rfl, rfl, rfl, rfl⟩ rfl rfl rfl rfl rfl (by kernel_rfl) Try.func4 (by kernel_rfl)
    (of_decide_eq_true (by kernel_rfl)) (by unfold Func.isWrapper; first | (rw [if_pos (by decide +kernel)]; kernel_rfl) | (rw [if_neg (by decide +kernel)]; exact ⟨rfl, rfl⟩))
    (fun os started H enc _ => lifted os started H enc)
end Go.Proofs.Ytohkkebiilaniaa.heapCopies
namespace Go.Proofs.Ytohkkebiilaniaa
/-- the given statement. -/
theorem heapCopies_proved : Rows.HeapCopiesSaid := heapCopies.over
end Go.Proofs.Ytohkkebiilaniaa

