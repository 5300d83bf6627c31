/- Texts that the claim hangs on, in one. -/
import Derived.Test.YtohkkebiilaniaaMgPlA
import Derived.Test.YtohkkebiilaniaaMgPlR
import Derived.Test.YtohkkebiilaniaaTpA
import Derived.Below
import Derived.RangeFuncNested
import Derived.RangeFuncBound
import Derived.RangeFuncCalls
import Derived.RangeFuncLeaves
import Derived.RangeFuncBox
import Derived.Sort.QuietIn
import Derived.Sort.QuietTacIn
import Derived.Deep.RegionHeld
import Derived.Test.YtohkkebiilaniaaHpC
import Derived.Shelf.SlSortCmp.InsertionK
import Derived.Test.YtohkkebiilaniaaHpL
import Derived.Test.YtohkkebiilaniaaShelfS
import Derived.Shelf.SlSortCmp.WholeK
import Derived.Sort.LotA
/- Routes: a range over a function whose rounds write older memory alone: the law of its caller. -/
namespace Go.Proofs.Ytohkkebiilaniaa.Tp
set_option linter.unusedVariables false
open Go.RowKit

section
variable {F : Fence} {n : Nat} {P : Program}
/-- what lies from block B on lies as it lay. -/
def Above (B : Nat) (X Y : World) : Prop := X.heap.size ≤ Y.heap.size ∧ ∀ k, B ≤ k → k < X.heap.size → Y.heap[k]? = X.heap[k]?
theorem Above.refl (B : Nat) (X : World) : Above B X X := ⟨Nat.le_refl _, fun _ _ _ => rfl⟩
theorem Above.trans {B : Nat} {X Y Z : World} (h : Above B X Y) (k : Above B Y Z) : Above B X Z :=
  ⟨Nat.le_trans h.1 k.1, fun j hj hl => (k.2 j hj (Nat.lt_of_lt_of_le hl h.1)).trans (h.2 j hj hl)⟩
theorem Above.more {B B' : Nat} {X Y : World} (h : Above B X Y) (hb : B ≤ B') : Above B' X Y := ⟨h.1, fun j hj hl => h.2 j (by omega) hl⟩
theorem Above.put {B l : Nat} (X : World) (o : Obj) (h : l < B) : Above B X (X.putObj l o) := ⟨by simp [World.putObj], fun j hj _ => World.putObj_heap_other (by omega)⟩
theorem Above.set {B : Nat} (X : World) (a : Addr) (v : Value) (h : a.block < B) : Above B X (X.setCell a v) := ⟨by simp [World.setCell], fun j hj hl => Below.heap_setCell _ _ _ _ (by omega)⟩
theorem Above.below {B : Nat} {X Y : World} (h : Below X.heap.size X Y) : Above B X Y := ⟨h.size, fun j _ hl => h.block j hl⟩
theorem Above.keeps {B : Nat} {X Y : World} (h : Above B X Y) : KeepsFrom B X Y := ⟨h.1, fun j o hj ho _ => (h.2 j hj (Array.getElem?_eq_some_iff.1 ho).1).trans ho⟩
/-- the word of an iterator that lies in newer memory than what the rounds write. -/
def SeqB {α : Type} (F : Fence) (n : Nat) (P : Program) (g : Nat) (lb : Array Value) (encs : α → Array Value) (Rd : World → Prop) (S Sp : List α → Prop) (N : Nat) (w : World) : Prop :=
  ∀ (l : Nat) (J Jx : List α → World → Prop) (W : World), Below w.heap.size w W → l < W.heap.size → (∀ s X, J s X → Rd X) →
    (∀ s X Y, J s X → Below W.heap.size X Y → J s Y) → (∀ s X Y, Jx s X → Below W.heap.size X Y → Jx s Y) →
    (∀ pre x X, W.heap.size ≤ X.heap.size → J pre X → pre.length < N → YieldAt F (n - 1) P l (encs x) X fun e Y =>
      Above W.heap.size X Y ∧ ((e = .returned (.bool true) ∧ J (pre ++ [x]) Y) ∨ (e = .returned (.bool false) ∧ Jx (pre ++ [x]) Y))) →
    J [] W → CallsIn F n P g (#[.func (.yield l) #[] #[]] ++ lb) W fun e Y => (∃ v, e = .returned v) ∧ ((∃ xs, S xs ∧ J xs Y) ∨ (∃ pre, Sp pre ∧ Jx pre Y))
/-- how a round's body may end: from the loop's own blocks on all lies as it lay. -/
def roundEnd {α : Type} (B : Nat) (I : List α → World → Prop) (Ix : Code → List α → World → Prop) (xs : List α) (W : World) : Exit → Act → World → Prop
  | .normal, _, Y => Above B W Y ∧ I xs Y
  | .ret, _, Y => Above B W Y ∧ Ix .ret xs Y
  | .exit i, _, Y => Above B W Y ∧ Ix (.exit i) xs Y
  | .goto t, _, Y => Above B W Y ∧ Ix (.goto t) xs Y
  | .panic _, _, _ => False
  | .outgrown, _, _ => False
theorem putBelow {B l : Nat} (X : World) (o : Obj) (h : B ≤ l) : Below B X (X.putObj l o) := ⟨rfl, rfl, rfl, by simp [World.putObj], fun k hk => World.putObj_heap_other (by omega)⟩
theorem wpIn_rangeFunc_B {α : Type} {g : Operand} {ps : Array Tmp} {assign body : Code} {Q : Exit → Act → World → Prop} {a : Act} {w : World}
    (hro : F.round = none) (h1 : 1 ≤ n) {gf : Nat} {lb : Array Value} (hg : a.eval g = .func (.func gf) #[] lb) (hFg : F.fn gf) (eg : ∀ args w, (callFunc gf args).run P w = .ok (.enter gf args) w)
    {encs : α → Array Value} {Rd : World → Prop} {S Sp : List α → Prop} {N : Nat} (hseq : SeqB F (n - 1) P gf lb encs Rd S Sp N w) (hps : ∀ x, (encs x).size = ps.size)
    (I : List α → World → Prop) (Ix : Code → List α → World → Prop) (hRd : ∀ s X, I s X → Rd X) (hI : ∀ s X Y, I s X → Below w.heap.size X Y → I s Y) (hIx : ∀ c s X Y, Ix c s X → Below w.heap.size X Y → Ix c s Y) (h0 : I [] w) (ob : α → Obj) (a₁ : α → Nat → Act)
    (hassign : ∀ (l : Nat) (x : α) (W : World) (K : Act → World → Prop), (∀ q, q = W.heap.size → K (a₁ x q) (W.alloc (ob x))) →
      assign.wpIn (F.inRound l) (n - 1 - 1) P (Exit.then K (fun _ _ _ => False)) { tmps := (ps.zip (encs x)).foldl (fun t (p, v) => t.setIfInBounds p v) a.tmps, defers := [] } W)
    (hbody : ∀ (l q : Nat) (pre : List α) (x : α) (W : World), w.heap.size ≤ q → q < W.heap.size → W.heap[q]? = some (ob x) → I pre W → pre.length < N → body.wpIn (F.inRound l) (n - 1 - 1) P (roundEnd w.heap.size I Ix (pre ++ [x]) W) (a₁ x q) W)
    (hdone : ∀ (D : Nat) (xs : List α) (W : World), w.heap.size ≤ D → S xs → I xs W → W.heap[D]? = some (.deferred (some [])) → Q .normal { a with defers := { target := .collected D, args := #[] } :: a.defers } W)
    (hstop : ∀ (D : Nat) (c : Code) (pre : List α) (W : World), w.heap.size ≤ D → Sp pre → Ix c pre W → W.heap[D]? = some (.deferred (some [])) → c.wpIn F n P Q { a with defers := { target := .collected D, args := #[] } :: a.defers } W) :
    (Code.rangeFunc g ps assign body).wpIn F n P Q a w := by
  refine wpIn_rangeFunc fun fn hfn => ?_
  rw [hro]
  let B := w.heap.size
  let R : LoopState → Option Code → Loop := fun s j => { state := s, pending := j, fn, tmps := a.tmps, params := ps, assign, body, defers := B }
  let V := (w.alloc (.deferred (some []))).alloc (.loop (R .ready none))
  have sV : V.heap.size = B + 2 := by simp [V, B]
  have lV : V.heap[B + 1]? = some (.loop (R .ready none)) := by
    have h := World.alloc_heap_new (w.alloc (.deferred (some []))) (.loop (R .ready none))
    rw [World.size_alloc] at h
    exact h
  have dV : V.heap[B]? = some (.deferred (some [])) := (Below.heap_alloc _ _ _ (by simp [B])).trans (World.alloc_heap_new w _)
  have bV : Below B w V := ((Below.refl _ w).alloc (Nat.le_refl _) _).alloc (by simp) _
  have iV : I [] V := hI _ _ _ h0 bV
  let J : List α → World → Prop := fun pre Y => I pre Y ∧ Y.heap[B + 1]? = some (.loop (R .ready none)) ∧ Y.heap[B]? = some (.deferred (some []))
  let Jx : List α → World → Prop := fun xs Y => ∃ c, Ix c xs Y ∧ Y.heap[B + 1]? = some (.loop (R .done (some c))) ∧ Y.heap[B]? = some (.deferred (some []))
  refine ⟨B + 1, [{ target := .collected B, args := #[] }], V, { target := .fn (.func gf) lb, args := #[.func (.yield (B + 1)) #[] #[]] }, V, gf, #[.func (.yield (B + 1)) #[] #[]] ++ lb, V,
    run_enterLoop_outer _ _ _ _ _, by simp only [resolve, hg]; simp [go_sem], fun f' hf' => by simp [Target.leads] at hf'; subst hf'; exact hFg, by simp [invoke, go_sem, eg], fun _ => h1, ?_⟩
  refine (hseq (B + 1) J Jx V bV (by omega) (fun s X h => hRd s X h.1) ?_ ?_ ?_ ⟨iV, lV, dV⟩).mono ?_
  · rintro pre X Y ⟨hi, hl, hd⟩ hb
    exact ⟨hI _ _ _ hi (hb.mono (by omega)), (hb.block _ (by omega)).trans hl, (hb.block _ (by omega)).trans hd⟩
  · rintro pre X Y ⟨c, hx, hl, hd⟩ hb
    exact ⟨c, hIx _ _ _ _ hx (hb.mono (by omega)), (hb.block _ (by omega)).trans hl, (hb.block _ (by omega)).trans hd⟩
  · rintro pre x Y hVY ⟨hi, hl, hd⟩ hlen
    have hlt : B + 1 < Y.heap.size := by omega
    have hlq : (Y.alloc (ob x)).heap[B + 1]? = some (.loop (R .ready none)) := (Below.heap_alloc _ _ _ hlt).trans hl
    have hdq : (Y.alloc (ob x)).heap[B]? = some (.deferred (some [])) := (Below.heap_alloc _ _ _ (by omega)).trans hd
    have hiq : I pre (Y.alloc (ob x)) := hI _ _ _ hi ((Below.refl _ Y).alloc (by omega) _)
    have szq : (Y.alloc (ob x)).heap.size = Y.heap.size + 1 := by simp
    have hxq : (Y.alloc (ob x)).heap[Y.heap.size]? = some (ob x) := World.alloc_heap_new Y _
    refine ⟨fn, _, assign, body, run_yield (P := P) (args := encs x) hl (hps x), roundIn_of_wpIn hfn (hassign _ x Y _ (fun q hq => ?_))⟩
    subst hq
    refine ⟨_, run_beginRound hlq rfl, ?_⟩
    have habq : Above V.heap.size Y (Y.alloc (ob x)) := Above.below ((Below.refl _ Y).alloc (Nat.le_refl _) _)
    generalize Y.alloc (ob x) = Y' at *
    have hltq : B + 1 < Y'.heap.size := by omega
    have l2 : (Y'.putObj (B + 1) (.loop { R .ready none with state := .busy })).heap[B + 1]? = some (.loop { R .ready none with state := .busy }) := World.putObj_heap_same hltq
    have d2 : (Y'.putObj (B + 1) (.loop { R .ready none with state := .busy })).heap[B]? = some (.deferred (some [])) := (World.putObj_heap_other (by omega)).trans hdq
    have s2 : (Y'.putObj (B + 1) (.loop { R .ready none with state := .busy })).heap.size = Y'.heap.size := by simp [World.putObj]
    have a2 : Above V.heap.size Y' (Y'.putObj (B + 1) (.loop { R .ready none with state := .busy })) := Above.put _ _ (by omega)
    have lt2 := (Array.getElem?_eq_some_iff.1 l2).1
    refine wpIn_mono (hbody _ Y.heap.size pre x _ (by omega) (Nat.lt_of_lt_of_le (show Y.heap.size < Y'.heap.size by omega) (Nat.le_of_eq s2.symm)) ((World.putObj_heap_other (by omega)).trans hxq) (hI _ _ _ hiq (putBelow _ _ (by omega))) hlen) ?_
    rintro e a3 Z hZ
    have out : ∀ c : Code, Above B (Y'.putObj (B + 1) (.loop { R .ready none with state := .busy })) Z → Ix c (pre ++ [x]) Z → ∃ b Z', (Instr.endRound (B + 1) (some c)).run P Z = .ok b Z' ∧ (Above V.heap.size Y Z' ∧ ((Ending.returned b = .returned (.bool true) ∧ J (pre ++ [x]) Z') ∨ (Ending.returned b = .returned (.bool false) ∧ Jx (pre ++ [x]) Z'))) := fun c hk hx => by
      have l3 := (hk.2 _ (Nat.le_succ _) lt2).trans l2
      have d3 := (hk.2 _ (Nat.le_refl _) (Nat.lt_of_succ_lt lt2)).trans d2
      exact ⟨_, _, run_endRound (P := P) (some c) l3, habq.trans (a2.trans ((hk.more (by omega)).trans (Above.put _ _ (by omega)))), .inr ⟨rfl, c, hIx _ _ _ _ hx (putBelow _ _ (by omega)), World.putObj_heap_same (Array.getElem?_eq_some_iff.1 l3).1, (World.putObj_heap_other (by omega)).trans d3⟩⟩
    cases e with
    | normal =>
      obtain ⟨hk, hi3⟩ := hZ
      have l3 := (hk.2 _ (Nat.le_succ _) lt2).trans l2
      have d3 := (hk.2 _ (Nat.le_refl _) (Nat.lt_of_succ_lt lt2)).trans d2
      exact ⟨_, _, run_endRound (P := P) none l3, habq.trans (a2.trans ((hk.more (by omega)).trans (Above.put _ _ (by omega)))), .inl ⟨rfl, hI _ _ _ hi3 (putBelow _ _ (by omega)), World.putObj_heap_same (Array.getElem?_eq_some_iff.1 l3).1, (World.putObj_heap_other (by omega)).trans d3⟩⟩
    | ret => exact out _ hZ.1 hZ.2
    | exit i => exact out _ hZ.1 hZ.2
    | goto t => exact out _ hZ.1 hZ.2
    | _ => exact hZ.elim
  · rintro e Y ⟨⟨v, rfl⟩, (⟨xs, hS, hi, hl, hd⟩ | ⟨pre, hS, c, hx, hl, hd⟩)⟩
    · exact ⟨none, _, run_endLoop (P := P) hl (by simp [R]), hdone B _ _ (Nat.le_refl _) hS (hI _ _ _ hi (putBelow _ _ (by omega))) ((World.putObj_heap_other (by omega)).trans hd)⟩
    · exact ⟨some c, _, run_endLoop (P := P) hl (by simp [R]), hstop B c _ _ (Nat.le_refl _) hS (hIx _ _ _ _ hx (putBelow _ _ (by omega))) ((World.putObj_heap_other (by omega)).trans hd)⟩
end
/-- what a round asks of an operation that defers nothing is what a plain frame asks. -/
theorem uponIn_round {F : Fence} {n l : Nat} {P : Program} {o : Oper} {a : Act} {K K' : Act → World → Prop} {Q : Exit → Act → World → Prop} (hk : ∀ a w, K a w → K' a w) : ∀ r : Result Next, o.uponIn F n P a K Q r → o.uponIn (F.inRound l) n P a K' Q r
  | .ok (.value v) w', h => hk _ _ h
  | .ok .skip w', h => hk _ _ h
  | .ok (.defer d) w', h => hk _ _ h
  | .ok (.enter f args) w', h => ⟨h.1, h.2.mono fun e w q => by
      cases e with
      | returned v => exact hk _ _ q
      | panicked c => exact q
      | outgrown => exact q⟩
  | .ok (.row row args) w', h => ⟨h.1, h.2.mono fun v w q => hk _ _ q⟩
  | .ok (.round l f tmps assign body) w', h => ⟨h.1, h.2.mono fun e w q => by
      cases e with
      | returned v => exact hk _ _ q
      | panicked c => exact q
      | outgrown => exact q⟩
  | .halt (.panic v) w', h => h

theorem wpAnyIn_round {F : Fence} {n l : Nat} {P : Program} {md : Region.Mode} {ops : Array Oper} {Q : Exit → Act → World → Prop} (hro : F.round = none) (hnd : ∀ (i : Nat) (o : Oper), ops[i]? = some o → ∀ c, o.op ≠ Op.defer c) :
    ∀ (fuel : Nat) (listed : Array Bool) (a : Act) (w : World), wpAnyIn F n P md ops Q fuel listed a w → wpAnyIn (F.inRound l) n P md ops Q fuel listed a w
  | 0, _, _, _, h => h
  | fuel + 1, listed, a, w, h => ⟨h.1, fun i hi => by
    have h2 := h.2 i hi
    have ih := fun a w => wpAnyIn_round (n := n) (P := P) (md := md) (Q := Q) (l := l) hro hnd fuel (listed.setIfInBounds i true) a w
    unfold wpOpIn at h2 ⊢
    cases ho : ops[i]? with
    | none =>
      rw [ho] at h2
      exact ih _ _ h2
    | some o =>
      rw [ho] at h2
      simp only at h2 ⊢
      by_cases hw : Region.wanted o (yielded ops a.tmps) = true
      · rw [if_pos hw] at h2 ⊢
        refine ⟨h2.1, ?_⟩
        have h3 := h2.2
        rw [hro, Oper.semAt_none] at h3
        rw [Oper.semAt_eq _ _ _ (hnd i o ho)]
        exact uponIn_round ih _ h3
      · rw [if_neg hw] at h2 ⊢
        exact ⟨h2.1, ih _ _ h2.2⟩⟩
/-- a region that only reads, in a round: one walk serves every order. -/
theorem wpIn_quiet_round {F : Fence} {n lp id : Nat} {P : Program} {Q : Exit → Act → World → Prop} {a : Act} {w : World} {l : List Oper} (hro : F.round = none) (hm : P.follows .mixedOrders = true) (hB : Region.lexB .any l.toArray = true)
    (hnd : (l.all fun (o : Oper) => match o.op with | .defer _ => false | _ => true) = true)
    (h : wpQuietIn F n P l.toArray (fun w' => ∃ n, w' = w.drewN n) (fun a' => ∀ w', (∃ n, w' = w.drewN n) → Q .normal a' w') l a) : (Code.region id l.toArray true).wpIn (F.inRound lp) n P Q a w := by
  simp only [Region.lexB, Bool.and_eq_true] at hB
  refine wpIn_region_any hm (wpAnyIn_round hro (fun i o ho c hc => ?_) _ _ _ _ (wpAnyIn_of_quiet (C := fun w' => ∃ n, w' = w.drewN n) (Q := fun a' => ∀ w', (∃ n, w' = w.drewN n) → Q .normal a' w') hro (fun _ w' hw' h => h w' hw') _ _ _ _ ⟨1, rfl⟩ ?_))
  · have hm : o ∈ l := by
      have := Array.mem_of_getElem? ho
      simpa using this
    have := List.all_eq_true.1 hnd o hm
    rw [hc] at this
    simp at this
  · have := wpAnyQIn_lex (F := F) (n := n) (P := P) (C := fun w' => ∃ n, w' = w.drewN n) (md := .any) hB.1 l 0 (Array.replicate l.toArray.size false) a (by simp) (by simpa using hB.2) h
    simpa using this

theorem rowsIn_of {n : Nat} {P : Program} {row : String} {args : Array Value} {w : World} {R : Value → World → Prop} (h : Rows P row args w R) : RowsIn Fence.wide n P row args w R :=
  fun c cs _ => let ⟨v, w', r, s⟩ := h c cs; ⟨v, w', r, stepsIn_wide.2 s⟩
theorem uponIn_of {n l : Nat} {P : Program} {o : Oper} {a : Act} {K K' : Act → World → Prop} {Q : Exit → Act → World → Prop} (hk : ∀ a w, K a w → K' a w) : ∀ r : Result Next, o.upon P a K Q r → o.uponIn (Fence.wide.inRound l) n P a K' Q r
  | .ok (.value v) w', h => hk _ _ h
  | .ok .skip w', h => hk _ _ h
  | .ok (.defer d) w', h => hk _ _ h
  | .ok (.enter f args) w', h => ⟨fun h => absurd h (by simp [Fence.wide]), (callsIn_wide.2 h).mono fun e w q => by
      cases e with
      | returned v => exact hk _ _ q
      | panicked c => exact q
      | outgrown => exact q⟩
  | .ok (.row row args) w', h => ⟨fun h => absurd h (by simp [Fence.wide]), (rowsIn_of h).mono fun v w q => hk _ _ q⟩
  | .halt (.panic v) w', h => h
theorem wpAnyIn_of_plain {n l : Nat} {P : Program} {md : Region.Mode} {ops : Array Oper} {Q : Exit → Act → World → Prop} (hlet : ¬ LetsOut Q) (hnd : ∀ (i : Nat) (o : Oper), ops[i]? = some o → ∀ c, o.op ≠ Op.defer c) :
    ∀ (fuel : Nat) (listed : Array Bool) (a : Act) (w : World), wpAny P md ops Q fuel listed a w → wpAnyIn (Fence.wide.inRound l) n P md ops Q fuel listed a w
  | 0, _, _, _, h => h
  | fuel + 1, listed, a, w, h => ⟨h.1, fun i hi => by
    have h2 := h.2 i hi
    have ih := fun a w => wpAnyIn_of_plain (n := n) (P := P) (md := md) (Q := Q) (l := l) hlet hnd fuel (listed.setIfInBounds i true) a w
    unfold wpOp at h2
    unfold wpOpIn
    cases ho : ops[i]? with
    | none =>
      rw [ho] at h2
      exact ih _ _ h2
    | some o =>
      rw [ho] at h2
      simp only at h2 ⊢
      by_cases hw : Region.wanted o (yielded ops a.tmps) = true
      · rw [if_pos hw] at h2 ⊢
        refine ⟨fun _ _ => trivial, ?_⟩
        rcases h2 with h3 | h3
        · rw [Oper.semAt_eq _ _ _ (hnd i o ho)]
          exact uponIn_of ih _ h3
        · exact absurd h3.2 hlet
      · rw [if_neg hw] at h2 ⊢
        exact ⟨fun _ _ => trivial, ih _ _ h2⟩⟩
/-- a region in a round, an operation first that S settles. -/
theorem wpIn_held_round {n lp id : Nat} {P : Program} {Q : Exit → Act → World → Prop} {a : Act} {w : World} {l : List Oper} (S : World → Prop) (hm : P.follows .mixedOrders = true) (hlet : ¬ LetsOut Q)
    (hnd : (l.all fun (o : Oper) => match o.op with | .defer _ => false | _ => true) = true) (hS : S w.drew)
    (h : S w.drew → wpAnyH P .any l.toArray Q S l.toArray.size (Array.replicate l.toArray.size false) a w.drew) : (Code.region id l.toArray true).wpIn (Fence.wide.inRound lp) n P Q a w := by
  refine wpIn_region_any hm (wpAnyIn_of_plain hlet (fun i o ho c hc => ?_) _ _ _ _ (wpAny_of_held _ _ _ _ (h hS)))
  have hm : o ∈ l := by
    have := Array.mem_of_getElem? ho
    simpa using this
  have := List.all_eq_true.1 hnd o hm
  rw [hc] at this
  simp at this

/-- marks of ranges left behind one another. -/
def mkD (D : Nat) : Deferred := { target := .collected D, args := #[] }
def OpenD (B : Nat) (w : World) (Ds : List Nat) : Prop := Ds.Nodup ∧ ∀ D ∈ Ds, B ≤ D ∧ w.heap[D]? = some (.deferred (some []))
theorem OpenD.nil (B : Nat) (w : World) : OpenD B w [] := ⟨List.Pairwise.nil, fun D h => by cases h⟩
theorem OpenD.above {B : Nat} {w w' : World} {Ds : List Nat} (h : OpenD B w Ds) (hb : Above B w w') : OpenD B w' Ds := ⟨h.1, fun D hD => by
  obtain ⟨h1, h2⟩ := h.2 D hD
  exact ⟨h1, (hb.2 D h1 (Array.getElem?_eq_some_iff.1 h2).1).trans h2⟩⟩
theorem OpenD.below {B : Nat} {w w' : World} {Ds : List Nat} (h : OpenD B w Ds) (hb : Below w.heap.size w w') : OpenD B w' Ds := h.above (Above.below hb)
theorem OpenD.lt {B : Nat} {w : World} {Ds : List Nat} (h : OpenD B w Ds) : ∀ D ∈ Ds, D < w.heap.size := fun D hD => (Array.getElem?_eq_some_iff.1 (h.2 D hD).2).1
theorem OpenD.set {B : Nat} {w : World} {Ds : List Nat} (h : OpenD B w Ds) {a : Addr} {v : Value} (hc : w.cell? a = some v) (u : Value) : OpenD B (w.setCell a u) Ds := ⟨h.1, fun D hD => by
  obtain ⟨h1, h2⟩ := h.2 D hD
  refine ⟨h1, (Below.heap_setCell _ _ _ _ (fun e => ?_)).trans h2⟩
  subst e
  simp [World.cell?, h2] at hc⟩
theorem OpenD.snoc {B : Nat} {w : World} {Ds : List Nat} (h : OpenD B w Ds) {D : Nat} (hD : B ≤ D) (hn : D ∉ Ds) (he : w.heap[D]? = some (.deferred (some []))) : OpenD B w (D :: Ds) := ⟨List.pairwise_cons.2 ⟨fun x hx e => hn (e ▸ hx), h.1⟩, fun x hx => by
  rcases List.mem_cons.1 hx with rfl | hx
  · exact ⟨hD, he⟩
  · exact h.2 x hx⟩
theorem leavesD {F : Fence} {n : Nat} {P : Program} {fn : Func} {tmps : Array Value} {R : Ending → World → Prop} (B : Nat) : ∀ (Ds : List Nat) (w : World), B ≤ w.heap.size → OpenD B w Ds →
    (∀ w', Below B w w' → LeavesInM F n P fn tmps R [] .returning w') → LeavesInM F n P fn tmps R (Ds.map mkD) .returning w
  | [], w, _, _, h => h w (Below.refl _ _)
  | D :: Ds, w, hBw, ho, h => by
    obtain ⟨hD, he⟩ := ho.2 D (by simp)
    have hnd := List.pairwise_cons.1 ho.1
    have hg := grownBy_putObj' w D (.deferred none)
    have hb : Below B w (w.putObj D (.deferred none)) := (Below.refl B w).grown hg hBw (fun k e => by cases e; exact hD)
    refine ⟨by simp, .inl ⟨D, _, rfl, run_takeDeferred he, ?_⟩⟩
    refine leavesD B Ds _ (Nat.le_trans hBw hb.size) ⟨hnd.2, fun x hx => ?_⟩ (fun w' hb' => h w' (hb.trans hb'))
    obtain ⟨h1, h2⟩ := ho.2 x (List.mem_cons_of_mem _ hx)
    exact ⟨h1, (World.putObj_heap_other (fun e => hnd.1 x hx (by rw [e]))).trans h2⟩
end Go.Proofs.Ytohkkebiilaniaa.Tp

/- Heaps: which of two items goes ahead: the call again, whose draws are not taken back: what a sort asks for. -/
namespace Go.Proofs.Ytohkkebiilaniaa.Dr
set_option linter.unusedVariables false
open Go.RowKit
theorem Below.grow {W W' : World} (h : Below W.heap.size W W') : ∃ q os, W' = Go.Sort.grow (W.drewN q) os := by
  refine ⟨W'.drawn - W.drawn, W'.heap.extract W.heap.size W'.heap.size, ?_⟩
  have h1 : W.heap ++ W'.heap.extract W.heap.size W'.heap.size = W'.heap := by
    apply Array.ext_getElem?
    intro k
    by_cases hk : k < W.heap.size
    · rw [Array.getElem?_append_left hk, h.block k hk]
    · rw [Array.getElem?_append_right (by omega), Array.getElem?_extract]
      have := h.size
      by_cases hk2 : k < W'.heap.size
      · rw [if_pos (by omega)]
        congr 1
        omega
      · rw [if_neg (by omega), Array.getElem?_eq_none (by omega)]
  have h2 : W.drawn + (W'.drawn - W.drawn) = W'.drawn := by have := h.drawn; omega
  have h3 := h.os; have h4 := h.tape; have h5 := h.output
  unfold Go.Sort.grow World.drewN
  rw [h2]
  show W' = { W with heap := W.heap ++ W'.heap.extract W.heap.size W'.heap.size, drawn := W'.drawn }
  rw [h1, ← h3, ← h4, ← h5]
end Go.Proofs.Ytohkkebiilaniaa.Dr
namespace Go.Proofs.Ytohkkebiilaniaa.Hp
open Go.RowKit Go.Maps Go.Proofs.Ytohkkebiilaniaa.Tp
theorem cmp_dr (x d y e : Int) (h0 : -9223372036854775808 ≤ x) (h1 : x ≤ 9223372036854775807) (h2 : -9223372036854775808 ≤ d) (h3 : d ≤ 9223372036854775807) (k0 : -9223372036854775808 ≤ y) (k1 : y ≤ 9223372036854775807) (k2 : -9223372036854775808 ≤ e) (k3 : e ≤ 9223372036854775807) (w : World) :
    Calls Try.prog 36 #[.agg #[.int .i64 x, .int .i64 d], .agg #[.int .i64 y, .int .i64 e]] w fun E w' => E = .returned (.tuple #[.int .i64 (cmpR x d y e).1, .int .i64 (cmpR x d y e).2]) ∧ Dr.Below w.heap.size w w' := Dr.cmp_any x d y e h0 h1 h2 h3 k0 k1 k2 k3 w

set_option maxHeartbeats 1000000 in
theorem inTurn_dr (x y : It) (hx : OkI x) (hy : OkI y) (w : World) :
    Calls Try.prog 20 #[.agg #[.int .i64 (iD x), .int .i64 (kN x), .int .i64 (kD x), .int .i64 (tN x)], .agg #[.int .i64 (iD y), .int .i64 (kN y), .int .i64 (kD y), .int .i64 (tN y)]] w fun e w' => e = .returned (.int .i64 (turnZ x y)) ∧ Dr.Below w.heap.size w w' := by
  have c1 := hidd (fun W => cmp_dr (kN x) (kD x) (kN y) (kD y) hx.n0 hx.n1 hx.d0 hx.d1 hy.n0 hy.n1 hy.d0 hy.d1 W)
  have e1 : cmpR (kN x) (kD x) (kN y) (kD y) = (ordZ (kN x * kD y) (kN y * kD x), 0) := by simp [cmpR, hx.r, hy.r]
  rw [e1] at c1
  have c2 := hidd (fun a b W => Try.cmp_Compare_int a b W)
  have c3 := hidd (fun b c a d r hr W => or2_any b c a d r hr W)
  have hR : Hid (turnZ x y = if ordZ (kN x * kD y) (kN y * kD x) = 0 then Lib.compareInt (tN x) (tN y) else ordZ (kN x * kD y) (kN y * kD x)) := rfl
  clear e1 hx hy
  generalize turnZ x y = R at *
  generalize ordZ (kN x * kD y) (kN y * kD x) = z at *
  generalize iD x = a0 at *
  generalize kN x = a1 at *
  generalize kD x = a2 at *
  generalize tN x = a3 at *
  generalize iD y = b0 at *
  generalize kN y = b1 at *
  generalize kD y = b2 at *
  generalize tN y = b3 at *
  go_enter Try.func20, Try.ntmps20
  go_wp2_with fail
  refine (c1.out _).mono ?_
  rintro E w1 ⟨rfl, hb⟩
  obtain ⟨bc, bf⟩ := Dr.bcell hb
  have z2 : w.heap.size + 1 < w1.heap.size := by have := hb.size; simp at this; omega
  go_wp2_with fail
  refine (c2.out _ _ _).mono ?_
  rintro E w2 ⟨rfl, rfl⟩
  go_wp2_with fail
  refine (c3.out _ 2 z (Lib.compareInt a3 b3) R hR.out _ (by simp [go_sem]) (by simp [go_sem])).mono ?_
  rintro E w3 ⟨rfl, rfl⟩
  go_wp2_with fail
  go_ret
  exact ⟨rfl, by (repeat' (first | (with_reducible exact Dr.Below.refl _ _) | (with_reducible assumption) | (with_reducible apply Dr.Below.setCell) | (with_reducible apply Dr.Below.alloc) | (with_reducible apply Dr.Below.drew) | (with_reducible apply Dr.below_drewN) | (with_reducible refine Dr.Below.trans ?_ (Dr.Below.mono (by assumption) ?_)) | omega | (simp; done) | (simp; omega)))⟩
end Go.Proofs.Ytohkkebiilaniaa.Hp

/- Heaps: the library's sort puts items in order. -/
namespace Go.Proofs.Ytohkkebiilaniaa.Hp
set_option linter.unusedVariables false
open Go.RowKit Go.Maps Go.Shelf Go.Sort Go.Lib Go.Proofs.Ytohkkebiilaniaa.Tp

/-- items that may be. -/
abbrev IO : Type := { x : It // OkI x }
def ioI (x : IO) : It := x.1
theorem okI0 : OkI (0, 0, 1, 0) := ⟨by decide, by decide, by decide, by decide, by decide, by decide, by decide, by decide, by decide⟩
instance : Inhabited IO := ⟨⟨(0, 0, 1, 0), okI0⟩⟩
def ioV (x : IO) : List Value := itV x.1
theorem ioV_len (x : IO) : (ioV x).length = 4 := rfl
def ioC (x y : IO) : Int := turnZ x.1 y.1
theorem ioC_lt (x y : IO) : ltOf ioC x y = decide (Lt x.1 y.1) := by
  unfold ltOf ioC
  rw [decide_eq_decide]
  exact turnZ_lt x.1 y.1
theorem ioO : SWO (ltOf ioC) where
  irrefl x := by rw [ioC_lt]; simpa using lt_irrefl x.1
  trans x y z h1 h2 := by
    rw [ioC_lt] at *
    simp at *
    exact lt_of_lt_of_le x.2.pos y.2.pos z.2.pos h1 (le_of_lt h2)
  ntrans x y z h1 h2 := by
    rw [ioC_lt] at *
    simp at *
    exact le_trans z.2.pos y.2.pos x.2.pos h2 h1
theorem ioLays (blk off size : Nat) (w : World) : CmpLays Try.prog 20 #[] ioV 4 ioC blk off size w := fun m os dk hs x y =>
  (inTurn_dr x.1 y.1 x.2 y.2 _).mono fun e w' ⟨he, hb⟩ => ⟨he, hb.grow⟩
/-- the items of a list, as items that may be. -/
def toIO (L : List It) (h : OkL L) : List IO := L.attach.map fun x => ⟨x.1, h x.1 x.2⟩
theorem toIO_val (L : List It) (h : OkL L) : (toIO L h).map ioI = L := by
  unfold toIO
  rw [List.map_map]
  exact List.attach_map_subtype_val L
theorem toIO_len (L : List It) (h : OkL L) : (toIO L h).length = L.length := by simp [toIO]
theorem row_io (X : List IO) : rowOf ioV X = rowOf itV (X.map ioI) := by
  unfold rowOf
  rw [List.flatMap_map]
  rfl
theorem flat_io (d : Array IO) : (flatK ioV 4 d).toList = rowOf ioV d.toList := by
  apply List.ext_getElem?
  intro t
  have hl : (rowOf ioV d.toList).length = d.size * 4 := by rw [row_len ioV_len]; simp
  by_cases ht : t < d.size * 4
  · have h1 : t / 4 < d.size := by omega
    have e1 := row_at ioV_len d.toList (t / 4) d[t / 4] (by simp [h1])
    have e2 : t / 4 * 4 + t % 4 = t := by omega
    have h2 : t % 4 < (ioV d[t / 4]).length := by rw [ioV_len]; omega
    have e3 := e1 (t % 4) (ioV d[t / 4])[t % 4] (by simp [h2])
    rw [e2] at e3
    rw [e3, Array.getElem?_toList, Array.getElem?_eq_getElem (by simpa using ht)]
    have := get_flatK ioV 4 d t ht
    rw [getElem!_pos _ t (by simpa using ht), getElem!_pos d (t / 4) h1, getElem!_pos (ioV d[t / 4]) (t % 4) h2] at this
    rw [this]
  · rw [List.getElem?_eq_none (by simp; omega), List.getElem?_eq_none (by omega)]
theorem holds_own {w : World} {g : Nat} {cur : Array Value} {e : TypeId} {L : List IO} (hb : w.heap[g]? = some (.cells cur e (0, 0))) (ht : cur.toList.take (L.length * 4) = rowOf ioV L) : HoldsK ioV 4 w g 0 L.toArray := by
  intro j hj
  have hj' : j < L.length * 4 := by simpa using hj
  refine ⟨?_, by simp [World.frozen?, hb]⟩
  have h1 : (cur.toList.take (L.length * 4))[j]? = (rowOf ioV L)[j]? := by rw [ht]
  rw [List.getElem?_take_of_lt hj'] at h1
  have h2 : (flatK ioV 4 L.toArray).toList[j]? = (rowOf ioV L)[j]? := by rw [flat_io]
  rw [Array.getElem?_toList, Array.getElem?_eq_getElem (by simpa using hj')] at h2
  simp only [World.cell?, hb, Nat.zero_add, Option.isSome_none, Bool.false_eq_true, if_false]
  rw [← Array.getElem?_toList, h1, ← h2, getElem!_pos _ j hj]
  rfl
theorem heap_sortedK {w : World} {g n : Nat} {os : Array Obj} {cur : Array Value} {e : TypeId} {fr : Nat × Nat} (d : Array IO) (hb : w.heap[g]? = some (.cells cur e fr)) :
    (sortWorldK ioV 4 w g 0 n d os).heap[g]? = some (.cells (putCells id 0 (flatK ioV 4 d) cur) e fr) := by
  have hg : g < w.heap.size := (Array.getElem?_eq_some_iff.1 hb).1
  unfold sortWorldK
  rw [heap_grow_old _ _ (by rw [size_putRowK]; simpa using hg)]
  simp [putRowK, putRow, mapBlock, Sort.ahead, Array.getElem?_modify, hb, onCells]
theorem grownBy_sortedK {w : World} {g n : Nat} {os : Array Obj} (d : Array IO) : w.grownBy (sortWorldK ioV 4 w g 0 n d os) (some g) := by
  refine ⟨rfl, rfl, rfl, by unfold sortWorldK; simp [size_putRowK, Sort.ahead], fun k hk hne => ?_⟩
  unfold sortWorldK
  rw [heap_grow_old _ _ (by rw [size_putRowK]; simpa using hk)]
  have : g ≠ k := fun e => hne (by rw [e])
  simp [putRowK, putRow, mapBlock, Sort.ahead, Array.getElem?_modify, this]
theorem take_putK (cur F : Array Value) (h : F.size ≤ cur.size) : (putCells id 0 F cur).toList.take F.size = F.toList := by
  apply List.ext_getElem?
  intro j
  by_cases hj : j < F.size
  · rw [List.getElem?_take_of_lt hj, Array.getElem?_toList]
    simp [putCells, hj, show j < cur.size by omega]
  · rw [List.getElem?_take_eq_none (by omega), List.getElem?_eq_none (by simp; omega)]
theorem own_io {w : World} {base : Nat} {e : TypeId} {v : Value} {X : List IO} : OwnL ioV 4 w base e v X ↔ OwnL itV 4 w base e v (X.map ioI) := by
  unfold OwnL
  rw [row_io, List.length_map]
theorem own_sortedIO {w : World} {base g cap n : Nat} {e : TypeId} {os : Array Obj} {X : List IO} (h : OwnL ioV 4 w base e (.slice (some ⟨g, 0, none⟩) X.length cap) X) (d' : Array IO) (hd : d'.toList.length = X.length) :
    OwnL ioV 4 (sortWorldK ioV 4 w g 0 n d' os) base e (.slice (some ⟨g, 0, none⟩) X.length cap) d'.toList := by
  have hs : d'.size = X.length := by rw [← hd]; simp
  obtain ⟨h0, h1⟩ := h
  rcases h1 with ⟨hv, _⟩ | ⟨g', cap', cur, hv, hb, hh, hn, hm, hc, ht⟩
  · cases hv
  cases hv
  refine ⟨by rw [row_len ioV_len], .inr ⟨g, cap, _, by rw [hd], hb, heap_sortedK d' hh, by omega, hm, by simp [putCells, hc], ?_⟩⟩
  have e1 : d'.toList.length * 4 = (flatK ioV 4 d').size := by rw [size_flatK, hs, hd]
  rw [e1, take_putK _ _ (by rw [size_flatK, hs, hc]; exact Nat.mul_le_mul_right 4 hn), flat_io]
theorem own_holdsIO {w : World} {base g cap : Nat} {e : TypeId} {X : List IO} (h : OwnL ioV 4 w base e (.slice (some ⟨g, 0, none⟩) X.length cap) X) : HoldsK ioV 4 w g 0 X.toArray ∧ g < w.heap.size := by
  obtain ⟨_, h1⟩ := h
  rcases h1 with ⟨hv, _⟩ | ⟨g', cap', cur, hv, hb, hh, hn, hm, hc, ht⟩
  · cases hv
  cases hv
  exact ⟨holds_own hh ht, (Array.getElem?_eq_some_iff.1 hh).1⟩
/-- in order. -/
def Srt (L : List It) : Prop := L.Pairwise Le
theorem sortsItems (g cap base : Nat) (L : List It) (hok : OkL L) (W : World) (hL : L.length < 4611686018427387904) (hO : OwnL itV 4 W base 37 (.slice (some ⟨g, 0, none⟩) L.length cap) L) :
    Calls Try.prog 45 #[.slice (some ⟨g, 0, none⟩) L.length cap, .func (.func 20) #[] #[]] W fun e w' =>
      e = .returned (.tuple #[]) ∧ (∃ G, G.Perm L ∧ Srt G ∧ OwnL itV 4 w' base 37 (.slice (some ⟨g, 0, none⟩) G.length cap) G) ∧ W.grownBy w' (some g) := by
  have hX := own_io.2 (show OwnL itV 4 W base 37 (.slice (some ⟨g, 0, none⟩) (toIO L hok).length cap) ((toIO L hok).map ioI) from by rw [toIO_val, toIO_len]; exact hO)
  obtain ⟨hH, hb⟩ := own_holdsIO hX
  have eg : ∀ args w, (callFunc 20 args).run Try.prog w = .ok (.enter 20 args) w := enters_of Try.func20 (by kernel_rfl) rfl
  have h := AnyQ.slices_SortFunc Try.sortItem0 4 Try.isAgg37 Try.sizeOf37 ioV ioV_len (fun x => itV_one x.1) ioC ioO 20 #[] g 0 cap (toIO L hok).toArray W eg (ioLays g 0 (toIO L hok).toArray.size W) hH hb (by simp [toIO_len]; omega)
  change Calls Try.prog 45 _ _ _ at h
  rw [List.size_toArray, toIO_len] at h
  refine h.mono ?_
  rintro e w' ⟨rfl, d', n, os, hp, hs, rfl⟩
  have hperm : d'.toList.Perm (toIO L hok) := by
    have h1 := hp.2.2
    have e0 := hp.1
    simp [toIO_len] at h1 e0
    rw [List.take_of_length_le (by simp; omega), List.take_of_length_le (by rw [toIO_len]; exact Nat.le_refl _)] at h1
    exact h1
  have hl : d'.toList.length = (toIO L hok).length := hperm.length_eq
  refine ⟨rfl, ⟨d'.toList.map ioI, ?_, ?_, ?_⟩, grownBy_sortedK d'⟩
  · have := hperm.map ioI
    rwa [toIO_val] at this
  · unfold Srt
    rw [List.pairwise_map, List.pairwise_iff_getElem]
    intro i j hi hj hij
    have hj' : j < L.length := by rw [hl, toIO_len] at hj; exact hj
    have := hs i j (Nat.zero_le _) hij hj'
    rw [ioC_lt] at this
    simp at hi hj
    rw [getElem!_pos d' j hj, getElem!_pos d' i hi] at this
    simpa [Le, ioI] using this
  · have := own_io.1 (own_sortedIO (n := n) (os := os) hX d' hl)
    rw [List.length_map, hl]
    exact this
end Go.Proofs.Ytohkkebiilaniaa.Hp

/- Heaps: going over the items as they lie. -/
namespace Go.Proofs.Ytohkkebiilaniaa.Hp
set_option linter.unusedVariables false
open Go.RowKit Go.Maps Go.Sort Go.Shelf Go.Proofs.Ytohkkebiilaniaa.Tp
attribute [local go_sem] Oper.semAt_some

theorem Lie.it4 {w : World} {B : Nat} {A : Option Addr} {l : List It} (h : Lie itV 4 w B A l) (i : Nat) (hi : i < l.length) :
    ∃ ad, A = some ad ∧ (ad.add (i * 4)).block < B ∧ w.cell? (ad.add (i * 4)) = some (.int .i64 (iD (gI l i))) ∧ w.cell? ⟨(ad.add (i * 4)).block, (ad.add (i * 4)).off + 1, none⟩ = some (.int .i64 (kN (gI l i))) ∧ w.cell? ⟨(ad.add (i * 4)).block, (ad.add (i * 4)).off + 1 + 1, none⟩ = some (.int .i64 (kD (gI l i))) ∧ w.cell? ⟨(ad.add (i * 4)).block, (ad.add (i * 4)).off + 1 + 1 + 1, none⟩ = some (.int .i64 (tN (gI l i))) := by
  obtain ⟨ad, e, hB, hc⟩ := h (by omega)
  have hx : l[i]? = some l[i] := List.getElem?_eq_getElem hi
  rw [gI_at hi]
  have h0 := hc i _ hx 0 _ rfl
  have h1 := hc i _ hx 1 _ rfl
  have h2 := hc i _ hx 2 _ rfl
  have h3 := hc i _ hx 3 _ rfl
  rw [← add_of_add] at h1 h2 h3
  exact ⟨ad, e, by rw [block_of_add]; exact hB, h0, h1, h2, h3⟩
theorem take_oneI {L : List It} {k : Nat} (h : k < L.length) : L.take (k + 1) = L.take k ++ [gI L k] := by
  rw [gI_at h, List.take_succ_eq_append_getElem h]
set_option maxRecDepth 100000 in
set_option maxHeartbeats 4000000 in
theorem each1_some (n : Nat) (hn : 1 ≤ n) (q h mb : Nat) (v : Value) (L : List It) (T : Int) (D : DataW Unit) (w0 w : World) (H : HpAt w0 h mb v L T D) (hl : L.length ≤ 1000000) (hq : q < w0.heap.size) (hc : w0.cell? ⟨q, 0, none⟩ = some (.pointer (some ⟨h, 0, none⟩))) (hw : Below w0.heap.size w0 w) :
    SeqStopsK Fence.wide n Try.prog 46 #[.pointer (some ⟨q, 0, none⟩)] (fun x : It => #[agI x]) (Below w0.heap.size) (fun xs => xs = L) (fun pre => pre <+: L) L.length w := by
  intro l J Jx W hW hJ hJx hY h0
  have hB0 : Below w0.heap.size w0 W := hw.trans (hW.mono hw.size)
  obtain ⟨A, c, hv, hlc, hcm, hA⟩ := OwnL.lie H.own itV_len
  have FAC := hidd (fun W' (b : Below w0.heap.size w0 W') => (show W'.cell? ⟨q, 0, none⟩ = some (.pointer (some ⟨h, 0, none⟩)) ∧ W'.cell? ⟨h, 1, none⟩ = some v ∧ Lie itV 4 W' w0.heap.size A L from ⟨(b.cell (p := ⟨q, 0, none⟩) hq).trans hc, (b.cell (p := ⟨h, 1, none⟩) H.lt).trans H.c1, hA.keep b⟩))
  have ci := hidd (len_any W (H.below hB0))
  have HB0 := hidd hB0
  have HJ := hidd hJ
  have HY := hidd hY
  have H0 := hidd h0
  obtain ⟨PO, hPO⟩ : ∃ PO : Ending → World → Prop, (fun (e : Ending) (W' : World) => (∃ v, e = .returned v) ∧ ((∃ xs, xs = L ∧ J xs W') ∨ ∃ pre, pre <+: L ∧ Jx pre W')) = PO := ⟨_, rfl⟩
  rw [hPO]
  have HYES : Hid (∀ v W', J L W' → PO (.returned v) W') := hidd (fun v W' h => by rw [← hPO]; exact ⟨⟨_, rfl⟩, .inl ⟨_, rfl, h⟩⟩)
  have HNO : Hid (∀ v pre W', pre <+: L → Jx pre W' → PO (.returned v) W') := hidd (fun v pre W' h h2 => by rw [← hPO]; exact ⟨⟨_, rfl⟩, .inr ⟨_, h, h2⟩⟩)
  clear hW hJ hJx hY h0 hc hw hB0 hA H hPO hq
  subst hv
  obtain ⟨g0, g1, _⟩ := FAC.out W HB0.out
  refine callsIn_of_wp Try.func46 rfl trivial ?_ rfl
  simp only [Try.ntmps46, List.size_toArray, List.length_cons, List.length_nil, Nat.reduceAdd, Nat.reduceSub, Array.replicate_succ, Array.replicate_zero, List.push_toArray, List.append_toArray, List.nil_append, List.cons_append]
  refine wpIn_wide.2 ?_
  go_wp2_with fail
  refine ci.out.mono ?_
  rintro e w' ⟨rfl, rfl⟩
  clear g0 g1
  go_wp2_with fail
  refine (wpIn_wide (n := n)).1 ?_
  gi_loopw [6] (fun s6 wr => ∃ k : Nat, k ≤ L.length ∧ s6 = .int .i64 (k : Int) ∧ J (L.take k) wr ∧ Below w0.heap.size w0 wr) (fun s6 _ => L.length - (intOf s6).toNat)
  case atStart => exact ⟨0, Nat.zero_le _, rfl, by simpa using H0.out, HB0.out⟩
  case round =>
    obtain ⟨k, hk, rfl, hJk, hbk⟩ := hrel
    have HJK := hidd hJk
    have HBK := hidd hbk
    clear hJk hbk
    obtain ⟨g0, g1, hL⟩ := FAC.out wr HBK.out
    by_cases hlt : k < L.length
    · have hlt2 : (k : Int) < (L.length : Int) := by omega
      have hk0 : (0 : Int) ≤ (k : Int) := by omega
      obtain ⟨ad, rfl, hadb, hc0, hc1, hc2, hc3⟩ := Lie.it4 hL k hlt
      have htk := hidd (take_oneI hlt)
      have hlk : (L.take k).length < L.length := by rw [List.length_take]; omega
      obtain ⟨fn, tmps, assign, body, hy, hR⟩ := HY.out (L.take k) (gI L k) wr HJK.out hlk
      clear hlk hL
      unfold agI at hy
      generalize hgx : gI L k = x at *
      generalize iD x = a0 at *
      generalize kN x = a1 at *
      generalize kD x = a2 at *
      generalize tN x = a3 at *
      gi_wp2_with fail
      refine hR.mono ?_
      rintro e W4 (⟨rfl, hJ4, hk4⟩ | ⟨rfl, hJx⟩)
      · have HJ4 : Hid (J (L.take (k + 1)) W4) := hidd (by rw [htk.out]; exact hJ4)
        have HB4 := hidd (HBK.out.trans hk4)
        clear hJ4 hk4 hy hR hc0 hc1 hc2 hc3 g0 g1
        gi_wp2
        go_roundw
        case rel => exact ⟨k + 1, by omega, by go_num, HJ4.out, HB4.out⟩
        case measure => simp [intOf]; omega
      · have HJx : Hid (Jx (L.take (k + 1)) W4) := hidd (by rw [htk.out]; exact hJx)
        clear hJx hy hR hc0 hc1 hc2 hc3 g0 g1
        gi_wp2
        have hfin := fun v => HNO.out v _ _ (List.take_prefix _ _) HJx.out
        (try rw [Exit.noGoto_ret])
        first | exact hfin _ | exact bodyPost_ret (results_none rfl _ _ _) rfl (hfin _)
    · have hlt2 : ¬ (k : Int) < (L.length : Int) := by omega
      have he : Hid (L.take k = L) := hidd (List.take_of_length_le (by omega))
      gi_wp2
      have hfin : ∀ v, PO (.returned v) wr := fun v => HYES.out v _ (by rw [← he.out]; exact HJK.out)
      first | exact hfin _ | exact ⟨rfl, _, results_none rfl _ _ _, hfin _⟩ | (go_end0; exact hfin _)
end Go.Proofs.Ytohkkebiilaniaa.Hp

