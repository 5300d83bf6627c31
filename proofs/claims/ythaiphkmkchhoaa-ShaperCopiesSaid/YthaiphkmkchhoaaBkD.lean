/- Buckets: a range over a function whose rounds write older memory alone, and never leave; the iterator over both kinds. -/
import Derived.Test.YthaiphkmkchhoaaBkC
import Derived.Test.YthaiphkmkchhoaaHqB
import Derived.OwnWalkIn
import Derived.TacticsInMore
import Derived.LoopNIn
import Derived.LoopIn
namespace Go.Proofs.Ythaiphkmkchhoaa
open Go.RowKit
set_option linter.unusedVariables false
section
variable {F : Fence} {n : Nat} {P : Program}
/-- the word of an iterator that lies in newer memory than what the rounds write. -/
def SeqN {α : Type} (F : Fence) (n : Nat) (P : Program) (g : Nat) (lb : Array Value) (encs : α → Array Value) (G : α → Prop) (S : List α → Prop) (w : World) : Prop :=
  ∀ (l : Nat) (J : List α → World → Prop) (W : World), Below w.heap.size w W → l < W.heap.size →
    (∀ s X Y, J s X → Below W.heap.size X Y → J s Y) →
    (∀ pre x X, W.heap.size ≤ X.heap.size → G x → J pre X → YieldAt F (n - 1) P l (encs x) X fun e Y => Tp.Above W.heap.size X Y ∧ e = .returned (.bool true) ∧ J (pre ++ [x]) Y) →
    J [] W → CallsIn F n P g (#[.func (.yield l) #[] #[]] ++ lb) W fun e Y => (∃ v, e = .returned v) ∧ ∃ xs, S xs ∧ J xs Y
def roundEndN {α : Type} (B : Nat) (I : List α → World → Prop) (xs : List α) (W : World) : Exit → Act → World → Prop
  | .normal, _, Y => Tp.Above B W Y ∧ I xs Y
  | _, _, _ => False
theorem wpIn_rangeFunc_N {α : Type} {g : Operand} {ps : Array Tmp} {assign body : Code} {Q : Exit → Act → World → Prop} {a : Act} {w : World}
    (hro : F.round = none) (h1 : 1 ≤ n) {gf : Nat} {lb : Array Value} (hg : a.eval g = .func (.func gf) #[] lb) (hFg : F.fn gf) (eg : ∀ args w, (callFunc gf args).run P w = .ok (.enter gf args) w)
    {encs : α → Array Value} {G : α → Prop} {S : List α → Prop} (hseq : SeqN F (n - 1) P gf lb encs G S w) (hps : ∀ x, (encs x).size = ps.size)
    (I : List α → World → Prop) (hI : ∀ s X Y, I s X → Below w.heap.size X Y → I s Y) (h0 : I [] w) (a₁ : α → Act)
    (hassign : ∀ (l : Nat) (x : α) (W : World) (K : Act → World → Prop), K (a₁ x) W →
      assign.wpIn (F.inRound l) (n - 1 - 1) P (Exit.then K (fun _ _ _ => False)) { tmps := (ps.zip (encs x)).foldl (fun t (p, v) => t.setIfInBounds p v) a.tmps, defers := [] } W)
    (hbody : ∀ (l : Nat) (pre : List α) (x : α) (W : World), G x → I pre W → w.heap.size ≤ W.heap.size → body.wpIn (F.inRound l) (n - 1 - 1) P (roundEndN w.heap.size I (pre ++ [x]) W) (a₁ x) W)
    (hdone : ∀ (D : Nat) (xs : List α) (W : World), w.heap.size ≤ D → S xs → I xs W → W.heap[D]? = some (.deferred (some [])) → Q .normal { a with defers := { target := .collected D, args := #[] } :: a.defers } W) :
    (Code.rangeFunc g ps assign body).wpIn F n P Q a w := by
  refine wpIn_rangeFunc fun fn hfn => ?_
  rw [hro]
  let B := w.heap.size
  let R : LoopState → Option Code → Loop := fun s j => { state := s, pending := j, fn, tmps := a.tmps, params := ps, assign, body, defers := B }
  let V := (w.alloc (.deferred (some []))).alloc (.loop (R .ready none))
  have sV : V.heap.size = B + 2 := by simp [V, B]
  have lV : V.heap[B + 1]? = some (.loop (R .ready none)) := by
    have h := World.alloc_heap_new (w.alloc (.deferred (some []))) (.loop (R .ready none))
    rw [World.size_alloc] at h
    exact h
  have dV : V.heap[B]? = some (.deferred (some [])) := (Below.heap_alloc _ _ _ (by simp [B])).trans (World.alloc_heap_new w _)
  have bV : Below B w V := ((Below.refl _ w).alloc (Nat.le_refl _) _).alloc (by simp) _
  have iV : I [] V := hI _ _ _ h0 bV
  let J : List α → World → Prop := fun pre Y => I pre Y ∧ Y.heap[B + 1]? = some (.loop (R .ready none)) ∧ Y.heap[B]? = some (.deferred (some []))
  refine ⟨B + 1, [{ target := .collected B, args := #[] }], V, { target := .fn (.func gf) lb, args := #[.func (.yield (B + 1)) #[] #[]] }, V, gf, #[.func (.yield (B + 1)) #[] #[]] ++ lb, V,
    run_enterLoop_outer _ _ _ _ _, by simp only [resolve, hg]; simp [go_sem], fun f' hf' => by simp [Target.leads] at hf'; subst hf'; exact hFg, by simp [invoke, go_sem, eg], fun _ => h1, ?_⟩
  refine (hseq (B + 1) J V bV (by omega) ?_ ?_ ⟨iV, lV, dV⟩).mono ?_
  · rintro pre X Y ⟨hi, hl, hd⟩ hb
    exact ⟨hI _ _ _ hi (hb.mono (by omega)), (hb.block _ (by omega)).trans hl, (hb.block _ (by omega)).trans hd⟩
  · rintro pre x Y hVY hG ⟨hi, hl, hd⟩
    have hlt : B + 1 < Y.heap.size := by omega
    refine ⟨fn, _, assign, body, run_yield (P := P) (args := encs x) hl (hps x), roundIn_of_wpIn hfn (hassign _ x Y _ ?_)⟩
    refine ⟨_, run_beginRound hl rfl, ?_⟩
    have l2 : (Y.putObj (B + 1) (.loop { R .ready none with state := .busy })).heap[B + 1]? = some (.loop { R .ready none with state := .busy }) := World.putObj_heap_same hlt
    have d2 : (Y.putObj (B + 1) (.loop { R .ready none with state := .busy })).heap[B]? = some (.deferred (some [])) := (World.putObj_heap_other (by omega)).trans hd
    have s2 : (Y.putObj (B + 1) (.loop { R .ready none with state := .busy })).heap.size = Y.heap.size := by simp [World.putObj]
    have a2 : Tp.Above V.heap.size Y (Y.putObj (B + 1) (.loop { R .ready none with state := .busy })) := Tp.Above.put _ _ (by omega)
    have lt2 := (Array.getElem?_eq_some_iff.1 l2).1
    refine wpIn_mono (hbody _ pre x _ hG (hI _ _ _ hi (Tp.putBelow _ _ (by omega))) (by simp [World.putObj]; omega)) ?_
    rintro e a3 Z hZ
    cases e with
    | normal =>
      obtain ⟨hk, hi3⟩ := hZ
      have l3 := (hk.2 _ (Nat.le_succ _) lt2).trans l2
      have d3 := (hk.2 _ (Nat.le_refl _) (Nat.lt_of_succ_lt lt2)).trans d2
      exact ⟨_, _, run_endRound (P := P) none l3, a2.trans ((hk.more (by omega)).trans (Tp.Above.put _ _ (by omega))), rfl, hI _ _ _ hi3 (Tp.putBelow _ _ (by omega)), World.putObj_heap_same (Array.getElem?_eq_some_iff.1 l3).1, (World.putObj_heap_other (by omega)).trans d3⟩
    | _ => exact hZ.elim
  · rintro e Y ⟨⟨v, rfl⟩, xs, hS, hi, hl, hd⟩
    exact ⟨none, _, run_endLoop (P := P) hl (by simp [R]), hdone B _ _ (Nat.le_refl _) hS (hI _ _ _ hi (Tp.putBelow _ _ (by omega))) ((World.putObj_heap_other (by omega)).trans hd)⟩
end
attribute [local go_sem] Oper.semAt_some
set_option maxRecDepth 100000 in
theorem kidx0 (a b c d e f : Value) (w : World) : (Instr.index 112 (.agg #[a, b, c, d, e, f]) (.int .i64 0)).run Try.prog w = .ok (.agg #[a, b, c]) w := by
  first | rfl | kernel_rfl
set_option maxRecDepth 100000 in
theorem kidx1 (a b c d e f : Value) (w : World) : (Instr.index 112 (.agg #[a, b, c, d, e, f]) (.int .i64 1)).run Try.prog w = .ok (.agg #[d, e, f]) w := by
  first | rfl | kernel_rfl
/-- the i-th kind, and what is told of it. -/
def kindV (p r u m : Int) (s : BM.St) (i : Nat) : Value := if i = 0 then .agg #[.int .i64 s.2.1, .int .i64 u, .int .i64 r] else .agg #[.int .i64 s.2.2, .int .i64 m, .int .i64 p]
def kindE (p r u m : Int) (s : BM.St) (i : Nat) : Array Value := #[.int .i64 (i : Int), .func (.func 57) #[kindV p r u m s i] #[]]
set_option maxHeartbeats 2000000 in
theorem both1_in (n : Nat) (hn : 1 ≤ n) (k : Nat) (p r u m : Int) (s : BM.St) (w : World) (hk : KindsAt w k p r u m s) :
    SeqN Fence.wide n Try.prog 56 #[.pointer (some ⟨k, 0, none⟩)] (kindE p r u m s) (fun i => i < 2) (fun xs => xs = [0, 1]) w := by
  intro l J W hbW hlW hJb hY hJ0
  have hlt : k < w.heap.size := (Array.getElem?_eq_some_iff.1 hk).1
  have hkW : W.heap[k]? = some (.cells #[.int .i64 s.2.1, .int .i64 u, .int .i64 r, .int .i64 s.2.2, .int .i64 m, .int .i64 p] 112 (0, 0)) := (hbW.block k hlt).trans hk
  have c0 : W.cell? ⟨k, 0, none⟩ = some (.int .i64 s.2.1) := by simp [World.cell?, hkW]
  have c1 : W.cell? ⟨k, 1, none⟩ = some (.int .i64 u) := by simp [World.cell?, hkW]
  have c2 : W.cell? ⟨k, 2, none⟩ = some (.int .i64 r) := by simp [World.cell?, hkW]
  have c3 : W.cell? ⟨k, 3, none⟩ = some (.int .i64 s.2.2) := by simp [World.cell?, hkW]
  have c4 : W.cell? ⟨k, 4, none⟩ = some (.int .i64 m) := by simp [World.cell?, hkW]
  have c5 : W.cell? ⟨k, 5, none⟩ = some (.int .i64 p) := by simp [World.cell?, hkW]
  have HJB := hidd hJb
  have HY := hidd hY
  have HJ0 := hidd hJ0
  have Y0 : Hid (∀ X : World, W.heap.size ≤ X.heap.size → J [] X → YieldAt Fence.wide (n - 1) Try.prog l #[.int .i64 0, .func (.func 57) #[.agg #[.int .i64 s.2.1, .int .i64 u, .int .i64 r]] #[]] X fun e Y => Tp.Above W.heap.size X Y ∧ e = .returned (.bool true) ∧ J [0] Y) := hidd (fun X h1 h2 => hY [] 0 X h1 (by omega) h2)
  have Y1 : Hid (∀ X : World, W.heap.size ≤ X.heap.size → J [0] X → YieldAt Fence.wide (n - 1) Try.prog l #[.int .i64 1, .func (.func 57) #[.agg #[.int .i64 s.2.2, .int .i64 m, .int .i64 p]] #[]] X fun e Y => Tp.Above W.heap.size X Y ∧ e = .returned (.bool true) ∧ J [0, 1] Y) := hidd (fun X h1 h2 => hY [0] 1 X h1 (by omega) h2)
  clear hbW hJb hY hJ0 hk hkW
  refine callsIn_of_wp Try.func56 rfl trivial ?_ rfl
  simp only [Try.ntmps56, List.size_toArray, List.length_cons, List.length_nil, Nat.reduceAdd, Nat.reduceSub, Array.replicate_succ, Array.replicate_zero, List.push_toArray, List.append_toArray, List.nil_append, List.cons_append]
  have i0 := kidx0 (.int .i64 s.2.1) (.int .i64 u) (.int .i64 r) (.int .i64 s.2.2) (.int .i64 m) (.int .i64 p)
  have i1 := kidx1 (.int .i64 s.2.1) (.int .i64 u) (.int .i64 r) (.int .i64 s.2.2) (.int .i64 m) (.int .i64 p)
  gi_wp2
  gi_loopw [6] (fun i wr => ∃ q : Nat, q ≤ 2 ∧ i = .int .i64 q ∧ W.heap.size ≤ wr.heap.size ∧ J ([0, 1].take q) wr) (fun i _ => 2 - (intOf i).toNat)
  case atStart => exact ⟨0, by omega, rfl, Nat.le_refl _, HJ0.out⟩
  case round =>
    obtain ⟨q, hq, rfl, hsz, hJq⟩ := hrel
    rcases (show q = 0 ∨ q = 1 ∨ q = 2 by omega) with rfl | rfl | rfl
    · have hA : J [] (wr.alloc (.cells #[.int .i64 s.2.1, .int .i64 u, .int .i64 r] 111)) := HJB.out _ _ _ hJq ((Below.refl _ _).alloc hsz _)
      obtain ⟨fn, tmps, assign, body, hy, hR⟩ := Y0.out _ (by simp; omega) hA
      clear hJq hA
      gi_wp2
      refine hR.mono ?_
      rintro e W3 ⟨hab, rfl, hJ3⟩
      have hs3 := hab.1
      gi_wp2
      go_roundw
      case rel => exact ⟨1, by omega, by simp, by simp at hs3; omega, hJ3⟩
      case measure => simp [intOf]
    · have hA : J [0] (wr.alloc (.cells #[.int .i64 s.2.2, .int .i64 m, .int .i64 p] 111)) := HJB.out _ _ _ hJq ((Below.refl _ _).alloc hsz _)
      obtain ⟨fn, tmps, assign, body, hy, hR⟩ := Y1.out _ (by simp; omega) hA
      clear hJq hA
      gi_wp2
      refine hR.mono ?_
      rintro e W3 ⟨hab, rfl, hJ3⟩
      have hs3 := hab.1
      gi_wp2
      go_roundw
      case rel => exact ⟨2, by omega, by simp, by simp at hs3; omega, hJ3⟩
      case measure => simp [intOf]
    · gi_wp2
      go_end0
      exact ⟨⟨_, rfl⟩, [0, 1], rfl, hJq⟩
end Go.Proofs.Ythaiphkmkchhoaa
