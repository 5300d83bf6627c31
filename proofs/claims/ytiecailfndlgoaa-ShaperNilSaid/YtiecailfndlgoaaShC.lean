/- Shapers: going over a list of packets: the iterator, and the law of a range over it whose rounds may write anything but the list and may leave. -/
import Derived.Test.YtiecailfndlgoaaShB
import Derived.Test.YtiecailfndlgoaaBkD
import Derived.RangeFuncNested
import Derived.RangeFuncBound
import Derived.RangeFuncCalls
import Derived.RangeFuncLeaves
import Derived.RangeFuncBox
import Derived.OwnWalkIn
import Derived.TacticsInMore
import Derived.LoopNIn
import Derived.LoopIn
namespace Go.Proofs.Ytiecailfndlgoaa
open Go.RowKit
set_option linter.unusedVariables false
section
variable {F : Fence} {n : Nat} {P : Program}
/-- the iterator's word: whatever the rounds keep that tells where the list lies (Rd). -/
def SeqV {α : Type} (F : Fence) (n : Nat) (P : Program) (g : Nat) (lb : Array Value) (encs : α → Array Value) (L : List α) (Rd : World → Prop) : Prop :=
  ∀ (l : Nat) (J Jx : Nat → World → Prop) (W : World),
    (∀ k X, J k X → Rd X) → (∀ k X o, J k X → J k (X.alloc o)) →
    (∀ k X, (hk : k < L.length) → J k X → YieldAt F (n - 1) P l (encs L[k]) X fun e Y => (e = .returned (.bool true) ∧ J (k + 1) Y) ∨ (e = .returned (.bool false) ∧ Jx k Y)) →
    J 0 W → CallsIn F n P g (#[.func (.yield l) #[] #[]] ++ lb) W fun e Y => (∃ v, e = .returned v) ∧ (J L.length Y ∨ ∃ k, k < L.length ∧ Jx k Y)
/-- two worlds, but for the range's own two blocks. -/
structure Rng (B : Nat) (X Y : World) : Prop where
  os : Y.os = X.os
  tape : Y.tape = X.tape
  output : Y.output = X.output
  size : X.heap.size ≤ Y.heap.size
  block : ∀ j, j < X.heap.size → j ≠ B → j ≠ B + 1 → Y.heap[j]? = X.heap[j]?
theorem Rng.put (B : Nat) (X : World) (o : Obj) : Rng B X (X.putObj (B + 1) o) := ⟨rfl, rfl, rfl, by simp [World.putObj], fun j _ _ h => World.putObj_heap_other h⟩
theorem Rng.alloc (B : Nat) (X : World) (o : Obj) : Rng B X (X.alloc o) := ⟨rfl, rfl, rfl, by simp, fun j hj _ _ => Below.heap_alloc _ _ _ hj⟩
def roundEndV (B : Nat) (I : Nat → World → Prop) (X : Code → Nat → World → Prop) (k : Nat) (W : World) : Exit → Act → World → Prop
  | .normal, _, Y => Y.heap[B]? = W.heap[B]? ∧ Y.heap[B + 1]? = W.heap[B + 1]? ∧ I (k + 1) Y
  | .exit i, _, Y => Y.heap[B]? = W.heap[B]? ∧ Y.heap[B + 1]? = W.heap[B + 1]? ∧ X (.exit i) k Y
  | _, _, _ => False
theorem wpIn_rangeFunc_V {α : Type} {g : Operand} {ps : Array Tmp} {assign body : Code} {Q : Exit → Act → World → Prop} {a : Act} {w : World}
    (hro : F.round = none) (h1 : 1 ≤ n) {gf : Nat} {lb : Array Value} (hg : a.eval g = .func (.func gf) #[] lb) (hFg : F.fn gf) (eg : ∀ args w, (callFunc gf args).run P w = .ok (.enter gf args) w)
    {encs : α → Array Value} {L : List α} {Rd : World → Prop} (hseq : SeqV F (n - 1) P gf lb encs L Rd) (hps : ∀ x, (encs x).size = ps.size)
    (I : Nat → World → Prop) (X : Code → Nat → World → Prop) (hRd : ∀ k W, I k W → Rd W) (hI : ∀ k W Y, I k W → Rng w.heap.size W Y → I k Y) (hX : ∀ c k W Y, X c k W → Rng w.heap.size W Y → X c k Y) (h0 : I 0 w) (ob : α → Obj) (a₁ : α → Nat → Act)
    (hassign : ∀ (l k : Nat) (x : α) (W : World) (K : Act → World → Prop), I k W → K (a₁ x W.heap.size) (W.alloc (ob x)) →
      assign.wpIn (F.inRound l) (n - 1 - 1) P (Exit.then K (fun _ _ _ => False)) { tmps := (ps.zip (encs x)).foldl (fun t (p, v) => t.setIfInBounds p v) a.tmps, defers := [] } W)
    (hbody : ∀ (l k q : Nat) (W : World), (hk : k < L.length) → w.heap.size + 2 ≤ q → W.heap[q]? = some (ob L[k]) → I k W → body.wpIn (F.inRound l) (n - 1 - 1) P (roundEndV w.heap.size I X k W) (a₁ L[k] q) W)
    (hdone : ∀ (D : Nat) (W : World), D = w.heap.size → I L.length W → W.heap[D]? = some (.deferred (some [])) → Q .normal { a with defers := { target := .collected D, args := #[] } :: a.defers } W)
    (hstop : ∀ (D : Nat) (c : Code) (k : Nat) (W : World), D = w.heap.size → k < L.length → X c k W → W.heap[D]? = some (.deferred (some [])) → c.wpIn F n P Q { a with defers := { target := .collected D, args := #[] } :: a.defers } W) :
    (Code.rangeFunc g ps assign body).wpIn F n P Q a w := by
  refine wpIn_rangeFunc fun fn hfn => ?_
  rw [hro]
  let B := w.heap.size
  let R : LoopState → Option Code → Loop := fun s j => { state := s, pending := j, fn, tmps := a.tmps, params := ps, assign, body, defers := B }
  let V := (w.alloc (.deferred (some []))).alloc (.loop (R .ready none))
  have sV : V.heap.size = B + 2 := by simp [V, B]
  have lV : V.heap[B + 1]? = some (.loop (R .ready none)) := by
    have h := World.alloc_heap_new (w.alloc (.deferred (some []))) (.loop (R .ready none))
    rw [World.size_alloc] at h
    exact h
  have dV : V.heap[B]? = some (.deferred (some [])) := (Below.heap_alloc _ _ _ (by simp [B])).trans (World.alloc_heap_new w _)
  have iV : I 0 V := hI _ _ _ (hI _ _ _ h0 (Rng.alloc _ _ _)) (Rng.alloc _ _ _)
  let J : Nat → World → Prop := fun k Y => I k Y ∧ Y.heap[B + 1]? = some (.loop (R .ready none)) ∧ Y.heap[B]? = some (.deferred (some []))
  let Jx : Nat → World → Prop := fun k Y => ∃ c, X c k Y ∧ Y.heap[B + 1]? = some (.loop (R .done (some c))) ∧ Y.heap[B]? = some (.deferred (some []))
  refine ⟨B + 1, [{ target := .collected B, args := #[] }], V, { target := .fn (.func gf) lb, args := #[.func (.yield (B + 1)) #[] #[]] }, V, gf, #[.func (.yield (B + 1)) #[] #[]] ++ lb, V,
    run_enterLoop_outer _ _ _ _ _, by simp only [resolve, hg]; simp [go_sem], fun f' hf' => by simp [Target.leads] at hf'; subst hf'; exact hFg, by simp [invoke, go_sem, eg], fun _ => h1, ?_⟩
  refine (hseq (B + 1) J Jx V (fun k Y h => hRd k Y h.1) ?_ ?_ ⟨iV, lV, dV⟩).mono ?_
  · rintro k Y o ⟨hi, hl, hd⟩
    have hlt : B + 1 < Y.heap.size := (Array.getElem?_eq_some_iff.1 hl).1
    exact ⟨hI _ _ _ hi (Rng.alloc _ _ _), (Below.heap_alloc _ _ _ hlt).trans hl, (Below.heap_alloc _ _ _ (by omega)).trans hd⟩
  · rintro k Y hk ⟨hi, hl, hd⟩
    have hlt : B + 1 < Y.heap.size := (Array.getElem?_eq_some_iff.1 hl).1
    have hlq : (Y.alloc (ob L[k])).heap[B + 1]? = some (.loop (R .ready none)) := (Below.heap_alloc _ _ _ hlt).trans hl
    have hdq : (Y.alloc (ob L[k])).heap[B]? = some (.deferred (some [])) := (Below.heap_alloc _ _ _ (by omega)).trans hd
    have hiq := hI _ _ _ hi (Rng.alloc w.heap.size Y (ob L[k]))
    have szq : (Y.alloc (ob L[k])).heap.size = Y.heap.size + 1 := by simp
    have hxq : (Y.alloc (ob L[k])).heap[Y.heap.size]? = some (ob L[k]) := World.alloc_heap_new Y _
    refine ⟨fn, _, assign, body, run_yield (P := P) (args := encs L[k]) hl (hps _), roundIn_of_wpIn hfn (hassign _ k L[k] Y _ hi ⟨_, run_beginRound hlq rfl, ?_⟩)⟩
    generalize Y.alloc (ob L[k]) = Y' at *
    have hltq : B + 1 < Y'.heap.size := by omega
    have l2 : (Y'.putObj (B + 1) (.loop { R .ready none with state := .busy })).heap[B + 1]? = some (.loop { R .ready none with state := .busy }) := World.putObj_heap_same hltq
    have d2 : (Y'.putObj (B + 1) (.loop { R .ready none with state := .busy })).heap[B]? = some (.deferred (some [])) := (World.putObj_heap_other (by omega)).trans hdq
    refine wpIn_mono (hbody _ k Y.heap.size _ hk (by show B + 2 ≤ _; omega) ((World.putObj_heap_other (by omega)).trans hxq) (hI _ _ _ hiq (Rng.put _ _ _))) ?_
    rintro e a3 Z hZ
    cases e with
    | normal =>
      obtain ⟨hk0, hk1, hi3⟩ := hZ
      have l3 := hk1.trans l2
      have d3 := hk0.trans d2
      exact ⟨_, _, run_endRound (P := P) none l3, .inl ⟨rfl, hI _ _ _ hi3 (Rng.put _ _ _), World.putObj_heap_same (Array.getElem?_eq_some_iff.1 l3).1, (World.putObj_heap_other (by omega)).trans d3⟩⟩
    | exit i =>
      obtain ⟨hk0, hk1, hx⟩ := hZ
      have l3 := hk1.trans l2
      have d3 := hk0.trans d2
      exact ⟨_, _, run_endRound (P := P) (some (.exit i)) l3, .inr ⟨rfl, .exit i, hX _ _ _ _ hx (Rng.put _ _ _), World.putObj_heap_same (Array.getElem?_eq_some_iff.1 l3).1, (World.putObj_heap_other (by omega)).trans d3⟩⟩
    | _ => exact hZ.elim
  · rintro e Y ⟨⟨v, rfl⟩, (⟨hi, hl, hd⟩ | ⟨k, hk, c, hx, hl, hd⟩)⟩
    · exact ⟨none, _, run_endLoop (P := P) hl (by simp [R]), hdone B _ rfl (hI _ _ _ hi (Rng.put _ _ _)) ((World.putObj_heap_other (by omega)).trans hd)⟩
    · exact ⟨some c, _, run_endLoop (P := P) hl (by simp [R]), hstop B c k _ rfl hk (hX _ _ _ _ hx (Rng.put _ _ _)) ((World.putObj_heap_other (by omega)).trans hd)⟩
end
attribute [local go_sem] Oper.semAt_some
/-- a packet as an argument. -/
def agW (x : Int × Int) : Value := .agg #[.int .i64 x.1, .int .i64 x.2]
/-- a slice in a box, and the list where it says. -/
def LiesAt (q : Nat) (A : Option Addr) (c : Nat) (L : List (Int × Int)) (W : World) : Prop := W.cell? ⟨q, 0, none⟩ = some (.slice A L.length c) ∧ Lie sendV 2 W W.heap.size A L
theorem LiesAt.alloc {q : Nat} {A : Option Addr} {c : Nat} {L : List (Int × Int)} {W : World} (h : LiesAt q A c L W) (o : Obj) : LiesAt q A c L (W.alloc o) := by
  have hq := World.block_lt_of_cell? W _ h.1
  have hb : Below W.heap.size W (W.alloc o) := (Below.refl _ _).alloc (Nat.le_refl _) _
  exact ⟨(hb.cell (p := ⟨q, 0, none⟩) hq).trans h.1, h.2.below hb⟩
theorem waitVals_any (A : Option Addr) (n c : Nat) (w : World) : Calls Try.prog 45 #[.slice A n c] w fun e w' => e = .returned (.func (.func 57) #[] #[.pointer (some ⟨w.heap.size, 0, none⟩)]) ∧ w' = w.alloc (.cells #[.slice A n c] 33) := by
  have hmf : ∀ (fn : Fn) (first cap : Array Value) (w : World), (Instr.makeFunc fn first cap).run Try.prog w = .ok (.func fn first cap) w := fun _ _ _ _ => rfl
  go_enter Try.func45, Try.ntmps45
  go_wp2
  go_ret
  exact ⟨rfl, rfl⟩
set_option maxRecDepth 100000 in
set_option maxHeartbeats 4000000 in
theorem vals1_in (n : Nat) (hn : 1 ≤ n) (q : Nat) (A : Option Addr) (c : Nat) (L : List (Int × Int)) (hL : L.length ≤ 1000000000) :
    SeqV Fence.wide n Try.prog 57 #[.pointer (some ⟨q, 0, none⟩)] (fun x : Int × Int => #[agW x]) L (LiesAt q A c L) := by
  intro l J Jx W hJR hJA hY h0
  have HR := hidd hJR
  have HA := hidd hJA
  have HY := hidd hY
  have H0 := hidd h0
  obtain ⟨PO, hPO⟩ : ∃ PO : Ending → World → Prop, (fun (e : Ending) (Y : World) => (∃ v, e = .returned v) ∧ (J L.length Y ∨ ∃ k, k < L.length ∧ Jx k Y)) = PO := ⟨_, rfl⟩
  rw [hPO]
  have HYES : Hid (∀ v Y, J L.length Y → PO (.returned v) Y) := hidd (fun v Y h => by rw [← hPO]; exact ⟨⟨_, rfl⟩, .inl h⟩)
  have HNO : Hid (∀ v k Y, k < L.length → Jx k Y → PO (.returned v) Y) := hidd (fun v k Y h h2 => by rw [← hPO]; exact ⟨⟨_, rfl⟩, .inr ⟨_, h, h2⟩⟩)
  have g0 := (hJR 0 W h0).1
  clear hJR hJA hY h0 hPO
  refine callsIn_of_wp Try.func57 rfl trivial ?_ rfl
  simp only [Try.ntmps57, List.size_toArray, List.length_cons, List.length_nil, Nat.reduceAdd, Nat.reduceSub, Array.replicate_succ, Array.replicate_zero, List.push_toArray, List.append_toArray, List.nil_append, List.cons_append]
  refine wpIn_wide.2 ?_
  go_wp2_with fail
  clear g0
  refine (wpIn_wide (n := n)).1 ?_
  gi_loopw [7] (fun s7 wr => ∃ k : Nat, k ≤ L.length ∧ s7 = .int .i64 (k : Int) ∧ J k wr) (fun s7 _ => L.length - (intOf s7).toNat)
  case atStart => exact ⟨0, Nat.zero_le _, rfl, H0.out⟩
  case round =>
    obtain ⟨k, hk, rfl, hJk⟩ := hrel
    have HJK := hidd hJk
    have hLL := (HR.out k wr hJk).2
    clear hJk
    by_cases hlt : k < L.length
    · have hlt2 : (k : Int) < (L.length : Int) := by omega
      have hk0 : (0 : Int) ≤ (k : Int) := by omega
      obtain ⟨ad, rfl, hadb, hc0, hc1⟩ := hLL.send k hlt
      obtain ⟨Wb, hWb⟩ : ∃ Wb, wr.alloc (.cells #[.int .i64 L[k].1, .int .i64 L[k].2] 41) = Wb := ⟨_, rfl⟩
      have hJb : J k Wb := by rw [← hWb]; exact HA.out _ _ _ HJK.out
      obtain ⟨fn, tmps, assign, body, hy, hR⟩ := HY.out k Wb hlt hJb
      clear hLL hJb
      rw [← hWb] at hy
      unfold agW at hy
      have HW := hidd hWb
      clear hWb
      generalize L[k].1 = a0 at *
      generalize L[k].2 = a1 at *
      gi_wp2_with fail
      rw [HW.out]
      refine hR.mono ?_
      rintro e W4 (⟨rfl, hJ4⟩ | ⟨rfl, hJx⟩)
      · have HJ4 := hidd hJ4
        clear hJ4 hy hR hc0 hc1
        gi_wp2
        go_roundw
        case rel => exact ⟨k + 1, by omega, by go_num, HJ4.out⟩
        case measure => simp [intOf]; omega
      · have HJx := hidd hJx
        have HLT := hidd hlt
        clear hJx hy hR hc0 hc1
        gi_wp2
        have hfin := fun v => HNO.out v _ _ HLT.out HJx.out
        (try rw [Exit.noGoto_ret])
        first | exact hfin _ | exact bodyPost_ret (results_none rfl _ _ _) rfl (hfin _)
    · have hlt2 : ¬ (k : Int) < (L.length : Int) := by omega
      have he : Hid (k = L.length) := hidd (by omega)
      gi_wp2
      have hfin : ∀ v, PO (.returned v) wr := fun v => HYES.out v _ (by rw [← he.out]; exact HJK.out)
      first | exact hfin _ | exact ⟨rfl, _, results_none rfl _ _ _, hfin _⟩ | (go_end0; exact hfin _)
end Go.Proofs.Ytiecailfndlgoaa
