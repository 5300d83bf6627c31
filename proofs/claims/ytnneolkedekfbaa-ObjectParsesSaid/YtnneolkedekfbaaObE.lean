/- Objects: the face of a step, for each type that it tells. -/
import Derived.Test.YtnneolkedekfbaaObD
namespace Go.Proofs.Ytnneolkedekfbaa
set_option linter.unusedVariables false
open Go.RowKit

theorem catchB_panicking (p : Addr) (x k : Int) (older : List PanicEntry) (w : World) (hc : w.cell? p = some (.int .i64 x)) (hz : w.frozen? p = false) :
    CallsD Try.prog 34 #[.pointer (some p)] (.panicking ({ v := .iface 26 (.int .i64 k), recovered := false } :: older)) w fun e u' w' =>
      e = .returned (.tuple #[]) ∧ u' = .panicking ({ v := .iface 26 (.int .i64 k), recovered := true } :: older) ∧ w' = w.setCell p (.int .i64 k) := by
  refine callsD_of_wpS Try.func34 rfl fun c₀ cs hu => ?_
  apply wpS_seq
  apply wpS_region
  simp [wpOpsS, go_sem, recoverD, hu, Try.ntmps34, Exit.thenS]
  apply wpS_seq
  apply wpS_region
  simp [wpOpsS, go_sem, Exit.thenS]
  refine wpS_cond (t := true) (by simp [Act.eval, Array.replicate]) ?_
  simp only [if_true]
  apply wpS_region
  have hta : ∀ w, (Instr.typeAssert (.iface 26 (.int .i64 k)) 20 26 false).run Try.prog w = .ok (.int .i64 k) w := fun _ => by kernel_rfl
  simp [wpOpsS, go_sem, hc, hz, hta, bodyPostS, results, Try.results34]
theorem catchB_idle (p : Addr) (w : World) :
    CallsD Try.prog 34 #[.pointer (some p)] .returning w fun e u' w' => e = .returned (.tuple #[]) ∧ u' = .returning ∧ w' = w := by
  refine callsD_of_wpS Try.func34 rfl fun c₀ cs hu => ?_
  apply wpS_seq
  apply wpS_region
  simp [wpOpsS, go_sem, recoverD, hu, Try.ntmps34, Exit.thenS]
  apply wpS_seq
  apply wpS_region
  simp [wpOpsS, go_sem, Exit.thenS]
  refine wpS_cond (t := false) (by simp [Act.eval, Array.replicate]) ?_
  simp only [Bool.false_eq_true, if_false]
  refine wpS_of_wp (wp_skip ?_)
  cases c₀
  simp_all [bodyPostS, results, Try.results34]
def ToldB (w : World) (R : Value → World → Prop) (G : Int → Prop) (e : Ending) (w' : World) : Prop :=
  Below w.heap.size w w' ∧ ((∃ v, e = .returned (.tuple #[v, .int .i64 0]) ∧ R v w') ∨ (∃ k, e = .returned (.tuple #[.slice none 0 0, .int .i64 k]) ∧ G k))
set_option maxHeartbeats 2000000 in
theorem toldB_any (K : Nat) (he : ∀ args w, (callFunc K args).run Try.prog w = .ok (.enter K args) w) (cap : Array Value) (w : World) (R : Value → World → Prop) (G : Int → Prop)
    (hR : ∀ (v : Value) (X : World) (p : Addr) (u : Value), w.heap.size ≤ p.block → p.block < w.heap.size + 1 → R v X → R v (X.setCell p u))
    (cs : ∀ W, Below w.heap.size w W → W.heap.size = w.heap.size + 1 → Calls Try.prog K cap W fun e w' => Below W.heap.size W w' ∧ ((∃ v, e = .returned (v) ∧ R v w') ∨ (∃ k, e = errPanic k ∧ G k))) :
    Calls Try.prog 17 #[.func (Fn.func K) #[] cap] w (ToldB w R G) := by
  have CS := hidd cs
  have HR := hidd hR
  clear cs hR
  have hmf : ∀ (fn : Fn) (first cap : Array Value) (w : World), (Instr.makeFunc fn first cap).run Try.prog w = .ok (.func fn first cap) w := fun _ _ _ _ => rfl
  go_enter_defers Try.func17, Try.ntmps17
  go_wp2_with fail
  refine (CS.out _ (by (repeat' (first | (with_reducible exact Below.refl _ _) | (with_reducible assumption) | (with_reducible apply Below.setCell) | (with_reducible apply Below.alloc) | (with_reducible apply Below.drew) | (with_reducible apply below_drewN) | (with_reducible refine Below.trans ?_ (Below.mono (by assumption) ?_)) | omega | (simp; done) | (simp; omega)))) (by simp)).mono ?_
  rintro e w2 ⟨hb2, (⟨v, rfl, hr⟩ | ⟨k, rfl, hk⟩)⟩
  · have z1 : w.heap.size < w2.heap.size := by have := hb2.size; simp at this; omega
    have z0 : w.heap.size < w2.heap.size := by omega
    have HRR := hidd hr
    obtain ⟨hc, hf⟩ := bcell hb2
    have c2 : w2.cell? ⟨w.heap.size, 0, none⟩ = some (.int .i64 0) := by rw [hc _ _ (by (first | omega | (simp; done) | (simp; omega)))]; simp [go_sem]
    clear hr
    go_wp2_with fail
    refine leaves_cons (f := 34) (args := #[.pointer (some ⟨w.heap.size, 0, none⟩)]) (by simp) (by simp [go_sem]) ?_
    refine (catchB_idle ⟨w.heap.size, 0, none⟩ _).mono ?_
    rintro e u' w3 ⟨rfl, rfl, rfl⟩
    simp [Leaves, settle, results, Try.results17, go_sem, *]
    exact ⟨by (repeat' (first | (with_reducible exact Below.refl _ _) | (with_reducible assumption) | (with_reducible apply Below.setCell) | (with_reducible apply Below.alloc) | (with_reducible apply Below.drew) | (with_reducible apply below_drewN) | (with_reducible refine Below.trans ?_ (Below.mono (by assumption) ?_)) | omega | (simp; done) | (simp; omega))), .inl ⟨v, rfl, HR.out _ _ _ _ (by first | omega | simp) (by first | omega | simp) (HRR.out)⟩⟩
  · have z1 : w.heap.size < w2.heap.size := by have := hb2.size; simp at this; omega
    have z0 : w.heap.size < w2.heap.size := by omega
    have HK := hidd hk
    obtain ⟨hc, hf⟩ := bcell hb2
    clear hk
    go_wp2_with fail
    refine leaves_cons (f := 34) (args := #[.pointer (some ⟨w.heap.size, 0, none⟩)]) (by simp) (by simp [go_sem]) ?_
    refine (catchB_panicking ⟨w.heap.size, 0, none⟩ 0 k [] _ ?_ ?_).mono ?_
    · simp [go_sem, *]
    · simp [go_sem, *]
    rintro e u' w3 ⟨rfl, rfl, rfl⟩
    simp [Leaves, settle, results, Try.results17, go_sem, *]
    exact ⟨by (repeat' (first | (with_reducible exact Below.refl _ _) | (with_reducible assumption) | (with_reducible apply Below.setCell) | (with_reducible apply Below.alloc) | (with_reducible apply Below.drew) | (with_reducible apply below_drewN) | (with_reducible refine Below.trans ?_ (Below.mono (by assumption) ?_)) | omega | (simp; done) | (simp; omega))), .inr ⟨k, rfl, HK.out⟩⟩

theorem catchL_panicking (p : Addr) (x k : Int) (older : List PanicEntry) (w : World) (hc : w.cell? p = some (.int .i64 x)) (hz : w.frozen? p = false) :
    CallsD Try.prog 39 #[.pointer (some p)] (.panicking ({ v := .iface 26 (.int .i64 k), recovered := false } :: older)) w fun e u' w' =>
      e = .returned (.tuple #[]) ∧ u' = .panicking ({ v := .iface 26 (.int .i64 k), recovered := true } :: older) ∧ w' = w.setCell p (.int .i64 k) := by
  refine callsD_of_wpS Try.func39 rfl fun c₀ cs hu => ?_
  apply wpS_seq
  apply wpS_region
  simp [wpOpsS, go_sem, recoverD, hu, Try.ntmps39, Exit.thenS]
  apply wpS_seq
  apply wpS_region
  simp [wpOpsS, go_sem, Exit.thenS]
  refine wpS_cond (t := true) (by simp [Act.eval, Array.replicate]) ?_
  simp only [if_true]
  apply wpS_region
  have hta : ∀ w, (Instr.typeAssert (.iface 26 (.int .i64 k)) 20 26 false).run Try.prog w = .ok (.int .i64 k) w := fun _ => by kernel_rfl
  simp [wpOpsS, go_sem, hc, hz, hta, bodyPostS, results, Try.results39]
theorem catchL_idle (p : Addr) (w : World) :
    CallsD Try.prog 39 #[.pointer (some p)] .returning w fun e u' w' => e = .returned (.tuple #[]) ∧ u' = .returning ∧ w' = w := by
  refine callsD_of_wpS Try.func39 rfl fun c₀ cs hu => ?_
  apply wpS_seq
  apply wpS_region
  simp [wpOpsS, go_sem, recoverD, hu, Try.ntmps39, Exit.thenS]
  apply wpS_seq
  apply wpS_region
  simp [wpOpsS, go_sem, Exit.thenS]
  refine wpS_cond (t := false) (by simp [Act.eval, Array.replicate]) ?_
  simp only [Bool.false_eq_true, if_false]
  refine wpS_of_wp (wp_skip ?_)
  cases c₀
  simp_all [bodyPostS, results, Try.results39]
def ToldL (w : World) (R : Value → World → Prop) (G : Int → Prop) (e : Ending) (w' : World) : Prop :=
  Below w.heap.size w w' ∧ ((∃ v, e = .returned (.tuple #[v, .int .i64 0]) ∧ R v w') ∨ (∃ k, e = .returned (.tuple #[.slice none 0 0, .int .i64 k]) ∧ G k))
set_option maxHeartbeats 2000000 in
theorem toldL_any (K : Nat) (he : ∀ args w, (callFunc K args).run Try.prog w = .ok (.enter K args) w) (cap : Array Value) (w : World) (R : Value → World → Prop) (G : Int → Prop)
    (hR : ∀ (v : Value) (X : World) (p : Addr) (u : Value), w.heap.size ≤ p.block → p.block < w.heap.size + 1 → R v X → R v (X.setCell p u))
    (cs : ∀ W, Below w.heap.size w W → W.heap.size = w.heap.size + 1 → Calls Try.prog K cap W fun e w' => Below W.heap.size W w' ∧ ((∃ v, e = .returned (v) ∧ R v w') ∨ (∃ k, e = errPanic k ∧ G k))) :
    Calls Try.prog 24 #[.func (Fn.func K) #[] cap] w (ToldL w R G) := by
  have CS := hidd cs
  have HR := hidd hR
  clear cs hR
  have hmf : ∀ (fn : Fn) (first cap : Array Value) (w : World), (Instr.makeFunc fn first cap).run Try.prog w = .ok (.func fn first cap) w := fun _ _ _ _ => rfl
  go_enter_defers Try.func24, Try.ntmps24
  go_wp2_with fail
  refine (CS.out _ (by (repeat' (first | (with_reducible exact Below.refl _ _) | (with_reducible assumption) | (with_reducible apply Below.setCell) | (with_reducible apply Below.alloc) | (with_reducible apply Below.drew) | (with_reducible apply below_drewN) | (with_reducible refine Below.trans ?_ (Below.mono (by assumption) ?_)) | omega | (simp; done) | (simp; omega)))) (by simp)).mono ?_
  rintro e w2 ⟨hb2, (⟨v, rfl, hr⟩ | ⟨k, rfl, hk⟩)⟩
  · have z1 : w.heap.size < w2.heap.size := by have := hb2.size; simp at this; omega
    have z0 : w.heap.size < w2.heap.size := by omega
    have HRR := hidd hr
    obtain ⟨hc, hf⟩ := bcell hb2
    have c2 : w2.cell? ⟨w.heap.size, 0, none⟩ = some (.int .i64 0) := by rw [hc _ _ (by (first | omega | (simp; done) | (simp; omega)))]; simp [go_sem]
    clear hr
    go_wp2_with fail
    refine leaves_cons (f := 39) (args := #[.pointer (some ⟨w.heap.size, 0, none⟩)]) (by simp) (by simp [go_sem]) ?_
    refine (catchL_idle ⟨w.heap.size, 0, none⟩ _).mono ?_
    rintro e u' w3 ⟨rfl, rfl, rfl⟩
    simp [Leaves, settle, results, Try.results24, go_sem, *]
    exact ⟨by (repeat' (first | (with_reducible exact Below.refl _ _) | (with_reducible assumption) | (with_reducible apply Below.setCell) | (with_reducible apply Below.alloc) | (with_reducible apply Below.drew) | (with_reducible apply below_drewN) | (with_reducible refine Below.trans ?_ (Below.mono (by assumption) ?_)) | omega | (simp; done) | (simp; omega))), .inl ⟨v, rfl, HR.out _ _ _ _ (by first | omega | simp) (by first | omega | simp) (HRR.out)⟩⟩
  · have z1 : w.heap.size < w2.heap.size := by have := hb2.size; simp at this; omega
    have z0 : w.heap.size < w2.heap.size := by omega
    have HK := hidd hk
    obtain ⟨hc, hf⟩ := bcell hb2
    clear hk
    go_wp2_with fail
    refine leaves_cons (f := 39) (args := #[.pointer (some ⟨w.heap.size, 0, none⟩)]) (by simp) (by simp [go_sem]) ?_
    refine (catchL_panicking ⟨w.heap.size, 0, none⟩ 0 k [] _ ?_ ?_).mono ?_
    · simp [go_sem, *]
    · simp [go_sem, *]
    rintro e u' w3 ⟨rfl, rfl, rfl⟩
    simp [Leaves, settle, results, Try.results24, go_sem, *]
    exact ⟨by (repeat' (first | (with_reducible exact Below.refl _ _) | (with_reducible assumption) | (with_reducible apply Below.setCell) | (with_reducible apply Below.alloc) | (with_reducible apply Below.drew) | (with_reducible apply below_drewN) | (with_reducible refine Below.trans ?_ (Below.mono (by assumption) ?_)) | omega | (simp; done) | (simp; omega))), .inr ⟨k, rfl, HK.out⟩⟩

theorem catchO_panicking (p : Addr) (x k : Int) (older : List PanicEntry) (w : World) (hc : w.cell? p = some (.int .i64 x)) (hz : w.frozen? p = false) :
    CallsD Try.prog 61 #[.pointer (some p)] (.panicking ({ v := .iface 26 (.int .i64 k), recovered := false } :: older)) w fun e u' w' =>
      e = .returned (.tuple #[]) ∧ u' = .panicking ({ v := .iface 26 (.int .i64 k), recovered := true } :: older) ∧ w' = w.setCell p (.int .i64 k) := by
  refine callsD_of_wpS Try.func61 rfl fun c₀ cs hu => ?_
  apply wpS_seq
  apply wpS_region
  simp [wpOpsS, go_sem, recoverD, hu, Try.ntmps61, Exit.thenS]
  apply wpS_seq
  apply wpS_region
  simp [wpOpsS, go_sem, Exit.thenS]
  refine wpS_cond (t := true) (by simp [Act.eval, Array.replicate]) ?_
  simp only [if_true]
  apply wpS_region
  have hta : ∀ w, (Instr.typeAssert (.iface 26 (.int .i64 k)) 20 26 false).run Try.prog w = .ok (.int .i64 k) w := fun _ => by kernel_rfl
  simp [wpOpsS, go_sem, hc, hz, hta, bodyPostS, results, Try.results61]
theorem catchO_idle (p : Addr) (w : World) :
    CallsD Try.prog 61 #[.pointer (some p)] .returning w fun e u' w' => e = .returned (.tuple #[]) ∧ u' = .returning ∧ w' = w := by
  refine callsD_of_wpS Try.func61 rfl fun c₀ cs hu => ?_
  apply wpS_seq
  apply wpS_region
  simp [wpOpsS, go_sem, recoverD, hu, Try.ntmps61, Exit.thenS]
  apply wpS_seq
  apply wpS_region
  simp [wpOpsS, go_sem, Exit.thenS]
  refine wpS_cond (t := false) (by simp [Act.eval, Array.replicate]) ?_
  simp only [Bool.false_eq_true, if_false]
  refine wpS_of_wp (wp_skip ?_)
  cases c₀
  simp_all [bodyPostS, results, Try.results61]
def ToldO (w : World) (R : Int → Int → Option Addr → Nat → Nat → World → Prop) (G : Int → Prop) (e : Ending) (w' : World) : Prop :=
  Below w.heap.size w w' ∧ ((∃ a b A n c, e = .returned (.tuple #[.agg #[.int .i64 a, .int .i64 b, .slice A n c], .int .i64 0]) ∧ R a b A n c w') ∨ (∃ k, e = .returned (.tuple #[.agg #[.int .i64 0, .int .i64 0, .slice none 0 0], .int .i64 k]) ∧ G k))
set_option maxHeartbeats 2000000 in
theorem toldO_any (K : Nat) (he : ∀ args w, (callFunc K args).run Try.prog w = .ok (.enter K args) w) (cap : Array Value) (w : World) (R : Int → Int → Option Addr → Nat → Nat → World → Prop) (G : Int → Prop)
    (hR : ∀ (a b : Int) (A : Option Addr) (n c : Nat) (X : World) (p : Addr) (u : Value), w.heap.size ≤ p.block → p.block < w.heap.size + 2 → R a b A n c X → R a b A n c (X.setCell p u))
    (cs : ∀ W, Below w.heap.size w W → W.heap.size = w.heap.size + 2 → Calls Try.prog K cap W fun e w' => Below W.heap.size W w' ∧ ((∃ a b A n c, e = .returned (.agg #[.int .i64 a, .int .i64 b, .slice A n c]) ∧ R a b A n c w') ∨ (∃ k, e = errPanic k ∧ G k))) :
    Calls Try.prog 48 #[.func (Fn.func K) #[] cap] w (ToldO w R G) := by
  have CS := hidd cs
  have HR := hidd hR
  clear cs hR
  have hmf : ∀ (fn : Fn) (first cap : Array Value) (w : World), (Instr.makeFunc fn first cap).run Try.prog w = .ok (.func fn first cap) w := fun _ _ _ _ => rfl
  go_enter_defers Try.func48, Try.ntmps48
  go_wp2_with fail
  refine (CS.out _ (by (repeat' (first | (with_reducible exact Below.refl _ _) | (with_reducible assumption) | (with_reducible apply Below.setCell) | (with_reducible apply Below.alloc) | (with_reducible apply Below.drew) | (with_reducible apply below_drewN) | (with_reducible refine Below.trans ?_ (Below.mono (by assumption) ?_)) | omega | (simp; done) | (simp; omega)))) (by simp)).mono ?_
  rintro e w2 ⟨hb2, (⟨a, b, A, n, c, rfl, hr⟩ | ⟨k, rfl, hk⟩)⟩
  · have z1 : w.heap.size + 1 < w2.heap.size := by have := hb2.size; simp at this; omega
    have z0 : w.heap.size < w2.heap.size := by omega
    have HRR := hidd hr
    obtain ⟨hc, hf⟩ := bcell hb2
    have c10 : w2.cell? ⟨w.heap.size, 0, none⟩ = some (.int .i64 0) := by rw [hc _ _ (by (first | omega | (simp; done) | (simp; omega)))]; simp [go_sem]
    have c11 : w2.cell? ⟨w.heap.size, 1, none⟩ = some (.int .i64 0) := by rw [hc _ _ (by (first | omega | (simp; done) | (simp; omega)))]; simp [go_sem]
    have c12 : w2.cell? ⟨w.heap.size, 2, none⟩ = some (.slice none 0 0) := by rw [hc _ _ (by (first | omega | (simp; done) | (simp; omega)))]; simp [go_sem]
    have c2 : w2.cell? ⟨w.heap.size + 1, 0, none⟩ = some (.int .i64 0) := by rw [hc _ _ (by (first | omega | (simp; done) | (simp; omega)))]; simp [go_sem]
    clear hr
    go_wp2_with fail
    refine leaves_cons (f := 61) (args := #[.pointer (some ⟨w.heap.size + 1, 0, none⟩)]) (by simp) (by simp [go_sem]) ?_
    refine (catchO_idle ⟨w.heap.size + 1, 0, none⟩ _).mono ?_
    rintro e u' w3 ⟨rfl, rfl, rfl⟩
    simp [Leaves, settle, results, Try.results48, go_sem, *]
    exact ⟨by (repeat' (first | (with_reducible exact Below.refl _ _) | (with_reducible assumption) | (with_reducible apply Below.setCell) | (with_reducible apply Below.alloc) | (with_reducible apply Below.drew) | (with_reducible apply below_drewN) | (with_reducible refine Below.trans ?_ (Below.mono (by assumption) ?_)) | omega | (simp; done) | (simp; omega))), .inl ⟨a, b, A, n, c, rfl, HR.out _ _ _ _ _ _ _ _ (by first | omega | simp) (by first | omega | simp) (HR.out _ _ _ _ _ _ _ _ (by first | omega | simp) (by first | omega | simp) (HR.out _ _ _ _ _ _ _ _ (by first | omega | simp) (by first | omega | simp) (HR.out _ _ _ _ _ _ _ _ (by first | omega | simp) (by first | omega | simp) (HRR.out))))⟩⟩
  · have z1 : w.heap.size + 1 < w2.heap.size := by have := hb2.size; simp at this; omega
    have z0 : w.heap.size < w2.heap.size := by omega
    have HK := hidd hk
    obtain ⟨hc, hf⟩ := bcell hb2
    clear hk
    go_wp2_with fail
    refine leaves_cons (f := 61) (args := #[.pointer (some ⟨w.heap.size + 1, 0, none⟩)]) (by simp) (by simp [go_sem]) ?_
    refine (catchO_panicking ⟨w.heap.size + 1, 0, none⟩ 0 k [] _ ?_ ?_).mono ?_
    · simp [go_sem, *]
    · simp [go_sem, *]
    rintro e u' w3 ⟨rfl, rfl, rfl⟩
    simp [Leaves, settle, results, Try.results48, go_sem, *]
    exact ⟨by (repeat' (first | (with_reducible exact Below.refl _ _) | (with_reducible assumption) | (with_reducible apply Below.setCell) | (with_reducible apply Below.alloc) | (with_reducible apply Below.drew) | (with_reducible apply below_drewN) | (with_reducible refine Below.trans ?_ (Below.mono (by assumption) ?_)) | omega | (simp; done) | (simp; omega))), .inr ⟨k, rfl, HK.out⟩⟩

def ToldI (w : World) (R : Int → World → Prop) (G : Int → Prop) (e : Ending) (w' : World) : Prop :=
  Below w.heap.size w w' ∧ ((∃ x0, e = .returned (.tuple #[.int .i64 x0, .int .i64 0]) ∧ R x0 w') ∨ (∃ k, e = .returned (.tuple #[.int .i64 0, .int .i64 k]) ∧ G k))
theorem catchS_panicking (p : Addr) (x k : Int) (older : List PanicEntry) (w : World) (hc : w.cell? p = some (.int .i64 x)) (hz : w.frozen? p = false) :
    CallsD Try.prog 62 #[.pointer (some p)] (.panicking ({ v := .iface 26 (.int .i64 k), recovered := false } :: older)) w fun e u' w' =>
      e = .returned (.tuple #[]) ∧ u' = .panicking ({ v := .iface 26 (.int .i64 k), recovered := true } :: older) ∧ w' = w.setCell p (.int .i64 k) := by
  refine callsD_of_wpS Try.func62 rfl fun c₀ cs hu => ?_
  apply wpS_seq
  apply wpS_region
  simp [wpOpsS, go_sem, recoverD, hu, Try.ntmps62, Exit.thenS]
  apply wpS_seq
  apply wpS_region
  simp [wpOpsS, go_sem, Exit.thenS]
  refine wpS_cond (t := true) (by simp [Act.eval, Array.replicate]) ?_
  simp only [if_true]
  apply wpS_region
  have hta : ∀ w, (Instr.typeAssert (.iface 26 (.int .i64 k)) 20 26 false).run Try.prog w = .ok (.int .i64 k) w := fun _ => by kernel_rfl
  simp [wpOpsS, go_sem, hc, hz, hta, bodyPostS, results, Try.results62]
theorem catchS_idle (p : Addr) (w : World) :
    CallsD Try.prog 62 #[.pointer (some p)] .returning w fun e u' w' => e = .returned (.tuple #[]) ∧ u' = .returning ∧ w' = w := by
  refine callsD_of_wpS Try.func62 rfl fun c₀ cs hu => ?_
  apply wpS_seq
  apply wpS_region
  simp [wpOpsS, go_sem, recoverD, hu, Try.ntmps62, Exit.thenS]
  apply wpS_seq
  apply wpS_region
  simp [wpOpsS, go_sem, Exit.thenS]
  refine wpS_cond (t := false) (by simp [Act.eval, Array.replicate]) ?_
  simp only [Bool.false_eq_true, if_false]
  refine wpS_of_wp (wp_skip ?_)
  cases c₀
  simp_all [bodyPostS, results, Try.results62]
def ToldS (w : World) (R : Int → Int → World → Prop) (G : Int → Prop) (e : Ending) (w' : World) : Prop :=
  Below w.heap.size w w' ∧ ((∃ x0 x1, e = .returned (.tuple #[.agg #[.int .i64 x0, .int .i64 x1], .int .i64 0]) ∧ R x0 x1 w') ∨ (∃ k, e = .returned (.tuple #[.agg #[.int .i64 0, .int .i64 0], .int .i64 k]) ∧ G k))
set_option maxHeartbeats 2000000 in
theorem toldS_any (K : Nat) (he : ∀ args w, (callFunc K args).run Try.prog w = .ok (.enter K args) w) (cap : Array Value) (w : World) (R : Int → Int → World → Prop) (G : Int → Prop)
    (hR : ∀ (x0 x1 : Int) (X : World) (p : Addr) (u : Value), w.heap.size ≤ p.block → p.block < w.heap.size + 2 → R x0 x1 X → R x0 x1 (X.setCell p u))
    (cs : ∀ W, Below w.heap.size w W → W.heap.size = w.heap.size + 2 → Calls Try.prog K cap W fun e w' => Below W.heap.size W w' ∧ ((∃ x0 x1, e = .returned (.agg #[.int .i64 x0, .int .i64 x1]) ∧ R x0 x1 w') ∨ (∃ k, e = errPanic k ∧ G k))) :
    Calls Try.prog 56 #[.func (Fn.func K) #[] cap] w (ToldS w R G) := by
  have CS := hidd cs
  have HR := hidd hR
  clear cs hR
  have hmf : ∀ (fn : Fn) (first cap : Array Value) (w : World), (Instr.makeFunc fn first cap).run Try.prog w = .ok (.func fn first cap) w := fun _ _ _ _ => rfl
  go_enter_defers Try.func56, Try.ntmps56
  go_wp2_with fail
  refine (CS.out _ (by (repeat' (first | (with_reducible exact Below.refl _ _) | (with_reducible assumption) | (with_reducible apply Below.setCell) | (with_reducible apply Below.alloc) | (with_reducible apply Below.drew) | (with_reducible apply below_drewN) | (with_reducible refine Below.trans ?_ (Below.mono (by assumption) ?_)) | omega | (simp; done) | (simp; omega)))) (by simp)).mono ?_
  rintro e w2 ⟨hb2, (⟨x0, x1, rfl, hr⟩ | ⟨k, rfl, hk⟩)⟩
  · have z1 : w.heap.size + 1 < w2.heap.size := by have := hb2.size; simp at this; omega
    have z0 : w.heap.size < w2.heap.size := by omega
    have HRR := hidd hr
    obtain ⟨hc, hf⟩ := bcell hb2
    have c10 : w2.cell? ⟨w.heap.size, 0, none⟩ = some (.int .i64 0) := by rw [hc _ _ (by (first | omega | (simp; done) | (simp; omega)))]; simp [go_sem]
    have c11 : w2.cell? ⟨w.heap.size, 1, none⟩ = some (.int .i64 0) := by rw [hc _ _ (by (first | omega | (simp; done) | (simp; omega)))]; simp [go_sem]
    have c2 : w2.cell? ⟨w.heap.size + 1, 0, none⟩ = some (.int .i64 0) := by rw [hc _ _ (by (first | omega | (simp; done) | (simp; omega)))]; simp [go_sem]
    clear hr
    go_wp2_with fail
    refine leaves_cons (f := 62) (args := #[.pointer (some ⟨w.heap.size + 1, 0, none⟩)]) (by simp) (by simp [go_sem]) ?_
    refine (catchS_idle ⟨w.heap.size + 1, 0, none⟩ _).mono ?_
    rintro e u' w3 ⟨rfl, rfl, rfl⟩
    simp [Leaves, settle, results, Try.results56, go_sem, *]
    exact ⟨by (repeat' (first | (with_reducible exact Below.refl _ _) | (with_reducible assumption) | (with_reducible apply Below.setCell) | (with_reducible apply Below.alloc) | (with_reducible apply Below.drew) | (with_reducible apply below_drewN) | (with_reducible refine Below.trans ?_ (Below.mono (by assumption) ?_)) | omega | (simp; done) | (simp; omega))), .inl ⟨x0, x1, rfl, HR.out _ _ _ _ _ (by first | omega | simp) (by first | omega | simp) (HR.out _ _ _ _ _ (by first | omega | simp) (by first | omega | simp) (HR.out _ _ _ _ _ (by first | omega | simp) (by first | omega | simp) (HRR.out)))⟩⟩
  · have z1 : w.heap.size + 1 < w2.heap.size := by have := hb2.size; simp at this; omega
    have z0 : w.heap.size < w2.heap.size := by omega
    have HK := hidd hk
    obtain ⟨hc, hf⟩ := bcell hb2
    clear hk
    go_wp2_with fail
    refine leaves_cons (f := 62) (args := #[.pointer (some ⟨w.heap.size + 1, 0, none⟩)]) (by simp) (by simp [go_sem]) ?_
    refine (catchS_panicking ⟨w.heap.size + 1, 0, none⟩ 0 k [] _ ?_ ?_).mono ?_
    · simp [go_sem, *]
    · simp [go_sem, *]
    rintro e u' w3 ⟨rfl, rfl, rfl⟩
    simp [Leaves, settle, results, Try.results56, go_sem, *]
    exact ⟨by (repeat' (first | (with_reducible exact Below.refl _ _) | (with_reducible assumption) | (with_reducible apply Below.setCell) | (with_reducible apply Below.alloc) | (with_reducible apply Below.drew) | (with_reducible apply below_drewN) | (with_reducible refine Below.trans ?_ (Below.mono (by assumption) ?_)) | omega | (simp; done) | (simp; omega))), .inr ⟨k, rfl, HK.out⟩⟩

def ToldH (w : World) (R : Int → Int → World → Prop) (G : Int → Prop) (e : Ending) (w' : World) : Prop :=
  Below w.heap.size w w' ∧ ((∃ x0 x1, e = .returned (.tuple #[.agg #[.int .i64 x0, .int .i64 x1], .int .i64 0]) ∧ R x0 x1 w') ∨ (∃ k, e = .returned (.tuple #[.agg #[.int .i64 0, .int .i64 0], .int .i64 k]) ∧ G k))
def ToldF (w : World) (R : Int → Int → Int → World → Prop) (G : Int → Prop) (e : Ending) (w' : World) : Prop :=
  Below w.heap.size w w' ∧ ((∃ x0 x1 x2, e = .returned (.tuple #[.agg #[.int .i64 x0, .int .i64 x1, .int .i64 x2], .int .i64 0]) ∧ R x0 x1 x2 w') ∨ (∃ k, e = .returned (.tuple #[.agg #[.int .i64 0, .int .i64 0, .int .i64 0], .int .i64 k]) ∧ G k))
def ToldY (w : World) (R : Int → World → Prop) (G : Int → Prop) (e : Ending) (w' : World) : Prop :=
  Below w.heap.size w w' ∧ ((∃ x0, e = .returned (.tuple #[.int .i64 x0, .int .i64 0]) ∧ R x0 w') ∨ (∃ k, e = .returned (.tuple #[.int .i64 0, .int .i64 k]) ∧ G k))
def ToldW (w : World) (R : Int → Int → Int → Int → Int → Int → Int → World → Prop) (G : Int → Prop) (e : Ending) (w' : World) : Prop :=
  Below w.heap.size w w' ∧ ((∃ x0 x1 x2 x3 x4 x5 x6, e = .returned (.tuple #[.agg #[.int .i64 x0, .int .i64 x1, .int .i64 x2, .int .i64 x3, .int .i64 x4, .int .i64 x5, .int .i64 x6], .int .i64 0]) ∧ R x0 x1 x2 x3 x4 x5 x6 w') ∨ (∃ k, e = .returned (.tuple #[.agg #[.int .i64 0, .int .i64 0, .int .i64 0, .int .i64 0, .int .i64 0, .int .i64 0, .int .i64 0], .int .i64 k]) ∧ G k))
def ToldN (w : World) (R : Int → Int → World → Prop) (G : Int → Prop) (e : Ending) (w' : World) : Prop :=
  Below w.heap.size w w' ∧ ((∃ x0 x1, e = .returned (.tuple #[.agg #[.int .i64 x0, .int .i64 x1], .int .i64 0]) ∧ R x0 x1 w') ∨ (∃ k, e = .returned (.tuple #[.agg #[.int .i64 0, .int .i64 0], .int .i64 k]) ∧ G k))
def ToldP (w : World) (R : Int → Int → Int → Int → Int → World → Prop) (G : Int → Prop) (e : Ending) (w' : World) : Prop :=
  Below w.heap.size w w' ∧ ((∃ x0 x1 x2 x3 x4, e = .returned (.tuple #[.agg #[.int .i64 x0, .int .i64 x1, .int .i64 x2, .int .i64 x3, .int .i64 x4], .int .i64 0]) ∧ R x0 x1 x2 x3 x4 w') ∨ (∃ k, e = .returned (.tuple #[.agg #[.int .i64 0, .int .i64 0, .int .i64 0, .int .i64 0, .int .i64 0], .int .i64 k]) ∧ G k))
def ToldM (w : World) (R : Int → Int → World → Prop) (G : Int → Prop) (e : Ending) (w' : World) : Prop :=
  Below w.heap.size w w' ∧ ((∃ x0 x1, e = .returned (.tuple #[.agg #[.int .i64 x0, .int .i64 x1], .int .i64 0]) ∧ R x0 x1 w') ∨ (∃ k, e = .returned (.tuple #[.agg #[.int .i64 0, .int .i64 0], .int .i64 k]) ∧ G k))
end Go.Proofs.Ytnneolkedekfbaa
