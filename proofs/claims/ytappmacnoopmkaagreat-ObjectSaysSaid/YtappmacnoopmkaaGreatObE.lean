/- Objects: the face of a step, for each type that it tells. -/
import Derived.Test.YtappmacnoopmkaaGreatObD
namespace Go.Proofs.YtappmacnoopmkaaGreat
set_option linter.unusedVariables false
open Go.RowKit

theorem catchB_panicking (p : Addr) (x k : Int) (older : List PanicEntry) (w : World) (hc : w.cell? p = some (.int .i64 x)) (hz : w.frozen? p = false) :
    CallsD Tryz.prog 157 #[.pointer (some p)] (.panicking ({ v := .iface 43 (.int .i64 k), recovered := false } :: older)) w fun e u' w' =>
      e = .returned (.tuple #[]) ∧ u' = .panicking ({ v := .iface 43 (.int .i64 k), recovered := true } :: older) ∧ w' = w.setCell p (.int .i64 k) := by
  refine callsD_of_wpS Tryz.func157 rfl fun c₀ cs hu => ?_
  apply wpS_seq
  apply wpS_region
  simp [wpOpsS, go_sem, recoverD, hu, Tryz.ntmps157, Exit.thenS]
  apply wpS_seq
  apply wpS_region
  simp [wpOpsS, go_sem, Exit.thenS]
  refine wpS_cond (t := true) (by simp [Act.eval, Array.replicate]) ?_
  simp only [if_true]
  apply wpS_region
  have hta : ∀ w, (Instr.typeAssert (.iface 43 (.int .i64 k)) 20 43 false).run Tryz.prog w = .ok (.int .i64 k) w := fun _ => by kernel_rfl
  simp [wpOpsS, go_sem, hc, hz, hta, bodyPostS, results, Tryz.results157]
theorem catchB_idle (p : Addr) (w : World) :
    CallsD Tryz.prog 157 #[.pointer (some p)] .returning w fun e u' w' => e = .returned (.tuple #[]) ∧ u' = .returning ∧ w' = w := by
  refine callsD_of_wpS Tryz.func157 rfl fun c₀ cs hu => ?_
  apply wpS_seq
  apply wpS_region
  simp [wpOpsS, go_sem, recoverD, hu, Tryz.ntmps157, Exit.thenS]
  apply wpS_seq
  apply wpS_region
  simp [wpOpsS, go_sem, Exit.thenS]
  refine wpS_cond (t := false) (by simp [Act.eval, Array.replicate]) ?_
  simp only [Bool.false_eq_true, if_false]
  refine wpS_of_wp (wp_skip ?_)
  cases c₀
  simp_all [bodyPostS, results, Tryz.results157]
def ToldB (w : World) (R : Value → World → Prop) (G : Int → Prop) (e : Ending) (w' : World) : Prop :=
  Below w.heap.size w w' ∧ ((∃ v, e = .returned (.tuple #[v, .int .i64 0]) ∧ R v w') ∨ (∃ k, e = .returned (.tuple #[.slice none 0 0, .int .i64 k]) ∧ G k))
set_option maxHeartbeats 2000000 in
theorem toldB_any (K : Nat) (he : ∀ args w, (callFunc K args).run Tryz.prog w = .ok (.enter K args) w) (cap : Array Value) (w : World) (R : Value → World → Prop) (G : Int → Prop)
    (hR : ∀ (v : Value) (X : World) (p : Addr) (u : Value), w.heap.size ≤ p.block → p.block < w.heap.size + 1 → R v X → R v (X.setCell p u))
    (cs : ∀ W, Below w.heap.size w W → W.heap.size = w.heap.size + 1 → Calls Tryz.prog K cap W fun e w' => Below W.heap.size W w' ∧ ((∃ v, e = .returned (v) ∧ R v w') ∨ (∃ k, e = errPanic k ∧ G k))) :
    Calls Tryz.prog 86 #[.func (Fn.func K) #[] cap] w (ToldB w R G) := by
  have CS := hidd cs
  have HR := hidd hR
  clear cs hR
  have hmf : ∀ (fn : Fn) (first cap : Array Value) (w : World), (Instr.makeFunc fn first cap).run Tryz.prog w = .ok (.func fn first cap) w := fun _ _ _ _ => rfl
  go_enter_defers Tryz.func86, Tryz.ntmps86
  go_wp2_with fail
  refine (CS.out _ (by (repeat' (first | (with_reducible exact Below.refl _ _) | (with_reducible assumption) | (with_reducible apply Below.setCell) | (with_reducible apply Below.alloc) | (with_reducible apply Below.drew) | (with_reducible apply below_drewN) | (with_reducible refine Below.trans ?_ (Below.mono (by assumption) ?_)) | omega | (simp; done) | (simp; omega)))) (by simp)).mono ?_
  rintro e w2 ⟨hb2, (⟨v, rfl, hr⟩ | ⟨k, rfl, hk⟩)⟩
  · have z1 : w.heap.size < w2.heap.size := by have := hb2.size; simp at this; omega
    have z0 : w.heap.size < w2.heap.size := by omega
    have HRR := hidd hr
    obtain ⟨hc, hf⟩ := bcell hb2
    have c2 : w2.cell? ⟨w.heap.size, 0, none⟩ = some (.int .i64 0) := by rw [hc _ _ (by (first | omega | (simp; done) | (simp; omega)))]; simp [go_sem]
    clear hr
    go_wp2_with fail
    refine leaves_cons (f := 157) (args := #[.pointer (some ⟨w.heap.size, 0, none⟩)]) (by simp) (by simp [go_sem]) ?_
    refine (catchB_idle ⟨w.heap.size, 0, none⟩ _).mono ?_
    rintro e u' w3 ⟨rfl, rfl, rfl⟩
    simp [Leaves, settle, results, Tryz.results86, go_sem, *]
    exact ⟨by (repeat' (first | (with_reducible exact Below.refl _ _) | (with_reducible assumption) | (with_reducible apply Below.setCell) | (with_reducible apply Below.alloc) | (with_reducible apply Below.drew) | (with_reducible apply below_drewN) | (with_reducible refine Below.trans ?_ (Below.mono (by assumption) ?_)) | omega | (simp; done) | (simp; omega))), .inl ⟨v, rfl, HR.out _ _ _ _ (by first | omega | simp) (by first | omega | simp) (HRR.out)⟩⟩
  · have z1 : w.heap.size < w2.heap.size := by have := hb2.size; simp at this; omega
    have z0 : w.heap.size < w2.heap.size := by omega
    have HK := hidd hk
    obtain ⟨hc, hf⟩ := bcell hb2
    clear hk
    go_wp2_with fail
    refine leaves_cons (f := 157) (args := #[.pointer (some ⟨w.heap.size, 0, none⟩)]) (by simp) (by simp [go_sem]) ?_
    refine (catchB_panicking ⟨w.heap.size, 0, none⟩ 0 k [] _ ?_ ?_).mono ?_
    · simp [go_sem, *]
    · simp [go_sem, *]
    rintro e u' w3 ⟨rfl, rfl, rfl⟩
    simp [Leaves, settle, results, Tryz.results86, go_sem, *]
    exact ⟨by (repeat' (first | (with_reducible exact Below.refl _ _) | (with_reducible assumption) | (with_reducible apply Below.setCell) | (with_reducible apply Below.alloc) | (with_reducible apply Below.drew) | (with_reducible apply below_drewN) | (with_reducible refine Below.trans ?_ (Below.mono (by assumption) ?_)) | omega | (simp; done) | (simp; omega))), .inr ⟨k, rfl, HK.out⟩⟩

def ToldL (w : World) (R : Value → World → Prop) (G : Int → Prop) (e : Ending) (w' : World) : Prop :=
  Below w.heap.size w w' ∧ ((∃ v, e = .returned (.tuple #[v, .int .i64 0]) ∧ R v w') ∨ (∃ k, e = .returned (.tuple #[.slice none 0 0, .int .i64 k]) ∧ G k))
theorem catchO_panicking (p : Addr) (x k : Int) (older : List PanicEntry) (w : World) (hc : w.cell? p = some (.int .i64 x)) (hz : w.frozen? p = false) :
    CallsD Tryz.prog 169 #[.pointer (some p)] (.panicking ({ v := .iface 43 (.int .i64 k), recovered := false } :: older)) w fun e u' w' =>
      e = .returned (.tuple #[]) ∧ u' = .panicking ({ v := .iface 43 (.int .i64 k), recovered := true } :: older) ∧ w' = w.setCell p (.int .i64 k) := by
  refine callsD_of_wpS Tryz.func169 rfl fun c₀ cs hu => ?_
  apply wpS_seq
  apply wpS_region
  simp [wpOpsS, go_sem, recoverD, hu, Tryz.ntmps169, Exit.thenS]
  apply wpS_seq
  apply wpS_region
  simp [wpOpsS, go_sem, Exit.thenS]
  refine wpS_cond (t := true) (by simp [Act.eval, Array.replicate]) ?_
  simp only [if_true]
  apply wpS_region
  have hta : ∀ w, (Instr.typeAssert (.iface 43 (.int .i64 k)) 20 43 false).run Tryz.prog w = .ok (.int .i64 k) w := fun _ => by kernel_rfl
  simp [wpOpsS, go_sem, hc, hz, hta, bodyPostS, results, Tryz.results169]
theorem catchO_idle (p : Addr) (w : World) :
    CallsD Tryz.prog 169 #[.pointer (some p)] .returning w fun e u' w' => e = .returned (.tuple #[]) ∧ u' = .returning ∧ w' = w := by
  refine callsD_of_wpS Tryz.func169 rfl fun c₀ cs hu => ?_
  apply wpS_seq
  apply wpS_region
  simp [wpOpsS, go_sem, recoverD, hu, Tryz.ntmps169, Exit.thenS]
  apply wpS_seq
  apply wpS_region
  simp [wpOpsS, go_sem, Exit.thenS]
  refine wpS_cond (t := false) (by simp [Act.eval, Array.replicate]) ?_
  simp only [Bool.false_eq_true, if_false]
  refine wpS_of_wp (wp_skip ?_)
  cases c₀
  simp_all [bodyPostS, results, Tryz.results169]
def ToldO (w : World) (R : Int → Int → Option Addr → Nat → Nat → World → Prop) (G : Int → Prop) (e : Ending) (w' : World) : Prop :=
  Below w.heap.size w w' ∧ ((∃ a b A n c, e = .returned (.tuple #[.agg #[.int .i64 a, .int .i64 b, .slice A n c], .int .i64 0]) ∧ R a b A n c w') ∨ (∃ k, e = .returned (.tuple #[.agg #[.int .i64 0, .int .i64 0, .slice none 0 0], .int .i64 k]) ∧ G k))
set_option maxHeartbeats 2000000 in
theorem toldO_any (K : Nat) (he : ∀ args w, (callFunc K args).run Tryz.prog w = .ok (.enter K args) w) (cap : Array Value) (w : World) (R : Int → Int → Option Addr → Nat → Nat → World → Prop) (G : Int → Prop)
    (hR : ∀ (a b : Int) (A : Option Addr) (n c : Nat) (X : World) (p : Addr) (u : Value), w.heap.size ≤ p.block → p.block < w.heap.size + 2 → R a b A n c X → R a b A n c (X.setCell p u))
    (cs : ∀ W, Below w.heap.size w W → W.heap.size = w.heap.size + 2 → Calls Tryz.prog K cap W fun e w' => Below W.heap.size W w' ∧ ((∃ a b A n c, e = .returned (.agg #[.int .i64 a, .int .i64 b, .slice A n c]) ∧ R a b A n c w') ∨ (∃ k, e = errPanic k ∧ G k))) :
    Calls Tryz.prog 133 #[.func (Fn.func K) #[] cap] w (ToldO w R G) := by
  have CS := hidd cs
  have HR := hidd hR
  clear cs hR
  have hmf : ∀ (fn : Fn) (first cap : Array Value) (w : World), (Instr.makeFunc fn first cap).run Tryz.prog w = .ok (.func fn first cap) w := fun _ _ _ _ => rfl
  go_enter_defers Tryz.func133, Tryz.ntmps133
  go_wp2_with fail
  refine (CS.out _ (by (repeat' (first | (with_reducible exact Below.refl _ _) | (with_reducible assumption) | (with_reducible apply Below.setCell) | (with_reducible apply Below.alloc) | (with_reducible apply Below.drew) | (with_reducible apply below_drewN) | (with_reducible refine Below.trans ?_ (Below.mono (by assumption) ?_)) | omega | (simp; done) | (simp; omega)))) (by simp)).mono ?_
  rintro e w2 ⟨hb2, (⟨a, b, A, n, c, rfl, hr⟩ | ⟨k, rfl, hk⟩)⟩
  · have z1 : w.heap.size + 1 < w2.heap.size := by have := hb2.size; simp at this; omega
    have z0 : w.heap.size < w2.heap.size := by omega
    have HRR := hidd hr
    obtain ⟨hc, hf⟩ := bcell hb2
    have c10 : w2.cell? ⟨w.heap.size, 0, none⟩ = some (.int .i64 0) := by rw [hc _ _ (by (first | omega | (simp; done) | (simp; omega)))]; simp [go_sem]
    have c11 : w2.cell? ⟨w.heap.size, 1, none⟩ = some (.int .i64 0) := by rw [hc _ _ (by (first | omega | (simp; done) | (simp; omega)))]; simp [go_sem]
    have c12 : w2.cell? ⟨w.heap.size, 2, none⟩ = some (.slice none 0 0) := by rw [hc _ _ (by (first | omega | (simp; done) | (simp; omega)))]; simp [go_sem]
    have c2 : w2.cell? ⟨w.heap.size + 1, 0, none⟩ = some (.int .i64 0) := by rw [hc _ _ (by (first | omega | (simp; done) | (simp; omega)))]; simp [go_sem]
    clear hr
    go_wp2_with fail
    refine leaves_cons (f := 169) (args := #[.pointer (some ⟨w.heap.size + 1, 0, none⟩)]) (by simp) (by simp [go_sem]) ?_
    refine (catchO_idle ⟨w.heap.size + 1, 0, none⟩ _).mono ?_
    rintro e u' w3 ⟨rfl, rfl, rfl⟩
    simp [Leaves, settle, results, Tryz.results133, go_sem, *]
    exact ⟨by (repeat' (first | (with_reducible exact Below.refl _ _) | (with_reducible assumption) | (with_reducible apply Below.setCell) | (with_reducible apply Below.alloc) | (with_reducible apply Below.drew) | (with_reducible apply below_drewN) | (with_reducible refine Below.trans ?_ (Below.mono (by assumption) ?_)) | omega | (simp; done) | (simp; omega))), .inl ⟨a, b, A, n, c, rfl, HR.out _ _ _ _ _ _ _ _ (by first | omega | simp) (by first | omega | simp) (HR.out _ _ _ _ _ _ _ _ (by first | omega | simp) (by first | omega | simp) (HR.out _ _ _ _ _ _ _ _ (by first | omega | simp) (by first | omega | simp) (HR.out _ _ _ _ _ _ _ _ (by first | omega | simp) (by first | omega | simp) (HRR.out))))⟩⟩
  · have z1 : w.heap.size + 1 < w2.heap.size := by have := hb2.size; simp at this; omega
    have z0 : w.heap.size < w2.heap.size := by omega
    have HK := hidd hk
    obtain ⟨hc, hf⟩ := bcell hb2
    clear hk
    go_wp2_with fail
    refine leaves_cons (f := 169) (args := #[.pointer (some ⟨w.heap.size + 1, 0, none⟩)]) (by simp) (by simp [go_sem]) ?_
    refine (catchO_panicking ⟨w.heap.size + 1, 0, none⟩ 0 k [] _ ?_ ?_).mono ?_
    · simp [go_sem, *]
    · simp [go_sem, *]
    rintro e u' w3 ⟨rfl, rfl, rfl⟩
    simp [Leaves, settle, results, Tryz.results133, go_sem, *]
    exact ⟨by (repeat' (first | (with_reducible exact Below.refl _ _) | (with_reducible assumption) | (with_reducible apply Below.setCell) | (with_reducible apply Below.alloc) | (with_reducible apply Below.drew) | (with_reducible apply below_drewN) | (with_reducible refine Below.trans ?_ (Below.mono (by assumption) ?_)) | omega | (simp; done) | (simp; omega))), .inr ⟨k, rfl, HK.out⟩⟩

theorem catchI_panicking (p : Addr) (x k : Int) (older : List PanicEntry) (w : World) (hc : w.cell? p = some (.int .i64 x)) (hz : w.frozen? p = false) :
    CallsD Tryz.prog 164 #[.pointer (some p)] (.panicking ({ v := .iface 43 (.int .i64 k), recovered := false } :: older)) w fun e u' w' =>
      e = .returned (.tuple #[]) ∧ u' = .panicking ({ v := .iface 43 (.int .i64 k), recovered := true } :: older) ∧ w' = w.setCell p (.int .i64 k) := by
  refine callsD_of_wpS Tryz.func164 rfl fun c₀ cs hu => ?_
  apply wpS_seq
  apply wpS_region
  simp [wpOpsS, go_sem, recoverD, hu, Tryz.ntmps164, Exit.thenS]
  apply wpS_seq
  apply wpS_region
  simp [wpOpsS, go_sem, Exit.thenS]
  refine wpS_cond (t := true) (by simp [Act.eval, Array.replicate]) ?_
  simp only [if_true]
  apply wpS_region
  have hta : ∀ w, (Instr.typeAssert (.iface 43 (.int .i64 k)) 20 43 false).run Tryz.prog w = .ok (.int .i64 k) w := fun _ => by kernel_rfl
  simp [wpOpsS, go_sem, hc, hz, hta, bodyPostS, results, Tryz.results164]
theorem catchI_idle (p : Addr) (w : World) :
    CallsD Tryz.prog 164 #[.pointer (some p)] .returning w fun e u' w' => e = .returned (.tuple #[]) ∧ u' = .returning ∧ w' = w := by
  refine callsD_of_wpS Tryz.func164 rfl fun c₀ cs hu => ?_
  apply wpS_seq
  apply wpS_region
  simp [wpOpsS, go_sem, recoverD, hu, Tryz.ntmps164, Exit.thenS]
  apply wpS_seq
  apply wpS_region
  simp [wpOpsS, go_sem, Exit.thenS]
  refine wpS_cond (t := false) (by simp [Act.eval, Array.replicate]) ?_
  simp only [Bool.false_eq_true, if_false]
  refine wpS_of_wp (wp_skip ?_)
  cases c₀
  simp_all [bodyPostS, results, Tryz.results164]
def ToldI (w : World) (R : Int → World → Prop) (G : Int → Prop) (e : Ending) (w' : World) : Prop :=
  Below w.heap.size w w' ∧ ((∃ x0, e = .returned (.tuple #[.int .i64 x0, .int .i64 0]) ∧ R x0 w') ∨ (∃ k, e = .returned (.tuple #[.int .i64 0, .int .i64 k]) ∧ G k))
set_option maxHeartbeats 2000000 in
theorem toldI_any (K : Nat) (he : ∀ args w, (callFunc K args).run Tryz.prog w = .ok (.enter K args) w) (cap : Array Value) (w : World) (R : Int → World → Prop) (G : Int → Prop)
    (hR : ∀ (x0 : Int) (X : World) (p : Addr) (u : Value), w.heap.size ≤ p.block → p.block < w.heap.size + 1 → R x0 X → R x0 (X.setCell p u))
    (cs : ∀ W, Below w.heap.size w W → W.heap.size = w.heap.size + 1 → Calls Tryz.prog K cap W fun e w' => Below W.heap.size W w' ∧ ((∃ x0, e = .returned (.int .i64 x0) ∧ R x0 w') ∨ (∃ k, e = errPanic k ∧ G k))) :
    Calls Tryz.prog 111 #[.func (Fn.func K) #[] cap] w (ToldI w R G) := by
  have CS := hidd cs
  have HR := hidd hR
  clear cs hR
  have hmf : ∀ (fn : Fn) (first cap : Array Value) (w : World), (Instr.makeFunc fn first cap).run Tryz.prog w = .ok (.func fn first cap) w := fun _ _ _ _ => rfl
  go_enter_defers Tryz.func111, Tryz.ntmps111
  go_wp2_with fail
  refine (CS.out _ (by (repeat' (first | (with_reducible exact Below.refl _ _) | (with_reducible assumption) | (with_reducible apply Below.setCell) | (with_reducible apply Below.alloc) | (with_reducible apply Below.drew) | (with_reducible apply below_drewN) | (with_reducible refine Below.trans ?_ (Below.mono (by assumption) ?_)) | omega | (simp; done) | (simp; omega)))) (by simp)).mono ?_
  rintro e w2 ⟨hb2, (⟨x0, rfl, hr⟩ | ⟨k, rfl, hk⟩)⟩
  · have z1 : w.heap.size < w2.heap.size := by have := hb2.size; simp at this; omega
    have z0 : w.heap.size < w2.heap.size := by omega
    have HRR := hidd hr
    obtain ⟨hc, hf⟩ := bcell hb2
    have c2 : w2.cell? ⟨w.heap.size, 0, none⟩ = some (.int .i64 0) := by rw [hc _ _ (by (first | omega | (simp; done) | (simp; omega)))]; simp [go_sem]
    clear hr
    go_wp2_with fail
    refine leaves_cons (f := 164) (args := #[.pointer (some ⟨w.heap.size, 0, none⟩)]) (by simp) (by simp [go_sem]) ?_
    refine (catchI_idle ⟨w.heap.size, 0, none⟩ _).mono ?_
    rintro e u' w3 ⟨rfl, rfl, rfl⟩
    simp [Leaves, settle, results, Tryz.results111, go_sem, *]
    exact ⟨by (repeat' (first | (with_reducible exact Below.refl _ _) | (with_reducible assumption) | (with_reducible apply Below.setCell) | (with_reducible apply Below.alloc) | (with_reducible apply Below.drew) | (with_reducible apply below_drewN) | (with_reducible refine Below.trans ?_ (Below.mono (by assumption) ?_)) | omega | (simp; done) | (simp; omega))), .inl ⟨x0, rfl, HR.out _ _ _ _ (by first | omega | simp) (by first | omega | simp) (HRR.out)⟩⟩
  · have z1 : w.heap.size < w2.heap.size := by have := hb2.size; simp at this; omega
    have z0 : w.heap.size < w2.heap.size := by omega
    have HK := hidd hk
    obtain ⟨hc, hf⟩ := bcell hb2
    clear hk
    go_wp2_with fail
    refine leaves_cons (f := 164) (args := #[.pointer (some ⟨w.heap.size, 0, none⟩)]) (by simp) (by simp [go_sem]) ?_
    refine (catchI_panicking ⟨w.heap.size, 0, none⟩ 0 k [] _ ?_ ?_).mono ?_
    · simp [go_sem, *]
    · simp [go_sem, *]
    rintro e u' w3 ⟨rfl, rfl, rfl⟩
    simp [Leaves, settle, results, Tryz.results111, go_sem, *]
    exact ⟨by (repeat' (first | (with_reducible exact Below.refl _ _) | (with_reducible assumption) | (with_reducible apply Below.setCell) | (with_reducible apply Below.alloc) | (with_reducible apply Below.drew) | (with_reducible apply below_drewN) | (with_reducible refine Below.trans ?_ (Below.mono (by assumption) ?_)) | omega | (simp; done) | (simp; omega))), .inr ⟨k, rfl, HK.out⟩⟩

theorem catchS_panicking (p : Addr) (x k : Int) (older : List PanicEntry) (w : World) (hc : w.cell? p = some (.int .i64 x)) (hz : w.frozen? p = false) :
    CallsD Tryz.prog 161 #[.pointer (some p)] (.panicking ({ v := .iface 43 (.int .i64 k), recovered := false } :: older)) w fun e u' w' =>
      e = .returned (.tuple #[]) ∧ u' = .panicking ({ v := .iface 43 (.int .i64 k), recovered := true } :: older) ∧ w' = w.setCell p (.int .i64 k) := by
  refine callsD_of_wpS Tryz.func161 rfl fun c₀ cs hu => ?_
  apply wpS_seq
  apply wpS_region
  simp [wpOpsS, go_sem, recoverD, hu, Tryz.ntmps161, Exit.thenS]
  apply wpS_seq
  apply wpS_region
  simp [wpOpsS, go_sem, Exit.thenS]
  refine wpS_cond (t := true) (by simp [Act.eval, Array.replicate]) ?_
  simp only [if_true]
  apply wpS_region
  have hta : ∀ w, (Instr.typeAssert (.iface 43 (.int .i64 k)) 20 43 false).run Tryz.prog w = .ok (.int .i64 k) w := fun _ => by kernel_rfl
  simp [wpOpsS, go_sem, hc, hz, hta, bodyPostS, results, Tryz.results161]
theorem catchS_idle (p : Addr) (w : World) :
    CallsD Tryz.prog 161 #[.pointer (some p)] .returning w fun e u' w' => e = .returned (.tuple #[]) ∧ u' = .returning ∧ w' = w := by
  refine callsD_of_wpS Tryz.func161 rfl fun c₀ cs hu => ?_
  apply wpS_seq
  apply wpS_region
  simp [wpOpsS, go_sem, recoverD, hu, Tryz.ntmps161, Exit.thenS]
  apply wpS_seq
  apply wpS_region
  simp [wpOpsS, go_sem, Exit.thenS]
  refine wpS_cond (t := false) (by simp [Act.eval, Array.replicate]) ?_
  simp only [Bool.false_eq_true, if_false]
  refine wpS_of_wp (wp_skip ?_)
  cases c₀
  simp_all [bodyPostS, results, Tryz.results161]
def ToldS (w : World) (R : Int → Int → World → Prop) (G : Int → Prop) (e : Ending) (w' : World) : Prop :=
  Below w.heap.size w w' ∧ ((∃ x0 x1, e = .returned (.tuple #[.agg #[.int .i64 x0, .int .i64 x1], .int .i64 0]) ∧ R x0 x1 w') ∨ (∃ k, e = .returned (.tuple #[.agg #[.int .i64 0, .int .i64 0], .int .i64 k]) ∧ G k))
set_option maxHeartbeats 2000000 in
theorem toldS_any (K : Nat) (he : ∀ args w, (callFunc K args).run Tryz.prog w = .ok (.enter K args) w) (cap : Array Value) (w : World) (R : Int → Int → World → Prop) (G : Int → Prop)
    (hR : ∀ (x0 x1 : Int) (X : World) (p : Addr) (u : Value), w.heap.size ≤ p.block → p.block < w.heap.size + 2 → R x0 x1 X → R x0 x1 (X.setCell p u))
    (cs : ∀ W, Below w.heap.size w W → W.heap.size = w.heap.size + 2 → Calls Tryz.prog K cap W fun e w' => Below W.heap.size W w' ∧ ((∃ x0 x1, e = .returned (.agg #[.int .i64 x0, .int .i64 x1]) ∧ R x0 x1 w') ∨ (∃ k, e = errPanic k ∧ G k))) :
    Calls Tryz.prog 99 #[.func (Fn.func K) #[] cap] w (ToldS w R G) := by
  have CS := hidd cs
  have HR := hidd hR
  clear cs hR
  have hmf : ∀ (fn : Fn) (first cap : Array Value) (w : World), (Instr.makeFunc fn first cap).run Tryz.prog w = .ok (.func fn first cap) w := fun _ _ _ _ => rfl
  go_enter_defers Tryz.func99, Tryz.ntmps99
  go_wp2_with fail
  refine (CS.out _ (by (repeat' (first | (with_reducible exact Below.refl _ _) | (with_reducible assumption) | (with_reducible apply Below.setCell) | (with_reducible apply Below.alloc) | (with_reducible apply Below.drew) | (with_reducible apply below_drewN) | (with_reducible refine Below.trans ?_ (Below.mono (by assumption) ?_)) | omega | (simp; done) | (simp; omega)))) (by simp)).mono ?_
  rintro e w2 ⟨hb2, (⟨x0, x1, rfl, hr⟩ | ⟨k, rfl, hk⟩)⟩
  · have z1 : w.heap.size + 1 < w2.heap.size := by have := hb2.size; simp at this; omega
    have z0 : w.heap.size < w2.heap.size := by omega
    have HRR := hidd hr
    obtain ⟨hc, hf⟩ := bcell hb2
    have c10 : w2.cell? ⟨w.heap.size, 0, none⟩ = some (.int .i64 0) := by rw [hc _ _ (by (first | omega | (simp; done) | (simp; omega)))]; simp [go_sem]
    have c11 : w2.cell? ⟨w.heap.size, 1, none⟩ = some (.int .i64 0) := by rw [hc _ _ (by (first | omega | (simp; done) | (simp; omega)))]; simp [go_sem]
    have c2 : w2.cell? ⟨w.heap.size + 1, 0, none⟩ = some (.int .i64 0) := by rw [hc _ _ (by (first | omega | (simp; done) | (simp; omega)))]; simp [go_sem]
    clear hr
    go_wp2_with fail
    refine leaves_cons (f := 161) (args := #[.pointer (some ⟨w.heap.size + 1, 0, none⟩)]) (by simp) (by simp [go_sem]) ?_
    refine (catchS_idle ⟨w.heap.size + 1, 0, none⟩ _).mono ?_
    rintro e u' w3 ⟨rfl, rfl, rfl⟩
    simp [Leaves, settle, results, Tryz.results99, go_sem, *]
    exact ⟨by (repeat' (first | (with_reducible exact Below.refl _ _) | (with_reducible assumption) | (with_reducible apply Below.setCell) | (with_reducible apply Below.alloc) | (with_reducible apply Below.drew) | (with_reducible apply below_drewN) | (with_reducible refine Below.trans ?_ (Below.mono (by assumption) ?_)) | omega | (simp; done) | (simp; omega))), .inl ⟨x0, x1, rfl, HR.out _ _ _ _ _ (by first | omega | simp) (by first | omega | simp) (HR.out _ _ _ _ _ (by first | omega | simp) (by first | omega | simp) (HR.out _ _ _ _ _ (by first | omega | simp) (by first | omega | simp) (HRR.out)))⟩⟩
  · have z1 : w.heap.size + 1 < w2.heap.size := by have := hb2.size; simp at this; omega
    have z0 : w.heap.size < w2.heap.size := by omega
    have HK := hidd hk
    obtain ⟨hc, hf⟩ := bcell hb2
    clear hk
    go_wp2_with fail
    refine leaves_cons (f := 161) (args := #[.pointer (some ⟨w.heap.size + 1, 0, none⟩)]) (by simp) (by simp [go_sem]) ?_
    refine (catchS_panicking ⟨w.heap.size + 1, 0, none⟩ 0 k [] _ ?_ ?_).mono ?_
    · simp [go_sem, *]
    · simp [go_sem, *]
    rintro e u' w3 ⟨rfl, rfl, rfl⟩
    simp [Leaves, settle, results, Tryz.results99, go_sem, *]
    exact ⟨by (repeat' (first | (with_reducible exact Below.refl _ _) | (with_reducible assumption) | (with_reducible apply Below.setCell) | (with_reducible apply Below.alloc) | (with_reducible apply Below.drew) | (with_reducible apply below_drewN) | (with_reducible refine Below.trans ?_ (Below.mono (by assumption) ?_)) | omega | (simp; done) | (simp; omega))), .inr ⟨k, rfl, HK.out⟩⟩

theorem catchH_panicking (p : Addr) (x k : Int) (older : List PanicEntry) (w : World) (hc : w.cell? p = some (.int .i64 x)) (hz : w.frozen? p = false) :
    CallsD Tryz.prog 163 #[.pointer (some p)] (.panicking ({ v := .iface 43 (.int .i64 k), recovered := false } :: older)) w fun e u' w' =>
      e = .returned (.tuple #[]) ∧ u' = .panicking ({ v := .iface 43 (.int .i64 k), recovered := true } :: older) ∧ w' = w.setCell p (.int .i64 k) := by
  refine callsD_of_wpS Tryz.func163 rfl fun c₀ cs hu => ?_
  apply wpS_seq
  apply wpS_region
  simp [wpOpsS, go_sem, recoverD, hu, Tryz.ntmps163, Exit.thenS]
  apply wpS_seq
  apply wpS_region
  simp [wpOpsS, go_sem, Exit.thenS]
  refine wpS_cond (t := true) (by simp [Act.eval, Array.replicate]) ?_
  simp only [if_true]
  apply wpS_region
  have hta : ∀ w, (Instr.typeAssert (.iface 43 (.int .i64 k)) 20 43 false).run Tryz.prog w = .ok (.int .i64 k) w := fun _ => by kernel_rfl
  simp [wpOpsS, go_sem, hc, hz, hta, bodyPostS, results, Tryz.results163]
theorem catchH_idle (p : Addr) (w : World) :
    CallsD Tryz.prog 163 #[.pointer (some p)] .returning w fun e u' w' => e = .returned (.tuple #[]) ∧ u' = .returning ∧ w' = w := by
  refine callsD_of_wpS Tryz.func163 rfl fun c₀ cs hu => ?_
  apply wpS_seq
  apply wpS_region
  simp [wpOpsS, go_sem, recoverD, hu, Tryz.ntmps163, Exit.thenS]
  apply wpS_seq
  apply wpS_region
  simp [wpOpsS, go_sem, Exit.thenS]
  refine wpS_cond (t := false) (by simp [Act.eval, Array.replicate]) ?_
  simp only [Bool.false_eq_true, if_false]
  refine wpS_of_wp (wp_skip ?_)
  cases c₀
  simp_all [bodyPostS, results, Tryz.results163]
def ToldH (w : World) (R : Int → Int → World → Prop) (G : Int → Prop) (e : Ending) (w' : World) : Prop :=
  Below w.heap.size w w' ∧ ((∃ x0 x1, e = .returned (.tuple #[.agg #[.int .i64 x0, .int .i64 x1], .int .i64 0]) ∧ R x0 x1 w') ∨ (∃ k, e = .returned (.tuple #[.agg #[.int .i64 0, .int .i64 0], .int .i64 k]) ∧ G k))
set_option maxHeartbeats 2000000 in
theorem toldH_any (K : Nat) (he : ∀ args w, (callFunc K args).run Tryz.prog w = .ok (.enter K args) w) (cap : Array Value) (w : World) (R : Int → Int → World → Prop) (G : Int → Prop)
    (hR : ∀ (x0 x1 : Int) (X : World) (p : Addr) (u : Value), w.heap.size ≤ p.block → p.block < w.heap.size + 2 → R x0 x1 X → R x0 x1 (X.setCell p u))
    (cs : ∀ W, Below w.heap.size w W → W.heap.size = w.heap.size + 2 → Calls Tryz.prog K cap W fun e w' => Below W.heap.size W w' ∧ ((∃ x0 x1, e = .returned (.agg #[.int .i64 x0, .int .i64 x1]) ∧ R x0 x1 w') ∨ (∃ k, e = errPanic k ∧ G k))) :
    Calls Tryz.prog 106 #[.func (Fn.func K) #[] cap] w (ToldH w R G) := by
  have CS := hidd cs
  have HR := hidd hR
  clear cs hR
  have hmf : ∀ (fn : Fn) (first cap : Array Value) (w : World), (Instr.makeFunc fn first cap).run Tryz.prog w = .ok (.func fn first cap) w := fun _ _ _ _ => rfl
  go_enter_defers Tryz.func106, Tryz.ntmps106
  go_wp2_with fail
  refine (CS.out _ (by (repeat' (first | (with_reducible exact Below.refl _ _) | (with_reducible assumption) | (with_reducible apply Below.setCell) | (with_reducible apply Below.alloc) | (with_reducible apply Below.drew) | (with_reducible apply below_drewN) | (with_reducible refine Below.trans ?_ (Below.mono (by assumption) ?_)) | omega | (simp; done) | (simp; omega)))) (by simp)).mono ?_
  rintro e w2 ⟨hb2, (⟨x0, x1, rfl, hr⟩ | ⟨k, rfl, hk⟩)⟩
  · have z1 : w.heap.size + 1 < w2.heap.size := by have := hb2.size; simp at this; omega
    have z0 : w.heap.size < w2.heap.size := by omega
    have HRR := hidd hr
    obtain ⟨hc, hf⟩ := bcell hb2
    have c10 : w2.cell? ⟨w.heap.size, 0, none⟩ = some (.int .i64 0) := by rw [hc _ _ (by (first | omega | (simp; done) | (simp; omega)))]; simp [go_sem]
    have c11 : w2.cell? ⟨w.heap.size, 1, none⟩ = some (.int .i64 0) := by rw [hc _ _ (by (first | omega | (simp; done) | (simp; omega)))]; simp [go_sem]
    have c2 : w2.cell? ⟨w.heap.size + 1, 0, none⟩ = some (.int .i64 0) := by rw [hc _ _ (by (first | omega | (simp; done) | (simp; omega)))]; simp [go_sem]
    clear hr
    go_wp2_with fail
    refine leaves_cons (f := 163) (args := #[.pointer (some ⟨w.heap.size + 1, 0, none⟩)]) (by simp) (by simp [go_sem]) ?_
    refine (catchH_idle ⟨w.heap.size + 1, 0, none⟩ _).mono ?_
    rintro e u' w3 ⟨rfl, rfl, rfl⟩
    simp [Leaves, settle, results, Tryz.results106, go_sem, *]
    exact ⟨by (repeat' (first | (with_reducible exact Below.refl _ _) | (with_reducible assumption) | (with_reducible apply Below.setCell) | (with_reducible apply Below.alloc) | (with_reducible apply Below.drew) | (with_reducible apply below_drewN) | (with_reducible refine Below.trans ?_ (Below.mono (by assumption) ?_)) | omega | (simp; done) | (simp; omega))), .inl ⟨x0, x1, rfl, HR.out _ _ _ _ _ (by first | omega | simp) (by first | omega | simp) (HR.out _ _ _ _ _ (by first | omega | simp) (by first | omega | simp) (HR.out _ _ _ _ _ (by first | omega | simp) (by first | omega | simp) (HRR.out)))⟩⟩
  · have z1 : w.heap.size + 1 < w2.heap.size := by have := hb2.size; simp at this; omega
    have z0 : w.heap.size < w2.heap.size := by omega
    have HK := hidd hk
    obtain ⟨hc, hf⟩ := bcell hb2
    clear hk
    go_wp2_with fail
    refine leaves_cons (f := 163) (args := #[.pointer (some ⟨w.heap.size + 1, 0, none⟩)]) (by simp) (by simp [go_sem]) ?_
    refine (catchH_panicking ⟨w.heap.size + 1, 0, none⟩ 0 k [] _ ?_ ?_).mono ?_
    · simp [go_sem, *]
    · simp [go_sem, *]
    rintro e u' w3 ⟨rfl, rfl, rfl⟩
    simp [Leaves, settle, results, Tryz.results106, go_sem, *]
    exact ⟨by (repeat' (first | (with_reducible exact Below.refl _ _) | (with_reducible assumption) | (with_reducible apply Below.setCell) | (with_reducible apply Below.alloc) | (with_reducible apply Below.drew) | (with_reducible apply below_drewN) | (with_reducible refine Below.trans ?_ (Below.mono (by assumption) ?_)) | omega | (simp; done) | (simp; omega))), .inr ⟨k, rfl, HK.out⟩⟩

theorem catchF_panicking (p : Addr) (x k : Int) (older : List PanicEntry) (w : World) (hc : w.cell? p = some (.int .i64 x)) (hz : w.frozen? p = false) :
    CallsD Tryz.prog 165 #[.pointer (some p)] (.panicking ({ v := .iface 43 (.int .i64 k), recovered := false } :: older)) w fun e u' w' =>
      e = .returned (.tuple #[]) ∧ u' = .panicking ({ v := .iface 43 (.int .i64 k), recovered := true } :: older) ∧ w' = w.setCell p (.int .i64 k) := by
  refine callsD_of_wpS Tryz.func165 rfl fun c₀ cs hu => ?_
  apply wpS_seq
  apply wpS_region
  simp [wpOpsS, go_sem, recoverD, hu, Tryz.ntmps165, Exit.thenS]
  apply wpS_seq
  apply wpS_region
  simp [wpOpsS, go_sem, Exit.thenS]
  refine wpS_cond (t := true) (by simp [Act.eval, Array.replicate]) ?_
  simp only [if_true]
  apply wpS_region
  have hta : ∀ w, (Instr.typeAssert (.iface 43 (.int .i64 k)) 20 43 false).run Tryz.prog w = .ok (.int .i64 k) w := fun _ => by kernel_rfl
  simp [wpOpsS, go_sem, hc, hz, hta, bodyPostS, results, Tryz.results165]
theorem catchF_idle (p : Addr) (w : World) :
    CallsD Tryz.prog 165 #[.pointer (some p)] .returning w fun e u' w' => e = .returned (.tuple #[]) ∧ u' = .returning ∧ w' = w := by
  refine callsD_of_wpS Tryz.func165 rfl fun c₀ cs hu => ?_
  apply wpS_seq
  apply wpS_region
  simp [wpOpsS, go_sem, recoverD, hu, Tryz.ntmps165, Exit.thenS]
  apply wpS_seq
  apply wpS_region
  simp [wpOpsS, go_sem, Exit.thenS]
  refine wpS_cond (t := false) (by simp [Act.eval, Array.replicate]) ?_
  simp only [Bool.false_eq_true, if_false]
  refine wpS_of_wp (wp_skip ?_)
  cases c₀
  simp_all [bodyPostS, results, Tryz.results165]
def ToldF (w : World) (R : Int → Int → Int → World → Prop) (G : Int → Prop) (e : Ending) (w' : World) : Prop :=
  Below w.heap.size w w' ∧ ((∃ x0 x1 x2, e = .returned (.tuple #[.agg #[.int .i64 x0, .int .i64 x1, .int .i64 x2], .int .i64 0]) ∧ R x0 x1 x2 w') ∨ (∃ k, e = .returned (.tuple #[.agg #[.int .i64 0, .int .i64 0, .int .i64 0], .int .i64 k]) ∧ G k))
set_option maxHeartbeats 2000000 in
theorem toldF_any (K : Nat) (he : ∀ args w, (callFunc K args).run Tryz.prog w = .ok (.enter K args) w) (cap : Array Value) (w : World) (R : Int → Int → Int → World → Prop) (G : Int → Prop)
    (hR : ∀ (x0 x1 x2 : Int) (X : World) (p : Addr) (u : Value), w.heap.size ≤ p.block → p.block < w.heap.size + 2 → R x0 x1 x2 X → R x0 x1 x2 (X.setCell p u))
    (cs : ∀ W, Below w.heap.size w W → W.heap.size = w.heap.size + 2 → Calls Tryz.prog K cap W fun e w' => Below W.heap.size W w' ∧ ((∃ x0 x1 x2, e = .returned (.agg #[.int .i64 x0, .int .i64 x1, .int .i64 x2]) ∧ R x0 x1 x2 w') ∨ (∃ k, e = errPanic k ∧ G k))) :
    Calls Tryz.prog 116 #[.func (Fn.func K) #[] cap] w (ToldF w R G) := by
  have CS := hidd cs
  have HR := hidd hR
  clear cs hR
  have hmf : ∀ (fn : Fn) (first cap : Array Value) (w : World), (Instr.makeFunc fn first cap).run Tryz.prog w = .ok (.func fn first cap) w := fun _ _ _ _ => rfl
  go_enter_defers Tryz.func116, Tryz.ntmps116
  go_wp2_with fail
  refine (CS.out _ (by (repeat' (first | (with_reducible exact Below.refl _ _) | (with_reducible assumption) | (with_reducible apply Below.setCell) | (with_reducible apply Below.alloc) | (with_reducible apply Below.drew) | (with_reducible apply below_drewN) | (with_reducible refine Below.trans ?_ (Below.mono (by assumption) ?_)) | omega | (simp; done) | (simp; omega)))) (by simp)).mono ?_
  rintro e w2 ⟨hb2, (⟨x0, x1, x2, rfl, hr⟩ | ⟨k, rfl, hk⟩)⟩
  · have z1 : w.heap.size + 1 < w2.heap.size := by have := hb2.size; simp at this; omega
    have z0 : w.heap.size < w2.heap.size := by omega
    have HRR := hidd hr
    obtain ⟨hc, hf⟩ := bcell hb2
    have c10 : w2.cell? ⟨w.heap.size, 0, none⟩ = some (.int .i64 0) := by rw [hc _ _ (by (first | omega | (simp; done) | (simp; omega)))]; simp [go_sem]
    have c11 : w2.cell? ⟨w.heap.size, 1, none⟩ = some (.int .i64 0) := by rw [hc _ _ (by (first | omega | (simp; done) | (simp; omega)))]; simp [go_sem]
    have c12 : w2.cell? ⟨w.heap.size, 2, none⟩ = some (.int .i64 0) := by rw [hc _ _ (by (first | omega | (simp; done) | (simp; omega)))]; simp [go_sem]
    have c2 : w2.cell? ⟨w.heap.size + 1, 0, none⟩ = some (.int .i64 0) := by rw [hc _ _ (by (first | omega | (simp; done) | (simp; omega)))]; simp [go_sem]
    clear hr
    go_wp2_with fail
    refine leaves_cons (f := 165) (args := #[.pointer (some ⟨w.heap.size + 1, 0, none⟩)]) (by simp) (by simp [go_sem]) ?_
    refine (catchF_idle ⟨w.heap.size + 1, 0, none⟩ _).mono ?_
    rintro e u' w3 ⟨rfl, rfl, rfl⟩
    simp [Leaves, settle, results, Tryz.results116, go_sem, *]
    exact ⟨by (repeat' (first | (with_reducible exact Below.refl _ _) | (with_reducible assumption) | (with_reducible apply Below.setCell) | (with_reducible apply Below.alloc) | (with_reducible apply Below.drew) | (with_reducible apply below_drewN) | (with_reducible refine Below.trans ?_ (Below.mono (by assumption) ?_)) | omega | (simp; done) | (simp; omega))), .inl ⟨x0, x1, x2, rfl, HR.out _ _ _ _ _ _ (by first | omega | simp) (by first | omega | simp) (HR.out _ _ _ _ _ _ (by first | omega | simp) (by first | omega | simp) (HR.out _ _ _ _ _ _ (by first | omega | simp) (by first | omega | simp) (HR.out _ _ _ _ _ _ (by first | omega | simp) (by first | omega | simp) (HRR.out))))⟩⟩
  · have z1 : w.heap.size + 1 < w2.heap.size := by have := hb2.size; simp at this; omega
    have z0 : w.heap.size < w2.heap.size := by omega
    have HK := hidd hk
    obtain ⟨hc, hf⟩ := bcell hb2
    clear hk
    go_wp2_with fail
    refine leaves_cons (f := 165) (args := #[.pointer (some ⟨w.heap.size + 1, 0, none⟩)]) (by simp) (by simp [go_sem]) ?_
    refine (catchF_panicking ⟨w.heap.size + 1, 0, none⟩ 0 k [] _ ?_ ?_).mono ?_
    · simp [go_sem, *]
    · simp [go_sem, *]
    rintro e u' w3 ⟨rfl, rfl, rfl⟩
    simp [Leaves, settle, results, Tryz.results116, go_sem, *]
    exact ⟨by (repeat' (first | (with_reducible exact Below.refl _ _) | (with_reducible assumption) | (with_reducible apply Below.setCell) | (with_reducible apply Below.alloc) | (with_reducible apply Below.drew) | (with_reducible apply below_drewN) | (with_reducible refine Below.trans ?_ (Below.mono (by assumption) ?_)) | omega | (simp; done) | (simp; omega))), .inr ⟨k, rfl, HK.out⟩⟩

theorem catchY_panicking (p : Addr) (x k : Int) (older : List PanicEntry) (w : World) (hc : w.cell? p = some (.int .i64 x)) (hz : w.frozen? p = false) :
    CallsD Tryz.prog 166 #[.pointer (some p)] (.panicking ({ v := .iface 43 (.int .i64 k), recovered := false } :: older)) w fun e u' w' =>
      e = .returned (.tuple #[]) ∧ u' = .panicking ({ v := .iface 43 (.int .i64 k), recovered := true } :: older) ∧ w' = w.setCell p (.int .i64 k) := by
  refine callsD_of_wpS Tryz.func166 rfl fun c₀ cs hu => ?_
  apply wpS_seq
  apply wpS_region
  simp [wpOpsS, go_sem, recoverD, hu, Tryz.ntmps166, Exit.thenS]
  apply wpS_seq
  apply wpS_region
  simp [wpOpsS, go_sem, Exit.thenS]
  refine wpS_cond (t := true) (by simp [Act.eval, Array.replicate]) ?_
  simp only [if_true]
  apply wpS_region
  have hta : ∀ w, (Instr.typeAssert (.iface 43 (.int .i64 k)) 20 43 false).run Tryz.prog w = .ok (.int .i64 k) w := fun _ => by kernel_rfl
  simp [wpOpsS, go_sem, hc, hz, hta, bodyPostS, results, Tryz.results166]
theorem catchY_idle (p : Addr) (w : World) :
    CallsD Tryz.prog 166 #[.pointer (some p)] .returning w fun e u' w' => e = .returned (.tuple #[]) ∧ u' = .returning ∧ w' = w := by
  refine callsD_of_wpS Tryz.func166 rfl fun c₀ cs hu => ?_
  apply wpS_seq
  apply wpS_region
  simp [wpOpsS, go_sem, recoverD, hu, Tryz.ntmps166, Exit.thenS]
  apply wpS_seq
  apply wpS_region
  simp [wpOpsS, go_sem, Exit.thenS]
  refine wpS_cond (t := false) (by simp [Act.eval, Array.replicate]) ?_
  simp only [Bool.false_eq_true, if_false]
  refine wpS_of_wp (wp_skip ?_)
  cases c₀
  simp_all [bodyPostS, results, Tryz.results166]
def ToldY (w : World) (R : Int → World → Prop) (G : Int → Prop) (e : Ending) (w' : World) : Prop :=
  Below w.heap.size w w' ∧ ((∃ x0, e = .returned (.tuple #[.int .i64 x0, .int .i64 0]) ∧ R x0 w') ∨ (∃ k, e = .returned (.tuple #[.int .i64 0, .int .i64 k]) ∧ G k))
set_option maxHeartbeats 2000000 in
theorem toldY_any (K : Nat) (he : ∀ args w, (callFunc K args).run Tryz.prog w = .ok (.enter K args) w) (cap : Array Value) (w : World) (R : Int → World → Prop) (G : Int → Prop)
    (hR : ∀ (x0 : Int) (X : World) (p : Addr) (u : Value), w.heap.size ≤ p.block → p.block < w.heap.size + 1 → R x0 X → R x0 (X.setCell p u))
    (cs : ∀ W, Below w.heap.size w W → W.heap.size = w.heap.size + 1 → Calls Tryz.prog K cap W fun e w' => Below W.heap.size W w' ∧ ((∃ x0, e = .returned (.int .i64 x0) ∧ R x0 w') ∨ (∃ k, e = errPanic k ∧ G k))) :
    Calls Tryz.prog 123 #[.func (Fn.func K) #[] cap] w (ToldY w R G) := by
  have CS := hidd cs
  have HR := hidd hR
  clear cs hR
  have hmf : ∀ (fn : Fn) (first cap : Array Value) (w : World), (Instr.makeFunc fn first cap).run Tryz.prog w = .ok (.func fn first cap) w := fun _ _ _ _ => rfl
  go_enter_defers Tryz.func123, Tryz.ntmps123
  go_wp2_with fail
  refine (CS.out _ (by (repeat' (first | (with_reducible exact Below.refl _ _) | (with_reducible assumption) | (with_reducible apply Below.setCell) | (with_reducible apply Below.alloc) | (with_reducible apply Below.drew) | (with_reducible apply below_drewN) | (with_reducible refine Below.trans ?_ (Below.mono (by assumption) ?_)) | omega | (simp; done) | (simp; omega)))) (by simp)).mono ?_
  rintro e w2 ⟨hb2, (⟨x0, rfl, hr⟩ | ⟨k, rfl, hk⟩)⟩
  · have z1 : w.heap.size < w2.heap.size := by have := hb2.size; simp at this; omega
    have z0 : w.heap.size < w2.heap.size := by omega
    have HRR := hidd hr
    obtain ⟨hc, hf⟩ := bcell hb2
    have c2 : w2.cell? ⟨w.heap.size, 0, none⟩ = some (.int .i64 0) := by rw [hc _ _ (by (first | omega | (simp; done) | (simp; omega)))]; simp [go_sem]
    clear hr
    go_wp2_with fail
    refine leaves_cons (f := 166) (args := #[.pointer (some ⟨w.heap.size, 0, none⟩)]) (by simp) (by simp [go_sem]) ?_
    refine (catchY_idle ⟨w.heap.size, 0, none⟩ _).mono ?_
    rintro e u' w3 ⟨rfl, rfl, rfl⟩
    simp [Leaves, settle, results, Tryz.results123, go_sem, *]
    exact ⟨by (repeat' (first | (with_reducible exact Below.refl _ _) | (with_reducible assumption) | (with_reducible apply Below.setCell) | (with_reducible apply Below.alloc) | (with_reducible apply Below.drew) | (with_reducible apply below_drewN) | (with_reducible refine Below.trans ?_ (Below.mono (by assumption) ?_)) | omega | (simp; done) | (simp; omega))), .inl ⟨x0, rfl, HR.out _ _ _ _ (by first | omega | simp) (by first | omega | simp) (HRR.out)⟩⟩
  · have z1 : w.heap.size < w2.heap.size := by have := hb2.size; simp at this; omega
    have z0 : w.heap.size < w2.heap.size := by omega
    have HK := hidd hk
    obtain ⟨hc, hf⟩ := bcell hb2
    clear hk
    go_wp2_with fail
    refine leaves_cons (f := 166) (args := #[.pointer (some ⟨w.heap.size, 0, none⟩)]) (by simp) (by simp [go_sem]) ?_
    refine (catchY_panicking ⟨w.heap.size, 0, none⟩ 0 k [] _ ?_ ?_).mono ?_
    · simp [go_sem, *]
    · simp [go_sem, *]
    rintro e u' w3 ⟨rfl, rfl, rfl⟩
    simp [Leaves, settle, results, Tryz.results123, go_sem, *]
    exact ⟨by (repeat' (first | (with_reducible exact Below.refl _ _) | (with_reducible assumption) | (with_reducible apply Below.setCell) | (with_reducible apply Below.alloc) | (with_reducible apply Below.drew) | (with_reducible apply below_drewN) | (with_reducible refine Below.trans ?_ (Below.mono (by assumption) ?_)) | omega | (simp; done) | (simp; omega))), .inr ⟨k, rfl, HK.out⟩⟩

theorem catchW_panicking (p : Addr) (x k : Int) (older : List PanicEntry) (w : World) (hc : w.cell? p = some (.int .i64 x)) (hz : w.frozen? p = false) :
    CallsD Tryz.prog 168 #[.pointer (some p)] (.panicking ({ v := .iface 43 (.int .i64 k), recovered := false } :: older)) w fun e u' w' =>
      e = .returned (.tuple #[]) ∧ u' = .panicking ({ v := .iface 43 (.int .i64 k), recovered := true } :: older) ∧ w' = w.setCell p (.int .i64 k) := by
  refine callsD_of_wpS Tryz.func168 rfl fun c₀ cs hu => ?_
  apply wpS_seq
  apply wpS_region
  simp [wpOpsS, go_sem, recoverD, hu, Tryz.ntmps168, Exit.thenS]
  apply wpS_seq
  apply wpS_region
  simp [wpOpsS, go_sem, Exit.thenS]
  refine wpS_cond (t := true) (by simp [Act.eval, Array.replicate]) ?_
  simp only [if_true]
  apply wpS_region
  have hta : ∀ w, (Instr.typeAssert (.iface 43 (.int .i64 k)) 20 43 false).run Tryz.prog w = .ok (.int .i64 k) w := fun _ => by kernel_rfl
  simp [wpOpsS, go_sem, hc, hz, hta, bodyPostS, results, Tryz.results168]
theorem catchW_idle (p : Addr) (w : World) :
    CallsD Tryz.prog 168 #[.pointer (some p)] .returning w fun e u' w' => e = .returned (.tuple #[]) ∧ u' = .returning ∧ w' = w := by
  refine callsD_of_wpS Tryz.func168 rfl fun c₀ cs hu => ?_
  apply wpS_seq
  apply wpS_region
  simp [wpOpsS, go_sem, recoverD, hu, Tryz.ntmps168, Exit.thenS]
  apply wpS_seq
  apply wpS_region
  simp [wpOpsS, go_sem, Exit.thenS]
  refine wpS_cond (t := false) (by simp [Act.eval, Array.replicate]) ?_
  simp only [Bool.false_eq_true, if_false]
  refine wpS_of_wp (wp_skip ?_)
  cases c₀
  simp_all [bodyPostS, results, Tryz.results168]
def ToldW (w : World) (R : Int → Int → Int → Int → Int → Int → Int → World → Prop) (G : Int → Prop) (e : Ending) (w' : World) : Prop :=
  Below w.heap.size w w' ∧ ((∃ x0 x1 x2 x3 x4 x5 x6, e = .returned (.tuple #[.agg #[.int .i64 x0, .int .i64 x1, .int .i64 x2, .int .i64 x3, .int .i64 x4, .int .i64 x5, .int .i64 x6], .int .i64 0]) ∧ R x0 x1 x2 x3 x4 x5 x6 w') ∨ (∃ k, e = .returned (.tuple #[.agg #[.int .i64 0, .int .i64 0, .int .i64 0, .int .i64 0, .int .i64 0, .int .i64 0, .int .i64 0], .int .i64 k]) ∧ G k))
set_option maxHeartbeats 2000000 in
theorem toldW_any (K : Nat) (he : ∀ args w, (callFunc K args).run Tryz.prog w = .ok (.enter K args) w) (cap : Array Value) (w : World) (R : Int → Int → Int → Int → Int → Int → Int → World → Prop) (G : Int → Prop)
    (hR : ∀ (x0 x1 x2 x3 x4 x5 x6 : Int) (X : World) (p : Addr) (u : Value), w.heap.size ≤ p.block → p.block < w.heap.size + 2 → R x0 x1 x2 x3 x4 x5 x6 X → R x0 x1 x2 x3 x4 x5 x6 (X.setCell p u))
    (cs : ∀ W, Below w.heap.size w W → W.heap.size = w.heap.size + 2 → Calls Tryz.prog K cap W fun e w' => Below W.heap.size W w' ∧ ((∃ x0 x1 x2 x3 x4 x5 x6, e = .returned (.agg #[.int .i64 x0, .int .i64 x1, .int .i64 x2, .int .i64 x3, .int .i64 x4, .int .i64 x5, .int .i64 x6]) ∧ R x0 x1 x2 x3 x4 x5 x6 w') ∨ (∃ k, e = errPanic k ∧ G k))) :
    Calls Tryz.prog 131 #[.func (Fn.func K) #[] cap] w (ToldW w R G) := by
  have CS := hidd cs
  have HR := hidd hR
  clear cs hR
  have hmf : ∀ (fn : Fn) (first cap : Array Value) (w : World), (Instr.makeFunc fn first cap).run Tryz.prog w = .ok (.func fn first cap) w := fun _ _ _ _ => rfl
  go_enter_defers Tryz.func131, Tryz.ntmps131
  go_wp2_with fail
  refine (CS.out _ (by (repeat' (first | (with_reducible exact Below.refl _ _) | (with_reducible assumption) | (with_reducible apply Below.setCell) | (with_reducible apply Below.alloc) | (with_reducible apply Below.drew) | (with_reducible apply below_drewN) | (with_reducible refine Below.trans ?_ (Below.mono (by assumption) ?_)) | omega | (simp; done) | (simp; omega)))) (by simp)).mono ?_
  rintro e w2 ⟨hb2, (⟨x0, x1, x2, x3, x4, x5, x6, rfl, hr⟩ | ⟨k, rfl, hk⟩)⟩
  · have z1 : w.heap.size + 1 < w2.heap.size := by have := hb2.size; simp at this; omega
    have z0 : w.heap.size < w2.heap.size := by omega
    have HRR := hidd hr
    obtain ⟨hc, hf⟩ := bcell hb2
    have c10 : w2.cell? ⟨w.heap.size, 0, none⟩ = some (.int .i64 0) := by rw [hc _ _ (by (first | omega | (simp; done) | (simp; omega)))]; simp [go_sem]
    have c11 : w2.cell? ⟨w.heap.size, 1, none⟩ = some (.int .i64 0) := by rw [hc _ _ (by (first | omega | (simp; done) | (simp; omega)))]; simp [go_sem]
    have c12 : w2.cell? ⟨w.heap.size, 2, none⟩ = some (.int .i64 0) := by rw [hc _ _ (by (first | omega | (simp; done) | (simp; omega)))]; simp [go_sem]
    have c13 : w2.cell? ⟨w.heap.size, 3, none⟩ = some (.int .i64 0) := by rw [hc _ _ (by (first | omega | (simp; done) | (simp; omega)))]; simp [go_sem]
    have c14 : w2.cell? ⟨w.heap.size, 4, none⟩ = some (.int .i64 0) := by rw [hc _ _ (by (first | omega | (simp; done) | (simp; omega)))]; simp [go_sem]
    have c15 : w2.cell? ⟨w.heap.size, 5, none⟩ = some (.int .i64 0) := by rw [hc _ _ (by (first | omega | (simp; done) | (simp; omega)))]; simp [go_sem]
    have c16 : w2.cell? ⟨w.heap.size, 6, none⟩ = some (.int .i64 0) := by rw [hc _ _ (by (first | omega | (simp; done) | (simp; omega)))]; simp [go_sem]
    have c2 : w2.cell? ⟨w.heap.size + 1, 0, none⟩ = some (.int .i64 0) := by rw [hc _ _ (by (first | omega | (simp; done) | (simp; omega)))]; simp [go_sem]
    clear hr
    go_wp2_with fail
    refine leaves_cons (f := 168) (args := #[.pointer (some ⟨w.heap.size + 1, 0, none⟩)]) (by simp) (by simp [go_sem]) ?_
    refine (catchW_idle ⟨w.heap.size + 1, 0, none⟩ _).mono ?_
    rintro e u' w3 ⟨rfl, rfl, rfl⟩
    simp [Leaves, settle, results, Tryz.results131, go_sem, *]
    exact ⟨by (repeat' (first | (with_reducible exact Below.refl _ _) | (with_reducible assumption) | (with_reducible apply Below.setCell) | (with_reducible apply Below.alloc) | (with_reducible apply Below.drew) | (with_reducible apply below_drewN) | (with_reducible refine Below.trans ?_ (Below.mono (by assumption) ?_)) | omega | (simp; done) | (simp; omega))), .inl ⟨x0, x1, x2, x3, x4, x5, x6, rfl, HR.out _ _ _ _ _ _ _ _ _ _ (by first | omega | simp) (by first | omega | simp) (HR.out _ _ _ _ _ _ _ _ _ _ (by first | omega | simp) (by first | omega | simp) (HR.out _ _ _ _ _ _ _ _ _ _ (by first | omega | simp) (by first | omega | simp) (HR.out _ _ _ _ _ _ _ _ _ _ (by first | omega | simp) (by first | omega | simp) (HR.out _ _ _ _ _ _ _ _ _ _ (by first | omega | simp) (by first | omega | simp) (HR.out _ _ _ _ _ _ _ _ _ _ (by first | omega | simp) (by first | omega | simp) (HR.out _ _ _ _ _ _ _ _ _ _ (by first | omega | simp) (by first | omega | simp) (HR.out _ _ _ _ _ _ _ _ _ _ (by first | omega | simp) (by first | omega | simp) (HRR.out))))))))⟩⟩
  · have z1 : w.heap.size + 1 < w2.heap.size := by have := hb2.size; simp at this; omega
    have z0 : w.heap.size < w2.heap.size := by omega
    have HK := hidd hk
    obtain ⟨hc, hf⟩ := bcell hb2
    clear hk
    go_wp2_with fail
    refine leaves_cons (f := 168) (args := #[.pointer (some ⟨w.heap.size + 1, 0, none⟩)]) (by simp) (by simp [go_sem]) ?_
    refine (catchW_panicking ⟨w.heap.size + 1, 0, none⟩ 0 k [] _ ?_ ?_).mono ?_
    · simp [go_sem, *]
    · simp [go_sem, *]
    rintro e u' w3 ⟨rfl, rfl, rfl⟩
    simp [Leaves, settle, results, Tryz.results131, go_sem, *]
    exact ⟨by (repeat' (first | (with_reducible exact Below.refl _ _) | (with_reducible assumption) | (with_reducible apply Below.setCell) | (with_reducible apply Below.alloc) | (with_reducible apply Below.drew) | (with_reducible apply below_drewN) | (with_reducible refine Below.trans ?_ (Below.mono (by assumption) ?_)) | omega | (simp; done) | (simp; omega))), .inr ⟨k, rfl, HK.out⟩⟩

theorem catchN_panicking (p : Addr) (x k : Int) (older : List PanicEntry) (w : World) (hc : w.cell? p = some (.int .i64 x)) (hz : w.frozen? p = false) :
    CallsD Tryz.prog 173 #[.pointer (some p)] (.panicking ({ v := .iface 43 (.int .i64 k), recovered := false } :: older)) w fun e u' w' =>
      e = .returned (.tuple #[]) ∧ u' = .panicking ({ v := .iface 43 (.int .i64 k), recovered := true } :: older) ∧ w' = w.setCell p (.int .i64 k) := by
  refine callsD_of_wpS Tryz.func173 rfl fun c₀ cs hu => ?_
  apply wpS_seq
  apply wpS_region
  simp [wpOpsS, go_sem, recoverD, hu, Tryz.ntmps173, Exit.thenS]
  apply wpS_seq
  apply wpS_region
  simp [wpOpsS, go_sem, Exit.thenS]
  refine wpS_cond (t := true) (by simp [Act.eval, Array.replicate]) ?_
  simp only [if_true]
  apply wpS_region
  have hta : ∀ w, (Instr.typeAssert (.iface 43 (.int .i64 k)) 20 43 false).run Tryz.prog w = .ok (.int .i64 k) w := fun _ => by kernel_rfl
  simp [wpOpsS, go_sem, hc, hz, hta, bodyPostS, results, Tryz.results173]
theorem catchN_idle (p : Addr) (w : World) :
    CallsD Tryz.prog 173 #[.pointer (some p)] .returning w fun e u' w' => e = .returned (.tuple #[]) ∧ u' = .returning ∧ w' = w := by
  refine callsD_of_wpS Tryz.func173 rfl fun c₀ cs hu => ?_
  apply wpS_seq
  apply wpS_region
  simp [wpOpsS, go_sem, recoverD, hu, Tryz.ntmps173, Exit.thenS]
  apply wpS_seq
  apply wpS_region
  simp [wpOpsS, go_sem, Exit.thenS]
  refine wpS_cond (t := false) (by simp [Act.eval, Array.replicate]) ?_
  simp only [Bool.false_eq_true, if_false]
  refine wpS_of_wp (wp_skip ?_)
  cases c₀
  simp_all [bodyPostS, results, Tryz.results173]
def ToldN (w : World) (R : Int → Int → World → Prop) (G : Int → Prop) (e : Ending) (w' : World) : Prop :=
  Below w.heap.size w w' ∧ ((∃ x0 x1, e = .returned (.tuple #[.agg #[.int .i64 x0, .int .i64 x1], .int .i64 0]) ∧ R x0 x1 w') ∨ (∃ k, e = .returned (.tuple #[.agg #[.int .i64 0, .int .i64 0], .int .i64 k]) ∧ G k))
set_option maxHeartbeats 2000000 in
theorem toldN_any (K : Nat) (he : ∀ args w, (callFunc K args).run Tryz.prog w = .ok (.enter K args) w) (cap : Array Value) (w : World) (R : Int → Int → World → Prop) (G : Int → Prop)
    (hR : ∀ (x0 x1 : Int) (X : World) (p : Addr) (u : Value), w.heap.size ≤ p.block → p.block < w.heap.size + 2 → R x0 x1 X → R x0 x1 (X.setCell p u))
    (cs : ∀ W, Below w.heap.size w W → W.heap.size = w.heap.size + 2 → Calls Tryz.prog K cap W fun e w' => Below W.heap.size W w' ∧ ((∃ x0 x1, e = .returned (.agg #[.int .i64 x0, .int .i64 x1]) ∧ R x0 x1 w') ∨ (∃ k, e = errPanic k ∧ G k))) :
    Calls Tryz.prog 144 #[.func (Fn.func K) #[] cap] w (ToldN w R G) := by
  have CS := hidd cs
  have HR := hidd hR
  clear cs hR
  have hmf : ∀ (fn : Fn) (first cap : Array Value) (w : World), (Instr.makeFunc fn first cap).run Tryz.prog w = .ok (.func fn first cap) w := fun _ _ _ _ => rfl
  go_enter_defers Tryz.func144, Tryz.ntmps144
  go_wp2_with fail
  refine (CS.out _ (by (repeat' (first | (with_reducible exact Below.refl _ _) | (with_reducible assumption) | (with_reducible apply Below.setCell) | (with_reducible apply Below.alloc) | (with_reducible apply Below.drew) | (with_reducible apply below_drewN) | (with_reducible refine Below.trans ?_ (Below.mono (by assumption) ?_)) | omega | (simp; done) | (simp; omega)))) (by simp)).mono ?_
  rintro e w2 ⟨hb2, (⟨x0, x1, rfl, hr⟩ | ⟨k, rfl, hk⟩)⟩
  · have z1 : w.heap.size + 1 < w2.heap.size := by have := hb2.size; simp at this; omega
    have z0 : w.heap.size < w2.heap.size := by omega
    have HRR := hidd hr
    obtain ⟨hc, hf⟩ := bcell hb2
    have c10 : w2.cell? ⟨w.heap.size, 0, none⟩ = some (.int .i64 0) := by rw [hc _ _ (by (first | omega | (simp; done) | (simp; omega)))]; simp [go_sem]
    have c11 : w2.cell? ⟨w.heap.size, 1, none⟩ = some (.int .i64 0) := by rw [hc _ _ (by (first | omega | (simp; done) | (simp; omega)))]; simp [go_sem]
    have c2 : w2.cell? ⟨w.heap.size + 1, 0, none⟩ = some (.int .i64 0) := by rw [hc _ _ (by (first | omega | (simp; done) | (simp; omega)))]; simp [go_sem]
    clear hr
    go_wp2_with fail
    refine leaves_cons (f := 173) (args := #[.pointer (some ⟨w.heap.size + 1, 0, none⟩)]) (by simp) (by simp [go_sem]) ?_
    refine (catchN_idle ⟨w.heap.size + 1, 0, none⟩ _).mono ?_
    rintro e u' w3 ⟨rfl, rfl, rfl⟩
    simp [Leaves, settle, results, Tryz.results144, go_sem, *]
    exact ⟨by (repeat' (first | (with_reducible exact Below.refl _ _) | (with_reducible assumption) | (with_reducible apply Below.setCell) | (with_reducible apply Below.alloc) | (with_reducible apply Below.drew) | (with_reducible apply below_drewN) | (with_reducible refine Below.trans ?_ (Below.mono (by assumption) ?_)) | omega | (simp; done) | (simp; omega))), .inl ⟨x0, x1, rfl, HR.out _ _ _ _ _ (by first | omega | simp) (by first | omega | simp) (HR.out _ _ _ _ _ (by first | omega | simp) (by first | omega | simp) (HR.out _ _ _ _ _ (by first | omega | simp) (by first | omega | simp) (HRR.out)))⟩⟩
  · have z1 : w.heap.size + 1 < w2.heap.size := by have := hb2.size; simp at this; omega
    have z0 : w.heap.size < w2.heap.size := by omega
    have HK := hidd hk
    obtain ⟨hc, hf⟩ := bcell hb2
    clear hk
    go_wp2_with fail
    refine leaves_cons (f := 173) (args := #[.pointer (some ⟨w.heap.size + 1, 0, none⟩)]) (by simp) (by simp [go_sem]) ?_
    refine (catchN_panicking ⟨w.heap.size + 1, 0, none⟩ 0 k [] _ ?_ ?_).mono ?_
    · simp [go_sem, *]
    · simp [go_sem, *]
    rintro e u' w3 ⟨rfl, rfl, rfl⟩
    simp [Leaves, settle, results, Tryz.results144, go_sem, *]
    exact ⟨by (repeat' (first | (with_reducible exact Below.refl _ _) | (with_reducible assumption) | (with_reducible apply Below.setCell) | (with_reducible apply Below.alloc) | (with_reducible apply Below.drew) | (with_reducible apply below_drewN) | (with_reducible refine Below.trans ?_ (Below.mono (by assumption) ?_)) | omega | (simp; done) | (simp; omega))), .inr ⟨k, rfl, HK.out⟩⟩

theorem catchP_panicking (p : Addr) (x k : Int) (older : List PanicEntry) (w : World) (hc : w.cell? p = some (.int .i64 x)) (hz : w.frozen? p = false) :
    CallsD Tryz.prog 174 #[.pointer (some p)] (.panicking ({ v := .iface 43 (.int .i64 k), recovered := false } :: older)) w fun e u' w' =>
      e = .returned (.tuple #[]) ∧ u' = .panicking ({ v := .iface 43 (.int .i64 k), recovered := true } :: older) ∧ w' = w.setCell p (.int .i64 k) := by
  refine callsD_of_wpS Tryz.func174 rfl fun c₀ cs hu => ?_
  apply wpS_seq
  apply wpS_region
  simp [wpOpsS, go_sem, recoverD, hu, Tryz.ntmps174, Exit.thenS]
  apply wpS_seq
  apply wpS_region
  simp [wpOpsS, go_sem, Exit.thenS]
  refine wpS_cond (t := true) (by simp [Act.eval, Array.replicate]) ?_
  simp only [if_true]
  apply wpS_region
  have hta : ∀ w, (Instr.typeAssert (.iface 43 (.int .i64 k)) 20 43 false).run Tryz.prog w = .ok (.int .i64 k) w := fun _ => by kernel_rfl
  simp [wpOpsS, go_sem, hc, hz, hta, bodyPostS, results, Tryz.results174]
theorem catchP_idle (p : Addr) (w : World) :
    CallsD Tryz.prog 174 #[.pointer (some p)] .returning w fun e u' w' => e = .returned (.tuple #[]) ∧ u' = .returning ∧ w' = w := by
  refine callsD_of_wpS Tryz.func174 rfl fun c₀ cs hu => ?_
  apply wpS_seq
  apply wpS_region
  simp [wpOpsS, go_sem, recoverD, hu, Tryz.ntmps174, Exit.thenS]
  apply wpS_seq
  apply wpS_region
  simp [wpOpsS, go_sem, Exit.thenS]
  refine wpS_cond (t := false) (by simp [Act.eval, Array.replicate]) ?_
  simp only [Bool.false_eq_true, if_false]
  refine wpS_of_wp (wp_skip ?_)
  cases c₀
  simp_all [bodyPostS, results, Tryz.results174]
def ToldP (w : World) (R : Int → Int → Int → Int → Int → World → Prop) (G : Int → Prop) (e : Ending) (w' : World) : Prop :=
  Below w.heap.size w w' ∧ ((∃ x0 x1 x2 x3 x4, e = .returned (.tuple #[.agg #[.int .i64 x0, .int .i64 x1, .int .i64 x2, .int .i64 x3, .int .i64 x4], .int .i64 0]) ∧ R x0 x1 x2 x3 x4 w') ∨ (∃ k, e = .returned (.tuple #[.agg #[.int .i64 0, .int .i64 0, .int .i64 0, .int .i64 0, .int .i64 0], .int .i64 k]) ∧ G k))
set_option maxHeartbeats 2000000 in
theorem toldP_any (K : Nat) (he : ∀ args w, (callFunc K args).run Tryz.prog w = .ok (.enter K args) w) (cap : Array Value) (w : World) (R : Int → Int → Int → Int → Int → World → Prop) (G : Int → Prop)
    (hR : ∀ (x0 x1 x2 x3 x4 : Int) (X : World) (p : Addr) (u : Value), w.heap.size ≤ p.block → p.block < w.heap.size + 2 → R x0 x1 x2 x3 x4 X → R x0 x1 x2 x3 x4 (X.setCell p u))
    (cs : ∀ W, Below w.heap.size w W → W.heap.size = w.heap.size + 2 → Calls Tryz.prog K cap W fun e w' => Below W.heap.size W w' ∧ ((∃ x0 x1 x2 x3 x4, e = .returned (.agg #[.int .i64 x0, .int .i64 x1, .int .i64 x2, .int .i64 x3, .int .i64 x4]) ∧ R x0 x1 x2 x3 x4 w') ∨ (∃ k, e = errPanic k ∧ G k))) :
    Calls Tryz.prog 148 #[.func (Fn.func K) #[] cap] w (ToldP w R G) := by
  have CS := hidd cs
  have HR := hidd hR
  clear cs hR
  have hmf : ∀ (fn : Fn) (first cap : Array Value) (w : World), (Instr.makeFunc fn first cap).run Tryz.prog w = .ok (.func fn first cap) w := fun _ _ _ _ => rfl
  go_enter_defers Tryz.func148, Tryz.ntmps148
  go_wp2_with fail
  refine (CS.out _ (by (repeat' (first | (with_reducible exact Below.refl _ _) | (with_reducible assumption) | (with_reducible apply Below.setCell) | (with_reducible apply Below.alloc) | (with_reducible apply Below.drew) | (with_reducible apply below_drewN) | (with_reducible refine Below.trans ?_ (Below.mono (by assumption) ?_)) | omega | (simp; done) | (simp; omega)))) (by simp)).mono ?_
  rintro e w2 ⟨hb2, (⟨x0, x1, x2, x3, x4, rfl, hr⟩ | ⟨k, rfl, hk⟩)⟩
  · have z1 : w.heap.size + 1 < w2.heap.size := by have := hb2.size; simp at this; omega
    have z0 : w.heap.size < w2.heap.size := by omega
    have HRR := hidd hr
    obtain ⟨hc, hf⟩ := bcell hb2
    have c10 : w2.cell? ⟨w.heap.size, 0, none⟩ = some (.int .i64 0) := by rw [hc _ _ (by (first | omega | (simp; done) | (simp; omega)))]; simp [go_sem]
    have c11 : w2.cell? ⟨w.heap.size, 1, none⟩ = some (.int .i64 0) := by rw [hc _ _ (by (first | omega | (simp; done) | (simp; omega)))]; simp [go_sem]
    have c12 : w2.cell? ⟨w.heap.size, 2, none⟩ = some (.int .i64 0) := by rw [hc _ _ (by (first | omega | (simp; done) | (simp; omega)))]; simp [go_sem]
    have c13 : w2.cell? ⟨w.heap.size, 3, none⟩ = some (.int .i64 0) := by rw [hc _ _ (by (first | omega | (simp; done) | (simp; omega)))]; simp [go_sem]
    have c14 : w2.cell? ⟨w.heap.size, 4, none⟩ = some (.int .i64 0) := by rw [hc _ _ (by (first | omega | (simp; done) | (simp; omega)))]; simp [go_sem]
    have c2 : w2.cell? ⟨w.heap.size + 1, 0, none⟩ = some (.int .i64 0) := by rw [hc _ _ (by (first | omega | (simp; done) | (simp; omega)))]; simp [go_sem]
    clear hr
    go_wp2_with fail
    refine leaves_cons (f := 174) (args := #[.pointer (some ⟨w.heap.size + 1, 0, none⟩)]) (by simp) (by simp [go_sem]) ?_
    refine (catchP_idle ⟨w.heap.size + 1, 0, none⟩ _).mono ?_
    rintro e u' w3 ⟨rfl, rfl, rfl⟩
    simp [Leaves, settle, results, Tryz.results148, go_sem, *]
    exact ⟨by (repeat' (first | (with_reducible exact Below.refl _ _) | (with_reducible assumption) | (with_reducible apply Below.setCell) | (with_reducible apply Below.alloc) | (with_reducible apply Below.drew) | (with_reducible apply below_drewN) | (with_reducible refine Below.trans ?_ (Below.mono (by assumption) ?_)) | omega | (simp; done) | (simp; omega))), .inl ⟨x0, x1, x2, x3, x4, rfl, HR.out _ _ _ _ _ _ _ _ (by first | omega | simp) (by first | omega | simp) (HR.out _ _ _ _ _ _ _ _ (by first | omega | simp) (by first | omega | simp) (HR.out _ _ _ _ _ _ _ _ (by first | omega | simp) (by first | omega | simp) (HR.out _ _ _ _ _ _ _ _ (by first | omega | simp) (by first | omega | simp) (HR.out _ _ _ _ _ _ _ _ (by first | omega | simp) (by first | omega | simp) (HR.out _ _ _ _ _ _ _ _ (by first | omega | simp) (by first | omega | simp) (HRR.out))))))⟩⟩
  · have z1 : w.heap.size + 1 < w2.heap.size := by have := hb2.size; simp at this; omega
    have z0 : w.heap.size < w2.heap.size := by omega
    have HK := hidd hk
    obtain ⟨hc, hf⟩ := bcell hb2
    clear hk
    go_wp2_with fail
    refine leaves_cons (f := 174) (args := #[.pointer (some ⟨w.heap.size + 1, 0, none⟩)]) (by simp) (by simp [go_sem]) ?_
    refine (catchP_panicking ⟨w.heap.size + 1, 0, none⟩ 0 k [] _ ?_ ?_).mono ?_
    · simp [go_sem, *]
    · simp [go_sem, *]
    rintro e u' w3 ⟨rfl, rfl, rfl⟩
    simp [Leaves, settle, results, Tryz.results148, go_sem, *]
    exact ⟨by (repeat' (first | (with_reducible exact Below.refl _ _) | (with_reducible assumption) | (with_reducible apply Below.setCell) | (with_reducible apply Below.alloc) | (with_reducible apply Below.drew) | (with_reducible apply below_drewN) | (with_reducible refine Below.trans ?_ (Below.mono (by assumption) ?_)) | omega | (simp; done) | (simp; omega))), .inr ⟨k, rfl, HK.out⟩⟩

theorem catchM_panicking (p : Addr) (x k : Int) (older : List PanicEntry) (w : World) (hc : w.cell? p = some (.int .i64 x)) (hz : w.frozen? p = false) :
    CallsD Tryz.prog 176 #[.pointer (some p)] (.panicking ({ v := .iface 43 (.int .i64 k), recovered := false } :: older)) w fun e u' w' =>
      e = .returned (.tuple #[]) ∧ u' = .panicking ({ v := .iface 43 (.int .i64 k), recovered := true } :: older) ∧ w' = w.setCell p (.int .i64 k) := by
  refine callsD_of_wpS Tryz.func176 rfl fun c₀ cs hu => ?_
  apply wpS_seq
  apply wpS_region
  simp [wpOpsS, go_sem, recoverD, hu, Tryz.ntmps176, Exit.thenS]
  apply wpS_seq
  apply wpS_region
  simp [wpOpsS, go_sem, Exit.thenS]
  refine wpS_cond (t := true) (by simp [Act.eval, Array.replicate]) ?_
  simp only [if_true]
  apply wpS_region
  have hta : ∀ w, (Instr.typeAssert (.iface 43 (.int .i64 k)) 20 43 false).run Tryz.prog w = .ok (.int .i64 k) w := fun _ => by kernel_rfl
  simp [wpOpsS, go_sem, hc, hz, hta, bodyPostS, results, Tryz.results176]
theorem catchM_idle (p : Addr) (w : World) :
    CallsD Tryz.prog 176 #[.pointer (some p)] .returning w fun e u' w' => e = .returned (.tuple #[]) ∧ u' = .returning ∧ w' = w := by
  refine callsD_of_wpS Tryz.func176 rfl fun c₀ cs hu => ?_
  apply wpS_seq
  apply wpS_region
  simp [wpOpsS, go_sem, recoverD, hu, Tryz.ntmps176, Exit.thenS]
  apply wpS_seq
  apply wpS_region
  simp [wpOpsS, go_sem, Exit.thenS]
  refine wpS_cond (t := false) (by simp [Act.eval, Array.replicate]) ?_
  simp only [Bool.false_eq_true, if_false]
  refine wpS_of_wp (wp_skip ?_)
  cases c₀
  simp_all [bodyPostS, results, Tryz.results176]
def ToldM (w : World) (R : Int → Int → World → Prop) (G : Int → Prop) (e : Ending) (w' : World) : Prop :=
  Below w.heap.size w w' ∧ ((∃ x0 x1, e = .returned (.tuple #[.agg #[.int .i64 x0, .int .i64 x1], .int .i64 0]) ∧ R x0 x1 w') ∨ (∃ k, e = .returned (.tuple #[.agg #[.int .i64 0, .int .i64 0], .int .i64 k]) ∧ G k))
set_option maxHeartbeats 2000000 in
theorem toldM_any (K : Nat) (he : ∀ args w, (callFunc K args).run Tryz.prog w = .ok (.enter K args) w) (cap : Array Value) (w : World) (R : Int → Int → World → Prop) (G : Int → Prop)
    (hR : ∀ (x0 x1 : Int) (X : World) (p : Addr) (u : Value), w.heap.size ≤ p.block → p.block < w.heap.size + 2 → R x0 x1 X → R x0 x1 (X.setCell p u))
    (cs : ∀ W, Below w.heap.size w W → W.heap.size = w.heap.size + 2 → Calls Tryz.prog K cap W fun e w' => Below W.heap.size W w' ∧ ((∃ x0 x1, e = .returned (.agg #[.int .i64 x0, .int .i64 x1]) ∧ R x0 x1 w') ∨ (∃ k, e = errPanic k ∧ G k))) :
    Calls Tryz.prog 155 #[.func (Fn.func K) #[] cap] w (ToldM w R G) := by
  have CS := hidd cs
  have HR := hidd hR
  clear cs hR
  have hmf : ∀ (fn : Fn) (first cap : Array Value) (w : World), (Instr.makeFunc fn first cap).run Tryz.prog w = .ok (.func fn first cap) w := fun _ _ _ _ => rfl
  go_enter_defers Tryz.func155, Tryz.ntmps155
  go_wp2_with fail
  refine (CS.out _ (by (repeat' (first | (with_reducible exact Below.refl _ _) | (with_reducible assumption) | (with_reducible apply Below.setCell) | (with_reducible apply Below.alloc) | (with_reducible apply Below.drew) | (with_reducible apply below_drewN) | (with_reducible refine Below.trans ?_ (Below.mono (by assumption) ?_)) | omega | (simp; done) | (simp; omega)))) (by simp)).mono ?_
  rintro e w2 ⟨hb2, (⟨x0, x1, rfl, hr⟩ | ⟨k, rfl, hk⟩)⟩
  · have z1 : w.heap.size + 1 < w2.heap.size := by have := hb2.size; simp at this; omega
    have z0 : w.heap.size < w2.heap.size := by omega
    have HRR := hidd hr
    obtain ⟨hc, hf⟩ := bcell hb2
    have c10 : w2.cell? ⟨w.heap.size, 0, none⟩ = some (.int .i64 0) := by rw [hc _ _ (by (first | omega | (simp; done) | (simp; omega)))]; simp [go_sem]
    have c11 : w2.cell? ⟨w.heap.size, 1, none⟩ = some (.int .i64 0) := by rw [hc _ _ (by (first | omega | (simp; done) | (simp; omega)))]; simp [go_sem]
    have c2 : w2.cell? ⟨w.heap.size + 1, 0, none⟩ = some (.int .i64 0) := by rw [hc _ _ (by (first | omega | (simp; done) | (simp; omega)))]; simp [go_sem]
    clear hr
    go_wp2_with fail
    refine leaves_cons (f := 176) (args := #[.pointer (some ⟨w.heap.size + 1, 0, none⟩)]) (by simp) (by simp [go_sem]) ?_
    refine (catchM_idle ⟨w.heap.size + 1, 0, none⟩ _).mono ?_
    rintro e u' w3 ⟨rfl, rfl, rfl⟩
    simp [Leaves, settle, results, Tryz.results155, go_sem, *]
    exact ⟨by (repeat' (first | (with_reducible exact Below.refl _ _) | (with_reducible assumption) | (with_reducible apply Below.setCell) | (with_reducible apply Below.alloc) | (with_reducible apply Below.drew) | (with_reducible apply below_drewN) | (with_reducible refine Below.trans ?_ (Below.mono (by assumption) ?_)) | omega | (simp; done) | (simp; omega))), .inl ⟨x0, x1, rfl, HR.out _ _ _ _ _ (by first | omega | simp) (by first | omega | simp) (HR.out _ _ _ _ _ (by first | omega | simp) (by first | omega | simp) (HR.out _ _ _ _ _ (by first | omega | simp) (by first | omega | simp) (HRR.out)))⟩⟩
  · have z1 : w.heap.size + 1 < w2.heap.size := by have := hb2.size; simp at this; omega
    have z0 : w.heap.size < w2.heap.size := by omega
    have HK := hidd hk
    obtain ⟨hc, hf⟩ := bcell hb2
    clear hk
    go_wp2_with fail
    refine leaves_cons (f := 176) (args := #[.pointer (some ⟨w.heap.size + 1, 0, none⟩)]) (by simp) (by simp [go_sem]) ?_
    refine (catchM_panicking ⟨w.heap.size + 1, 0, none⟩ 0 k [] _ ?_ ?_).mono ?_
    · simp [go_sem, *]
    · simp [go_sem, *]
    rintro e u' w3 ⟨rfl, rfl, rfl⟩
    simp [Leaves, settle, results, Tryz.results155, go_sem, *]
    exact ⟨by (repeat' (first | (with_reducible exact Below.refl _ _) | (with_reducible assumption) | (with_reducible apply Below.setCell) | (with_reducible apply Below.alloc) | (with_reducible apply Below.drew) | (with_reducible apply below_drewN) | (with_reducible refine Below.trans ?_ (Below.mono (by assumption) ?_)) | omega | (simp; done) | (simp; omega))), .inr ⟨k, rfl, HK.out⟩⟩
end Go.Proofs.YtappmacnoopmkaaGreat
