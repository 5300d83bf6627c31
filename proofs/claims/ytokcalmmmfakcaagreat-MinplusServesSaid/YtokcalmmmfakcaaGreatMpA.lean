/- minplus's steps: need, must, the number's methods; the face of a step (told). -/
import Derived.Test.YtokcalmmmfakcaaGreatRatLe
import Derived.Test.YtokcalmmmfakcaaGreatRatPo
import Derived.Test.YtokcalmmmfakcaaGreatRatMf
import Derived.Test.YtokcalmmmfakcaaGreatRatFm
import Derived.Test.YtokcalmmmfakcaaGreatBgF
namespace Go.Proofs.YtokcalmmmfakcaaGreat
set_option linter.unusedVariables false
open Go.RowKit

theorem need_yes (k : Int) (w : World) : Calls Tryz.prog 36 #[.bool true, .int .i64 k] w fun e w' => e = .returned (.tuple #[]) ∧ w = w' := by
  go_enter Tryz.func36, Tryz.ntmps36
  go_wp2_with fail
  first | exact ⟨rfl, rfl, rfl⟩ | simp [bodyPost, results, Tryz.results36]
theorem need_no (k : Int) (w : World) : Calls Tryz.prog 36 #[.bool false, .int .i64 k] w fun e w' => e = errPanic k ∧ w = w' := by
  go_enter Tryz.func36, Tryz.ntmps36
  go_wp2_with fail
  exact ⟨rfl, rfl, rfl⟩
theorem mustR_ok (x y : Int) (w : World) : Calls Tryz.prog 45 #[.agg #[.int .i64 x, .int .i64 y], .int .i64 0] w fun e w' => e = .returned (.agg #[.int .i64 x, .int .i64 y]) ∧ Below w.heap.size w w' := by
  go_enter Tryz.func45, Tryz.ntmps45
  go_wp2_with fail
  refine (need_yes _ _).mono ?_
  rintro e w1 ⟨rfl, rfl⟩
  go_wp2_with fail
  exact bodyPost_ret (v := .agg #[.int .i64 x, .int .i64 y]) (by simp [results, Tryz.results45, go_sem]) rfl ⟨rfl, by (repeat' (first | (with_reducible exact Below.refl _ _) | (with_reducible assumption) | (with_reducible apply Below.setCell) | (with_reducible apply Below.alloc) | (with_reducible apply Below.drew) | (with_reducible apply below_drewN) | (with_reducible refine Below.trans ?_ (Below.mono (by assumption) ?_)) | omega | (simp; done) | (simp; omega)))⟩
theorem mustR_no (x y k : Int) (hk : ¬ k = 0) (w : World) : Calls Tryz.prog 45 #[.agg #[.int .i64 x, .int .i64 y], .int .i64 k] w fun e w' => e = errPanic k ∧ Below w.heap.size w w' := by
  have h1 : (k == 0) = false := beq_eq_false_iff_ne.2 hk
  have h2 : decide (k = 0) = false := decide_eq_false hk
  go_enter Tryz.func45, Tryz.ntmps45
  go_wp2_with fail
  refine (need_no _ _).mono ?_
  rintro e w1 ⟨rfl, rfl⟩
  go_wp2_with fail
  exact ⟨rfl, rfl, by (repeat' (first | (with_reducible exact Below.refl _ _) | (with_reducible assumption) | (with_reducible apply Below.setCell) | (with_reducible apply Below.alloc) | (with_reducible apply Below.drew) | (with_reducible apply below_drewN) | (with_reducible refine Below.trans ?_ (Below.mono (by assumption) ?_)) | omega | (simp; done) | (simp; omega)))⟩
theorem mustI_ok (x : Int) (w : World) : Calls Tryz.prog 101 #[.int .i64 x, .int .i64 0] w fun e w' => e = .returned (.int .i64 x) ∧ Below w.heap.size w w' := by
  go_enter Tryz.func101, Tryz.ntmps101
  go_wp2_with fail
  refine (need_yes _ _).mono ?_
  rintro e w1 ⟨rfl, rfl⟩
  go_wp2_with fail
  go_ret
  exact ⟨rfl, by (repeat' (first | (with_reducible exact Below.refl _ _) | (with_reducible assumption) | (with_reducible apply Below.setCell) | (with_reducible apply Below.alloc) | (with_reducible apply Below.drew) | (with_reducible apply below_drewN) | (with_reducible refine Below.trans ?_ (Below.mono (by assumption) ?_)) | omega | (simp; done) | (simp; omega)))⟩
theorem mustI_no (x k : Int) (hk : ¬ k = 0) (w : World) : Calls Tryz.prog 101 #[.int .i64 x, .int .i64 k] w fun e w' => e = errPanic k ∧ Below w.heap.size w w' := by
  have h1 : (k == 0) = false := beq_eq_false_iff_ne.2 hk
  have h2 : decide (k = 0) = false := decide_eq_false hk
  go_enter Tryz.func101, Tryz.ntmps101
  go_wp2_with fail
  refine (need_no _ _).mono ?_
  rintro e w1 ⟨rfl, rfl⟩
  go_wp2_with fail
  exact ⟨rfl, rfl, by (repeat' (first | (with_reducible exact Below.refl _ _) | (with_reducible assumption) | (with_reducible apply Below.setCell) | (with_reducible apply Below.alloc) | (with_reducible apply Below.drew) | (with_reducible apply below_drewN) | (with_reducible refine Below.trans ?_ (Below.mono (by assumption) ?_)) | omega | (simp; done) | (simp; omega)))⟩
set_option maxHeartbeats 2000000 in
theorem catchMR_panicking (p : Addr) (x k : Int) (older : List PanicEntry) (w : World) (hc : w.cell? p = some (.int .i64 x)) (hz : w.frozen? p = false) :
    CallsD Tryz.prog 71 #[.pointer (some p)] (.panicking ({ v := .iface 29 (.int .i64 k), recovered := false } :: older)) w fun e u' w' =>
      e = .returned (.tuple #[]) ∧ u' = .panicking ({ v := .iface 29 (.int .i64 k), recovered := true } :: older) ∧ w' = w.setCell p (.int .i64 k) := by
  refine callsD_of_wpS Tryz.func71 rfl fun c₀ cs hu => ?_
  apply wpS_seq
  apply wpS_region
  simp [wpOpsS, go_sem, recoverD, hu, Tryz.ntmps71, Exit.thenS]
  have hta : ∀ w, (Instr.typeAssert (.iface 29 (.int .i64 k)) 20 29 true).run Tryz.prog w = .ok (.tuple #[.int .i64 k, .bool true]) w := fun _ => by kernel_rfl
  have hnil : ∀ w, (binOp .eql 20 (.iface 29 (.int .i64 k)) Value.nilIface).run Tryz.prog w = .ok (.bool false) w := fun _ => by kernel_rfl
  (try simp only [Array.replicate_succ, Array.replicate_zero, List.push_toArray, List.append_toArray, List.nil_append, List.cons_append, List.setIfInBounds_toArray, List.set_cons_zero, List.set_cons_succ])
  refine wpS_of_wp ?_
  go_wp2_with fail
  simp [go_sem, bodyPostS, results, Tryz.results71]
theorem catchMR_idle (p : Addr) (w : World) :
    CallsD Tryz.prog 71 #[.pointer (some p)] .returning w fun e u' w' => e = .returned (.tuple #[]) ∧ u' = .returning ∧ w' = w := by
  refine callsD_of_wpS Tryz.func71 rfl fun c₀ cs hu => ?_
  apply wpS_seq
  apply wpS_region
  simp [wpOpsS, go_sem, recoverD, hu, Tryz.ntmps71, Exit.thenS]
  have hnil : ∀ w, (binOp .eql 20 Value.nilIface Value.nilIface).run Tryz.prog w = .ok (.bool true) w := fun _ => by kernel_rfl
  refine wpS_of_wp ?_
  go_wp2_with fail
  cases c₀
  simp_all [bodyPostS, results, Tryz.results71]
theorem toldMR_ok (K : Nat) (he : ∀ args w, (callFunc K args).run Tryz.prog w = .ok (.enter K args) w) (cap : Array Value) (w : World) (N D : Int) (cs : StepsTo K cap (.returned (.agg #[.int .i64 N, .int .i64 D])) w) :
    Calls Tryz.prog 34 #[.func (Fn.func K) #[] cap] w fun e w' => e = .returned (.tuple #[.agg #[.int .i64 N, .int .i64 D], .int .i64 0]) ∧ Below w.heap.size w w' := by
  have CS := hidd cs
  clear cs
  have hmf : ∀ (fn : Fn) (first cap : Array Value) (w : World), (Instr.makeFunc fn first cap).run Tryz.prog w = .ok (.func fn first cap) w := fun _ _ _ _ => rfl
  go_enter_defers Tryz.func34, Tryz.ntmps34
  go_wp2_with fail
  refine (CS.out _ (by (repeat' (first | (with_reducible exact Below.refl _ _) | (with_reducible assumption) | (with_reducible apply Below.setCell) | (with_reducible apply Below.alloc) | (with_reducible apply Below.drew) | (with_reducible apply below_drewN) | (with_reducible refine Below.trans ?_ (Below.mono (by assumption) ?_)) | omega | (simp; done) | (simp; omega))))).mono ?_
  rintro e w2 ⟨rfl, hb2⟩
  have z1 : w.heap.size + 1 < w2.heap.size := by have := hb2.size; simp at this; omega
  have z0 : w.heap.size < w2.heap.size := by omega
  obtain ⟨hc, hf⟩ := bcell hb2
  have c0 : w2.cell? ⟨w.heap.size, 0, none⟩ = some (.int .i64 0) := by rw [hc _ _ (by (first | omega | (simp; done) | (simp; omega)))]; simp [go_sem]
  have c1 : w2.cell? ⟨w.heap.size, 1, none⟩ = some (.int .i64 0) := by rw [hc _ _ (by (first | omega | (simp; done) | (simp; omega)))]; simp [go_sem]
  have c2 : w2.cell? ⟨w.heap.size + 1, 0, none⟩ = some (.int .i64 0) := by rw [hc _ _ (by (first | omega | (simp; done) | (simp; omega)))]; simp [go_sem]
  go_wp2_with fail
  refine leaves_cons (f := 71) (args := #[.pointer (some ⟨w.heap.size + 1, 0, none⟩)]) (by simp) (by simp [go_sem]) ?_
  refine (catchMR_idle ⟨w.heap.size + 1, 0, none⟩ _).mono ?_
  rintro e u' w3 ⟨rfl, rfl, rfl⟩
  simp [Leaves, settle, results, Tryz.results34, go_sem, *]
  (repeat' (first | (with_reducible exact Below.refl _ _) | (with_reducible assumption) | (with_reducible apply Below.setCell) | (with_reducible apply Below.alloc) | (with_reducible apply Below.drew) | (with_reducible apply below_drewN) | (with_reducible refine Below.trans ?_ (Below.mono (by assumption) ?_)) | omega | (simp; done) | (simp; omega)))
theorem toldMR_no (K : Nat) (he : ∀ args w, (callFunc K args).run Tryz.prog w = .ok (.enter K args) w) (cap : Array Value) (w : World) (k : Int) (cs : StepsTo K cap (errPanic k) w) :
    Calls Tryz.prog 34 #[.func (Fn.func K) #[] cap] w fun e w' => e = .returned (.tuple #[.agg #[.int .i64 0, .int .i64 0], .int .i64 k]) ∧ Below w.heap.size w w' := by
  have CS := hidd cs
  clear cs
  have hmf : ∀ (fn : Fn) (first cap : Array Value) (w : World), (Instr.makeFunc fn first cap).run Tryz.prog w = .ok (.func fn first cap) w := fun _ _ _ _ => rfl
  go_enter_defers Tryz.func34, Tryz.ntmps34
  go_wp2_with fail
  refine (CS.out _ (by (repeat' (first | (with_reducible exact Below.refl _ _) | (with_reducible assumption) | (with_reducible apply Below.setCell) | (with_reducible apply Below.alloc) | (with_reducible apply Below.drew) | (with_reducible apply below_drewN) | (with_reducible refine Below.trans ?_ (Below.mono (by assumption) ?_)) | omega | (simp; done) | (simp; omega))))).mono ?_
  rintro e w2 ⟨rfl, hb2⟩
  have z1 : w.heap.size + 1 < w2.heap.size := by have := hb2.size; simp at this; omega
  have z0 : w.heap.size < w2.heap.size := by omega
  obtain ⟨hc, hf⟩ := bcell hb2
  go_wp2_with fail
  refine leaves_cons (f := 71) (args := #[.pointer (some ⟨w.heap.size + 1, 0, none⟩)]) (by simp) (by simp [go_sem]) ?_
  refine (catchMR_panicking ⟨w.heap.size + 1, 0, none⟩ 0 k [] _ ?_ ?_).mono ?_
  · simp [go_sem, *]
  · simp [go_sem, *]
  rintro e u' w3 ⟨rfl, rfl, rfl⟩
  simp [Leaves, settle, results, Tryz.results34, go_sem, *]
  (repeat' (first | (with_reducible exact Below.refl _ _) | (with_reducible assumption) | (with_reducible apply Below.setCell) | (with_reducible apply Below.alloc) | (with_reducible apply Below.drew) | (with_reducible apply below_drewN) | (with_reducible refine Below.trans ?_ (Below.mono (by assumption) ?_)) | omega | (simp; done) | (simp; omega)))
set_option maxHeartbeats 2000000 in
theorem catchMS_panicking (p : Addr) (x k : Int) (older : List PanicEntry) (w : World) (hc : w.cell? p = some (.int .i64 x)) (hz : w.frozen? p = false) :
    CallsD Tryz.prog 93 #[.pointer (some p)] (.panicking ({ v := .iface 29 (.int .i64 k), recovered := false } :: older)) w fun e u' w' =>
      e = .returned (.tuple #[]) ∧ u' = .panicking ({ v := .iface 29 (.int .i64 k), recovered := true } :: older) ∧ w' = w.setCell p (.int .i64 k) := by
  refine callsD_of_wpS Tryz.func93 rfl fun c₀ cs hu => ?_
  apply wpS_seq
  apply wpS_region
  simp [wpOpsS, go_sem, recoverD, hu, Tryz.ntmps93, Exit.thenS]
  have hta : ∀ w, (Instr.typeAssert (.iface 29 (.int .i64 k)) 20 29 true).run Tryz.prog w = .ok (.tuple #[.int .i64 k, .bool true]) w := fun _ => by kernel_rfl
  have hnil : ∀ w, (binOp .eql 20 (.iface 29 (.int .i64 k)) Value.nilIface).run Tryz.prog w = .ok (.bool false) w := fun _ => by kernel_rfl
  (try simp only [Array.replicate_succ, Array.replicate_zero, List.push_toArray, List.append_toArray, List.nil_append, List.cons_append, List.setIfInBounds_toArray, List.set_cons_zero, List.set_cons_succ])
  refine wpS_of_wp ?_
  go_wp2_with fail
  simp [go_sem, bodyPostS, results, Tryz.results93]
theorem catchMS_idle (p : Addr) (w : World) :
    CallsD Tryz.prog 93 #[.pointer (some p)] .returning w fun e u' w' => e = .returned (.tuple #[]) ∧ u' = .returning ∧ w' = w := by
  refine callsD_of_wpS Tryz.func93 rfl fun c₀ cs hu => ?_
  apply wpS_seq
  apply wpS_region
  simp [wpOpsS, go_sem, recoverD, hu, Tryz.ntmps93, Exit.thenS]
  have hnil : ∀ w, (binOp .eql 20 Value.nilIface Value.nilIface).run Tryz.prog w = .ok (.bool true) w := fun _ => by kernel_rfl
  refine wpS_of_wp ?_
  go_wp2_with fail
  cases c₀
  simp_all [bodyPostS, results, Tryz.results93]
theorem toldMS_ok (K : Nat) (he : ∀ args w, (callFunc K args).run Tryz.prog w = .ok (.enter K args) w) (cap : Array Value) (w : World) (N D P Q : Int) (cs : StepsTo K cap (.returned (.agg #[.int .i64 N, .int .i64 D, .int .i64 P, .int .i64 Q])) w) :
    Calls Tryz.prog 59 #[.func (Fn.func K) #[] cap] w fun e w' => e = .returned (.tuple #[.agg #[.int .i64 N, .int .i64 D, .int .i64 P, .int .i64 Q], .int .i64 0]) ∧ Below w.heap.size w w' := by
  have CS := hidd cs
  clear cs
  have hmf : ∀ (fn : Fn) (first cap : Array Value) (w : World), (Instr.makeFunc fn first cap).run Tryz.prog w = .ok (.func fn first cap) w := fun _ _ _ _ => rfl
  go_enter_defers Tryz.func59, Tryz.ntmps59
  go_wp2_with fail
  refine (CS.out _ (by (repeat' (first | (with_reducible exact Below.refl _ _) | (with_reducible assumption) | (with_reducible apply Below.setCell) | (with_reducible apply Below.alloc) | (with_reducible apply Below.drew) | (with_reducible apply below_drewN) | (with_reducible refine Below.trans ?_ (Below.mono (by assumption) ?_)) | omega | (simp; done) | (simp; omega))))).mono ?_
  rintro e w2 ⟨rfl, hb2⟩
  have z1 : w.heap.size + 1 < w2.heap.size := by have := hb2.size; simp at this; omega
  have z0 : w.heap.size < w2.heap.size := by omega
  obtain ⟨hc, hf⟩ := bcell hb2
  have c0 : w2.cell? ⟨w.heap.size, 0, none⟩ = some (.int .i64 0) := by rw [hc _ _ (by (first | omega | (simp; done) | (simp; omega)))]; simp [go_sem]
  have c1 : w2.cell? ⟨w.heap.size, 1, none⟩ = some (.int .i64 0) := by rw [hc _ _ (by (first | omega | (simp; done) | (simp; omega)))]; simp [go_sem]
  have c3 : w2.cell? ⟨w.heap.size, 2, none⟩ = some (.int .i64 0) := by rw [hc _ _ (by (first | omega | (simp; done) | (simp; omega)))]; simp [go_sem]
  have c4 : w2.cell? ⟨w.heap.size, 3, none⟩ = some (.int .i64 0) := by rw [hc _ _ (by (first | omega | (simp; done) | (simp; omega)))]; simp [go_sem]
  have c2 : w2.cell? ⟨w.heap.size + 1, 0, none⟩ = some (.int .i64 0) := by rw [hc _ _ (by (first | omega | (simp; done) | (simp; omega)))]; simp [go_sem]
  go_wp2_with fail
  refine leaves_cons (f := 93) (args := #[.pointer (some ⟨w.heap.size + 1, 0, none⟩)]) (by simp) (by simp [go_sem]) ?_
  refine (catchMS_idle ⟨w.heap.size + 1, 0, none⟩ _).mono ?_
  rintro e u' w3 ⟨rfl, rfl, rfl⟩
  simp [Leaves, settle, results, Tryz.results59, go_sem, *]
  (repeat' (first | (with_reducible exact Below.refl _ _) | (with_reducible assumption) | (with_reducible apply Below.setCell) | (with_reducible apply Below.alloc) | (with_reducible apply Below.drew) | (with_reducible apply below_drewN) | (with_reducible refine Below.trans ?_ (Below.mono (by assumption) ?_)) | omega | (simp; done) | (simp; omega)))
theorem toldMS_no (K : Nat) (he : ∀ args w, (callFunc K args).run Tryz.prog w = .ok (.enter K args) w) (cap : Array Value) (w : World) (k : Int) (cs : StepsTo K cap (errPanic k) w) :
    Calls Tryz.prog 59 #[.func (Fn.func K) #[] cap] w fun e w' => e = .returned (.tuple #[.agg #[.int .i64 0, .int .i64 0, .int .i64 0, .int .i64 0], .int .i64 k]) ∧ Below w.heap.size w w' := by
  have CS := hidd cs
  clear cs
  have hmf : ∀ (fn : Fn) (first cap : Array Value) (w : World), (Instr.makeFunc fn first cap).run Tryz.prog w = .ok (.func fn first cap) w := fun _ _ _ _ => rfl
  go_enter_defers Tryz.func59, Tryz.ntmps59
  go_wp2_with fail
  refine (CS.out _ (by (repeat' (first | (with_reducible exact Below.refl _ _) | (with_reducible assumption) | (with_reducible apply Below.setCell) | (with_reducible apply Below.alloc) | (with_reducible apply Below.drew) | (with_reducible apply below_drewN) | (with_reducible refine Below.trans ?_ (Below.mono (by assumption) ?_)) | omega | (simp; done) | (simp; omega))))).mono ?_
  rintro e w2 ⟨rfl, hb2⟩
  have z1 : w.heap.size + 1 < w2.heap.size := by have := hb2.size; simp at this; omega
  have z0 : w.heap.size < w2.heap.size := by omega
  obtain ⟨hc, hf⟩ := bcell hb2
  go_wp2_with fail
  refine leaves_cons (f := 93) (args := #[.pointer (some ⟨w.heap.size + 1, 0, none⟩)]) (by simp) (by simp [go_sem]) ?_
  refine (catchMS_panicking ⟨w.heap.size + 1, 0, none⟩ 0 k [] _ ?_ ?_).mono ?_
  · simp [go_sem, *]
  · simp [go_sem, *]
  rintro e u' w3 ⟨rfl, rfl, rfl⟩
  simp [Leaves, settle, results, Tryz.results59, go_sem, *]
  (repeat' (first | (with_reducible exact Below.refl _ _) | (with_reducible assumption) | (with_reducible apply Below.setCell) | (with_reducible apply Below.alloc) | (with_reducible apply Below.drew) | (with_reducible apply below_drewN) | (with_reducible refine Below.trans ?_ (Below.mono (by assumption) ?_)) | omega | (simp; done) | (simp; omega)))
theorem whole_any (n : Int) (w : World) : Calls Tryz.prog 52 #[.int .i64 n] w fun e w' => e = .returned (.agg #[.int .i64 n, .int .i64 1]) ∧ Below w.heap.size w w' := by
  go_enter Tryz.func52, Tryz.ntmps52
  go_wp2_with fail
  exact bodyPost_ret (v := .agg #[.int .i64 n, .int .i64 1]) (by simp [results, Tryz.results52, go_sem]) rfl ⟨rfl, by (repeat' (first | (with_reducible exact Below.refl _ _) | (with_reducible assumption) | (with_reducible apply Below.setCell) | (with_reducible apply Below.alloc) | (with_reducible apply Below.drew) | (with_reducible apply below_drewN) | (with_reducible refine Below.trans ?_ (Below.mono (by assumption) ?_)) | omega | (simp; done) | (simp; omega)))⟩
/-- what stands in the program: parts that fit, without a common divisor. -/
def Fit (n d : Int) : Prop := rightB n d = true ∧ -9223372036854775808 ≤ n ∧ n ≤ 9223372036854775807 ∧ -9223372036854775808 ≤ d ∧ d ≤ 9223372036854775807
theorem Fit.right {n d : Int} (h : Fit n d) : RM.Right n d := right_of n d h.2.1 h.2.2.1 h.2.2.2.2 h.1
theorem RM.Right.fit {n d : Int} (h : RM.Right n d) : Fit n d := by
  refine ⟨rightB_of n d h, ?_⟩
  have := h.1; have := h.2.1; have := h.2.2.1; have := h.2.2.2.1
  omega
set_option maxHeartbeats 1000000 in
theorem num_and (x d y e : Int) (hx : Fit x d) (hy : Fit y e) (w : World) :
    Calls Tryz.prog 43 #[.agg #[.int .i64 x, .int .i64 d], .agg #[.int .i64 y, .int .i64 e]] w fun E w' => E = endOf (RM.plusR x d y e) ∧ Below w.heap.size w w' := by
  have ca := hidd (fun W => add_any x d y e hx.2.1 hx.2.2.1 hx.2.2.2.1 hx.2.2.2.2 hy.2.1 hy.2.2.1 hy.2.2.2.1 hy.2.2.2.2 W)
  have er : addR x d y e = RM.plusR x d y e := by unfold addR; rw [if_pos (by rw [hx.1, hy.1]; rfl)]
  rw [er] at ca
  clear er hx hy
  obtain ⟨⟨N, D, k⟩, hr⟩ : ∃ r, RM.plusR x d y e = r := ⟨_, rfl⟩
  rw [hr] at ca
  rw [hr]
  clear hr
  unfold pairOf at ca
  simp only at ca
  by_cases hk : k = 0
  · subst hk
    have cm := hidd (fun W => mustR_ok N D W)
    rw [endOf_ok _ rfl]
    simp only
    go_enter Tryz.func43, Tryz.ntmps43
    go_wp2_with fail
    refine (ca.out _).mono ?_
    rintro E w1 ⟨rfl, hb⟩
    obtain ⟨bc, bf⟩ := bcell hb
    have z : w.heap.size + 1 + 1 < w1.heap.size := by have := hb.size; simp at this; omega
    go_wp2_with fail
    refine (cm.out _).mono ?_
    rintro E w2 ⟨rfl, hb2⟩
    obtain ⟨bc2, bf2⟩ := bcell hb2
    have z2 : w.heap.size + 1 + 1 < w2.heap.size := Nat.lt_of_lt_of_le z hb2.size
    go_wp2_with fail
    exact bodyPost_ret (v := .agg #[.int .i64 N, .int .i64 D]) (by simp [results, Tryz.results43, go_sem, *]) rfl ⟨rfl, by (repeat' (first | (with_reducible exact Below.refl _ _) | (with_reducible assumption) | (with_reducible apply Below.setCell) | (with_reducible apply Below.alloc) | (with_reducible apply Below.drew) | (with_reducible apply below_drewN) | (with_reducible refine Below.trans ?_ (Below.mono (by assumption) ?_)) | omega | (simp; done) | (simp; omega)))⟩
  · have cm := hidd (fun W => mustR_no N D k hk W)
    rw [endOf_no _ hk]
    simp only
    go_enter Tryz.func43, Tryz.ntmps43
    go_wp2_with fail
    refine (ca.out _).mono ?_
    rintro E w1 ⟨rfl, hb⟩
    have z : w.heap.size ≤ w1.heap.size := by have := hb.size; simp at this; omega
    go_wp2_with fail
    refine (cm.out _).mono ?_
    rintro E w2 ⟨rfl, hb2⟩
    go_wp2_with fail
    exact ⟨rfl, rfl, by (repeat' (first | (with_reducible exact Below.refl _ _) | (with_reducible assumption) | (with_reducible apply Below.setCell) | (with_reducible apply Below.alloc) | (with_reducible apply Below.drew) | (with_reducible apply below_drewN) | (with_reducible refine Below.trans ?_ (Below.mono (by assumption) ?_)) | omega | (simp; done) | (simp; omega)))⟩
set_option maxHeartbeats 1000000 in
theorem num_less (x d y e : Int) (hx : Fit x d) (hy : Fit y e) (w : World) :
    Calls Tryz.prog 42 #[.agg #[.int .i64 x, .int .i64 d], .agg #[.int .i64 y, .int .i64 e]] w fun E w' => E = endOf (subT x d y e) ∧ Below w.heap.size w w' := by
  have ca := hidd (fun W => sub_any x d y e hx.2.1 hx.2.2.1 hx.2.2.2.1 hx.2.2.2.2 hy.2.1 hy.2.2.1 hy.2.2.2.1 hy.2.2.2.2 W)
  have er : subR x d y e = subT x d y e := by unfold subR; rw [if_pos (by rw [hx.1, hy.1]; rfl)]
  rw [er] at ca
  clear er hx hy
  obtain ⟨⟨N, D, k⟩, hr⟩ : ∃ r, subT x d y e = r := ⟨_, rfl⟩
  rw [hr] at ca
  rw [hr]
  clear hr
  unfold pairOf at ca
  simp only at ca
  by_cases hk : k = 0
  · subst hk
    have cm := hidd (fun W => mustR_ok N D W)
    rw [endOf_ok _ rfl]
    simp only
    go_enter Tryz.func42, Tryz.ntmps42
    go_wp2_with fail
    refine (ca.out _).mono ?_
    rintro E w1 ⟨rfl, hb⟩
    obtain ⟨bc, bf⟩ := bcell hb
    have z : w.heap.size + 1 + 1 < w1.heap.size := by have := hb.size; simp at this; omega
    go_wp2_with fail
    refine (cm.out _).mono ?_
    rintro E w2 ⟨rfl, hb2⟩
    obtain ⟨bc2, bf2⟩ := bcell hb2
    have z2 : w.heap.size + 1 + 1 < w2.heap.size := Nat.lt_of_lt_of_le z hb2.size
    go_wp2_with fail
    exact bodyPost_ret (v := .agg #[.int .i64 N, .int .i64 D]) (by simp [results, Tryz.results42, go_sem, *]) rfl ⟨rfl, by (repeat' (first | (with_reducible exact Below.refl _ _) | (with_reducible assumption) | (with_reducible apply Below.setCell) | (with_reducible apply Below.alloc) | (with_reducible apply Below.drew) | (with_reducible apply below_drewN) | (with_reducible refine Below.trans ?_ (Below.mono (by assumption) ?_)) | omega | (simp; done) | (simp; omega)))⟩
  · have cm := hidd (fun W => mustR_no N D k hk W)
    rw [endOf_no _ hk]
    simp only
    go_enter Tryz.func42, Tryz.ntmps42
    go_wp2_with fail
    refine (ca.out _).mono ?_
    rintro E w1 ⟨rfl, hb⟩
    have z : w.heap.size ≤ w1.heap.size := by have := hb.size; simp at this; omega
    go_wp2_with fail
    refine (cm.out _).mono ?_
    rintro E w2 ⟨rfl, hb2⟩
    go_wp2_with fail
    exact ⟨rfl, rfl, by (repeat' (first | (with_reducible exact Below.refl _ _) | (with_reducible assumption) | (with_reducible apply Below.setCell) | (with_reducible apply Below.alloc) | (with_reducible apply Below.drew) | (with_reducible apply below_drewN) | (with_reducible refine Below.trans ?_ (Below.mono (by assumption) ?_)) | omega | (simp; done) | (simp; omega)))⟩
set_option maxHeartbeats 1000000 in
theorem num_times (x d y e : Int) (hx : Fit x d) (hy : Fit y e) (w : World) :
    Calls Tryz.prog 88 #[.agg #[.int .i64 x, .int .i64 d], .agg #[.int .i64 y, .int .i64 e]] w fun E w' => E = endOf (RM.timesR x d y e) ∧ Below w.heap.size w w' := by
  have ca := hidd (fun W => mul_any x d y e hx.2.1 hx.2.2.1 hx.2.2.2.1 hx.2.2.2.2 hy.2.1 hy.2.2.1 hy.2.2.2.1 hy.2.2.2.2 W)
  have er : mulR x d y e = RM.timesR x d y e := by unfold mulR; rw [if_pos (by rw [hx.1, hy.1]; rfl)]
  rw [er] at ca
  clear er hx hy
  obtain ⟨⟨N, D, k⟩, hr⟩ : ∃ r, RM.timesR x d y e = r := ⟨_, rfl⟩
  rw [hr] at ca
  rw [hr]
  clear hr
  unfold pairOf at ca
  simp only at ca
  by_cases hk : k = 0
  · subst hk
    have cm := hidd (fun W => mustR_ok N D W)
    rw [endOf_ok _ rfl]
    simp only
    go_enter Tryz.func88, Tryz.ntmps88
    go_wp2_with fail
    refine (ca.out _).mono ?_
    rintro E w1 ⟨rfl, hb⟩
    obtain ⟨bc, bf⟩ := bcell hb
    have z : w.heap.size + 1 + 1 < w1.heap.size := by have := hb.size; simp at this; omega
    go_wp2_with fail
    refine (cm.out _).mono ?_
    rintro E w2 ⟨rfl, hb2⟩
    obtain ⟨bc2, bf2⟩ := bcell hb2
    have z2 : w.heap.size + 1 + 1 < w2.heap.size := Nat.lt_of_lt_of_le z hb2.size
    go_wp2_with fail
    exact bodyPost_ret (v := .agg #[.int .i64 N, .int .i64 D]) (by simp [results, Tryz.results88, go_sem, *]) rfl ⟨rfl, by (repeat' (first | (with_reducible exact Below.refl _ _) | (with_reducible assumption) | (with_reducible apply Below.setCell) | (with_reducible apply Below.alloc) | (with_reducible apply Below.drew) | (with_reducible apply below_drewN) | (with_reducible refine Below.trans ?_ (Below.mono (by assumption) ?_)) | omega | (simp; done) | (simp; omega)))⟩
  · have cm := hidd (fun W => mustR_no N D k hk W)
    rw [endOf_no _ hk]
    simp only
    go_enter Tryz.func88, Tryz.ntmps88
    go_wp2_with fail
    refine (ca.out _).mono ?_
    rintro E w1 ⟨rfl, hb⟩
    have z : w.heap.size ≤ w1.heap.size := by have := hb.size; simp at this; omega
    go_wp2_with fail
    refine (cm.out _).mono ?_
    rintro E w2 ⟨rfl, hb2⟩
    go_wp2_with fail
    exact ⟨rfl, rfl, by (repeat' (first | (with_reducible exact Below.refl _ _) | (with_reducible assumption) | (with_reducible apply Below.setCell) | (with_reducible apply Below.alloc) | (with_reducible apply Below.drew) | (with_reducible apply below_drewN) | (with_reducible refine Below.trans ?_ (Below.mono (by assumption) ?_)) | omega | (simp; done) | (simp; omega)))⟩
set_option maxHeartbeats 1000000 in
theorem num_by (x d y e : Int) (hx : Fit x d) (hy : Fit y e) (w : World) :
    Calls Tryz.prog 41 #[.agg #[.int .i64 x, .int .i64 d], .agg #[.int .i64 y, .int .i64 e]] w fun E w' => E = endOf (divT x d y e) ∧ Below w.heap.size w w' := by
  have ca := hidd (fun W => div_any x d y e hx.2.1 hx.2.2.1 hx.2.2.2.1 hx.2.2.2.2 hy.2.1 hy.2.2.1 hy.2.2.2.1 hy.2.2.2.2 W)
  have er : divR x d y e = divT x d y e := by unfold divR; rw [if_pos (by rw [hx.1, hy.1]; rfl)]
  rw [er] at ca
  clear er hx hy
  obtain ⟨⟨N, D, k⟩, hr⟩ : ∃ r, divT x d y e = r := ⟨_, rfl⟩
  rw [hr] at ca
  rw [hr]
  clear hr
  unfold pairOf at ca
  simp only at ca
  by_cases hk : k = 0
  · subst hk
    have cm := hidd (fun W => mustR_ok N D W)
    rw [endOf_ok _ rfl]
    simp only
    go_enter Tryz.func41, Tryz.ntmps41
    go_wp2_with fail
    refine (ca.out _).mono ?_
    rintro E w1 ⟨rfl, hb⟩
    obtain ⟨bc, bf⟩ := bcell hb
    have z : w.heap.size + 1 + 1 < w1.heap.size := by have := hb.size; simp at this; omega
    go_wp2_with fail
    refine (cm.out _).mono ?_
    rintro E w2 ⟨rfl, hb2⟩
    obtain ⟨bc2, bf2⟩ := bcell hb2
    have z2 : w.heap.size + 1 + 1 < w2.heap.size := Nat.lt_of_lt_of_le z hb2.size
    go_wp2_with fail
    exact bodyPost_ret (v := .agg #[.int .i64 N, .int .i64 D]) (by simp [results, Tryz.results41, go_sem, *]) rfl ⟨rfl, by (repeat' (first | (with_reducible exact Below.refl _ _) | (with_reducible assumption) | (with_reducible apply Below.setCell) | (with_reducible apply Below.alloc) | (with_reducible apply Below.drew) | (with_reducible apply below_drewN) | (with_reducible refine Below.trans ?_ (Below.mono (by assumption) ?_)) | omega | (simp; done) | (simp; omega)))⟩
  · have cm := hidd (fun W => mustR_no N D k hk W)
    rw [endOf_no _ hk]
    simp only
    go_enter Tryz.func41, Tryz.ntmps41
    go_wp2_with fail
    refine (ca.out _).mono ?_
    rintro E w1 ⟨rfl, hb⟩
    have z : w.heap.size ≤ w1.heap.size := by have := hb.size; simp at this; omega
    go_wp2_with fail
    refine (cm.out _).mono ?_
    rintro E w2 ⟨rfl, hb2⟩
    go_wp2_with fail
    exact ⟨rfl, rfl, by (repeat' (first | (with_reducible exact Below.refl _ _) | (with_reducible assumption) | (with_reducible apply Below.setCell) | (with_reducible apply Below.alloc) | (with_reducible apply Below.drew) | (with_reducible apply below_drewN) | (with_reducible refine Below.trans ?_ (Below.mono (by assumption) ?_)) | omega | (simp; done) | (simp; omega)))⟩
set_option maxHeartbeats 1000000 in
theorem num_isAbove (x d y e : Int) (hx : Fit x d) (hy : Fit y e) (w : World) :
    Calls Tryz.prog 75 #[.agg #[.int .i64 x, .int .i64 d], .agg #[.int .i64 y, .int .i64 e]] w fun E w' => E = .returned (.bool (decide (0 < ordZ (x * e) (y * d)))) ∧ Below w.heap.size w w' := by
  have ca := hidd (fun W => cmp_any x d y e hx.2.1 hx.2.2.1 hx.2.2.2.1 hx.2.2.2.2 hy.2.1 hy.2.2.1 hy.2.2.2.1 hy.2.2.2.2 W)
  have er : cmpR x d y e = (ordZ (x * e) (y * d), 0) := by unfold cmpR; rw [if_pos (by rw [hx.1, hy.1]; rfl)]
  rw [er] at ca
  clear er hx hy
  generalize ordZ (x * e) (y * d) = Z at *
  simp only at ca
  have cm := hidd (fun W => mustI_ok Z W)
  go_enter Tryz.func75, Tryz.ntmps75
  go_wp2_with fail
  refine (ca.out _).mono ?_
  rintro E w1 ⟨rfl, hb⟩
  have z : w.heap.size ≤ w1.heap.size := by have := hb.size; simp at this; omega
  go_wp2_with fail
  refine (cm.out _).mono ?_
  rintro E w2 ⟨rfl, hb2⟩
  go_wp2_with fail
  go_ret
  exact ⟨by first | rfl | simp, by (repeat' (first | (with_reducible exact Below.refl _ _) | (with_reducible assumption) | (with_reducible apply Below.setCell) | (with_reducible apply Below.alloc) | (with_reducible apply Below.drew) | (with_reducible apply below_drewN) | (with_reducible refine Below.trans ?_ (Below.mono (by assumption) ?_)) | omega | (simp; done) | (simp; omega)))⟩
end Go.Proofs.YtokcalmmmfakcaaGreat
