/- Specs: what may be one, and how many bytes it allows. -/
import Derived.Test.YthaiphkmkchhoaaRows
import Derived.WalkKit
import Derived.WalkSpells
import Derived.WalkLawsBesides
import Derived.BigQuiet
import Derived.Deep.QuietTactic
import Derived.Deep.LoopGhost
import Derived.Deep.DeepCutAuto
import Derived.Deep.RegionHeld3
import Derived.ScopeJumps
import Derived.WalkMore
namespace Go.Proofs.Ythaiphkmkchhoaa
open Go.RowKit

theorem hidd {p : Prop} (h : p) : Hid p := h
theorem bcell {W w1 : World} (hb : Below W.heap.size W w1) : (∀ b o, b < W.heap.size → w1.cell? ⟨b, o, none⟩ = W.cell? ⟨b, o, none⟩) ∧ (∀ b o, b < W.heap.size → w1.frozen? ⟨b, o, none⟩ = W.frozen? ⟨b, o, none⟩) :=
  ⟨fun b o h => hb.cell (p := ⟨b, o, none⟩) h, fun b o h => hb.frozen (p := ⟨b, o, none⟩) h⟩
theorem below_step {w a b : World} (t : Below w.heap.size w a) (h : Below a.heap.size a b) : Below w.heap.size w b := t.trans (h.mono t.size)
theorem below_new {w a : World} (t : Below w.heap.size w a) (o : Obj) : Below w.heap.size w (a.alloc o) := t.alloc t.size o
theorem ret_int {k : IntKind} {a b : Int} (h : a = b) : Ending.returned (.int k a) = .returned (.int k b) := by rw [h]
theorem ret_bool {a b : Bool} (h : a = b) : Ending.returned (.bool a) = .returned (.bool b) := by rw [h]

theorem wp_scope_fwd {P : Program} {a : Act} {w : World} {Q : Exit → Act → World → Prop} {c rest : Code} (l : Nat) (J : Act → World → Prop) (hf : findLabel c l = some rest)
    (first : c.wp P (Exit.jump l J Q) a w) (pass : ∀ a w, J a w → rest.wp P (Exit.noGoto Q) a w) : (Code.scope c).wp P Q a w :=
  wp_scope_jumps l J (fun _ _ => 0) hf first fun a w h => wp_mono (pass a w h) fun e a w hq => by
    cases e <;> first | exact hq | exact hq.elim

/-- may a spec be. -/
def rightB (p r u m l : Int) : Bool := decide (1 ≤ r ∧ r ≤ p ∧ p ≤ 1000000 ∧ 1 ≤ l ∧ l ≤ m ∧ m ≤ 2000 ∧ m ≤ u ∧ u ≤ 10000000)
theorem rightB_iff {p r u m l : Int} (h : rightB p r u m l = true) : 1 ≤ r ∧ r ≤ p ∧ p ≤ 1000000 ∧ 1 ≤ l ∧ l ≤ m ∧ m ≤ 2000 ∧ m ≤ u ∧ u ≤ 10000000 := of_decide_eq_true h
/-- the k-th of what it must. -/
def mustB (p r u m l : Int) : Nat → Bool
  | 0 => decide (1 ≤ r) | 1 => decide (r ≤ p) | 2 => decide (p ≤ 1000000) | 3 => decide (1 ≤ l) | 4 => decide (l ≤ m) | 5 => decide (m ≤ 2000) | 6 => decide (m ≤ u) | _ => decide (u ≤ 10000000)
theorem rightB_musts (p r u m l : Int) : rightB p r u m l = true ↔ ∀ k, k < 8 → mustB p r u m l k = true := by
  constructor
  · intro h k hk
    have := rightB_iff h
    match k, hk with
    | 0, _ | 1, _ | 2, _ | 3, _ | 4, _ | 5, _ | 6, _ | 7, _ => simp only [mustB, decide_eq_true_eq]; omega
  · intro h
    have h0 := h 0 (by omega)
    have h1 := h 1 (by omega)
    have h2 := h 2 (by omega)
    have h3 := h 3 (by omega)
    have h4 := h 4 (by omega)
    have h5 := h 5 (by omega)
    have h6 := h 6 (by omega)
    have h7 := h 7 (by omega)
    simp only [mustB, decide_eq_true_eq] at h0 h1 h2 h3 h4 h5 h6 h7
    exact decide_eq_true ⟨h0, h1, h2, h3, h4, h5, h6, h7⟩

theorem must0_any (p r u m l : Int) (w : World) : Calls Try.prog 60 #[.agg #[.int .i64 p, .int .i64 r, .int .i64 u, .int .i64 m, .int .i64 l]] w fun e w' => e = .returned (.bool (decide (1 ≤ r))) ∧ Below w.heap.size w w' := by
  go_enter Try.func60, Try.ntmps60
  go_wp2_with fail
  go_ret
  exact ⟨by simp, by (repeat' (first | (with_reducible exact Below.refl _ _) | (with_reducible assumption) | (with_reducible apply Below.setCell) | (with_reducible apply Below.alloc) | (with_reducible apply Below.drew) | (with_reducible apply below_drewN) | (with_reducible refine Below.trans ?_ (Below.mono (by assumption) ?_)) | omega | (simp; done) | (simp; omega)))⟩
theorem must1_any (p r u m l : Int) (w : World) : Calls Try.prog 61 #[.agg #[.int .i64 p, .int .i64 r, .int .i64 u, .int .i64 m, .int .i64 l]] w fun e w' => e = .returned (.bool (decide (r ≤ p))) ∧ Below w.heap.size w w' := by
  go_enter Try.func61, Try.ntmps61
  go_wp2_with fail
  go_ret
  exact ⟨by simp, by (repeat' (first | (with_reducible exact Below.refl _ _) | (with_reducible assumption) | (with_reducible apply Below.setCell) | (with_reducible apply Below.alloc) | (with_reducible apply Below.drew) | (with_reducible apply below_drewN) | (with_reducible refine Below.trans ?_ (Below.mono (by assumption) ?_)) | omega | (simp; done) | (simp; omega)))⟩
theorem must2_any (p r u m l : Int) (w : World) : Calls Try.prog 62 #[.agg #[.int .i64 p, .int .i64 r, .int .i64 u, .int .i64 m, .int .i64 l]] w fun e w' => e = .returned (.bool (decide (p ≤ 1000000))) ∧ Below w.heap.size w w' := by
  go_enter Try.func62, Try.ntmps62
  go_wp2_with fail
  go_ret
  exact ⟨by simp, by (repeat' (first | (with_reducible exact Below.refl _ _) | (with_reducible assumption) | (with_reducible apply Below.setCell) | (with_reducible apply Below.alloc) | (with_reducible apply Below.drew) | (with_reducible apply below_drewN) | (with_reducible refine Below.trans ?_ (Below.mono (by assumption) ?_)) | omega | (simp; done) | (simp; omega)))⟩
theorem must3_any (p r u m l : Int) (w : World) : Calls Try.prog 63 #[.agg #[.int .i64 p, .int .i64 r, .int .i64 u, .int .i64 m, .int .i64 l]] w fun e w' => e = .returned (.bool (decide (1 ≤ l))) ∧ Below w.heap.size w w' := by
  go_enter Try.func63, Try.ntmps63
  go_wp2_with fail
  go_ret
  exact ⟨by simp, by (repeat' (first | (with_reducible exact Below.refl _ _) | (with_reducible assumption) | (with_reducible apply Below.setCell) | (with_reducible apply Below.alloc) | (with_reducible apply Below.drew) | (with_reducible apply below_drewN) | (with_reducible refine Below.trans ?_ (Below.mono (by assumption) ?_)) | omega | (simp; done) | (simp; omega)))⟩
theorem must4_any (p r u m l : Int) (w : World) : Calls Try.prog 64 #[.agg #[.int .i64 p, .int .i64 r, .int .i64 u, .int .i64 m, .int .i64 l]] w fun e w' => e = .returned (.bool (decide (l ≤ m))) ∧ Below w.heap.size w w' := by
  go_enter Try.func64, Try.ntmps64
  go_wp2_with fail
  go_ret
  exact ⟨by simp, by (repeat' (first | (with_reducible exact Below.refl _ _) | (with_reducible assumption) | (with_reducible apply Below.setCell) | (with_reducible apply Below.alloc) | (with_reducible apply Below.drew) | (with_reducible apply below_drewN) | (with_reducible refine Below.trans ?_ (Below.mono (by assumption) ?_)) | omega | (simp; done) | (simp; omega)))⟩
theorem must5_any (p r u m l : Int) (w : World) : Calls Try.prog 65 #[.agg #[.int .i64 p, .int .i64 r, .int .i64 u, .int .i64 m, .int .i64 l]] w fun e w' => e = .returned (.bool (decide (m ≤ 2000))) ∧ Below w.heap.size w w' := by
  go_enter Try.func65, Try.ntmps65
  go_wp2_with fail
  go_ret
  exact ⟨by simp, by (repeat' (first | (with_reducible exact Below.refl _ _) | (with_reducible assumption) | (with_reducible apply Below.setCell) | (with_reducible apply Below.alloc) | (with_reducible apply Below.drew) | (with_reducible apply below_drewN) | (with_reducible refine Below.trans ?_ (Below.mono (by assumption) ?_)) | omega | (simp; done) | (simp; omega)))⟩
theorem must6_any (p r u m l : Int) (w : World) : Calls Try.prog 66 #[.agg #[.int .i64 p, .int .i64 r, .int .i64 u, .int .i64 m, .int .i64 l]] w fun e w' => e = .returned (.bool (decide (m ≤ u))) ∧ Below w.heap.size w w' := by
  go_enter Try.func66, Try.ntmps66
  go_wp2_with fail
  go_ret
  exact ⟨by simp, by (repeat' (first | (with_reducible exact Below.refl _ _) | (with_reducible assumption) | (with_reducible apply Below.setCell) | (with_reducible apply Below.alloc) | (with_reducible apply Below.drew) | (with_reducible apply below_drewN) | (with_reducible refine Below.trans ?_ (Below.mono (by assumption) ?_)) | omega | (simp; done) | (simp; omega)))⟩
theorem must7_any (p r u m l : Int) (w : World) : Calls Try.prog 67 #[.agg #[.int .i64 p, .int .i64 r, .int .i64 u, .int .i64 m, .int .i64 l]] w fun e w' => e = .returned (.bool (decide (u ≤ 10000000))) ∧ Below w.heap.size w w' := by
  go_enter Try.func67, Try.ntmps67
  go_wp2_with fail
  go_ret
  exact ⟨by simp, by (repeat' (first | (with_reducible exact Below.refl _ _) | (with_reducible assumption) | (with_reducible apply Below.setCell) | (with_reducible apply Below.alloc) | (with_reducible apply Below.drew) | (with_reducible apply below_drewN) | (with_reducible refine Below.trans ?_ (Below.mono (by assumption) ?_)) | omega | (simp; done) | (simp; omega)))⟩
/-- the k-th must's number. -/
def mustF (k : Nat) : Nat := (#[60, 61, 62, 63, 64, 65, 66, 67] : Array Nat).getD k 0
theorem must_enters (k : Nat) (hk : k < 8) : ∀ args w, (callFunc (mustF k) args).run Try.prog w = .ok (.enter (mustF k) args) w := by
  intro args w
  match k, hk with
  | 0, _ => simp [mustF, callFunc, Try.func60, Try.f60, mark]
  | 1, _ => simp [mustF, callFunc, Try.func61, Try.f61, mark]
  | 2, _ => simp [mustF, callFunc, Try.func62, Try.f62, mark]
  | 3, _ => simp [mustF, callFunc, Try.func63, Try.f63, mark]
  | 4, _ => simp [mustF, callFunc, Try.func64, Try.f64, mark]
  | 5, _ => simp [mustF, callFunc, Try.func65, Try.f65, mark]
  | 6, _ => simp [mustF, callFunc, Try.func66, Try.f66, mark]
  | 7, _ => simp [mustF, callFunc, Try.func67, Try.f67, mark]
theorem must_any (k : Nat) (hk : k < 8) (p r u m l : Int) (w : World) : Calls Try.prog (mustF k) #[.agg #[.int .i64 p, .int .i64 r, .int .i64 u, .int .i64 m, .int .i64 l]] w fun e w' => e = .returned (.bool (mustB p r u m l k)) ∧ Below w.heap.size w w' := by
  match k, hk with
  | 0, _ => exact must0_any p r u m l w
  | 1, _ => exact must1_any p r u m l w
  | 2, _ => exact must2_any p r u m l w
  | 3, _ => exact must3_any p r u m l w
  | 4, _ => exact must4_any p r u m l w
  | 5, _ => exact must5_any p r u m l w
  | 6, _ => exact must6_any p r u m l w
  | 7, _ => exact must7_any p r u m l w
/-- the list of musts lies at a block. -/
def MustsAt (w : World) (b : Nat) : Prop := ∀ k, k < 8 → w.cell? ⟨b, k, none⟩ = some (.func (Fn.func (mustF k)) #[] #[])
def MustsEnd (w : World) (e : Ending) (w' : World) : Prop := ∃ b, e = .returned (.slice (some ⟨b, 0, none⟩) 8 8) ∧ w.heap.size ≤ b ∧ b < w'.heap.size ∧ MustsAt w' b ∧ Below w.heap.size w w'
set_option maxHeartbeats 1000000 in
theorem musts_any (w : World) : Calls Try.prog 51 #[] w (MustsEnd w) := by
  go_enter Try.func51, Try.ntmps51
  go_wp2_with fail
  go_ret
  refine ⟨_, rfl, Nat.le_refl _, by simp, ?_, by (repeat' (first | (with_reducible exact Below.refl _ _) | (with_reducible assumption) | (with_reducible apply Below.setCell) | (with_reducible apply Below.alloc) | (with_reducible apply Below.drew) | (with_reducible apply below_drewN) | (with_reducible refine Below.trans ?_ (Below.mono (by assumption) ?_)) | omega | (simp; done) | (simp; omega)))⟩
  intro k hk
  match k, hk with
  | 0, _ | 1, _ | 2, _ | 3, _ | 4, _ | 5, _ | 6, _ | 7, _ => simp [go_sem, mustF]
end Go.Proofs.Ythaiphkmkchhoaa
