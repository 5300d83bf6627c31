/- Specs: what may be one, and how many bytes it allows. -/
import Derived.Test.YtjnceoklnmmhjaaGreatRows
import Derived.WalkKit
import Derived.WalkSpells
import Derived.WalkLawsBesides
import Derived.BigQuiet
import Derived.Deep.QuietTactic
import Derived.Deep.LoopGhost
import Derived.Deep.DeepCutAuto
import Derived.Deep.RegionHeld3
import Derived.ScopeJumps
import Derived.WalkMore
namespace Go.Proofs.YtjnceoklnmmhjaaGreat.Zp
open Go.RowKit

theorem hidd {p : Prop} (h : p) : Hid p := h
theorem bcell {W w1 : World} (hb : Below W.heap.size W w1) : (∀ b o, b < W.heap.size → w1.cell? ⟨b, o, none⟩ = W.cell? ⟨b, o, none⟩) ∧ (∀ b o, b < W.heap.size → w1.frozen? ⟨b, o, none⟩ = W.frozen? ⟨b, o, none⟩) :=
  ⟨fun b o h => hb.cell (p := ⟨b, o, none⟩) h, fun b o h => hb.frozen (p := ⟨b, o, none⟩) h⟩
theorem below_step {w a b : World} (t : Below w.heap.size w a) (h : Below a.heap.size a b) : Below w.heap.size w b := t.trans (h.mono t.size)
theorem below_new {w a : World} (t : Below w.heap.size w a) (o : Obj) : Below w.heap.size w (a.alloc o) := t.alloc t.size o
theorem ret_int {k : IntKind} {a b : Int} (h : a = b) : Ending.returned (.int k a) = .returned (.int k b) := by rw [h]
theorem ret_bool {a b : Bool} (h : a = b) : Ending.returned (.bool a) = .returned (.bool b) := by rw [h]

theorem wp_scope_fwd {P : Program} {a : Act} {w : World} {Q : Exit → Act → World → Prop} {c rest : Code} (l : Nat) (J : Act → World → Prop) (hf : findLabel c l = some rest)
    (first : c.wp P (Exit.jump l J Q) a w) (pass : ∀ a w, J a w → rest.wp P (Exit.noGoto Q) a w) : (Code.scope c).wp P Q a w :=
  wp_scope_jumps l J (fun _ _ => 0) hf first fun a w h => wp_mono (pass a w h) fun e a w hq => by
    cases e <;> first | exact hq | exact hq.elim

/-- may a spec be. -/
def rightB (p r u m l : Int) : Bool := decide (1 ≤ r ∧ r ≤ p ∧ p ≤ 1000000 ∧ 1 ≤ l ∧ l ≤ m ∧ m ≤ 2000 ∧ m ≤ u ∧ u ≤ 10000000)
theorem rightB_iff {p r u m l : Int} (h : rightB p r u m l = true) : 1 ≤ r ∧ r ≤ p ∧ p ≤ 1000000 ∧ 1 ≤ l ∧ l ≤ m ∧ m ≤ 2000 ∧ m ≤ u ∧ u ≤ 10000000 := of_decide_eq_true h
/-- the k-th of what it must. -/
def mustB (p r u m l : Int) : Nat → Bool
  | 0 => decide (1 ≤ r) | 1 => decide (r ≤ p) | 2 => decide (p ≤ 1000000) | 3 => decide (1 ≤ l) | 4 => decide (l ≤ m) | 5 => decide (m ≤ 2000) | 6 => decide (m ≤ u) | _ => decide (u ≤ 10000000)
theorem rightB_musts (p r u m l : Int) : rightB p r u m l = true ↔ ∀ k, k < 8 → mustB p r u m l k = true := by
  constructor
  · intro h k hk
    have := rightB_iff h
    match k, hk with
    | 0, _ | 1, _ | 2, _ | 3, _ | 4, _ | 5, _ | 6, _ | 7, _ => simp only [mustB, decide_eq_true_eq]; omega
  · intro h
    have h0 := h 0 (by omega)
    have h1 := h 1 (by omega)
    have h2 := h 2 (by omega)
    have h3 := h 3 (by omega)
    have h4 := h 4 (by omega)
    have h5 := h 5 (by omega)
    have h6 := h 6 (by omega)
    have h7 := h 7 (by omega)
    simp only [mustB, decide_eq_true_eq] at h0 h1 h2 h3 h4 h5 h6 h7
    exact decide_eq_true ⟨h0, h1, h2, h3, h4, h5, h6, h7⟩

end Go.Proofs.YtjnceoklnmmhjaaGreat.Zp
