/- Objects: what an object says, both ways. -/
import Derived.Test.YtappmacnoopmkaaGreatObTa
namespace Go.Proofs.YtappmacnoopmkaaGreat
set_option linter.unusedVariables false
open Go.RowKit

theorem sameB_cls {a b c t : Int} {L M : List Int} (h : sameB a b L c t M = true) : a = c := by
  simp only [sameB, Bool.and_eq_true, decide_eq_true_eq] at h
  exact h.1
theorem refSaid (a b : Int) (A3 : Option Addr) (L : List Int) (n k3 : Nat) (c t : Int) (A : Option Addr) (ws : List Int) (m : Nat) (hws : ws.length ≤ 9223372036854775807) (hn : L.length = n) (hs : sameB a b L c t ws = true) (W : World) (hA : LieQ wdV 1 W (· < W.heap.size) A3 L) (hB : LieQ wdV 1 W (· < W.heap.size) A ws) :
    Calls Tryz.prog 10 #[.agg #[.int .i64 a, .int .i64 b, .slice A3 n k3], .agg #[.int .i64 c, .int .i64 t, .slice A ws.length m]] W fun e w' => e = .returned (.bool true) ∧ Below W.heap.size W w' := by
  subst hn
  have hl : L.length ≤ 9223372036854775807 := by
    have : L = ws := by
      simp only [sameB, Bool.and_eq_true, decide_eq_true_eq] at hs
      exact hs.2.2
    rw [this]; exact hws
  have h := refSame7 a b A3 L k3 c t A ws m hl hws W hA hB
  rw [hs] at h
  exact h
/-- how many have been told: one at most, and then the class is among these. -/
def Cn (l : List Int) (c t : Int) : Prop := t = 0 ∨ (t = 1 ∧ c ∈ l)
theorem Cn.zero {l : List Int} {c t : Int} (h : Cn l c t) (hc : c ∉ l) : t = 0 := by
  rcases h with h | h
  · exact h
  · exact absurd h.2 hc
theorem Cn.hit {l : List Int} {c : Int} (h : c ∈ l) : Cn l c 1 := .inr ⟨rfl, h⟩
theorem Cn.more {l : List Int} {a c t : Int} (h : Cn l c t) : Cn (l ++ [a]) c t := h.imp id fun h => ⟨h.1, List.mem_append_left _ h.2⟩
theorem asS_ways (c t : Int) (A : Option Addr) (ws : List Int) (m : Nat) (hws : ws.length ≤ 9223372036854775807) (hwb : ∀ x ∈ ws, -9223372036854775808 ≤ x ∧ x ≤ 9223372036854775807) :
    ∃ z0 z1 : Int, ((mayS z0 z1 = true ∧ sameB 1 1 [z0, (285212672 + z1)] c t ws = true) ∧ ∀ W, LieQ wdV 1 W (· < W.heap.size) A ws → Calls Tryz.prog 8 #[.agg #[.int .i64 c, .int .i64 t, .slice A ws.length m]] W fun e w' => e = .returned (.tuple #[.agg #[.int .i64 z0, .int .i64 z1], .int .i64 0]) ∧ Below W.heap.size W w') ∨
      (∀ W, LieQ wdV 1 W (· < W.heap.size) A ws → Calls Tryz.prog 8 #[.agg #[.int .i64 c, .int .i64 t, .slice A ws.length m]] W fun e w' => e = .returned (.tuple #[.agg #[.int .i64 0, .int .i64 0], .int .i64 171]) ∧ Below W.heap.size W w') := by
  have H := fun W h => AsSession_any c t A ws m hws hwb W h
  refine ⟨(av ws 0), (wrap64 (av ws 1 - 285212672)), ?_⟩
  cases hG : (mayS (av ws 0) (wrap64 (av ws 1 - 285212672)) && sameB 1 1 [(av ws 0), (285212672 + (wrap64 (av ws 1 - 285212672)))] c t ws)
  · refine .inr fun W h => (H W h).mono fun e w' ⟨h1, h2⟩ => ⟨?_, h1⟩
    rw [hG] at h2
    rcases h2 with h | h
    · exact absurd h.1 (by decide)
    · exact h.2
  · refine .inl ⟨by rw [Bool.and_eq_true] at hG; exact hG, fun W h => (H W h).mono fun e w' ⟨h1, h2⟩ => ⟨?_, h1⟩⟩
    rw [hG] at h2
    rcases h2 with h | h
    · exact h.2
    · exact absurd h.1 (by decide)
theorem asH_ways (c t : Int) (A : Option Addr) (ws : List Int) (m : Nat) (hws : ws.length ≤ 9223372036854775807) (hwb : ∀ x ∈ ws, -9223372036854775808 ≤ x ∧ x ≤ 9223372036854775807) :
    ∃ z0 z1 : Int, ((mayH z0 z1 = true ∧ sameB 3 1 [z0, z1] c t ws = true) ∧ ∀ W, LieQ wdV 1 W (· < W.heap.size) A ws → Calls Tryz.prog 12 #[.agg #[.int .i64 c, .int .i64 t, .slice A ws.length m]] W fun e w' => e = .returned (.tuple #[.agg #[.int .i64 z0, .int .i64 z1], .int .i64 0]) ∧ Below W.heap.size W w') ∨
      (∀ W, LieQ wdV 1 W (· < W.heap.size) A ws → Calls Tryz.prog 12 #[.agg #[.int .i64 c, .int .i64 t, .slice A ws.length m]] W fun e w' => e = .returned (.tuple #[.agg #[.int .i64 0, .int .i64 0], .int .i64 171]) ∧ Below W.heap.size W w') := by
  have H := fun W h => AsHop_any c t A ws m hws hwb W h
  refine ⟨(av ws 0), (av ws 1), ?_⟩
  cases hG : (mayH (av ws 0) (av ws 1) && sameB 3 1 [(av ws 0), (av ws 1)] c t ws)
  · refine .inr fun W h => (H W h).mono fun e w' ⟨h1, h2⟩ => ⟨?_, h1⟩
    rw [hG] at h2
    rcases h2 with h | h
    · exact absurd h.1 (by decide)
    · exact h.2
  · refine .inl ⟨by rw [Bool.and_eq_true] at hG; exact hG, fun W h => (H W h).mono fun e w' ⟨h1, h2⟩ => ⟨?_, h1⟩⟩
    rw [hG] at h2
    rcases h2 with h | h
    · exact h.2
    · exact absurd h.1 (by decide)
theorem asQ_ways (c t : Int) (A : Option Addr) (ws : List Int) (m : Nat) (hws : ws.length ≤ 9223372036854775807) (hwb : ∀ x ∈ ws, -9223372036854775808 ≤ x ∧ x ≤ 9223372036854775807) :
    ∃ z0 : Int, ((mayQ z0 = true ∧ sameB 5 1 [z0] c t ws = true) ∧ ∀ W, LieQ wdV 1 W (· < W.heap.size) A ws → Calls Tryz.prog 15 #[.agg #[.int .i64 c, .int .i64 t, .slice A ws.length m]] W fun e w' => e = .returned (.tuple #[.int .i64 z0, .int .i64 0]) ∧ Below W.heap.size W w') ∨
      (∀ W, LieQ wdV 1 W (· < W.heap.size) A ws → Calls Tryz.prog 15 #[.agg #[.int .i64 c, .int .i64 t, .slice A ws.length m]] W fun e w' => e = .returned (.tuple #[.int .i64 0, .int .i64 171]) ∧ Below W.heap.size W w') := by
  have H := fun W h => AsPeriod_any c t A ws m hws hwb W h
  refine ⟨(av ws 0), ?_⟩
  cases hG : (mayQ (av ws 0) && sameB 5 1 [(av ws 0)] c t ws)
  · refine .inr fun W h => (H W h).mono fun e w' ⟨h1, h2⟩ => ⟨?_, h1⟩
    rw [hG] at h2
    rcases h2 with h | h
    · exact absurd h.1 (by decide)
    · exact h.2
  · refine .inl ⟨by rw [Bool.and_eq_true] at hG; exact hG, fun W h => (H W h).mono fun e w' ⟨h1, h2⟩ => ⟨?_, h1⟩⟩
    rw [hG] at h2
    rcases h2 with h | h
    · exact h.2
    · exact absurd h.1 (by decide)
theorem asF_ways (c t : Int) (A : Option Addr) (ws : List Int) (m : Nat) (hws : ws.length ≤ 9223372036854775807) (hwb : ∀ x ∈ ws, -9223372036854775808 ≤ x ∧ x ≤ 9223372036854775807) :
    ∃ z0 z1 z2 : Int, ((mayF z0 z1 z2 = true ∧ sameB 6 1 [z0, (65536 * z1 + z2)] c t ws = true) ∧ ∀ W, LieQ wdV 1 W (· < W.heap.size) A ws → Calls Tryz.prog 18 #[.agg #[.int .i64 c, .int .i64 t, .slice A ws.length m]] W fun e w' => e = .returned (.tuple #[.agg #[.int .i64 z0, .int .i64 z1, .int .i64 z2], .int .i64 0]) ∧ Below W.heap.size W w') ∨
      (∀ W, LieQ wdV 1 W (· < W.heap.size) A ws → Calls Tryz.prog 18 #[.agg #[.int .i64 c, .int .i64 t, .slice A ws.length m]] W fun e w' => e = .returned (.tuple #[.agg #[.int .i64 0, .int .i64 0, .int .i64 0], .int .i64 171]) ∧ Below W.heap.size W w') := by
  have H := fun W h => AsFault_any c t A ws m hws hwb W h
  refine ⟨(av ws 0), (av ws 1 / 65536), (av ws 1 % 65536), ?_⟩
  cases hG : (mayF (av ws 0) (av ws 1 / 65536) (av ws 1 % 65536) && sameB 6 1 [(av ws 0), (65536 * (av ws 1 / 65536) + (av ws 1 % 65536))] c t ws)
  · refine .inr fun W h => (H W h).mono fun e w' ⟨h1, h2⟩ => ⟨?_, h1⟩
    rw [hG] at h2
    rcases h2 with h | h
    · exact absurd h.1 (by decide)
    · exact h.2
  · refine .inl ⟨by rw [Bool.and_eq_true] at hG; exact hG, fun W h => (H W h).mono fun e w' ⟨h1, h2⟩ => ⟨?_, h1⟩⟩
    rw [hG] at h2
    rcases h2 with h | h
    · exact h.2
    · exact absurd h.1 (by decide)
theorem asY_ways (c t : Int) (A : Option Addr) (ws : List Int) (m : Nat) (hws : ws.length ≤ 9223372036854775807) (hwb : ∀ x ∈ ws, -9223372036854775808 ≤ x ∧ x ≤ 9223372036854775807) :
    ∃ z0 : Int, ((mayY z0 = true ∧ sameB 8 1 [(styleW z0)] c t ws = true) ∧ ∀ W, LieQ wdV 1 W (· < W.heap.size) A ws → Calls Tryz.prog 21 #[.agg #[.int .i64 c, .int .i64 t, .slice A ws.length m]] W fun e w' => e = .returned (.tuple #[.int .i64 z0, .int .i64 0]) ∧ Below W.heap.size W w') ∨
      (∀ W, LieQ wdV 1 W (· < W.heap.size) A ws → Calls Tryz.prog 21 #[.agg #[.int .i64 c, .int .i64 t, .slice A ws.length m]] W fun e w' => e = .returned (.tuple #[.int .i64 0, .int .i64 171]) ∧ Below W.heap.size W w') := by
  have H := fun W h => AsStyle_any c t A ws m hws hwb W h
  refine ⟨(styleOf (av ws 0)), ?_⟩
  cases hG : (mayY (styleOf (av ws 0)) && sameB 8 1 [(styleW (styleOf (av ws 0)))] c t ws)
  · refine .inr fun W h => (H W h).mono fun e w' ⟨h1, h2⟩ => ⟨?_, h1⟩
    rw [hG] at h2
    rcases h2 with h | h
    · exact absurd h.1 (by decide)
    · exact h.2
  · refine .inl ⟨by rw [Bool.and_eq_true] at hG; exact hG, fun W h => (H W h).mono fun e w' ⟨h1, h2⟩ => ⟨?_, h1⟩⟩
    rw [hG] at h2
    rcases h2 with h | h
    · exact h.2
    · exact absurd h.1 (by decide)
theorem asT_ways (c t : Int) (A : Option Addr) (ws : List Int) (m : Nat) (hws : ws.length ≤ 9223372036854775807) (hwb : ∀ x ∈ ws, -9223372036854775808 ≤ x ∧ x ≤ 9223372036854775807) :
    ∃ z0 : Int, ((mayT z0 = true ∧ sameB 15 1 [z0] c t ws = true) ∧ ∀ W, LieQ wdV 1 W (· < W.heap.size) A ws → Calls Tryz.prog 36 #[.agg #[.int .i64 c, .int .i64 t, .slice A ws.length m]] W fun e w' => e = .returned (.tuple #[.int .i64 z0, .int .i64 0]) ∧ Below W.heap.size W w') ∨
      (∀ W, LieQ wdV 1 W (· < W.heap.size) A ws → Calls Tryz.prog 36 #[.agg #[.int .i64 c, .int .i64 t, .slice A ws.length m]] W fun e w' => e = .returned (.tuple #[.int .i64 0, .int .i64 171]) ∧ Below W.heap.size W w') := by
  have H := fun W h => AsTell_any c t A ws m hws hwb W h
  refine ⟨(av ws 0), ?_⟩
  cases hG : (mayT (av ws 0) && sameB 15 1 [(av ws 0)] c t ws)
  · refine .inr fun W h => (H W h).mono fun e w' ⟨h1, h2⟩ => ⟨?_, h1⟩
    rw [hG] at h2
    rcases h2 with h | h
    · exact absurd h.1 (by decide)
    · exact h.2
  · refine .inl ⟨by rw [Bool.and_eq_true] at hG; exact hG, fun W h => (H W h).mono fun e w' ⟨h1, h2⟩ => ⟨?_, h1⟩⟩
    rw [hG] at h2
    rcases h2 with h | h
    · exact h.2
    · exact absurd h.1 (by decide)
theorem asW_ways (c t : Int) (A : Option Addr) (ws : List Int) (m : Nat) (hws : ws.length ≤ 9223372036854775807) (hwb : ∀ x ∈ ws, -9223372036854775808 ≤ x ∧ x ≤ 9223372036854775807) :
    ∃ z0 z1 z2 z3 z4 z5 z6 : Int, ((mayW z0 z1 z2 z3 z4 z5 z6 = true ∧ sameB 9 2 [z1, z2, z0, z4, z3, z5, z6] c t ws = true) ∧ ∀ W, LieQ wdV 1 W (· < W.heap.size) A ws → Calls Tryz.prog 24 #[.agg #[.int .i64 c, .int .i64 t, .slice A ws.length m]] W fun e w' => e = .returned (.tuple #[.agg #[.int .i64 z0, .int .i64 z1, .int .i64 z2, .int .i64 z3, .int .i64 z4, .int .i64 z5, .int .i64 z6], .int .i64 0]) ∧ Below W.heap.size W w') ∨
      (∀ W, LieQ wdV 1 W (· < W.heap.size) A ws → Calls Tryz.prog 24 #[.agg #[.int .i64 c, .int .i64 t, .slice A ws.length m]] W fun e w' => e = .returned (.tuple #[.agg #[.int .i64 0, .int .i64 0, .int .i64 0, .int .i64 0, .int .i64 0, .int .i64 0, .int .i64 0], .int .i64 171]) ∧ Below W.heap.size W w') := by
  have H := fun W h => AsWish_any c t A ws m hws hwb W h
  refine ⟨(av ws 2), (av ws 0), (av ws 1), (av ws 4), (av ws 3), (av ws 5), (av ws 6), ?_⟩
  cases hG : (mayW (av ws 2) (av ws 0) (av ws 1) (av ws 4) (av ws 3) (av ws 5) (av ws 6) && sameB 9 2 [(av ws 0), (av ws 1), (av ws 2), (av ws 3), (av ws 4), (av ws 5), (av ws 6)] c t ws)
  · refine .inr fun W h => (H W h).mono fun e w' ⟨h1, h2⟩ => ⟨?_, h1⟩
    rw [hG] at h2
    rcases h2 with h | h
    · exact absurd h.1 (by decide)
    · exact h.2
  · refine .inl ⟨by rw [Bool.and_eq_true] at hG; exact hG, fun W h => (H W h).mono fun e w' ⟨h1, h2⟩ => ⟨?_, h1⟩⟩
    rw [hG] at h2
    rcases h2 with h | h
    · exact h.2
    · exact absurd h.1 (by decide)
theorem asL_ways (c t : Int) (A : Option Addr) (ws : List Int) (m : Nat) (hws : ws.length ≤ 9223372036854775807) (hwb : ∀ x ∈ ws, -9223372036854775808 ≤ x ∧ x ≤ 9223372036854775807) :
    ∃ z0 z1 : Int, ((mayN z0 z1 = true ∧ sameB 10 1 [z0, z1] c t ws = true) ∧ ∀ W, LieQ wdV 1 W (· < W.heap.size) A ws → Calls Tryz.prog 41 #[.agg #[.int .i64 c, .int .i64 t, .slice A ws.length m]] W fun e w' => e = .returned (.tuple #[.agg #[.int .i64 z0, .int .i64 z1], .int .i64 0]) ∧ Below W.heap.size W w') ∨
      (∀ W, LieQ wdV 1 W (· < W.heap.size) A ws → Calls Tryz.prog 41 #[.agg #[.int .i64 c, .int .i64 t, .slice A ws.length m]] W fun e w' => e = .returned (.tuple #[.agg #[.int .i64 0, .int .i64 0], .int .i64 171]) ∧ Below W.heap.size W w') := by
  have H := fun W h => AsFilter_any c t A ws m hws hwb W h
  refine ⟨(av ws 0), (av ws 1), ?_⟩
  cases hG : (mayN (av ws 0) (av ws 1) && sameB 10 1 [(av ws 0), (av ws 1)] c t ws)
  · refine .inr fun W h => (H W h).mono fun e w' ⟨h1, h2⟩ => ⟨?_, h1⟩
    rw [hG] at h2
    rcases h2 with h | h
    · exact absurd h.1 (by decide)
    · exact h.2
  · refine .inl ⟨by rw [Bool.and_eq_true] at hG; exact hG, fun W h => (H W h).mono fun e w' ⟨h1, h2⟩ => ⟨?_, h1⟩⟩
    rw [hG] at h2
    rcases h2 with h | h
    · exact h.2
    · exact absurd h.1 (by decide)
theorem asN_ways (c t : Int) (A : Option Addr) (ws : List Int) (m : Nat) (hws : ws.length ≤ 9223372036854775807) (hwb : ∀ x ∈ ws, -9223372036854775808 ≤ x ∧ x ≤ 9223372036854775807) :
    ∃ z0 z1 : Int, ((mayN z0 z1 = true ∧ sameB 11 1 [z0, z1] c t ws = true) ∧ ∀ W, LieQ wdV 1 W (· < W.heap.size) A ws → Calls Tryz.prog 44 #[.agg #[.int .i64 c, .int .i64 t, .slice A ws.length m]] W fun e w' => e = .returned (.tuple #[.agg #[.int .i64 z0, .int .i64 z1], .int .i64 0]) ∧ Below W.heap.size W w') ∨
      (∀ W, LieQ wdV 1 W (· < W.heap.size) A ws → Calls Tryz.prog 44 #[.agg #[.int .i64 c, .int .i64 t, .slice A ws.length m]] W fun e w' => e = .returned (.tuple #[.agg #[.int .i64 0, .int .i64 0], .int .i64 171]) ∧ Below W.heap.size W w') := by
  have H := fun W h => AsSender_any c t A ws m hws hwb W h
  refine ⟨(av ws 0), (av ws 1), ?_⟩
  cases hG : (mayN (av ws 0) (av ws 1) && sameB 11 1 [(av ws 0), (av ws 1)] c t ws)
  · refine .inr fun W h => (H W h).mono fun e w' ⟨h1, h2⟩ => ⟨?_, h1⟩
    rw [hG] at h2
    rcases h2 with h | h
    · exact absurd h.1 (by decide)
    · exact h.2
  · refine .inl ⟨by rw [Bool.and_eq_true] at hG; exact hG, fun W h => (H W h).mono fun e w' ⟨h1, h2⟩ => ⟨?_, h1⟩⟩
    rw [hG] at h2
    rcases h2 with h | h
    · exact h.2
    · exact absurd h.1 (by decide)
theorem asP_ways (c t : Int) (A : Option Addr) (ws : List Int) (m : Nat) (hws : ws.length ≤ 9223372036854775807) (hwb : ∀ x ∈ ws, -9223372036854775808 ≤ x ∧ x ≤ 9223372036854775807) :
    ∃ z0 z1 z2 z3 z4 : Int, ((mayP z0 z1 z2 z3 z4 = true ∧ sameB 12 2 [z1, z2, z0, z4, z3] c t ws = true) ∧ ∀ W, LieQ wdV 1 W (· < W.heap.size) A ws → Calls Tryz.prog 48 #[.agg #[.int .i64 c, .int .i64 t, .slice A ws.length m]] W fun e w' => e = .returned (.tuple #[.agg #[.int .i64 z0, .int .i64 z1, .int .i64 z2, .int .i64 z3, .int .i64 z4], .int .i64 0]) ∧ Below W.heap.size W w') ∨
      (∀ W, LieQ wdV 1 W (· < W.heap.size) A ws → Calls Tryz.prog 48 #[.agg #[.int .i64 c, .int .i64 t, .slice A ws.length m]] W fun e w' => e = .returned (.tuple #[.agg #[.int .i64 0, .int .i64 0, .int .i64 0, .int .i64 0, .int .i64 0], .int .i64 171]) ∧ Below W.heap.size W w') := by
  have H := fun W h => AsSpec_any c t A ws m hws hwb W h
  refine ⟨(av ws 2), (av ws 0), (av ws 1), (av ws 4), (av ws 3), ?_⟩
  cases hG : (mayP (av ws 2) (av ws 0) (av ws 1) (av ws 4) (av ws 3) && sameB 12 2 [(av ws 0), (av ws 1), (av ws 2), (av ws 3), (av ws 4)] c t ws)
  · refine .inr fun W h => (H W h).mono fun e w' ⟨h1, h2⟩ => ⟨?_, h1⟩
    rw [hG] at h2
    rcases h2 with h | h
    · exact absurd h.1 (by decide)
    · exact h.2
  · refine .inl ⟨by rw [Bool.and_eq_true] at hG; exact hG, fun W h => (H W h).mono fun e w' ⟨h1, h2⟩ => ⟨?_, h1⟩⟩
    rw [hG] at h2
    rcases h2 with h | h
    · exact h.2
    · exact absurd h.1 (by decide)
theorem asM_ways (c t : Int) (A : Option Addr) (ws : List Int) (m : Nat) (hws : ws.length ≤ 9223372036854775807) (hwb : ∀ x ∈ ws, -9223372036854775808 ≤ x ∧ x ≤ 9223372036854775807) :
    ∃ z0 z1 : Int, ((mayM z0 z1 = true ∧ sameB 13 2 [z0, z1] c t ws = true) ∧ ∀ W, LieQ wdV 1 W (· < W.heap.size) A ws → Calls Tryz.prog 52 #[.agg #[.int .i64 c, .int .i64 t, .slice A ws.length m]] W fun e w' => e = .returned (.tuple #[.agg #[.int .i64 z0, .int .i64 z1], .int .i64 0]) ∧ Below W.heap.size W w') ∨
      (∀ W, LieQ wdV 1 W (· < W.heap.size) A ws → Calls Tryz.prog 52 #[.agg #[.int .i64 c, .int .i64 t, .slice A ws.length m]] W fun e w' => e = .returned (.tuple #[.agg #[.int .i64 0, .int .i64 0], .int .i64 171]) ∧ Below W.heap.size W w') := by
  have H := fun W h => AsTerms_any c t A ws m hws hwb W h
  refine ⟨(av ws 0), (av ws 1), ?_⟩
  cases hG : (mayM (av ws 0) (av ws 1) && sameB 13 2 [(av ws 0), (av ws 1)] c t ws)
  · refine .inr fun W h => (H W h).mono fun e w' ⟨h1, h2⟩ => ⟨?_, h1⟩
    rw [hG] at h2
    rcases h2 with h | h
    · exact absurd h.1 (by decide)
    · exact h.2
  · refine .inl ⟨by rw [Bool.and_eq_true] at hG; exact hG, fun W h => (H W h).mono fun e w' ⟨h1, h2⟩ => ⟨?_, h1⟩⟩
    rw [hG] at h2
    rcases h2 with h | h
    · exact h.2
    · exact absurd h.1 (by decide)
end Go.Proofs.YtappmacnoopmkaaGreat
