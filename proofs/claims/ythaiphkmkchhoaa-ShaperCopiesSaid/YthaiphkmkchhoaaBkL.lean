/- Buckets: Take in one; what every law of the layer looks at besides. -/
import Derived.Test.YthaiphkmkchhoaaBkK
namespace Go.Proofs.Ythaiphkmkchhoaa
open Go.RowKit
set_option linter.unusedVariables false
theorem btake_any {b : Nat} {p r u m l : Int} {s : BM.St} {w : World} (hB : BktAt w b p r u m l s) (hr : rightB p r u m l = true) (hs : BM.Ok u m s) (n z : Int) :
    Calls Try.prog 34 #[.pointer (some ⟨b, 0, none⟩), .int .i64 n, .int .i64 z] w (TakeEnd b p r u m l s n z w) := by
  cases hn : BM.askB s n
  · refine (btake_no hB hr hs n z hn).mono ?_
    rintro e w' ⟨rfl, rfl⟩
    have e1 : BM.step p r u m l s n z = (s, false, 2) := by unfold BM.step; rw [if_neg (by rw [hn]; simp)]
    unfold TakeEnd
    rw [e1]
    exact ⟨rfl, hB, But.refl _ _⟩
  · exact btake_yes hB hr hs n z hn
theorem when_known {t : Int} (h : BM.IsWhen 10 2 20 8 (1, 6, 0) 1 8 t) : t = 2 := by
  obtain ⟨h0, h1, h2, h3⟩ := h
  have a : ¬ (2 < t) := fun hlt => h3 2 (by omega) hlt (by decide)
  have b : t ≠ 1 := fun e => by subst e; exact absurd h2 (by decide)
  omega
theorem when12 (b : Nat) (W : World) (h : BktAt W b 10 2 20 8 1 (1, 6, 0)) : Calls Try.prog 37 #[.pointer (some ⟨b, 0, none⟩), .int .i64 1, .int .i64 8] W fun e w' => e = .returned (.tuple #[.int .i64 2, .int .i64 0]) ∧ Below W.heap.size W w' := by
  refine (bwhen_yes h (by decide) (by unfold BM.Ok; decide) 1 8 (by decide) (by decide)).mono ?_
  rintro e w' ⟨t, he, ht, hb⟩
  rw [when_known ht] at he
  exact ⟨he, hb⟩
end Go.Proofs.Ythaiphkmkchhoaa
