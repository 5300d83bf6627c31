/- Whatever the keys, and the last one, HeapTurns answers true; no conditions. -/
import Derived.Test.YtnjkfpjccedkjaaHpR
namespace Go.Proofs.Ytnjkfpjccedkjaa.heapTurns
open Go.ChangeShapes Go.WideShapes Go.ChangeAt Go.RowKit Go.Joins Go.Proofs.Ytnjkfpjccedkjaa.Tp Go.Proofs.Ytnjkfpjccedkjaa.Hp Go.Proofs.Ytnjkfpjccedkjaa.Hp.RowK
set_option linter.unusedVariables false
set_option maxRecDepth 100000 in
theorem lifted (os : Os) (started : os.Started) (H : Type) (enc : TypeId × Value → H) :
    ReturnsInHanded {} Try.checked os 7 .any (Rows.heapTurnsSpec.pre6 enc Try.prog Try.f7 Rows.heapTurnsRow.domain false) (Rows.heapTurnsSpec.post enc Try.prog Try.f7 false true false false) := by
  refine returnsInHanded_of_change (C := Try.checked) RowK.own started (by kernel_rfl) Try.func7
    (ChangeSpec.witness6 (enc := enc) (C := Try.checked) false ⟨#[], #[.slice none 0 0, .agg #[.int .i64 0, .int .i64 0]], []⟩ 8 (by kernel_rfl) (by kernel_rfl) (by kernel_rfl) (by kernel_rfl)) ?_
  intro W base args ds gs before hval0 hW hcnd _
  have hval : ∀ (j : Nat) t v, Try.f7.params[j]? = some t → args[j]? = some v → Value.okWide Try.prog W .any base t v := hval0
  have hW' := hW
  obtain ⟨p, q, hA0, hV, rfl, hfz, hnd⟩ := hW
  have hA : DataW.TrodAll enc Try.prog W 0 (fun _ => true) true Try.f7.params.toList args.toList ds p := hA0
  rw [Try.params7] at hA hval
  obtain ⟨v0, vs0, d0, ds0, p0, q0, hargs, rfl, rfl, h0, r0⟩ := trodAll_cons hA
  obtain ⟨v1, vs1, d1, ds1, p1, q1, rfl, rfl, rfl, h1, r1⟩ := trodAll_cons r0
  obtain ⟨rfl, rfl, rfl⟩ := trodAll_nil r1
  obtain rfl : args = #[v0, v1] := by cases args; simp_all
  obtain ⟨rfl, rfl⟩ := trodVars_none hV
  obtain ⟨A0, L0, c0, rfl, m0, n0, o0, l0⟩ : ∃ (A : Option Addr) (L : List (Int × Int)) (c : Nat), v0 = .slice A L.length c ∧ L.length ≤ c ∧ c ≤ maxLen ∧ (∀ x ∈ L, Wd x) ∧ Lie ratV 2 W W.heap.size A L := by
    obtain ⟨ptr, len, cap, rfl⟩ := okWide_slice Try.underlying61 (hval 0 61 v0 rfl rfl)
    obtain ⟨fuel, hf⟩ := h0
    obtain ⟨A, L, c, e, hh⟩ := open_rats hf
    exact ⟨A, L, c, by simpa [Value.cells] using e, hh⟩
  obtain ⟨a1, b1, rfl, w1⟩ := open_rat (hval 1 32 v1 rfl rfl) h1
  refine (Ytnjkfpjccedkjaa.Hp.turns_walk A0 L0 c0 a1 b1 o0 w1 m0 n0 W l0).mono fun e W' ⟨he, hg⟩ => ?_
  subst he
  exact ⟨_, rfl, post_law RowK.laidOut (by rw [Try.params7]; intro t ht; simp at ht; rcases ht with rfl | rfl <;> exact ⟨by kernel_rfl, of_decide_eq_true (by kernel_rfl)⟩) hW' hA0 rfl (fun _ _ _ => (trodAll_cons_mk (shut_bool Try.underlying4 _) trodAll_mk0)) (fun _ => rfl) hg (ok_one (by kernel_rfl) rfl (okWide_bool_mk Try.underlying4 _))⟩

theorem over : Rows.heapTurnsRow.holds Try.pinned (OpenSpec.ofChange Rows.heapTurnsSpec) :=
  OpenClaim.holds_of_wide 7 Try.f7 rfl rfl rfl rfl rfl rfl rfl ⟨rfl, rfl, rfl, rfl, rfl⟩ rfl rfl rfl rfl rfl (by kernel_rfl) Try.func7 (by kernel_rfl)
    (of_decide_eq_true (by kernel_rfl)) (by unfold Func.isWrapper; first | (rw [if_pos (by decide +kernel)]; kernel_rfl) | (rw [if_neg (by decide +kernel)]; exact ⟨rfl, rfl⟩))
    (fun os started H enc _ => lifted os started H enc)
end Go.Proofs.Ytnjkfpjccedkjaa.heapTurns
namespace Go.Proofs.Ytnjkfpjccedkjaa
/-- the given statement. -/
theorem heapTurns_proved : Rows.HeapTurnsSaid := heapTurns.over
end Go.Proofs.Ytnjkfpjccedkjaa
