/- Whatever the spec, the packets ahead, the tick and the size, BucketHas answers true: what there is at any tick, and when a packet keeps to it; no conditions. -/
import Derived.Test.YtilikpacgbkebaaRowV
import Derived.Test.YtilikpacgbkebaaBkV
namespace Go.Proofs.Ytilikpacgbkebaa.bucketHas
open Go.ChangeShapes Go.WideShapes Go.ChangeAt Go.RowKit Go.Joins Go.Proofs.Ytilikpacgbkebaa.RowK
set_option linter.unusedVariables false
set_option maxRecDepth 100000 in
theorem lifted (os : Os) (started : os.Started) (H : Type) (enc : TypeId × Value → H) :
    ReturnsInHanded {} Try.checked os 4 .any (Rows.bucketHasSpec.pre6 enc Try.prog Try.f4 Rows.bucketHasRow.domain false) (Rows.bucketHasSpec.post enc Try.prog Try.f4 false true false false) := by
  refine returnsInHanded_of_change (C := Try.checked) own started (by kernel_rfl) Try.func4
    (ChangeSpec.witness6 (enc := enc) (C := Try.checked) false ⟨#[], #[.agg #[.int .i64 0, .int .i64 0, .int .i64 0, .int .i64 0, .int .i64 0], .slice none 0 0, .agg #[.int .i64 0, .int .i64 0]], []⟩ 8 (by kernel_rfl) (by kernel_rfl) (by kernel_rfl) (by kernel_rfl)) ?_
  intro W base args ds gs before hval0 hW hcnd _
  have hval : ∀ (j : Nat) t v, Try.f4.params[j]? = some t → args[j]? = some v → Value.okWide Try.prog W .any base t v := hval0
  have hW' := hW
  obtain ⟨p, q, hA0, hV, rfl, hfz, hnd⟩ := hW
  have hA : DataW.TrodAll enc Try.prog W 0 (fun _ => true) true Try.f4.params.toList args.toList ds p := hA0
  rw [Try.params4] at hA hval
  obtain ⟨v0, vs0, d0, ds0, p0, q0, hargs, rfl, rfl, h0, r0⟩ := trodAll_cons hA
  obtain ⟨v1, vs1, d1, ds1, p1, q1, rfl, rfl, rfl, h1, r1⟩ := trodAll_cons r0
  obtain ⟨v2, vs2, d2, ds2, p2, q2, rfl, rfl, rfl, h2, r2⟩ := trodAll_cons r1
  obtain ⟨rfl, rfl, rfl⟩ := trodAll_nil r2
  obtain rfl : args = #[v0, v1, v2] := by cases args; simp_all
  obtain ⟨rfl, rfl⟩ := trodVars_none hV
  obtain ⟨a0, b0, c0, u0, g0, rfl⟩ := open_ints5 Try.underlying23 (by kernel_rfl) cellsSpec Try.underlying2 Try.underlying2 Try.underlying2 Try.underlying2 Try.underlying2 (hval 0 23 v0 rfl rfl) h0
  obtain ⟨A1, L1, c1, rfl, m1, l1⟩ : ∃ (A : Option Addr) (L : List (Int × Int)) (c : Nat), v1 = .slice A L.length c ∧ L.length ≤ maxLen ∧ Lie sendV 2 W W.heap.size A L := by
    obtain ⟨ptr, len, cap, rfl⟩ := okWide_slice Try.underlying24 (hval 1 24 v1 rfl rfl)
    obtain ⟨fuel, hf⟩ := h1
    obtain ⟨A, L, c, e, hh⟩ := open_sends hf
    exact ⟨A, L, c, by simpa [Value.cells] using e, hh⟩
  obtain ⟨a2, b2, rfl, -, -⟩ := open_ints2 Try.underlying36 (by kernel_rfl) (by kernel_rfl) Try.underlying2 Try.underlying2 (hval 2 36 v2 rfl rfl) h2
  refine (Ytilikpacgbkebaa.has12_walk a0 b0 c0 u0 g0 A1 L1 c1 a2 b2 m1 W l1).mono fun e W' ⟨he, hg⟩ => ?_
  subst he
  exact ⟨_, rfl, post_law laidOut (by rw [Try.params4]; intro t ht; simp at ht; rcases ht with rfl | rfl | rfl <;> exact ⟨by kernel_rfl, of_decide_eq_true (by kernel_rfl)⟩) hW' hA0 rfl (fun _ _ _ => (trodAll_cons_mk (shut_bool Try.underlying4 _) trodAll_mk0)) (fun _ => rfl) hg (ok_one (by kernel_rfl) rfl (okWide_bool_mk Try.underlying4 _))⟩

theorem over : Rows.bucketHasRow.holds Try.pinned (OpenSpec.ofChange Rows.bucketHasSpec) :=
  OpenClaim.holds_of_wide 4 Try.f4 rfl rfl rfl rfl rfl rfl rfl ⟨rfl, rfl, rfl, rfl, rfl⟩ rfl rfl rfl rfl rfl (by kernel_rfl) Try.func4 (by kernel_rfl)
    (of_decide_eq_true (by kernel_rfl)) (by unfold Func.isWrapper; first | (rw [if_pos (by decide +kernel)]; kernel_rfl) | (rw [if_neg (by decide +kernel)]; exact ⟨rfl, rfl⟩))
    (fun os started H enc _ => lifted os started H enc)
end Go.Proofs.Ytilikpacgbkebaa.bucketHas
namespace Go.Proofs.Ytilikpacgbkebaa
/-- the given statement. -/
theorem bucketHas_proved : Rows.BucketHasSaid := bucketHas.over
end Go.Proofs.Ytilikpacgbkebaa
