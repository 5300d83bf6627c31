/- Buckets: Take in one; what every law of the layer looks at besides. -/
import Derived.Test.YtilikpacgbkebaaBkK
namespace Go.Proofs.Ytilikpacgbkebaa
open Go.RowKit
set_option linter.unusedVariables false
theorem btake_any {b : Nat} {p r u m l : Int} {s : BM.St} {w : World} (hB : BktAt w b p r u m l s) (hr : rightB p r u m l = true) (hs : BM.Ok u m s) (n z : Int) :
    Calls Try.prog 12 #[.pointer (some ⟨b, 0, none⟩), .int .i64 n, .int .i64 z] w (TakeEnd b p r u m l s n z w) := by
  cases hn : BM.askB s n
  · refine (btake_no hB hr hs n z hn).mono ?_
    rintro e w' ⟨rfl, rfl⟩
    have e1 : BM.step p r u m l s n z = (s, false, 2) := by unfold BM.step; rw [if_neg (by rw [hn]; simp)]
    unfold TakeEnd
    rw [e1]
    exact ⟨rfl, hB, But.refl _ _⟩
  · exact btake_yes hB hr hs n z hn
theorem some12_any (w : World) : Calls Try.prog 24 #[] w fun e w' => e = .returned (.agg #[.int .i64 10, .int .i64 2, .int .i64 20, .int .i64 8, .int .i64 1]) ∧ Below w.heap.size w w' := by
  go_enter Try.func24, Try.ntmps24
  go_wp2_with fail
  exact bodyPost_ret (v := .agg #[.int .i64 10, .int .i64 2, .int .i64 20, .int .i64 8, .int .i64 1]) (by simp [results, Try.results24, go_sem]) rfl ⟨rfl, by (repeat' (first | (with_reducible exact Below.refl _ _) | (with_reducible assumption) | (with_reducible apply Below.setCell) | (with_reducible apply Below.alloc) | (with_reducible apply Below.drew) | (with_reducible apply below_drewN) | (with_reducible refine Below.trans ?_ (Below.mono (by assumption) ?_)) | omega | (simp; done) | (simp; omega)))⟩
theorem when_known {t : Int} (h : BM.IsWhen 10 2 20 8 (1, 6, 0) 1 8 t) : t = 2 := by
  obtain ⟨h0, h1, h2, h3⟩ := h
  have a : ¬ (2 < t) := fun hlt => h3 2 (by omega) hlt (by decide)
  have b : t ≠ 1 := fun e => by subst e; exact absurd h2 (by decide)
  omega
theorem when12 (b : Nat) (W : World) (h : BktAt W b 10 2 20 8 1 (1, 6, 0)) : Calls Try.prog 18 #[.pointer (some ⟨b, 0, none⟩), .int .i64 1, .int .i64 8] W fun e w' => e = .returned (.tuple #[.int .i64 2, .int .i64 0]) ∧ Below W.heap.size W w' := by
  refine (bwhen_yes h (by decide) (by unfold BM.Ok; decide) 1 8 (by decide) (by decide)).mono ?_
  rintro e w' ⟨t, he, ht, hb⟩
  rw [when_known ht] at he
  exact ⟨he, hb⟩
set_option maxRecDepth 100000 in
set_option maxHeartbeats 4000000 in
theorem known12_any (w : World) : Calls Try.prog 9 #[] w fun e w' => e = .returned (.bool true) ∧ Below w.heap.size w w' := by
  have cs := hidd (fun W => some12_any W)
  have cn := hidd (fun W => bnew_yes 10 2 20 8 1 (by decide) W)
  have v1 : BM.step 10 2 20 8 1 (0, 20, 8) 0 8 = ((0, 12, 0), true, 0) := by decide
  have v2 : BM.step 10 2 20 8 1 (0, 12, 0) 0 1 = ((0, 12, 0), false, 0) := by decide
  have v3 : BM.step 10 2 20 8 1 (0, 12, 0) 1 8 = ((1, 6, 0), true, 0) := by decide
  have k1 := hidd (fun b W (h : BktAt W b 10 2 20 8 1 (0, 20, 8)) => btake_any h (by decide) (by unfold BM.Ok; decide) 0 8)
  have k2 := hidd (fun b W (h : BktAt W b 10 2 20 8 1 (0, 12, 0)) => btake_any h (by decide) (by unfold BM.Ok; decide) 0 1)
  have k3 := hidd (fun b W (h : BktAt W b 10 2 20 8 1 (0, 12, 0)) => btake_any h (by decide) (by unfold BM.Ok; decide) 1 8)
  unfold TakeEnd at k1 k2 k3
  rw [v1] at k1
  rw [v2] at k2
  rw [v3] at k3
  have k4 := hidd (fun b W h => when12 b W h)
  clear v1 v2 v3
  go_enter Try.func9, Try.ntmps9
  go_wp2_with fail
  refine (cs.out _).mono ?_
  rintro e w1 ⟨rfl, hb1⟩
  go_wp2_with fail
  refine (cn.out _).mono ?_
  rintro e w2 ⟨b, rfl, hle, hB, hb2⟩
  have HB := hidd hB
  have h12 := below_step hb1 hb2
  have hlb : w.heap.size ≤ b := by have := hb1.size; omega
  have H2 := hidd h12
  clear hB hb1 hb2 hle h12
  go_wp2_with fail
  refine (k1.out _ _ HB.out).mono ?_
  rintro e w3 ⟨rfl, hB, hb⟩
  have HB := hidd hB
  have H3 := hidd (H2.out.trans (hb.below hlb H2.out.size))
  clear hB hb
  go_wp2_with fail
  refine (k2.out _ _ HB.out).mono ?_
  rintro e w4 ⟨rfl, hB, hb⟩
  have HB := hidd hB
  have H4 := hidd (H3.out.trans (hb.below hlb H3.out.size))
  clear hB hb
  go_wp2_with fail
  refine (k3.out _ _ HB.out).mono ?_
  rintro e w5 ⟨rfl, hB, hb⟩
  have HB := hidd hB
  have H5 := hidd (H4.out.trans (hb.below hlb H4.out.size))
  clear hB hb
  go_wp2_with fail
  refine (k4.out _ _ HB.out).mono ?_
  rintro e w6 ⟨rfl, hb⟩
  have H6 := hidd (H5.out.trans (hb.mono H5.out.size))
  clear hb
  go_wp2_with fail
  go_ret
  exact ⟨rfl, H6.out⟩
end Go.Proofs.Ytilikpacgbkebaa
