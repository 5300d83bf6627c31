/- Is a spec one: the look over the musts. -/
import Derived.Test.YthaiphkmkchhoaaSpA
namespace Go.Proofs.Ythaiphkmkchhoaa
open Go.RowKit

set_option maxHeartbeats 2000000 in
theorem check_any (p r u m l : Int) (w : World) : Calls Try.prog 39 #[.agg #[.int .i64 p, .int .i64 r, .int .i64 u, .int .i64 m, .int .i64 l]] w fun e w' => e = .returned (.int .i64 (if rightB p r u m l then 0 else 2)) ∧ Below w.heap.size w w' := by
  have cm := hidd (fun k hk W => must_any k hk p r u m l W)
  have cl := hidd (fun W => musts_any W)
  have hr := hidd (rightB_musts p r u m l)
  generalize rightB p r u m l = R at *
  generalize mustB p r u m l = M at *
  go_enter Try.func39, Try.ntmps39
  go_wp2_with fail
  refine wp_scope_fwd 0 (fun a' w' => R = false ∧ Below w.heap.size w w' ∧ ∃ v0 v1 v2 v3 v4 v5 v6 v7 v8 v9 v10 v11 v12 v13 v14 v15 : Value, a' = { tmps := #[v0, v1, v2, v3, v4, v5, v6, v7, v8, v9, v10, v11, v12, v13, v14, v15], defers := [] }) rfl ?_ ?_
  case refine_2 =>
    rintro a' w' ⟨rfl, hb, v0, v1, v2, v3, v4, v5, v6, v7, v8, v9, v10, v11, v12, v13, v14, v15, rfl⟩
    go_wp2_with fail
    (try rw [Exit.noGoto_ret])
    go_ret
    exact ⟨rfl, hb⟩
  go_wp2_with fail
  refine (cl.out _).mono ?_
  rintro e w1 ⟨b, rfl, hb0, hb1, hM, hbl⟩
  have HM := hidd hM
  have HB0 := hidd hb0
  have hB : Below w.heap.size w w1 := below_step (below_new (Below.refl _ _) _) hbl
  obtain ⟨bc, bf⟩ := bcell hbl
  have z : w.heap.size < w1.heap.size := by have := hbl.size; simp at this; omega
  have c0 : w1.cell? ⟨w.heap.size, 0, none⟩ = some (.int .i64 p) := by rw [bc _ _ (by (first | omega | (simp; done) | (simp; omega)))]; simp [go_sem]
  have c1 : w1.cell? ⟨w.heap.size, 1, none⟩ = some (.int .i64 r) := by rw [bc _ _ (by (first | omega | (simp; done) | (simp; omega)))]; simp [go_sem]
  have c2 : w1.cell? ⟨w.heap.size, 2, none⟩ = some (.int .i64 u) := by rw [bc _ _ (by (first | omega | (simp; done) | (simp; omega)))]; simp [go_sem]
  have c3 : w1.cell? ⟨w.heap.size, 3, none⟩ = some (.int .i64 m) := by rw [bc _ _ (by (first | omega | (simp; done) | (simp; omega)))]; simp [go_sem]
  have c4 : w1.cell? ⟨w.heap.size, 4, none⟩ = some (.int .i64 l) := by rw [bc _ _ (by (first | omega | (simp; done) | (simp; omega)))]; simp [go_sem]
  have C : Hid (∀ W, Below w1.heap.size w1 W → W.cell? ⟨w.heap.size, 0, none⟩ = some (.int .i64 p) ∧ W.cell? ⟨w.heap.size, 1, none⟩ = some (.int .i64 r) ∧ W.cell? ⟨w.heap.size, 2, none⟩ = some (.int .i64 u) ∧ W.cell? ⟨w.heap.size, 3, none⟩ = some (.int .i64 m) ∧ W.cell? ⟨w.heap.size, 4, none⟩ = some (.int .i64 l)) :=
    hidd fun W h => ⟨(h.cell z).trans c0, (h.cell z).trans c1, (h.cell z).trans c2, (h.cell z).trans c3, (h.cell z).trans c4⟩
  clear hM hb0 bc bf hbl c0 c1 c2 c3 c4
  go_wp2_with fail
  go_loopg [7] 9 (fun k s wr => ∃ i : Nat, i ≤ 8 ∧ i + k = 9 ∧ (∀ j, j < i → M j = true) ∧ s = .int .i64 (i : Int) ∧ Below w1.heap.size w1 wr)
  case atStart => exact ⟨0, by omega, by omega, fun j hj => absurd hj (by omega), rfl, Below.refl _ _⟩
  case round =>
    obtain ⟨i, hi, hk, ha, rfl, hbl⟩ := hrel
    have HK := hidd hk
    have HA := hidd ha
    clear hk ha
    by_cases hlt : i < 8
    · have cf := (hbl.cell (p := ⟨b, i, none⟩) hb1).trans (HM.out i hlt)
      have he := must_enters i hlt
      have ci := hidd (cm.out i hlt)
      obtain ⟨d0, d1, d2, d3, d4⟩ := C.out _ hbl
      generalize mustF i = F at *
      have hMi := hidd (rfl : M i = M i)
      have G : ∀ b, M i = b → Hid (M i = b) := fun b h => hidd h
      cases hv : M i
      · have HV := hidd hv
        rw [hv] at ci
        clear hv
        go_wp2_with fail
        refine (ci.out _).mono ?_
        rintro e w2 ⟨rfl, hb2⟩
        go_wp2_with fail
        go_step3
        have hf : R = false := by
          cases hR : R
          · rfl
          · have := hr.out.1 hR i hlt
            rw [HV.out] at this
            exact absurd this (by decide)
        exact ⟨rfl, hf, hB.trans ((hbl.trans (hb2.mono hbl.size)).mono hB.size), _, _, _, _, _, _, _, _, _, _, _, _, _, _, _, _, rfl⟩
      · have HV := hidd hv
        rw [hv] at ci
        clear hv
        go_wp2_with fail
        refine (ci.out _).mono ?_
        rintro e w2 ⟨rfl, hb2⟩
        go_wp2_with fail
        have hk := HK.out
        go_roundg (gk - 1)
        case measure => omega
        case rel => exact ⟨i + 1, by omega, by omega, fun j hj => by
          by_cases h : j = i
          · rw [h]; exact HV.out
          · exact HA.out j (by omega), by go_num, hbl.trans (hb2.mono hbl.size)⟩
    · go_wp2_with fail
      simp only [Exit.jump]
      go_ret
      have : R = true := hr.out.2 fun j hj => HA.out j (by omega)
      rw [this]
      exact ⟨rfl, hB.trans (hbl.mono hB.size)⟩
end Go.Proofs.Ythaiphkmkchhoaa
