/- Maps: Check. -/
import Derived.Test.YtalhbjmhipiiiaaGreatTpB
namespace Go.Proofs.YtalhbjmhipiiiaaGreat.Tp
set_option linter.unusedVariables false
open Go.RowKit
set_option maxHeartbeats 4000000 in
theorem Check_any (a0 a1 a2 a3 a4 a5 a6 a7 n : Int) (w : World) : Calls Tryz.prog 60 #[.agg #[.int .i64 a0, .int .i64 a1, .int .i64 a2, .int .i64 a3, .int .i64 a4, .int .i64 a5, .int .i64 a6, .int .i64 a7], .int .i64 n] w fun e w' => e = .returned (.int .i64 (if rightB n (a0, a1, a2, a3, a4, a5, a6, a7) = true then 0 else 2)) ∧ Below w.heap.size w w' := by
  have cn := hidd (fun W => isNodes_any n W)
  have cm := hidd (fun h1 h2 k hk W => must_any k hk a0 a1 a2 a3 a4 a5 a6 a7 n h1 h2 W)
  have cl := hidd (fun W => musts_any W)
  have hr := hidd (rightB_musts n (a0, a1, a2, a3, a4, a5, a6, a7))
  have hn := hidd (show nodesB n = true → 1 ≤ n ∧ n ≤ 16 from inB_iff.1)
  generalize rightB n (a0, a1, a2, a3, a4, a5, a6, a7) = R at *
  generalize mustB n (a0, a1, a2, a3, a4, a5, a6, a7) = M at *
  generalize nodesB n = B at *
  go_enter Tryz.func60, Tryz.ntmps60
  go_wp2_with fail
  refine wp_scope_fwd 0 (fun a' w' => R = false ∧ Below w.heap.size w w' ∧ ∃ v0 v1 v2 v3 v4 v5 v6 v7 v8 v9 v10 v11 v12 v13 v14 v15 v16 v17 v18 v19 v20 v21 v22 : Value, a' = { tmps := #[v0, v1, v2, v3, v4, v5, v6, v7, v8, v9, v10, v11, v12, v13, v14, v15, v16, v17, v18, v19, v20, v21, v22], defers := [] }) rfl ?_ ?_
  case refine_2 =>
    rintro a' w' ⟨rfl, hb, v0, v1, v2, v3, v4, v5, v6, v7, v8, v9, v10, v11, v12, v13, v14, v15, v16, v17, v18, v19, v20, v21, v22, rfl⟩
    go_wp2_with fail
    (try rw [Exit.noGoto_ret])
    go_ret
    exact ⟨rfl, hb⟩
  cases hB : B
  · have hf : R = false := by
      cases hR : R
      · rfl
      · have := (hr.out.1 hR).1
        rw [hB] at this
        exact absurd this (by decide)
    subst hB
    have HF := hidd hf
    clear hf
    go_wp2_with fail
    refine (cn.out _).mono ?_
    rintro e w1 ⟨rfl, rfl⟩
    go_wp2_with fail
    go_step3
    exact ⟨rfl, HF.out, by (repeat' (first | (with_reducible exact Below.refl _ _) | (with_reducible assumption) | (with_reducible apply Below.setCell) | (with_reducible apply Below.alloc) | (with_reducible apply Below.drew) | (with_reducible apply below_drewN) | (with_reducible refine Below.trans ?_ (Below.mono (by assumption) ?_)) | omega | (simp; done) | (simp; omega))), _, _, _, _, _, _, _, _, _, _, _, _, _, _, _, _, _, _, _, _, _, _, _, rfl⟩
  obtain ⟨h1, h2⟩ := hn.out hB
  have hRM : Hid (R = true ↔ ∀ k, k < 9 → M k = true) := hidd ⟨fun h => (hr.out.1 h).2, fun h => hr.out.2 ⟨hB, h⟩⟩
  have cm := hidd (cm.out h1 h2)
  subst hB
  clear hr hn
  go_wp2_with fail
  refine (cn.out _).mono ?_
  rintro e w1 ⟨rfl, rfl⟩
  go_wp2_with fail
  refine (cl.out _).mono ?_
  rintro e w1 ⟨b, rfl, hb0, hb1, hM, hbl⟩
  have HM := hidd hM
  have HB0 := hidd hb0
  have hB : Below w.heap.size w w1 := below_step (below_new (Below.refl _ _) _) hbl
  obtain ⟨bc, bf⟩ := bcell hbl
  have z : w.heap.size < w1.heap.size := by have := hbl.size; simp at this; omega
  have c0 : w1.cell? ⟨w.heap.size, 0, none⟩ = some (.int .i64 a0) := by rw [bc _ _ (by (first | omega | (simp; done) | (simp; omega)))]; simp [go_sem]
  have c1 : w1.cell? ⟨w.heap.size, 1, none⟩ = some (.int .i64 a1) := by rw [bc _ _ (by (first | omega | (simp; done) | (simp; omega)))]; simp [go_sem]
  have c2 : w1.cell? ⟨w.heap.size, 2, none⟩ = some (.int .i64 a2) := by rw [bc _ _ (by (first | omega | (simp; done) | (simp; omega)))]; simp [go_sem]
  have c3 : w1.cell? ⟨w.heap.size, 3, none⟩ = some (.int .i64 a3) := by rw [bc _ _ (by (first | omega | (simp; done) | (simp; omega)))]; simp [go_sem]
  have c4 : w1.cell? ⟨w.heap.size, 4, none⟩ = some (.int .i64 a4) := by rw [bc _ _ (by (first | omega | (simp; done) | (simp; omega)))]; simp [go_sem]
  have c5 : w1.cell? ⟨w.heap.size, 5, none⟩ = some (.int .i64 a5) := by rw [bc _ _ (by (first | omega | (simp; done) | (simp; omega)))]; simp [go_sem]
  have c6 : w1.cell? ⟨w.heap.size, 6, none⟩ = some (.int .i64 a6) := by rw [bc _ _ (by (first | omega | (simp; done) | (simp; omega)))]; simp [go_sem]
  have c7 : w1.cell? ⟨w.heap.size, 7, none⟩ = some (.int .i64 a7) := by rw [bc _ _ (by (first | omega | (simp; done) | (simp; omega)))]; simp [go_sem]
  have C : Hid (∀ W, Below w1.heap.size w1 W → W.cell? ⟨w.heap.size, 0, none⟩ = some (.int .i64 a0) ∧ W.cell? ⟨w.heap.size, 1, none⟩ = some (.int .i64 a1) ∧ W.cell? ⟨w.heap.size, 2, none⟩ = some (.int .i64 a2) ∧ W.cell? ⟨w.heap.size, 3, none⟩ = some (.int .i64 a3) ∧ W.cell? ⟨w.heap.size, 4, none⟩ = some (.int .i64 a4) ∧ W.cell? ⟨w.heap.size, 5, none⟩ = some (.int .i64 a5) ∧ W.cell? ⟨w.heap.size, 6, none⟩ = some (.int .i64 a6) ∧ W.cell? ⟨w.heap.size, 7, none⟩ = some (.int .i64 a7)) :=
    hidd fun W h => ⟨(h.cell z).trans c0, (h.cell z).trans c1, (h.cell z).trans c2, (h.cell z).trans c3, (h.cell z).trans c4, (h.cell z).trans c5, (h.cell z).trans c6, (h.cell z).trans c7⟩
  have HB := hidd hB
  clear hM hb0 bc bf hbl hB c0 c1 c2 c3 c4 c5 c6 c7
  go_wp2_with fail
  go_loopg [12] 10 (fun k s wr => ∃ i : Nat, i ≤ 9 ∧ i + k = 10 ∧ (∀ j, j < i → M j = true) ∧ s = .int .i64 (i : Int) ∧ Below w1.heap.size w1 wr)
  case atStart => exact ⟨0, by omega, by omega, fun j hj => absurd hj (by omega), rfl, Below.refl _ _⟩
  case round =>
    obtain ⟨i, hi, hk, ha, rfl, hbl⟩ := hrel
    have HK := hidd hk
    have HA := hidd ha
    clear hk ha
    by_cases hlt : i < 9
    · have cf := (hbl.cell (p := ⟨b, i, none⟩) hb1).trans (HM.out i hlt)
      have he := must_enters i hlt
      have ci := hidd (cm.out i hlt)
      obtain ⟨d0, d1, d2, d3, d4, d5, d6, d7⟩ := C.out _ hbl
      generalize mustF i = F at *
      cases hv : M i
      · have HV := hidd hv
        rw [hv] at ci
        clear hv
        go_wp2_with fail
        refine (ci.out _).mono ?_
        rintro e w2 ⟨rfl, hb2⟩
        go_wp2_with fail
        go_step3
        have hf : R = false := by
          cases hR : R
          · rfl
          · have := hRM.out.1 hR i hlt
            rw [HV.out] at this
            exact absurd this (by decide)
        exact ⟨rfl, hf, HB.out.trans ((hbl.trans (hb2.mono hbl.size)).mono HB.out.size), _, _, _, _, _, _, _, _, _, _, _, _, _, _, _, _, _, _, _, _, _, _, _, rfl⟩
      · have HV := hidd hv
        rw [hv] at ci
        clear hv
        go_wp2_with fail
        refine (ci.out _).mono ?_
        rintro e w2 ⟨rfl, hb2⟩
        go_wp2_with fail
        have hk := HK.out
        go_roundg (gk - 1)
        case measure => omega
        case rel => exact ⟨i + 1, by omega, by omega, fun j hj => by
          by_cases h : j = i
          · rw [h]; exact HV.out
          · exact HA.out j (by omega), by go_num, hbl.trans (hb2.mono hbl.size)⟩
    · go_wp2_with fail
      simp only [Exit.jump]
      go_ret
      have : R = true := hRM.out.2 fun j hj => HA.out j (by omega)
      rw [this]
      exact ⟨rfl, HB.out.trans (hbl.mono HB.out.size)⟩
end Go.Proofs.YtalhbjmhipiiiaaGreat.Tp
