/- Objects: the kind wishes: thing. -/
import Derived.Test.YtappmacnoopmkaaGreatObIP
import Derived.Test.YtappmacnoopmkaaGreatObHW
namespace Go.Proofs.YtappmacnoopmkaaGreat
set_option linter.unusedVariables false
open Go.RowKit

theorem build_flow (a b c d e f g : Int) (w : World) : (Instr.build 32 #[(0, .agg #[.int .i64 a, .int .i64 b, .int .i64 c, .int .i64 d, .int .i64 e]), (1, .int .i64 f), (2, .int .i64 g)]).run Tryz.prog w = .ok (.agg #[.int .i64 a, .int .i64 b, .int .i64 c, .int .i64 d, .int .i64 e, .int .i64 f, .int .i64 g]) w := by
  kernel_rfl
set_option maxRecDepth 100000 in
set_option maxHeartbeats 4000000 in
theorem thingW_any (y0 y1 y2 y3 y4 y5 y6 : Int) (hy : ∀ y ∈ [y0, y1, y2, y3, y4, y5, y6], -9223372036854775808 ≤ y ∧ y ≤ 9223372036854775807) (w : World) : Calls Tryz.prog 129 #[.agg #[.int .i64 y0, .int .i64 y1, .int .i64 y2, .int .i64 y3, .int .i64 y4, .int .i64 y5, .int .i64 y6]] w fun e w' => e = .returned (.agg #[.int .i64 y2, .int .i64 y0, .int .i64 y1, .int .i64 y4, .int .i64 y3, .int .i64 y5, .int .i64 y6]) ∧ Below w.heap.size w w' := by
  have CT := hidd (fun W => thingP_any y0 y1 y2 y3 y4 y5 y6 hy W)
  obtain ⟨W1, hW1⟩ : ∃ W1, ((w.alloc (.cells #[.int .i64 y0, .int .i64 y1, .int .i64 y2, .int .i64 y3, .int .i64 y4, .int .i64 y5, .int .i64 y6] 143)).alloc (.cells #[.int .i64 0, .int .i64 0, .int .i64 0, .int .i64 0, .int .i64 0, .int .i64 0, .int .i64 0] 32)) = W1 := ⟨_, rfl⟩
  have hz1 : W1.heap.size = w.heap.size + 2 := by rw [← hW1]; simp
  have hBw : Below w.heap.size w W1 := by rw [← hW1]; (repeat' (first | (with_reducible exact Below.refl _ _) | (with_reducible assumption) | (with_reducible apply Below.setCell) | (with_reducible apply Below.alloc) | (with_reducible apply Below.drew) | (with_reducible apply below_drewN) | (with_reducible refine Below.trans ?_ (Below.mono (by assumption) ?_)) | omega | (simp; done) | (simp; omega)))
  have g0 : W1.cell? ⟨w.heap.size + 1, 0, none⟩ = some (.int .i64 0) := by rw [← hW1]; simp [go_sem]
  have h0 : W1.frozen? ⟨w.heap.size + 1, 0, none⟩ = false := by rw [← hW1]; simp [go_sem]
  have g1 : W1.cell? ⟨w.heap.size + 1, 1, none⟩ = some (.int .i64 0) := by rw [← hW1]; simp [go_sem]
  have h1 : W1.frozen? ⟨w.heap.size + 1, 1, none⟩ = false := by rw [← hW1]; simp [go_sem]
  have g2 : W1.cell? ⟨w.heap.size + 1, 2, none⟩ = some (.int .i64 0) := by rw [← hW1]; simp [go_sem]
  have h2 : W1.frozen? ⟨w.heap.size + 1, 2, none⟩ = false := by rw [← hW1]; simp [go_sem]
  have g3 : W1.cell? ⟨w.heap.size + 1, 3, none⟩ = some (.int .i64 0) := by rw [← hW1]; simp [go_sem]
  have h3 : W1.frozen? ⟨w.heap.size + 1, 3, none⟩ = false := by rw [← hW1]; simp [go_sem]
  have g4 : W1.cell? ⟨w.heap.size + 1, 4, none⟩ = some (.int .i64 0) := by rw [← hW1]; simp [go_sem]
  have h4 : W1.frozen? ⟨w.heap.size + 1, 4, none⟩ = false := by rw [← hW1]; simp [go_sem]
  have g5 : W1.cell? ⟨w.heap.size + 1, 5, none⟩ = some (.int .i64 0) := by rw [← hW1]; simp [go_sem]
  have h5 : W1.frozen? ⟨w.heap.size + 1, 5, none⟩ = false := by rw [← hW1]; simp [go_sem]
  have g6 : W1.cell? ⟨w.heap.size + 1, 6, none⟩ = some (.int .i64 0) := by rw [← hW1]; simp [go_sem]
  have h6 : W1.frozen? ⟨w.heap.size + 1, 6, none⟩ = false := by rw [← hW1]; simp [go_sem]
  have l0 : W1.cell? ⟨w.heap.size, 0, none⟩ = some (.int .i64 y0) := by rw [← hW1]; simp [go_sem]
  have l1 : W1.cell? ⟨w.heap.size, 1, none⟩ = some (.int .i64 y1) := by rw [← hW1]; simp [go_sem]
  have l2 : W1.cell? ⟨w.heap.size, 2, none⟩ = some (.int .i64 y2) := by rw [← hW1]; simp [go_sem]
  have l3 : W1.cell? ⟨w.heap.size, 3, none⟩ = some (.int .i64 y3) := by rw [← hW1]; simp [go_sem]
  have l4 : W1.cell? ⟨w.heap.size, 4, none⟩ = some (.int .i64 y4) := by rw [← hW1]; simp [go_sem]
  have l5 : W1.cell? ⟨w.heap.size, 5, none⟩ = some (.int .i64 y5) := by rw [← hW1]; simp [go_sem]
  have l6 : W1.cell? ⟨w.heap.size, 6, none⟩ = some (.int .i64 y6) := by rw [← hW1]; simp [go_sem]
  have KEEP := hidd (fun (W : World) (hb : Below W1.heap.size W1 W) => (show W.cell? ⟨w.heap.size, 0, none⟩ = some (.int .i64 y0) ∧ W.cell? ⟨w.heap.size, 1, none⟩ = some (.int .i64 y1) ∧ W.cell? ⟨w.heap.size, 2, none⟩ = some (.int .i64 y2) ∧ W.cell? ⟨w.heap.size, 3, none⟩ = some (.int .i64 y3) ∧ W.cell? ⟨w.heap.size, 4, none⟩ = some (.int .i64 y4) ∧ W.cell? ⟨w.heap.size, 5, none⟩ = some (.int .i64 y5) ∧ W.cell? ⟨w.heap.size, 6, none⟩ = some (.int .i64 y6) from ⟨(hb.cell (p := ⟨w.heap.size, 0, none⟩) (by show w.heap.size < W1.heap.size; omega)).trans l0, (hb.cell (p := ⟨w.heap.size, 1, none⟩) (by show w.heap.size < W1.heap.size; omega)).trans l1, (hb.cell (p := ⟨w.heap.size, 2, none⟩) (by show w.heap.size < W1.heap.size; omega)).trans l2, (hb.cell (p := ⟨w.heap.size, 3, none⟩) (by show w.heap.size < W1.heap.size; omega)).trans l3, (hb.cell (p := ⟨w.heap.size, 4, none⟩) (by show w.heap.size < W1.heap.size; omega)).trans l4, (hb.cell (p := ⟨w.heap.size, 5, none⟩) (by show w.heap.size < W1.heap.size; omega)).trans l5, (hb.cell (p := ⟨w.heap.size, 6, none⟩) (by show w.heap.size < W1.heap.size; omega)).trans l6⟩))
  have OUT := hidd (fun (W : World) (hb : Below W1.heap.size W1 W) => (show (W.cell? ⟨w.heap.size + 1, 0, none⟩ = some (.int .i64 0) ∧ W.cell? ⟨w.heap.size + 1, 1, none⟩ = some (.int .i64 0) ∧ W.cell? ⟨w.heap.size + 1, 2, none⟩ = some (.int .i64 0) ∧ W.cell? ⟨w.heap.size + 1, 3, none⟩ = some (.int .i64 0) ∧ W.cell? ⟨w.heap.size + 1, 4, none⟩ = some (.int .i64 0) ∧ W.cell? ⟨w.heap.size + 1, 5, none⟩ = some (.int .i64 0) ∧ W.cell? ⟨w.heap.size + 1, 6, none⟩ = some (.int .i64 0)) ∧ (W.frozen? ⟨w.heap.size + 1, 0, none⟩ = false ∧ W.frozen? ⟨w.heap.size + 1, 1, none⟩ = false ∧ W.frozen? ⟨w.heap.size + 1, 2, none⟩ = false ∧ W.frozen? ⟨w.heap.size + 1, 3, none⟩ = false ∧ W.frozen? ⟨w.heap.size + 1, 4, none⟩ = false ∧ W.frozen? ⟨w.heap.size + 1, 5, none⟩ = false ∧ W.frozen? ⟨w.heap.size + 1, 6, none⟩ = false) ∧ w.heap.size + 1 < W.heap.size from ⟨⟨(hb.cell (p := ⟨w.heap.size + 1, 0, none⟩) (by show w.heap.size + 1 < W1.heap.size; omega)).trans g0, (hb.cell (p := ⟨w.heap.size + 1, 1, none⟩) (by show w.heap.size + 1 < W1.heap.size; omega)).trans g1, (hb.cell (p := ⟨w.heap.size + 1, 2, none⟩) (by show w.heap.size + 1 < W1.heap.size; omega)).trans g2, (hb.cell (p := ⟨w.heap.size + 1, 3, none⟩) (by show w.heap.size + 1 < W1.heap.size; omega)).trans g3, (hb.cell (p := ⟨w.heap.size + 1, 4, none⟩) (by show w.heap.size + 1 < W1.heap.size; omega)).trans g4, (hb.cell (p := ⟨w.heap.size + 1, 5, none⟩) (by show w.heap.size + 1 < W1.heap.size; omega)).trans g5, (hb.cell (p := ⟨w.heap.size + 1, 6, none⟩) (by show w.heap.size + 1 < W1.heap.size; omega)).trans g6⟩, ⟨(hb.frozen (p := ⟨w.heap.size + 1, 0, none⟩) (by show w.heap.size + 1 < W1.heap.size; omega)).trans h0, (hb.frozen (p := ⟨w.heap.size + 1, 1, none⟩) (by show w.heap.size + 1 < W1.heap.size; omega)).trans h1, (hb.frozen (p := ⟨w.heap.size + 1, 2, none⟩) (by show w.heap.size + 1 < W1.heap.size; omega)).trans h2, (hb.frozen (p := ⟨w.heap.size + 1, 3, none⟩) (by show w.heap.size + 1 < W1.heap.size; omega)).trans h3, (hb.frozen (p := ⟨w.heap.size + 1, 4, none⟩) (by show w.heap.size + 1 < W1.heap.size; omega)).trans h4, (hb.frozen (p := ⟨w.heap.size + 1, 5, none⟩) (by show w.heap.size + 1 < W1.heap.size; omega)).trans h5, (hb.frozen (p := ⟨w.heap.size + 1, 6, none⟩) (by show w.heap.size + 1 < W1.heap.size; omega)).trans h6⟩, Nat.lt_of_lt_of_le (by omega) hb.size⟩))
  have HBX := hidd (fun (W : World) (hb : Below W1.heap.size W1 W) => below_step hBw hb)
  have HW1 := hidd hW1
  clear hW1 hz1 hBw hy g0 h0 g1 h1 g2 h2 g3 h3 g4 h4 g5 h5 g6 h6 l0 l1 l2 l3 l4 l5 l6
  obtain ⟨m0, m1, m2, m3, m4, m5, m6⟩ := KEEP.out _ (Below.refl _ _)
  have eb := fun W => build_flow y2 y0 y1 y4 y3 y5 y6 W
  go_enter Tryz.func129, Tryz.ntmps129
  go_wp2_with fail
  rw [HW1.out]
  refine wp_region_held_drew (S := fun W => W.cell? ⟨w.heap.size, 0, none⟩ = some (.int .i64 y0) ∧ W.cell? ⟨w.heap.size, 1, none⟩ = some (.int .i64 y1) ∧ W.cell? ⟨w.heap.size, 2, none⟩ = some (.int .i64 y2) ∧ W.cell? ⟨w.heap.size, 3, none⟩ = some (.int .i64 y3) ∧ W.cell? ⟨w.heap.size, 4, none⟩ = some (.int .i64 y4) ∧ W.cell? ⟨w.heap.size, 5, none⟩ = some (.int .i64 y5) ∧ W.cell? ⟨w.heap.size, 6, none⟩ = some (.int .i64 y6)) (by kernel_rfl) (by exact KEEP.out _ (Below.drew (Below.refl _ _))) (fun hHeld => ?_)
  refine wpAnyH_take (i := 0) (v := ?v0) (by (conv => lhs; simp only [List.getElem?_toArray, List.getElem?_cons_succ, List.getElem?_cons_zero])) (by kernel_rfl) (by kernel_rfl) (by kernel_rfl) ?hQ (Or.inl ⟨by rfl, ?hy0⟩) (by assumption) ?rest0
  case hQ => exact fun _ _ _ h => h
  case hy0 => (intro w hSw; (try dsimp only at hSw); go_simp; try (with_reducible rfl))
  try simp only [Act.put, List.setIfInBounds_toArray, List.set_cons_zero, List.set_cons_succ]
  refine wpAnyH_take (i := 2) (v := ?v2) (by (conv => lhs; simp only [List.getElem?_toArray, List.getElem?_cons_succ, List.getElem?_cons_zero])) (by kernel_rfl) (by kernel_rfl) (by kernel_rfl) ?hQ (Or.inl ⟨by rfl, ?hy2⟩) (by assumption) ?rest2
  case hQ => exact fun _ _ _ h => h
  case hy2 => (intro w hSw; (try dsimp only at hSw); go_simp; try (with_reducible rfl))
  try simp only [Act.put, List.setIfInBounds_toArray, List.set_cons_zero, List.set_cons_succ]
  refine wpAnyH_take (i := 3) (v := ?v3) (by (conv => lhs; simp only [List.getElem?_toArray, List.getElem?_cons_succ, List.getElem?_cons_zero])) (by kernel_rfl) (by kernel_rfl) (by kernel_rfl) ?hQ (Or.inl ⟨by rfl, ?hy3⟩) (by assumption) ?rest3
  case hQ => exact fun _ _ _ h => h
  case hy3 => (intro w hSw; (try dsimp only at hSw); go_simp; try (with_reducible rfl))
  try simp only [Act.put, List.setIfInBounds_toArray, List.set_cons_zero, List.set_cons_succ]
  refine wpAnyH_take (i := 4) (v := ?v4) (by (conv => lhs; simp only [List.getElem?_toArray, List.getElem?_cons_succ, List.getElem?_cons_zero])) (by kernel_rfl) (by kernel_rfl) (by kernel_rfl) ?hQ (Or.inl ⟨by rfl, ?hy4⟩) (by assumption) ?rest4
  case hQ => exact fun _ _ _ h => h
  case hy4 => (intro w hSw; (try dsimp only at hSw); go_simp; try (with_reducible rfl))
  try simp only [Act.put, List.setIfInBounds_toArray, List.set_cons_zero, List.set_cons_succ]
  refine wpAnyH_take (i := 5) (v := ?v5) (by (conv => lhs; simp only [List.getElem?_toArray, List.getElem?_cons_succ, List.getElem?_cons_zero])) (by kernel_rfl) (by kernel_rfl) (by kernel_rfl) ?hQ (Or.inl ⟨by rfl, ?hy5⟩) (by assumption) ?rest5
  case hQ => exact fun _ _ _ h => h
  case hy5 => (intro w hSw; (try dsimp only at hSw); go_simp; try (with_reducible rfl))
  try simp only [Act.put, List.setIfInBounds_toArray, List.set_cons_zero, List.set_cons_succ]
  refine wpAnyH_ready (rs := [1]) (by kernel_rfl) (by simp) ?_
  refine AllReadyH.cons (by (conv => lhs; simp only [List.getElem?_toArray, List.getElem?_cons_succ, List.getElem?_cons_zero])) (fun K hK => ?_) AllReadyH.nil
  go_simp
  (go_at_call 130; refine (CT.out _).mono ?_; rintro E1 v1 ⟨rfl, l1⟩; have cum1 : Below W1.heap.size W1 v1 := (by first | exact below_step (Below.drew (Below.refl _ _)) l1 | exact below_step (Below.refl _ _) l1); obtain ⟨⟨p0, p1, p2, p3, p4, p5, p6⟩, ⟨q0, q1, q2, q3, q4, q5, q6⟩, hzz⟩ := OUT.out _ cum1; have HB2 := hidd (HBX.out _ cum1))
  refine hK.out _ _ (by (try dsimp only); with_reducible exact KEEP.out _ cum1) (fun hHeld1 => ?_)
  clear hK K
  try simp only [Act.put, List.setIfInBounds_toArray, List.set_cons_zero, List.set_cons_succ]
  refine wpAnyH_take (i := 6) (v := ?v6) (by (conv => lhs; simp only [List.getElem?_toArray, List.getElem?_cons_succ, List.getElem?_cons_zero])) (by kernel_rfl) (by kernel_rfl) (by kernel_rfl) ?hQ (Or.inl ⟨by rfl, ?hy6⟩) (by assumption) ?rest6
  case hQ => exact fun _ _ _ h => h
  case hy6 => (intro w hSw; (try dsimp only at hSw); go_simp; try (with_reducible rfl))
  try simp only [Act.put, List.setIfInBounds_toArray, List.set_cons_zero, List.set_cons_succ]
  refine wpAnyH_ready (rs := [7]) (by kernel_rfl) (by simp) ?_
  refine AllReadyH.cons (by (conv => lhs; simp only [List.getElem?_toArray, List.getElem?_cons_succ, List.getElem?_cons_zero])) (fun K hK => ?_) AllReadyH.nil
  clear hHeld hHeld1 eb m0 m1 m2 m3 m4 m5 m6
  go_simp
  skip
  refine hK.out _ _ (by (try dsimp only); (obtain ⟨j0, j1, j2, j3, j4, j5, j6⟩ := KEEP.out _ cum1; refine ⟨?_, ?_, ?_, ?_, ?_, ?_, ?_⟩ <;> simp [go_sem, *]; done)) (fun hHeld9 => ?_)
  clear hK K
  try simp only [Act.put, List.setIfInBounds_toArray, List.set_cons_zero, List.set_cons_succ]
  refine wpAnyH_done (by kernel_rfl) ?_ _
  all_goals go_wp2_with fail
  all_goals exact bodyPost_ret (v := .agg #[.int .i64 y2, .int .i64 y0, .int .i64 y1, .int .i64 y4, .int .i64 y3, .int .i64 y5, .int .i64 y6]) (by simp [results, Tryz.results129, go_sem, *]) rfl ⟨rfl, by have q := HB2.out; (repeat' (first | (with_reducible exact Below.refl _ _) | (with_reducible assumption) | (with_reducible apply Below.setCell) | (with_reducible apply Below.alloc) | (with_reducible apply Below.drew) | (with_reducible apply below_drewN) | (with_reducible refine Below.trans ?_ (Below.mono (by assumption) ?_)) | omega | (simp; done) | (simp; omega)))⟩
end Go.Proofs.YtappmacnoopmkaaGreat
