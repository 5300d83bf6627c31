/- Objects: the kind wishes: the public calls. -/
import Derived.Test.YtappmacnoopmkaaGreatObIWa
import Derived.Test.YtappmacnoopmkaaGreatObIWb
namespace Go.Proofs.YtappmacnoopmkaaGreat
set_option linter.unusedVariables false
open Go.RowKit

attribute [local go_sem] run_store_func
theorem mkW_any (w : World) : Calls Tryz.prog 66 #[] w fun e w' => e = .returned (.agg #[.func (.func 125) #[] #[], .func (.func 127) #[] #[], .func (.func 129) #[] #[]]) ∧ Below w.heap.size w w' := by
  go_enter Tryz.func66, Tryz.ntmps66
  go_wp2_with fail
  exact bodyPost_ret (v := .agg #[.func (.func 125) #[] #[], .func (.func 127) #[] #[], .func (.func 129) #[] #[]]) (by simp [results, Tryz.results66, go_sem, *]) rfl ⟨rfl, by (repeat' (first | (with_reducible exact Below.refl _ _) | (with_reducible assumption) | (with_reducible apply Below.setCell) | (with_reducible apply Below.alloc) | (with_reducible apply Below.drew) | (with_reducible apply below_drewN) | (with_reducible refine Below.trans ?_ (Below.mono (by assumption) ?_)) | omega | (simp; done) | (simp; omega)))⟩
theorem entW_m : ∀ args w, (callFunc 125 args).run Tryz.prog w = .ok (.enter 125 args) w := fun args w => by simp [callFunc, Tryz.func125, Tryz.f125, mark]
theorem entW_o : ∀ args w, (callFunc 127 args).run Tryz.prog w = .ok (.enter 127 args) w := fun args w => by simp [callFunc, Tryz.func127, Tryz.f127, mark]
theorem entW_t : ∀ args w, (callFunc 129 args).run Tryz.prog w = .ok (.enter 129 args) w := fun args w => by simp [callFunc, Tryz.func129, Tryz.f129, mark]
set_option maxHeartbeats 2000000 in
theorem Wish_any (x0 x1 x2 x3 x4 x5 x6 : Int) (w : World) : Calls Tryz.prog 37 #[.agg #[.int .i64 x0, .int .i64 x1, .int .i64 x2, .int .i64 x3, .int .i64 x4, .int .i64 x5, .int .i64 x6]] w (SaidEnd (mayW x0 x1 x2 x3 x4 x5 x6) 9 2 [x1, x2, x0, x4, x3, x5, x6] w) := by
  have CM := hidd (fun W => mkW_any W)
  have cs := fun W => saidW_any 125 127 129 entW_m entW_o #[] (mayW x0 x1 x2 x3 x4 x5 x6) 9 2 [x1, x2, x0, x4, x3, x5, x6] x0 x1 x2 x3 x4 x5 x6 W (fun W' _ => mayW_any x0 x1 x2 x3 x4 x5 x6 W') (fun hm W' _ => objW_any x0 x1 x2 x3 x4 x5 x6 hm W')
  unfold SaidEnd at *
  generalize mayW x0 x1 x2 x3 x4 x5 x6 = M at *
  cases M; rotate_left
  · have CS := hidd (fun W => said_yes (cs W))
    clear cs
    obtain ⟨W1, hW1⟩ : ∃ W1, ((w.alloc (.cells #[.int .i64 x0, .int .i64 x1, .int .i64 x2, .int .i64 x3, .int .i64 x4, .int .i64 x5, .int .i64 x6] 32)).alloc (.cells #[.int .i64 0, .int .i64 0, .slice none 0 0] 42)) = W1 := ⟨_, rfl⟩
    have hz1 : W1.heap.size = w.heap.size + 2 := by rw [← hW1]; simp
    have hBw : Below w.heap.size w W1 := by rw [← hW1]; (repeat' (first | (with_reducible exact Below.refl _ _) | (with_reducible assumption) | (with_reducible apply Below.setCell) | (with_reducible apply Below.alloc) | (with_reducible apply Below.drew) | (with_reducible apply below_drewN) | (with_reducible refine Below.trans ?_ (Below.mono (by assumption) ?_)) | omega | (simp; done) | (simp; omega)))
    have g0 : W1.cell? ⟨w.heap.size + 1, 0, none⟩ = some (.int .i64 0) := by rw [← hW1]; simp [go_sem]
    have h0 : W1.frozen? ⟨w.heap.size + 1, 0, none⟩ = false := by rw [← hW1]; simp [go_sem]
    have g1 : W1.cell? ⟨w.heap.size + 1, 1, none⟩ = some (.int .i64 0) := by rw [← hW1]; simp [go_sem]
    have h1 : W1.frozen? ⟨w.heap.size + 1, 1, none⟩ = false := by rw [← hW1]; simp [go_sem]
    have g2 : W1.cell? ⟨w.heap.size + 1, 2, none⟩ = some (.slice none 0 0) := by rw [← hW1]; simp [go_sem]
    have h2 : W1.frozen? ⟨w.heap.size + 1, 2, none⟩ = false := by rw [← hW1]; simp [go_sem]
    have l0 : W1.cell? ⟨w.heap.size, 0, none⟩ = some (.int .i64 x0) := by rw [← hW1]; simp [go_sem]
    have l1 : W1.cell? ⟨w.heap.size, 1, none⟩ = some (.int .i64 x1) := by rw [← hW1]; simp [go_sem]
    have l2 : W1.cell? ⟨w.heap.size, 2, none⟩ = some (.int .i64 x2) := by rw [← hW1]; simp [go_sem]
    have l3 : W1.cell? ⟨w.heap.size, 3, none⟩ = some (.int .i64 x3) := by rw [← hW1]; simp [go_sem]
    have l4 : W1.cell? ⟨w.heap.size, 4, none⟩ = some (.int .i64 x4) := by rw [← hW1]; simp [go_sem]
    have l5 : W1.cell? ⟨w.heap.size, 5, none⟩ = some (.int .i64 x5) := by rw [← hW1]; simp [go_sem]
    have l6 : W1.cell? ⟨w.heap.size, 6, none⟩ = some (.int .i64 x6) := by rw [← hW1]; simp [go_sem]
    have KEEP := hidd (fun (W : World) (hb : Below W1.heap.size W1 W) => (show W.cell? ⟨w.heap.size, 0, none⟩ = some (.int .i64 x0) ∧ W.cell? ⟨w.heap.size, 1, none⟩ = some (.int .i64 x1) ∧ W.cell? ⟨w.heap.size, 2, none⟩ = some (.int .i64 x2) ∧ W.cell? ⟨w.heap.size, 3, none⟩ = some (.int .i64 x3) ∧ W.cell? ⟨w.heap.size, 4, none⟩ = some (.int .i64 x4) ∧ W.cell? ⟨w.heap.size, 5, none⟩ = some (.int .i64 x5) ∧ W.cell? ⟨w.heap.size, 6, none⟩ = some (.int .i64 x6) from ⟨(hb.cell (p := ⟨w.heap.size, 0, none⟩) (by show w.heap.size < W1.heap.size; omega)).trans l0, (hb.cell (p := ⟨w.heap.size, 1, none⟩) (by show w.heap.size < W1.heap.size; omega)).trans l1, (hb.cell (p := ⟨w.heap.size, 2, none⟩) (by show w.heap.size < W1.heap.size; omega)).trans l2, (hb.cell (p := ⟨w.heap.size, 3, none⟩) (by show w.heap.size < W1.heap.size; omega)).trans l3, (hb.cell (p := ⟨w.heap.size, 4, none⟩) (by show w.heap.size < W1.heap.size; omega)).trans l4, (hb.cell (p := ⟨w.heap.size, 5, none⟩) (by show w.heap.size < W1.heap.size; omega)).trans l5, (hb.cell (p := ⟨w.heap.size, 6, none⟩) (by show w.heap.size < W1.heap.size; omega)).trans l6⟩))
    have OUT := hidd (fun (W : World) (hb : Below W1.heap.size W1 W) => (show (W.cell? ⟨w.heap.size + 1, 0, none⟩ = some (.int .i64 0) ∧ W.cell? ⟨w.heap.size + 1, 1, none⟩ = some (.int .i64 0) ∧ W.cell? ⟨w.heap.size + 1, 2, none⟩ = some (.slice none 0 0)) ∧ (W.frozen? ⟨w.heap.size + 1, 0, none⟩ = false ∧ W.frozen? ⟨w.heap.size + 1, 1, none⟩ = false ∧ W.frozen? ⟨w.heap.size + 1, 2, none⟩ = false) ∧ w.heap.size + 1 < W.heap.size from ⟨⟨(hb.cell (p := ⟨w.heap.size + 1, 0, none⟩) (by show w.heap.size + 1 < W1.heap.size; omega)).trans g0, (hb.cell (p := ⟨w.heap.size + 1, 1, none⟩) (by show w.heap.size + 1 < W1.heap.size; omega)).trans g1, (hb.cell (p := ⟨w.heap.size + 1, 2, none⟩) (by show w.heap.size + 1 < W1.heap.size; omega)).trans g2⟩, ⟨(hb.frozen (p := ⟨w.heap.size + 1, 0, none⟩) (by show w.heap.size + 1 < W1.heap.size; omega)).trans h0, (hb.frozen (p := ⟨w.heap.size + 1, 1, none⟩) (by show w.heap.size + 1 < W1.heap.size; omega)).trans h1, (hb.frozen (p := ⟨w.heap.size + 1, 2, none⟩) (by show w.heap.size + 1 < W1.heap.size; omega)).trans h2⟩, Nat.lt_of_lt_of_le (by omega) hb.size⟩))
    have HBX := hidd (fun (W : World) (hb : Below W1.heap.size W1 W) => below_step hBw hb)
    have HW1 := hidd hW1
    clear hW1 hBw g0 h0 g1 h1 g2 h2 l0 l1 l2 l3 l4 l5 l6
    obtain ⟨k0, k1, k2, k3, k4, k5, k6⟩ := KEEP.out _ (Below.refl _ _)
    go_enter Tryz.func37, Tryz.ntmps37
    go_wp2_with fail
    rw [HW1.out]
    go_region_held (fun W => W.cell? ⟨w.heap.size, 0, none⟩ = some (.int .i64 x0) ∧ W.cell? ⟨w.heap.size, 1, none⟩ = some (.int .i64 x1) ∧ W.cell? ⟨w.heap.size, 2, none⟩ = some (.int .i64 x2) ∧ W.cell? ⟨w.heap.size, 3, none⟩ = some (.int .i64 x3) ∧ W.cell? ⟨w.heap.size, 4, none⟩ = some (.int .i64 x4) ∧ W.cell? ⟨w.heap.size, 5, none⟩ = some (.int .i64 x5) ∧ W.cell? ⟨w.heap.size, 6, none⟩ = some (.int .i64 x6))
      ((first | exact KEEP.out _ cum2 | exact KEEP.out _ cum1 | exact KEEP.out _ (Below.refl _ _) | exact KEEP.out _ (Below.drew (Below.refl _ _)) | (obtain ⟨j0, j1, j2, j3, j4, j5, j6⟩ := KEEP.out _ cum2; refine ⟨?_, ?_, ?_, ?_, ?_, ?_, ?_⟩ <;> simp [go_sem, *]; done)))
      ((first
        | (go_at_call 66; refine ((CM.out _)).mono ?_; rintro E1 v1 ⟨rfl, l1⟩; have cum1 : Below W1.heap.size W1 v1 := (by first | exact below_step (Below.drew (Below.refl _ _)) l1 | exact below_step (Below.refl _ _) l1))
        | (go_at_call 74; have HBW := HBX.out _ cum1; refine ((CS.out _)).mono ?_; rintro E2 v2 ⟨l2, A, k, rfl, hl2⟩; have cum2 : Below W1.heap.size W1 v2 := below_step cum1 l2; obtain ⟨⟨p0, p1, p2⟩, ⟨q0, q1, q2⟩, hzz⟩ := OUT.out _ cum2; have HB2 := hidd (HBX.out _ cum2))))
    all_goals have HL := hidd (hl2.to (p' := fun q => w.heap.size + 1 + 1 ≤ q ∧ q < v2.heap.size) (fun q hq => ⟨⟨by have := cum1.size; omega, hq.2⟩, rfl⟩))
    all_goals clear hl2
    all_goals go_wp2_with fail
    all_goals refine bodyPost_ret (v := .tuple #[.agg #[.int .i64 9, .int .i64 2, .slice A 7 k], .int .i64 0]) (by simp [results, Tryz.results37, go_sem, *]) rfl ⟨by have q := HB2.out; (repeat' (first | (with_reducible exact Below.refl _ _) | (with_reducible assumption) | (with_reducible apply Below.setCell) | (with_reducible apply Below.alloc) | (with_reducible apply Below.drew) | (with_reducible apply below_drewN) | (with_reducible refine Below.trans ?_ (Below.mono (by assumption) ?_)) | omega | (simp; done) | (simp; omega))), .inl ⟨(by first | exact rfl | exact trivial), A, k, rfl, ?_⟩⟩
    all_goals exact (((HL.out.low (p := ⟨w.heap.size + 1, 0, none⟩) (by simp) _).low (p := ⟨w.heap.size + 1, 1, none⟩) (by simp) _).low (p := ⟨w.heap.size + 1, 2, none⟩) (by simp) _).to (fun q hq => ⟨⟨by omega, hq.2⟩, rfl⟩)
  
  · have CS := hidd (fun W => said_no (cs W))
    clear cs
    obtain ⟨W1, hW1⟩ : ∃ W1, ((w.alloc (.cells #[.int .i64 x0, .int .i64 x1, .int .i64 x2, .int .i64 x3, .int .i64 x4, .int .i64 x5, .int .i64 x6] 32)).alloc (.cells #[.int .i64 0, .int .i64 0, .slice none 0 0] 42)) = W1 := ⟨_, rfl⟩
    have hz1 : W1.heap.size = w.heap.size + 2 := by rw [← hW1]; simp
    have hBw : Below w.heap.size w W1 := by rw [← hW1]; (repeat' (first | (with_reducible exact Below.refl _ _) | (with_reducible assumption) | (with_reducible apply Below.setCell) | (with_reducible apply Below.alloc) | (with_reducible apply Below.drew) | (with_reducible apply below_drewN) | (with_reducible refine Below.trans ?_ (Below.mono (by assumption) ?_)) | omega | (simp; done) | (simp; omega)))
    have g0 : W1.cell? ⟨w.heap.size + 1, 0, none⟩ = some (.int .i64 0) := by rw [← hW1]; simp [go_sem]
    have h0 : W1.frozen? ⟨w.heap.size + 1, 0, none⟩ = false := by rw [← hW1]; simp [go_sem]
    have g1 : W1.cell? ⟨w.heap.size + 1, 1, none⟩ = some (.int .i64 0) := by rw [← hW1]; simp [go_sem]
    have h1 : W1.frozen? ⟨w.heap.size + 1, 1, none⟩ = false := by rw [← hW1]; simp [go_sem]
    have g2 : W1.cell? ⟨w.heap.size + 1, 2, none⟩ = some (.slice none 0 0) := by rw [← hW1]; simp [go_sem]
    have h2 : W1.frozen? ⟨w.heap.size + 1, 2, none⟩ = false := by rw [← hW1]; simp [go_sem]
    have l0 : W1.cell? ⟨w.heap.size, 0, none⟩ = some (.int .i64 x0) := by rw [← hW1]; simp [go_sem]
    have l1 : W1.cell? ⟨w.heap.size, 1, none⟩ = some (.int .i64 x1) := by rw [← hW1]; simp [go_sem]
    have l2 : W1.cell? ⟨w.heap.size, 2, none⟩ = some (.int .i64 x2) := by rw [← hW1]; simp [go_sem]
    have l3 : W1.cell? ⟨w.heap.size, 3, none⟩ = some (.int .i64 x3) := by rw [← hW1]; simp [go_sem]
    have l4 : W1.cell? ⟨w.heap.size, 4, none⟩ = some (.int .i64 x4) := by rw [← hW1]; simp [go_sem]
    have l5 : W1.cell? ⟨w.heap.size, 5, none⟩ = some (.int .i64 x5) := by rw [← hW1]; simp [go_sem]
    have l6 : W1.cell? ⟨w.heap.size, 6, none⟩ = some (.int .i64 x6) := by rw [← hW1]; simp [go_sem]
    have KEEP := hidd (fun (W : World) (hb : Below W1.heap.size W1 W) => (show W.cell? ⟨w.heap.size, 0, none⟩ = some (.int .i64 x0) ∧ W.cell? ⟨w.heap.size, 1, none⟩ = some (.int .i64 x1) ∧ W.cell? ⟨w.heap.size, 2, none⟩ = some (.int .i64 x2) ∧ W.cell? ⟨w.heap.size, 3, none⟩ = some (.int .i64 x3) ∧ W.cell? ⟨w.heap.size, 4, none⟩ = some (.int .i64 x4) ∧ W.cell? ⟨w.heap.size, 5, none⟩ = some (.int .i64 x5) ∧ W.cell? ⟨w.heap.size, 6, none⟩ = some (.int .i64 x6) from ⟨(hb.cell (p := ⟨w.heap.size, 0, none⟩) (by show w.heap.size < W1.heap.size; omega)).trans l0, (hb.cell (p := ⟨w.heap.size, 1, none⟩) (by show w.heap.size < W1.heap.size; omega)).trans l1, (hb.cell (p := ⟨w.heap.size, 2, none⟩) (by show w.heap.size < W1.heap.size; omega)).trans l2, (hb.cell (p := ⟨w.heap.size, 3, none⟩) (by show w.heap.size < W1.heap.size; omega)).trans l3, (hb.cell (p := ⟨w.heap.size, 4, none⟩) (by show w.heap.size < W1.heap.size; omega)).trans l4, (hb.cell (p := ⟨w.heap.size, 5, none⟩) (by show w.heap.size < W1.heap.size; omega)).trans l5, (hb.cell (p := ⟨w.heap.size, 6, none⟩) (by show w.heap.size < W1.heap.size; omega)).trans l6⟩))
    have OUT := hidd (fun (W : World) (hb : Below W1.heap.size W1 W) => (show (W.cell? ⟨w.heap.size + 1, 0, none⟩ = some (.int .i64 0) ∧ W.cell? ⟨w.heap.size + 1, 1, none⟩ = some (.int .i64 0) ∧ W.cell? ⟨w.heap.size + 1, 2, none⟩ = some (.slice none 0 0)) ∧ (W.frozen? ⟨w.heap.size + 1, 0, none⟩ = false ∧ W.frozen? ⟨w.heap.size + 1, 1, none⟩ = false ∧ W.frozen? ⟨w.heap.size + 1, 2, none⟩ = false) ∧ w.heap.size + 1 < W.heap.size from ⟨⟨(hb.cell (p := ⟨w.heap.size + 1, 0, none⟩) (by show w.heap.size + 1 < W1.heap.size; omega)).trans g0, (hb.cell (p := ⟨w.heap.size + 1, 1, none⟩) (by show w.heap.size + 1 < W1.heap.size; omega)).trans g1, (hb.cell (p := ⟨w.heap.size + 1, 2, none⟩) (by show w.heap.size + 1 < W1.heap.size; omega)).trans g2⟩, ⟨(hb.frozen (p := ⟨w.heap.size + 1, 0, none⟩) (by show w.heap.size + 1 < W1.heap.size; omega)).trans h0, (hb.frozen (p := ⟨w.heap.size + 1, 1, none⟩) (by show w.heap.size + 1 < W1.heap.size; omega)).trans h1, (hb.frozen (p := ⟨w.heap.size + 1, 2, none⟩) (by show w.heap.size + 1 < W1.heap.size; omega)).trans h2⟩, Nat.lt_of_lt_of_le (by omega) hb.size⟩))
    have HBX := hidd (fun (W : World) (hb : Below W1.heap.size W1 W) => below_step hBw hb)
    have HW1 := hidd hW1
    clear hW1 hBw g0 h0 g1 h1 g2 h2 l0 l1 l2 l3 l4 l5 l6
    obtain ⟨k0, k1, k2, k3, k4, k5, k6⟩ := KEEP.out _ (Below.refl _ _)
    go_enter Tryz.func37, Tryz.ntmps37
    go_wp2_with fail
    rw [HW1.out]
    go_region_held (fun W => W.cell? ⟨w.heap.size, 0, none⟩ = some (.int .i64 x0) ∧ W.cell? ⟨w.heap.size, 1, none⟩ = some (.int .i64 x1) ∧ W.cell? ⟨w.heap.size, 2, none⟩ = some (.int .i64 x2) ∧ W.cell? ⟨w.heap.size, 3, none⟩ = some (.int .i64 x3) ∧ W.cell? ⟨w.heap.size, 4, none⟩ = some (.int .i64 x4) ∧ W.cell? ⟨w.heap.size, 5, none⟩ = some (.int .i64 x5) ∧ W.cell? ⟨w.heap.size, 6, none⟩ = some (.int .i64 x6))
      ((first | exact KEEP.out _ cum2 | exact KEEP.out _ cum1 | exact KEEP.out _ (Below.refl _ _) | exact KEEP.out _ (Below.drew (Below.refl _ _)) | (obtain ⟨j0, j1, j2, j3, j4, j5, j6⟩ := KEEP.out _ cum2; refine ⟨?_, ?_, ?_, ?_, ?_, ?_, ?_⟩ <;> simp [go_sem, *]; done)))
      ((first
        | (go_at_call 66; refine ((CM.out _)).mono ?_; rintro E1 v1 ⟨rfl, l1⟩; have cum1 : Below W1.heap.size W1 v1 := (by first | exact below_step (Below.drew (Below.refl _ _)) l1 | exact below_step (Below.refl _ _) l1))
        | (go_at_call 74; have HBW := HBX.out _ cum1; refine ((CS.out _)).mono ?_; rintro E2 v2 ⟨l2, rfl⟩; have cum2 : Below W1.heap.size W1 v2 := below_step cum1 l2; obtain ⟨⟨p0, p1, p2⟩, ⟨q0, q1, q2⟩, hzz⟩ := OUT.out _ cum2; have HB2 := hidd (HBX.out _ cum2))))
    all_goals go_wp2_with fail
    all_goals exact bodyPost_ret (v := .tuple #[.agg #[.int .i64 0, .int .i64 0, .slice none 0 0], .int .i64 2]) (by simp [results, Tryz.results37, go_sem, *]) rfl ⟨by have q := HB2.out; (repeat' (first | (with_reducible exact Below.refl _ _) | (with_reducible assumption) | (with_reducible apply Below.setCell) | (with_reducible apply Below.alloc) | (with_reducible apply Below.drew) | (with_reducible apply below_drewN) | (with_reducible refine Below.trans ?_ (Below.mono (by assumption) ?_)) | omega | (simp; done) | (simp; omega))), .inr ⟨(by first | exact rfl | exact trivial), rfl⟩⟩
set_option maxHeartbeats 8000000 in
theorem AsWish_any (c t : Int) (A : Option Addr) (ws : List Int) (m : Nat) (hws : ws.length ≤ 9223372036854775807) (hwb : ∀ x ∈ ws, -9223372036854775808 ≤ x ∧ x ≤ 9223372036854775807) (w : World) (hl : LieQ wdV 1 w (· < w.heap.size) A ws) :
    Calls Tryz.prog 24 #[.agg #[.int .i64 c, .int .i64 t, .slice A ws.length m]] w (HeardW (mayW ((av ws 2)) ((av ws 0)) ((av ws 1)) ((av ws 4)) ((av ws 3)) ((av ws 5)) ((av ws 6)) && sameB 9 2 [((av ws 0)), ((av ws 1)), ((av ws 2)), ((av ws 3)), ((av ws 4)), ((av ws 5)), ((av ws 6))] c t ws) ((av ws 2)) ((av ws 0)) ((av ws 1)) ((av ws 4)) ((av ws 3)) ((av ws 5)) ((av ws 6)) w) := by
  have CM := hidd (fun W => mkW_any W)
  have hy := av_bounds hwb
  have CH := hidd (fun W (h : LieQ wdV 1 W (· < W.heap.size) A ws) => heardW_any 125 127 129 entW_m entW_o entW_t #[] (mayW ((av ws 2)) ((av ws 0)) ((av ws 1)) ((av ws 4)) ((av ws 3)) ((av ws 5)) ((av ws 6))) 9 2 [((av ws 0)), ((av ws 1)), ((av ws 2)), ((av ws 3)), ((av ws 4)), ((av ws 5)), ((av ws 6))] (by simp) ((av ws 2)) ((av ws 0)) ((av ws 1)) ((av ws 4)) ((av ws 3)) ((av ws 5)) ((av ws 6)) c t A ws m hws W h (fun W' _ => thingW_any _ _ _ _ _ _ _ hy W') (fun W' _ => mayW_any ((av ws 2)) ((av ws 0)) ((av ws 1)) ((av ws 4)) ((av ws 3)) ((av ws 5)) ((av ws 6)) W') (fun hm W' _ => objW_any ((av ws 2)) ((av ws 0)) ((av ws 1)) ((av ws 4)) ((av ws 3)) ((av ws 5)) ((av ws 6)) hm W'))
  have HL := hidd hl
  generalize (mayW ((av ws 2)) ((av ws 0)) ((av ws 1)) ((av ws 4)) ((av ws 3)) ((av ws 5)) ((av ws 6)) && sameB 9 2 [((av ws 0)), ((av ws 1)), ((av ws 2)), ((av ws 3)), ((av ws 4)), ((av ws 5)), ((av ws 6))] c t ws) = G at *
  generalize (av ws 2) = z0 at *
  generalize (av ws 0) = z1 at *
  generalize (av ws 1) = z2 at *
  generalize (av ws 4) = z3 at *
  generalize (av ws 3) = z4 at *
  generalize (av ws 5) = z5 at *
  generalize (av ws 6) = z6 at *
  clear hl hy hwb hws
  unfold HeardW at *
  cases G; rotate_left
  · have CS := hidd (fun W h => heard_yes (CH.out W h))
    have HL1 := hidd (fun W (hb : Below w.heap.size w W) => HL.out.below hb)
    clear CH
    obtain ⟨W1, hW1⟩ : ∃ W1, ((w.alloc (.cells #[.int .i64 c, .int .i64 t, .slice A ws.length m] 42)).alloc (.cells #[.int .i64 0, .int .i64 0, .int .i64 0, .int .i64 0, .int .i64 0, .int .i64 0, .int .i64 0] 32)) = W1 := ⟨_, rfl⟩
    have hz1 : W1.heap.size = w.heap.size + 2 := by rw [← hW1]; simp
    have hBw : Below w.heap.size w W1 := by rw [← hW1]; (repeat' (first | (with_reducible exact Below.refl _ _) | (with_reducible assumption) | (with_reducible apply Below.setCell) | (with_reducible apply Below.alloc) | (with_reducible apply Below.drew) | (with_reducible apply below_drewN) | (with_reducible refine Below.trans ?_ (Below.mono (by assumption) ?_)) | omega | (simp; done) | (simp; omega)))
    have g0 : W1.cell? ⟨w.heap.size + 1, 0, none⟩ = some (.int .i64 0) := by rw [← hW1]; simp [go_sem]
    have h0 : W1.frozen? ⟨w.heap.size + 1, 0, none⟩ = false := by rw [← hW1]; simp [go_sem]
    have g1 : W1.cell? ⟨w.heap.size + 1, 1, none⟩ = some (.int .i64 0) := by rw [← hW1]; simp [go_sem]
    have h1 : W1.frozen? ⟨w.heap.size + 1, 1, none⟩ = false := by rw [← hW1]; simp [go_sem]
    have g2 : W1.cell? ⟨w.heap.size + 1, 2, none⟩ = some (.int .i64 0) := by rw [← hW1]; simp [go_sem]
    have h2 : W1.frozen? ⟨w.heap.size + 1, 2, none⟩ = false := by rw [← hW1]; simp [go_sem]
    have g3 : W1.cell? ⟨w.heap.size + 1, 3, none⟩ = some (.int .i64 0) := by rw [← hW1]; simp [go_sem]
    have h3 : W1.frozen? ⟨w.heap.size + 1, 3, none⟩ = false := by rw [← hW1]; simp [go_sem]
    have g4 : W1.cell? ⟨w.heap.size + 1, 4, none⟩ = some (.int .i64 0) := by rw [← hW1]; simp [go_sem]
    have h4 : W1.frozen? ⟨w.heap.size + 1, 4, none⟩ = false := by rw [← hW1]; simp [go_sem]
    have g5 : W1.cell? ⟨w.heap.size + 1, 5, none⟩ = some (.int .i64 0) := by rw [← hW1]; simp [go_sem]
    have h5 : W1.frozen? ⟨w.heap.size + 1, 5, none⟩ = false := by rw [← hW1]; simp [go_sem]
    have g6 : W1.cell? ⟨w.heap.size + 1, 6, none⟩ = some (.int .i64 0) := by rw [← hW1]; simp [go_sem]
    have h6 : W1.frozen? ⟨w.heap.size + 1, 6, none⟩ = false := by rw [← hW1]; simp [go_sem]
    have l0 : W1.cell? ⟨w.heap.size, 0, none⟩ = some (.int .i64 c) := by rw [← hW1]; simp [go_sem]
    have l1 : W1.cell? ⟨w.heap.size, 1, none⟩ = some (.int .i64 t) := by rw [← hW1]; simp [go_sem]
    have l2 : W1.cell? ⟨w.heap.size, 2, none⟩ = some (.slice A ws.length m) := by rw [← hW1]; simp [go_sem]
    have KEEP := hidd (fun (W : World) (hb : Below W1.heap.size W1 W) => (show W.cell? ⟨w.heap.size, 0, none⟩ = some (.int .i64 c) ∧ W.cell? ⟨w.heap.size, 1, none⟩ = some (.int .i64 t) ∧ W.cell? ⟨w.heap.size, 2, none⟩ = some (.slice A ws.length m) from ⟨(hb.cell (p := ⟨w.heap.size, 0, none⟩) (by show w.heap.size < W1.heap.size; omega)).trans l0, (hb.cell (p := ⟨w.heap.size, 1, none⟩) (by show w.heap.size < W1.heap.size; omega)).trans l1, (hb.cell (p := ⟨w.heap.size, 2, none⟩) (by show w.heap.size < W1.heap.size; omega)).trans l2⟩))
    have OUT := hidd (fun (W : World) (hb : Below W1.heap.size W1 W) => (show (W.cell? ⟨w.heap.size + 1, 0, none⟩ = some (.int .i64 0) ∧ W.cell? ⟨w.heap.size + 1, 1, none⟩ = some (.int .i64 0) ∧ W.cell? ⟨w.heap.size + 1, 2, none⟩ = some (.int .i64 0) ∧ W.cell? ⟨w.heap.size + 1, 3, none⟩ = some (.int .i64 0) ∧ W.cell? ⟨w.heap.size + 1, 4, none⟩ = some (.int .i64 0) ∧ W.cell? ⟨w.heap.size + 1, 5, none⟩ = some (.int .i64 0) ∧ W.cell? ⟨w.heap.size + 1, 6, none⟩ = some (.int .i64 0)) ∧ (W.frozen? ⟨w.heap.size + 1, 0, none⟩ = false ∧ W.frozen? ⟨w.heap.size + 1, 1, none⟩ = false ∧ W.frozen? ⟨w.heap.size + 1, 2, none⟩ = false ∧ W.frozen? ⟨w.heap.size + 1, 3, none⟩ = false ∧ W.frozen? ⟨w.heap.size + 1, 4, none⟩ = false ∧ W.frozen? ⟨w.heap.size + 1, 5, none⟩ = false ∧ W.frozen? ⟨w.heap.size + 1, 6, none⟩ = false) ∧ w.heap.size + 1 < W.heap.size from ⟨⟨(hb.cell (p := ⟨w.heap.size + 1, 0, none⟩) (by show w.heap.size + 1 < W1.heap.size; omega)).trans g0, (hb.cell (p := ⟨w.heap.size + 1, 1, none⟩) (by show w.heap.size + 1 < W1.heap.size; omega)).trans g1, (hb.cell (p := ⟨w.heap.size + 1, 2, none⟩) (by show w.heap.size + 1 < W1.heap.size; omega)).trans g2, (hb.cell (p := ⟨w.heap.size + 1, 3, none⟩) (by show w.heap.size + 1 < W1.heap.size; omega)).trans g3, (hb.cell (p := ⟨w.heap.size + 1, 4, none⟩) (by show w.heap.size + 1 < W1.heap.size; omega)).trans g4, (hb.cell (p := ⟨w.heap.size + 1, 5, none⟩) (by show w.heap.size + 1 < W1.heap.size; omega)).trans g5, (hb.cell (p := ⟨w.heap.size + 1, 6, none⟩) (by show w.heap.size + 1 < W1.heap.size; omega)).trans g6⟩, ⟨(hb.frozen (p := ⟨w.heap.size + 1, 0, none⟩) (by show w.heap.size + 1 < W1.heap.size; omega)).trans h0, (hb.frozen (p := ⟨w.heap.size + 1, 1, none⟩) (by show w.heap.size + 1 < W1.heap.size; omega)).trans h1, (hb.frozen (p := ⟨w.heap.size + 1, 2, none⟩) (by show w.heap.size + 1 < W1.heap.size; omega)).trans h2, (hb.frozen (p := ⟨w.heap.size + 1, 3, none⟩) (by show w.heap.size + 1 < W1.heap.size; omega)).trans h3, (hb.frozen (p := ⟨w.heap.size + 1, 4, none⟩) (by show w.heap.size + 1 < W1.heap.size; omega)).trans h4, (hb.frozen (p := ⟨w.heap.size + 1, 5, none⟩) (by show w.heap.size + 1 < W1.heap.size; omega)).trans h5, (hb.frozen (p := ⟨w.heap.size + 1, 6, none⟩) (by show w.heap.size + 1 < W1.heap.size; omega)).trans h6⟩, Nat.lt_of_lt_of_le (by omega) hb.size⟩))
    have HBX := hidd (fun (W : World) (hb : Below W1.heap.size W1 W) => below_step hBw hb)
    have HW1 := hidd hW1
    clear hW1 hBw g0 h0 g1 h1 g2 h2 g3 h3 g4 h4 g5 h5 g6 h6 l0 l1 l2
    obtain ⟨k0, k1, k2⟩ := KEEP.out _ (Below.refl _ _)
    go_enter Tryz.func24, Tryz.ntmps24
    go_wp2_with fail
    rw [HW1.out]
    refine wp_region_held_drew (S := fun W => W.cell? ⟨w.heap.size, 0, none⟩ = some (.int .i64 c) ∧ W.cell? ⟨w.heap.size, 1, none⟩ = some (.int .i64 t) ∧ W.cell? ⟨w.heap.size, 2, none⟩ = some (.slice A ws.length m)) (by kernel_rfl) (by exact KEEP.out _ (Below.drew (Below.refl _ _))) (fun hHeld => ?_)
    refine wpAnyH_take (i := 1) (v := ?v1) (by (conv => lhs; simp only [List.getElem?_toArray, List.getElem?_cons_succ, List.getElem?_cons_zero])) (by kernel_rfl) (by kernel_rfl) (by kernel_rfl) ?hQ (Or.inl ⟨by rfl, ?hy1⟩) (by assumption) ?rest1
    case hQ => exact fun _ _ _ h => h
    case hy1 => (intro w hSw; (try dsimp only at hSw); go_simp; try (with_reducible rfl))
    try simp only [Act.put, List.setIfInBounds_toArray, List.set_cons_zero, List.set_cons_succ]
    refine wpAnyH_ready (rs := [0]) (by kernel_rfl) (by simp) ?_
    refine AllReadyH.cons (by (conv => lhs; simp only [List.getElem?_toArray, List.getElem?_cons_succ, List.getElem?_cons_zero])) (fun K hK => ?_) AllReadyH.nil
    go_simp
    go_at_call 66; refine ((CM.out _)).mono ?_; rintro E1 v1 ⟨rfl, l1⟩; have cum1 : Below W1.heap.size W1 v1 := (by first | exact below_step (Below.drew (Below.refl _ _)) l1 | exact below_step (Below.refl _ _) l1)
    refine hK.out _ _ (by (try dsimp only); with_reducible exact KEEP.out _ cum1) (fun hHeld1 => ?_)
    clear hK K
    try simp only [Act.put, List.setIfInBounds_toArray, List.set_cons_zero, List.set_cons_succ]
    refine wpAnyH_ready (rs := [2]) (by kernel_rfl) (by simp) ?_
    refine AllReadyH.cons (by (conv => lhs; simp only [List.getElem?_toArray, List.getElem?_cons_succ, List.getElem?_cons_zero])) (fun K hK => ?_) AllReadyH.nil
    go_simp
    go_at_call 67; have HBW := HBX.out _ cum1; refine ((CS.out _ (HL1.out _ HBW))).mono ?_; rintro E2 v2 ⟨l2, rfl⟩; have cum2 : Below W1.heap.size W1 v2 := below_step cum1 l2; obtain ⟨⟨p0, p1, p2, p3, p4, p5, p6⟩, ⟨q0, q1, q2, q3, q4, q5, q6⟩, hzz⟩ := OUT.out _ cum2; have HB2 := hidd (HBX.out _ cum2)
    refine hK.out _ _ (by (try dsimp only); with_reducible exact KEEP.out _ cum2) (fun hHeld2 => ?_)
    clear hK K
    try simp only [Act.put, List.setIfInBounds_toArray, List.set_cons_zero, List.set_cons_succ]
    refine wpAnyH_take (i := 3) (v := ?v3) (by (conv => lhs; simp only [List.getElem?_toArray, List.getElem?_cons_succ, List.getElem?_cons_zero])) (by kernel_rfl) (by kernel_rfl) (by kernel_rfl) ?hQ (Or.inl ⟨by rfl, ?hy3⟩) (by assumption) ?rest3
    case hQ => exact fun _ _ _ h => h
    case hy3 => (intro w hSw; (try dsimp only at hSw); go_simp; try (with_reducible rfl))
    try simp only [Act.put, List.setIfInBounds_toArray, List.set_cons_zero, List.set_cons_succ]
    refine wpAnyH_take (i := 4) (v := ?v4) (by (conv => lhs; simp only [List.getElem?_toArray, List.getElem?_cons_succ, List.getElem?_cons_zero])) (by kernel_rfl) (by kernel_rfl) (by kernel_rfl) ?hQ (Or.inl ⟨by rfl, ?hy4⟩) (by assumption) ?rest4
    case hQ => exact fun _ _ _ h => h
    case hy4 => (intro w hSw; (try dsimp only at hSw); go_simp; try (with_reducible rfl))
    try simp only [Act.put, List.setIfInBounds_toArray, List.set_cons_zero, List.set_cons_succ]
    refine wpAnyH_ready (rs := [5]) (by kernel_rfl) (by simp) ?_
    refine AllReadyH.cons (by (conv => lhs; simp only [List.getElem?_toArray, List.getElem?_cons_succ, List.getElem?_cons_zero])) (fun K hK => ?_) AllReadyH.nil
    clear hHeld hHeld1 hHeld2 k0 k1 k2
    go_simp
    skip
    refine hK.out _ _ (by (try dsimp only); (obtain ⟨j0, j1, j2⟩ := KEEP.out _ cum2; refine ⟨?_, ?_, ?_⟩ <;> simp [go_sem, *]; done)) (fun hHeld9 => ?_)
    clear hK K
    try simp only [Act.put, List.setIfInBounds_toArray, List.set_cons_zero, List.set_cons_succ]
    refine wpAnyH_take (i := 6) (v := ?v6) (by (conv => lhs; simp only [List.getElem?_toArray, List.getElem?_cons_succ, List.getElem?_cons_zero])) (by kernel_rfl) (by kernel_rfl) (by kernel_rfl) ?hQ (Or.inl ⟨by rfl, ?hy6⟩) (by assumption) ?rest6
    case hQ => exact fun _ _ _ h => h
    case hy6 => (intro w hSw; (try dsimp only at hSw); go_simp; try (with_reducible rfl))
    try simp only [Act.put, List.setIfInBounds_toArray, List.set_cons_zero, List.set_cons_succ]
    refine wpAnyH_done (by kernel_rfl) ?_ _
    all_goals go_wp2_with fail
    all_goals exact bodyPost_ret (v := .tuple #[.agg #[.int .i64 z0, .int .i64 z1, .int .i64 z2, .int .i64 z3, .int .i64 z4, .int .i64 z5, .int .i64 z6], .int .i64 0]) (by simp [results, Tryz.results24, go_sem, *]) rfl ⟨by have q := HB2.out; (repeat' (first | (with_reducible exact Below.refl _ _) | (with_reducible assumption) | (with_reducible apply Below.setCell) | (with_reducible apply Below.alloc) | (with_reducible apply Below.drew) | (with_reducible apply below_drewN) | (with_reducible refine Below.trans ?_ (Below.mono (by assumption) ?_)) | omega | (simp; done) | (simp; omega))), .inl ⟨(by first | exact rfl | exact trivial), rfl⟩⟩
  
  · have CS := hidd (fun W h => heard_no (CH.out W h))
    have HL1 := hidd (fun W (hb : Below w.heap.size w W) => HL.out.below hb)
    clear CH
    obtain ⟨W1, hW1⟩ : ∃ W1, ((w.alloc (.cells #[.int .i64 c, .int .i64 t, .slice A ws.length m] 42)).alloc (.cells #[.int .i64 0, .int .i64 0, .int .i64 0, .int .i64 0, .int .i64 0, .int .i64 0, .int .i64 0] 32)) = W1 := ⟨_, rfl⟩
    have hz1 : W1.heap.size = w.heap.size + 2 := by rw [← hW1]; simp
    have hBw : Below w.heap.size w W1 := by rw [← hW1]; (repeat' (first | (with_reducible exact Below.refl _ _) | (with_reducible assumption) | (with_reducible apply Below.setCell) | (with_reducible apply Below.alloc) | (with_reducible apply Below.drew) | (with_reducible apply below_drewN) | (with_reducible refine Below.trans ?_ (Below.mono (by assumption) ?_)) | omega | (simp; done) | (simp; omega)))
    have g0 : W1.cell? ⟨w.heap.size + 1, 0, none⟩ = some (.int .i64 0) := by rw [← hW1]; simp [go_sem]
    have h0 : W1.frozen? ⟨w.heap.size + 1, 0, none⟩ = false := by rw [← hW1]; simp [go_sem]
    have g1 : W1.cell? ⟨w.heap.size + 1, 1, none⟩ = some (.int .i64 0) := by rw [← hW1]; simp [go_sem]
    have h1 : W1.frozen? ⟨w.heap.size + 1, 1, none⟩ = false := by rw [← hW1]; simp [go_sem]
    have g2 : W1.cell? ⟨w.heap.size + 1, 2, none⟩ = some (.int .i64 0) := by rw [← hW1]; simp [go_sem]
    have h2 : W1.frozen? ⟨w.heap.size + 1, 2, none⟩ = false := by rw [← hW1]; simp [go_sem]
    have g3 : W1.cell? ⟨w.heap.size + 1, 3, none⟩ = some (.int .i64 0) := by rw [← hW1]; simp [go_sem]
    have h3 : W1.frozen? ⟨w.heap.size + 1, 3, none⟩ = false := by rw [← hW1]; simp [go_sem]
    have g4 : W1.cell? ⟨w.heap.size + 1, 4, none⟩ = some (.int .i64 0) := by rw [← hW1]; simp [go_sem]
    have h4 : W1.frozen? ⟨w.heap.size + 1, 4, none⟩ = false := by rw [← hW1]; simp [go_sem]
    have g5 : W1.cell? ⟨w.heap.size + 1, 5, none⟩ = some (.int .i64 0) := by rw [← hW1]; simp [go_sem]
    have h5 : W1.frozen? ⟨w.heap.size + 1, 5, none⟩ = false := by rw [← hW1]; simp [go_sem]
    have g6 : W1.cell? ⟨w.heap.size + 1, 6, none⟩ = some (.int .i64 0) := by rw [← hW1]; simp [go_sem]
    have h6 : W1.frozen? ⟨w.heap.size + 1, 6, none⟩ = false := by rw [← hW1]; simp [go_sem]
    have l0 : W1.cell? ⟨w.heap.size, 0, none⟩ = some (.int .i64 c) := by rw [← hW1]; simp [go_sem]
    have l1 : W1.cell? ⟨w.heap.size, 1, none⟩ = some (.int .i64 t) := by rw [← hW1]; simp [go_sem]
    have l2 : W1.cell? ⟨w.heap.size, 2, none⟩ = some (.slice A ws.length m) := by rw [← hW1]; simp [go_sem]
    have KEEP := hidd (fun (W : World) (hb : Below W1.heap.size W1 W) => (show W.cell? ⟨w.heap.size, 0, none⟩ = some (.int .i64 c) ∧ W.cell? ⟨w.heap.size, 1, none⟩ = some (.int .i64 t) ∧ W.cell? ⟨w.heap.size, 2, none⟩ = some (.slice A ws.length m) from ⟨(hb.cell (p := ⟨w.heap.size, 0, none⟩) (by show w.heap.size < W1.heap.size; omega)).trans l0, (hb.cell (p := ⟨w.heap.size, 1, none⟩) (by show w.heap.size < W1.heap.size; omega)).trans l1, (hb.cell (p := ⟨w.heap.size, 2, none⟩) (by show w.heap.size < W1.heap.size; omega)).trans l2⟩))
    have OUT := hidd (fun (W : World) (hb : Below W1.heap.size W1 W) => (show (W.cell? ⟨w.heap.size + 1, 0, none⟩ = some (.int .i64 0) ∧ W.cell? ⟨w.heap.size + 1, 1, none⟩ = some (.int .i64 0) ∧ W.cell? ⟨w.heap.size + 1, 2, none⟩ = some (.int .i64 0) ∧ W.cell? ⟨w.heap.size + 1, 3, none⟩ = some (.int .i64 0) ∧ W.cell? ⟨w.heap.size + 1, 4, none⟩ = some (.int .i64 0) ∧ W.cell? ⟨w.heap.size + 1, 5, none⟩ = some (.int .i64 0) ∧ W.cell? ⟨w.heap.size + 1, 6, none⟩ = some (.int .i64 0)) ∧ (W.frozen? ⟨w.heap.size + 1, 0, none⟩ = false ∧ W.frozen? ⟨w.heap.size + 1, 1, none⟩ = false ∧ W.frozen? ⟨w.heap.size + 1, 2, none⟩ = false ∧ W.frozen? ⟨w.heap.size + 1, 3, none⟩ = false ∧ W.frozen? ⟨w.heap.size + 1, 4, none⟩ = false ∧ W.frozen? ⟨w.heap.size + 1, 5, none⟩ = false ∧ W.frozen? ⟨w.heap.size + 1, 6, none⟩ = false) ∧ w.heap.size + 1 < W.heap.size from ⟨⟨(hb.cell (p := ⟨w.heap.size + 1, 0, none⟩) (by show w.heap.size + 1 < W1.heap.size; omega)).trans g0, (hb.cell (p := ⟨w.heap.size + 1, 1, none⟩) (by show w.heap.size + 1 < W1.heap.size; omega)).trans g1, (hb.cell (p := ⟨w.heap.size + 1, 2, none⟩) (by show w.heap.size + 1 < W1.heap.size; omega)).trans g2, (hb.cell (p := ⟨w.heap.size + 1, 3, none⟩) (by show w.heap.size + 1 < W1.heap.size; omega)).trans g3, (hb.cell (p := ⟨w.heap.size + 1, 4, none⟩) (by show w.heap.size + 1 < W1.heap.size; omega)).trans g4, (hb.cell (p := ⟨w.heap.size + 1, 5, none⟩) (by show w.heap.size + 1 < W1.heap.size; omega)).trans g5, (hb.cell (p := ⟨w.heap.size + 1, 6, none⟩) (by show w.heap.size + 1 < W1.heap.size; omega)).trans g6⟩, ⟨(hb.frozen (p := ⟨w.heap.size + 1, 0, none⟩) (by show w.heap.size + 1 < W1.heap.size; omega)).trans h0, (hb.frozen (p := ⟨w.heap.size + 1, 1, none⟩) (by show w.heap.size + 1 < W1.heap.size; omega)).trans h1, (hb.frozen (p := ⟨w.heap.size + 1, 2, none⟩) (by show w.heap.size + 1 < W1.heap.size; omega)).trans h2, (hb.frozen (p := ⟨w.heap.size + 1, 3, none⟩) (by show w.heap.size + 1 < W1.heap.size; omega)).trans h3, (hb.frozen (p := ⟨w.heap.size + 1, 4, none⟩) (by show w.heap.size + 1 < W1.heap.size; omega)).trans h4, (hb.frozen (p := ⟨w.heap.size + 1, 5, none⟩) (by show w.heap.size + 1 < W1.heap.size; omega)).trans h5, (hb.frozen (p := ⟨w.heap.size + 1, 6, none⟩) (by show w.heap.size + 1 < W1.heap.size; omega)).trans h6⟩, Nat.lt_of_lt_of_le (by omega) hb.size⟩))
    have HBX := hidd (fun (W : World) (hb : Below W1.heap.size W1 W) => below_step hBw hb)
    have HW1 := hidd hW1
    clear hW1 hBw g0 h0 g1 h1 g2 h2 g3 h3 g4 h4 g5 h5 g6 h6 l0 l1 l2
    obtain ⟨k0, k1, k2⟩ := KEEP.out _ (Below.refl _ _)
    go_enter Tryz.func24, Tryz.ntmps24
    go_wp2_with fail
    rw [HW1.out]
    refine wp_region_held_drew (S := fun W => W.cell? ⟨w.heap.size, 0, none⟩ = some (.int .i64 c) ∧ W.cell? ⟨w.heap.size, 1, none⟩ = some (.int .i64 t) ∧ W.cell? ⟨w.heap.size, 2, none⟩ = some (.slice A ws.length m)) (by kernel_rfl) (by exact KEEP.out _ (Below.drew (Below.refl _ _))) (fun hHeld => ?_)
    refine wpAnyH_take (i := 1) (v := ?v21) (by (conv => lhs; simp only [List.getElem?_toArray, List.getElem?_cons_succ, List.getElem?_cons_zero])) (by kernel_rfl) (by kernel_rfl) (by kernel_rfl) ?hQ (Or.inl ⟨by rfl, ?hy21⟩) (by assumption) ?rest21
    case hQ => exact fun _ _ _ h => h
    case hy21 => (intro w hSw; (try dsimp only at hSw); go_simp; try (with_reducible rfl))
    try simp only [Act.put, List.setIfInBounds_toArray, List.set_cons_zero, List.set_cons_succ]
    refine wpAnyH_ready (rs := [0]) (by kernel_rfl) (by simp) ?_
    refine AllReadyH.cons (by (conv => lhs; simp only [List.getElem?_toArray, List.getElem?_cons_succ, List.getElem?_cons_zero])) (fun K hK => ?_) AllReadyH.nil
    go_simp
    go_at_call 66; refine ((CM.out _)).mono ?_; rintro E1 v1 ⟨rfl, l1⟩; have cum1 : Below W1.heap.size W1 v1 := (by first | exact below_step (Below.drew (Below.refl _ _)) l1 | exact below_step (Below.refl _ _) l1)
    refine hK.out _ _ (by (try dsimp only); with_reducible exact KEEP.out _ cum1) (fun hHeld1 => ?_)
    clear hK K
    try simp only [Act.put, List.setIfInBounds_toArray, List.set_cons_zero, List.set_cons_succ]
    refine wpAnyH_ready (rs := [2]) (by kernel_rfl) (by simp) ?_
    refine AllReadyH.cons (by (conv => lhs; simp only [List.getElem?_toArray, List.getElem?_cons_succ, List.getElem?_cons_zero])) (fun K hK => ?_) AllReadyH.nil
    go_simp
    go_at_call 67; have HBW := HBX.out _ cum1; refine ((CS.out _ (HL1.out _ HBW))).mono ?_; rintro E2 v2 ⟨l2, rfl⟩; have cum2 : Below W1.heap.size W1 v2 := below_step cum1 l2; obtain ⟨⟨p0, p1, p2, p3, p4, p5, p6⟩, ⟨q0, q1, q2, q3, q4, q5, q6⟩, hzz⟩ := OUT.out _ cum2; have HB2 := hidd (HBX.out _ cum2)
    refine hK.out _ _ (by (try dsimp only); with_reducible exact KEEP.out _ cum2) (fun hHeld2 => ?_)
    clear hK K
    try simp only [Act.put, List.setIfInBounds_toArray, List.set_cons_zero, List.set_cons_succ]
    refine wpAnyH_take (i := 3) (v := ?v23) (by (conv => lhs; simp only [List.getElem?_toArray, List.getElem?_cons_succ, List.getElem?_cons_zero])) (by kernel_rfl) (by kernel_rfl) (by kernel_rfl) ?hQ (Or.inl ⟨by rfl, ?hy23⟩) (by assumption) ?rest23
    case hQ => exact fun _ _ _ h => h
    case hy23 => (intro w hSw; (try dsimp only at hSw); go_simp; try (with_reducible rfl))
    try simp only [Act.put, List.setIfInBounds_toArray, List.set_cons_zero, List.set_cons_succ]
    refine wpAnyH_take (i := 4) (v := ?v24) (by (conv => lhs; simp only [List.getElem?_toArray, List.getElem?_cons_succ, List.getElem?_cons_zero])) (by kernel_rfl) (by kernel_rfl) (by kernel_rfl) ?hQ (Or.inl ⟨by rfl, ?hy24⟩) (by assumption) ?rest24
    case hQ => exact fun _ _ _ h => h
    case hy24 => (intro w hSw; (try dsimp only at hSw); go_simp; try (with_reducible rfl))
    try simp only [Act.put, List.setIfInBounds_toArray, List.set_cons_zero, List.set_cons_succ]
    refine wpAnyH_ready (rs := [5]) (by kernel_rfl) (by simp) ?_
    refine AllReadyH.cons (by (conv => lhs; simp only [List.getElem?_toArray, List.getElem?_cons_succ, List.getElem?_cons_zero])) (fun K hK => ?_) AllReadyH.nil
    clear hHeld hHeld1 hHeld2 k0 k1 k2
    go_simp
    skip
    refine hK.out _ _ (by (try dsimp only); (obtain ⟨j0, j1, j2⟩ := KEEP.out _ cum2; refine ⟨?_, ?_, ?_⟩ <;> simp [go_sem, *]; done)) (fun hHeld9 => ?_)
    clear hK K
    try simp only [Act.put, List.setIfInBounds_toArray, List.set_cons_zero, List.set_cons_succ]
    refine wpAnyH_take (i := 6) (v := ?v26) (by (conv => lhs; simp only [List.getElem?_toArray, List.getElem?_cons_succ, List.getElem?_cons_zero])) (by kernel_rfl) (by kernel_rfl) (by kernel_rfl) ?hQ (Or.inl ⟨by rfl, ?hy26⟩) (by assumption) ?rest26
    case hQ => exact fun _ _ _ h => h
    case hy26 => (intro w hSw; (try dsimp only at hSw); go_simp; try (with_reducible rfl))
    try simp only [Act.put, List.setIfInBounds_toArray, List.set_cons_zero, List.set_cons_succ]
    refine wpAnyH_done (by kernel_rfl) ?_ _
    all_goals go_wp2_with fail
    all_goals exact bodyPost_ret (v := .tuple #[.agg #[.int .i64 0, .int .i64 0, .int .i64 0, .int .i64 0, .int .i64 0, .int .i64 0, .int .i64 0], .int .i64 171]) (by simp [results, Tryz.results24, go_sem, *]) rfl ⟨by have q := HB2.out; (repeat' (first | (with_reducible exact Below.refl _ _) | (with_reducible assumption) | (with_reducible apply Below.setCell) | (with_reducible apply Below.alloc) | (with_reducible apply Below.drew) | (with_reducible apply below_drewN) | (with_reducible refine Below.trans ?_ (Below.mono (by assumption) ?_)) | omega | (simp; done) | (simp; omega))), .inr ⟨(by first | exact rfl | exact trivial), rfl⟩⟩
end Go.Proofs.YtappmacnoopmkaaGreat
