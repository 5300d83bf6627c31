/- Objects: the kind terms. -/
import Derived.Test.YtappmacnoopmkaaGreatObI
import Derived.Test.YtappmacnoopmkaaGreatObJ
import Derived.Test.YtappmacnoopmkaaGreatObHM
namespace Go.Proofs.YtappmacnoopmkaaGreat
set_option linter.unusedVariables false
open Go.RowKit

attribute [local go_sem] run_store_func
/-- may it be said? -/
def mayM (x0 x1 : Int) : Bool := termB x0 x1
set_option maxHeartbeats 2000000 in
theorem mayM_any (x0 x1 : Int) (w : World) : Calls Tryz.prog 150 #[.agg #[.int .i64 x0, .int .i64 x1]] w fun e w' => e = .returned (.bool (mayM x0 x1)) ∧ Below w.heap.size w w' := by
  have c0 := hidd (fun W => boundCheck_any x0 x1 W)
  unfold mayM
  generalize termB x0 x1 = B0 at *
  cases B0
  · go_enter Tryz.func150, Tryz.ntmps150
    go_wp2_with fail
    refine (c0.out _).mono ?_
    rintro e w1 ⟨rfl, hb⟩
    have HB := hidd hb
    clear hb
    go_wp2_with fail
    go_ret
    exact ⟨by first | rfl | simp, by have q := HB.out; (repeat' (first | (with_reducible exact Below.refl _ _) | (with_reducible assumption) | (with_reducible apply Below.setCell) | (with_reducible apply Below.alloc) | (with_reducible apply Below.drew) | (with_reducible apply below_drewN) | (with_reducible refine Below.trans ?_ (Below.mono (by assumption) ?_)) | omega | (simp; done) | (simp; omega)))⟩
  · go_enter Tryz.func150, Tryz.ntmps150
    go_wp2_with fail
    refine (c0.out _).mono ?_
    rintro e w1 ⟨rfl, hb⟩
    have HB := hidd hb
    clear hb
    go_wp2_with fail
    go_ret
    exact ⟨by first | rfl | simp, by have q := HB.out; (repeat' (first | (with_reducible exact Below.refl _ _) | (with_reducible assumption) | (with_reducible apply Below.setCell) | (with_reducible apply Below.alloc) | (with_reducible apply Below.drew) | (with_reducible apply below_drewN) | (with_reducible refine Below.trans ?_ (Below.mono (by assumption) ?_)) | omega | (simp; done) | (simp; omega)))⟩
set_option maxHeartbeats 2000000 in
theorem objM_any (x0 x1 : Int) (hm : mayM x0 x1 = true) (w : World) : Calls Tryz.prog 152 #[.agg #[.int .i64 x0, .int .i64 x1]] w (ObjEnd 13 2 [x0, x1] w) := by
  obtain ⟨W1, hW1⟩ : ∃ W1, ((w.alloc (.cells #[.int .i64 x0, .int .i64 x1] 35)).alloc (.cells #[.int .i64 0, .int .i64 0, .slice none 0 0] 42)) = W1 := ⟨_, rfl⟩
  have hz1 : W1.heap.size = w.heap.size + 2 := by rw [← hW1]; simp
  have hb1 : Below w.heap.size w W1 := by rw [← hW1]; (repeat' (first | (with_reducible exact Below.refl _ _) | (with_reducible assumption) | (with_reducible apply Below.setCell) | (with_reducible apply Below.alloc) | (with_reducible apply Below.drew) | (with_reducible apply below_drewN) | (with_reducible refine Below.trans ?_ (Below.mono (by assumption) ?_)) | omega | (simp; done) | (simp; omega)))
  have g0 : W1.cell? ⟨w.heap.size + 1, 0, none⟩ = some (.int .i64 0) := by rw [← hW1]; simp [go_sem]
  have h0 : W1.frozen? ⟨w.heap.size + 1, 0, none⟩ = false := by rw [← hW1]; simp [go_sem]
  have g1 : W1.cell? ⟨w.heap.size + 1, 1, none⟩ = some (.int .i64 0) := by rw [← hW1]; simp [go_sem]
  have h1 : W1.frozen? ⟨w.heap.size + 1, 1, none⟩ = false := by rw [← hW1]; simp [go_sem]
  have g2 : W1.cell? ⟨w.heap.size + 1, 2, none⟩ = some (.slice none 0 0) := by rw [← hW1]; simp [go_sem]
  have h2 : W1.frozen? ⟨w.heap.size + 1, 2, none⟩ = false := by rw [← hW1]; simp [go_sem]
  have HL := hidd (lie_new W1 [x0, x1] 2 _ rfl (fun q => w.heap.size + 2 ≤ q ∧ q < W1.heap.size + 1) ⟨by omega, by omega⟩)
  have HB1 := hidd hb1
  have HW1 := hidd hW1
  clear hW1 hb1 hm
  unfold ObjEnd
  go_enter Tryz.func152, Tryz.ntmps152
  go_wp2_with fail
  rw [HW1.out]
  refine (object_any _ _ _ _ _ _).mono ?_
  rintro e w2 ⟨rfl, hb2⟩
  have HB2 := hidd (below_step (below_new HB1.out (.cells #[.int .i64 x0, .int .i64 x1] 2)) hb2)
  have hz2 : W1.heap.size < w2.heap.size := by have := hb2.size; simp at this; omega
  have HL2 := hidd (HL.out.to (w' := w2) (p' := fun q => w.heap.size + 2 ≤ q ∧ q < w2.heap.size) (fun q hq => ⟨⟨hq.1, by omega⟩, hb2.block q (by simpa using hq.2)⟩))
  obtain ⟨bc, bf⟩ := bcell hb2
  have p0 : w2.cell? ⟨w.heap.size + 1, 0, none⟩ = some (.int .i64 0) := by rw [bc _ _ (by simp; omega), (below_new (Below.refl W1.heap.size W1) _).cell (p := ⟨w.heap.size + 1, 0, none⟩) (by show w.heap.size + 1 < W1.heap.size; omega)]; exact g0
  have q0 : w2.frozen? ⟨w.heap.size + 1, 0, none⟩ = false := by rw [bf _ _ (by simp; omega), (below_new (Below.refl W1.heap.size W1) _).frozen (p := ⟨w.heap.size + 1, 0, none⟩) (by show w.heap.size + 1 < W1.heap.size; omega)]; exact h0
  have p1 : w2.cell? ⟨w.heap.size + 1, 1, none⟩ = some (.int .i64 0) := by rw [bc _ _ (by simp; omega), (below_new (Below.refl W1.heap.size W1) _).cell (p := ⟨w.heap.size + 1, 1, none⟩) (by show w.heap.size + 1 < W1.heap.size; omega)]; exact g1
  have q1 : w2.frozen? ⟨w.heap.size + 1, 1, none⟩ = false := by rw [bf _ _ (by simp; omega), (below_new (Below.refl W1.heap.size W1) _).frozen (p := ⟨w.heap.size + 1, 1, none⟩) (by show w.heap.size + 1 < W1.heap.size; omega)]; exact h1
  have p2 : w2.cell? ⟨w.heap.size + 1, 2, none⟩ = some (.slice none 0 0) := by rw [bc _ _ (by simp; omega), (below_new (Below.refl W1.heap.size W1) _).cell (p := ⟨w.heap.size + 1, 2, none⟩) (by show w.heap.size + 1 < W1.heap.size; omega)]; exact g2
  have q2 : w2.frozen? ⟨w.heap.size + 1, 2, none⟩ = false := by rw [bf _ _ (by simp; omega), (below_new (Below.refl W1.heap.size W1) _).frozen (p := ⟨w.heap.size + 1, 2, none⟩) (by show w.heap.size + 1 < W1.heap.size; omega)]; exact h2
  clear hb2 bc bf g0 h0 g1 h1 g2 h2
  go_wp2_with fail
  refine bodyPost_ret (v := .agg #[.int .i64 13, .int .i64 2, .slice (some ⟨W1.heap.size, 0, none⟩) 2 2]) (by simp [results, Tryz.results152, go_sem, *]) rfl ⟨by have q := HB2.out; (repeat' (first | (with_reducible exact Below.refl _ _) | (with_reducible assumption) | (with_reducible apply Below.setCell) | (with_reducible apply Below.alloc) | (with_reducible apply Below.drew) | (with_reducible apply below_drewN) | (with_reducible refine Below.trans ?_ (Below.mono (by assumption) ?_)) | omega | (simp; done) | (simp; omega))), some ⟨W1.heap.size, 0, none⟩, 2, rfl, ?_⟩
  exact (((HL2.out.low (p := ⟨w.heap.size + 1, 0, none⟩) (by simp) _).low (p := ⟨w.heap.size + 1, 1, none⟩) (by simp) _).low (p := ⟨w.heap.size + 1, 2, none⟩) (by simp) _).to (fun q hq => ⟨⟨by omega, hq.2⟩, rfl⟩)
set_option maxHeartbeats 2000000 in
theorem thingM_any (y0 y1 y2 y3 y4 y5 y6 : Int) (hy : ∀ y ∈ [y0, y1, y2, y3, y4, y5, y6], -9223372036854775808 ≤ y ∧ y ≤ 9223372036854775807) (w : World) : Calls Tryz.prog 153 #[.agg #[.int .i64 y0, .int .i64 y1, .int .i64 y2, .int .i64 y3, .int .i64 y4, .int .i64 y5, .int .i64 y6]] w fun e w' => e = .returned (.agg #[.int .i64 y0, .int .i64 y1]) ∧ Below w.heap.size w w' := by
  clear hy
  go_enter Tryz.func153, Tryz.ntmps153
  go_wp2_with fail
  exact bodyPost_ret (v := .agg #[.int .i64 y0, .int .i64 y1]) (by simp [results, Tryz.results153, go_sem, *]) rfl ⟨rfl, by (repeat' (first | (with_reducible exact Below.refl _ _) | (with_reducible assumption) | (with_reducible apply Below.setCell) | (with_reducible apply Below.alloc) | (with_reducible apply Below.drew) | (with_reducible apply below_drewN) | (with_reducible refine Below.trans ?_ (Below.mono (by assumption) ?_)) | omega | (simp; done) | (simp; omega)))⟩
theorem mkM_any (w : World) : Calls Tryz.prog 82 #[] w fun e w' => e = .returned (.agg #[.func (.func 150) #[] #[], .func (.func 152) #[] #[], .func (.func 153) #[] #[]]) ∧ Below w.heap.size w w' := by
  go_enter Tryz.func82, Tryz.ntmps82
  go_wp2_with fail
  exact bodyPost_ret (v := .agg #[.func (.func 150) #[] #[], .func (.func 152) #[] #[], .func (.func 153) #[] #[]]) (by simp [results, Tryz.results82, go_sem, *]) rfl ⟨rfl, by (repeat' (first | (with_reducible exact Below.refl _ _) | (with_reducible assumption) | (with_reducible apply Below.setCell) | (with_reducible apply Below.alloc) | (with_reducible apply Below.drew) | (with_reducible apply below_drewN) | (with_reducible refine Below.trans ?_ (Below.mono (by assumption) ?_)) | omega | (simp; done) | (simp; omega)))⟩
theorem entM_m : ∀ args w, (callFunc 150 args).run Tryz.prog w = .ok (.enter 150 args) w := fun args w => by simp [callFunc, Tryz.func150, Tryz.f150, mark]
theorem entM_o : ∀ args w, (callFunc 152 args).run Tryz.prog w = .ok (.enter 152 args) w := fun args w => by simp [callFunc, Tryz.func152, Tryz.f152, mark]
theorem entM_t : ∀ args w, (callFunc 153 args).run Tryz.prog w = .ok (.enter 153 args) w := fun args w => by simp [callFunc, Tryz.func153, Tryz.f153, mark]
set_option maxHeartbeats 2000000 in
theorem Terms_any (x0 x1 : Int) (w : World) : Calls Tryz.prog 49 #[.agg #[.int .i64 x0, .int .i64 x1]] w (SaidEnd (mayM x0 x1) 13 2 [x0, x1] w) := by
  have CM := hidd (fun W => mkM_any W)
  have cs := fun W => saidM_any 150 152 153 entM_m entM_o #[] (mayM x0 x1) 13 2 [x0, x1] x0 x1 W (fun W' _ => mayM_any x0 x1 W') (fun hm W' _ => objM_any x0 x1 hm W')
  unfold SaidEnd at *
  generalize mayM x0 x1 = M at *
  cases M; rotate_left
  · have CS := hidd (fun W => said_yes (cs W))
    clear cs
    obtain ⟨W1, hW1⟩ : ∃ W1, ((w.alloc (.cells #[.int .i64 x0, .int .i64 x1] 35)).alloc (.cells #[.int .i64 0, .int .i64 0, .slice none 0 0] 42)) = W1 := ⟨_, rfl⟩
    have hz1 : W1.heap.size = w.heap.size + 2 := by rw [← hW1]; simp
    have hBw : Below w.heap.size w W1 := by rw [← hW1]; (repeat' (first | (with_reducible exact Below.refl _ _) | (with_reducible assumption) | (with_reducible apply Below.setCell) | (with_reducible apply Below.alloc) | (with_reducible apply Below.drew) | (with_reducible apply below_drewN) | (with_reducible refine Below.trans ?_ (Below.mono (by assumption) ?_)) | omega | (simp; done) | (simp; omega)))
    have g0 : W1.cell? ⟨w.heap.size + 1, 0, none⟩ = some (.int .i64 0) := by rw [← hW1]; simp [go_sem]
    have h0 : W1.frozen? ⟨w.heap.size + 1, 0, none⟩ = false := by rw [← hW1]; simp [go_sem]
    have g1 : W1.cell? ⟨w.heap.size + 1, 1, none⟩ = some (.int .i64 0) := by rw [← hW1]; simp [go_sem]
    have h1 : W1.frozen? ⟨w.heap.size + 1, 1, none⟩ = false := by rw [← hW1]; simp [go_sem]
    have g2 : W1.cell? ⟨w.heap.size + 1, 2, none⟩ = some (.slice none 0 0) := by rw [← hW1]; simp [go_sem]
    have h2 : W1.frozen? ⟨w.heap.size + 1, 2, none⟩ = false := by rw [← hW1]; simp [go_sem]
    have l0 : W1.cell? ⟨w.heap.size, 0, none⟩ = some (.int .i64 x0) := by rw [← hW1]; simp [go_sem]
    have l1 : W1.cell? ⟨w.heap.size, 1, none⟩ = some (.int .i64 x1) := by rw [← hW1]; simp [go_sem]
    have KEEP := hidd (fun (W : World) (hb : Below W1.heap.size W1 W) => (show W.cell? ⟨w.heap.size, 0, none⟩ = some (.int .i64 x0) ∧ W.cell? ⟨w.heap.size, 1, none⟩ = some (.int .i64 x1) from ⟨(hb.cell (p := ⟨w.heap.size, 0, none⟩) (by show w.heap.size < W1.heap.size; omega)).trans l0, (hb.cell (p := ⟨w.heap.size, 1, none⟩) (by show w.heap.size < W1.heap.size; omega)).trans l1⟩))
    have OUT := hidd (fun (W : World) (hb : Below W1.heap.size W1 W) => (show (W.cell? ⟨w.heap.size + 1, 0, none⟩ = some (.int .i64 0) ∧ W.cell? ⟨w.heap.size + 1, 1, none⟩ = some (.int .i64 0) ∧ W.cell? ⟨w.heap.size + 1, 2, none⟩ = some (.slice none 0 0)) ∧ (W.frozen? ⟨w.heap.size + 1, 0, none⟩ = false ∧ W.frozen? ⟨w.heap.size + 1, 1, none⟩ = false ∧ W.frozen? ⟨w.heap.size + 1, 2, none⟩ = false) ∧ w.heap.size + 1 < W.heap.size from ⟨⟨(hb.cell (p := ⟨w.heap.size + 1, 0, none⟩) (by show w.heap.size + 1 < W1.heap.size; omega)).trans g0, (hb.cell (p := ⟨w.heap.size + 1, 1, none⟩) (by show w.heap.size + 1 < W1.heap.size; omega)).trans g1, (hb.cell (p := ⟨w.heap.size + 1, 2, none⟩) (by show w.heap.size + 1 < W1.heap.size; omega)).trans g2⟩, ⟨(hb.frozen (p := ⟨w.heap.size + 1, 0, none⟩) (by show w.heap.size + 1 < W1.heap.size; omega)).trans h0, (hb.frozen (p := ⟨w.heap.size + 1, 1, none⟩) (by show w.heap.size + 1 < W1.heap.size; omega)).trans h1, (hb.frozen (p := ⟨w.heap.size + 1, 2, none⟩) (by show w.heap.size + 1 < W1.heap.size; omega)).trans h2⟩, Nat.lt_of_lt_of_le (by omega) hb.size⟩))
    have HBX := hidd (fun (W : World) (hb : Below W1.heap.size W1 W) => below_step hBw hb)
    have HW1 := hidd hW1
    clear hW1 hBw g0 h0 g1 h1 g2 h2 l0 l1
    obtain ⟨k0, k1⟩ := KEEP.out _ (Below.refl _ _)
    go_enter Tryz.func49, Tryz.ntmps49
    go_wp2_with fail
    rw [HW1.out]
    go_region_held (fun W => W.cell? ⟨w.heap.size, 0, none⟩ = some (.int .i64 x0) ∧ W.cell? ⟨w.heap.size, 1, none⟩ = some (.int .i64 x1))
      ((first | exact KEEP.out _ cum2 | exact KEEP.out _ cum1 | exact KEEP.out _ (Below.refl _ _) | exact KEEP.out _ (Below.drew (Below.refl _ _)) | (obtain ⟨j0, j1⟩ := KEEP.out _ cum2; refine ⟨?_, ?_⟩ <;> simp [go_sem, *]; done)))
      ((first
        | (go_at_call 82; refine ((CM.out _)).mono ?_; rintro E1 v1 ⟨rfl, l1⟩; have cum1 : Below W1.heap.size W1 v1 := (by first | exact below_step (Below.drew (Below.refl _ _)) l1 | exact below_step (Below.refl _ _) l1))
        | (go_at_call 83; have HBW := HBX.out _ cum1; refine ((CS.out _)).mono ?_; rintro E2 v2 ⟨l2, A, k, rfl, hl2⟩; have cum2 : Below W1.heap.size W1 v2 := below_step cum1 l2; obtain ⟨⟨p0, p1, p2⟩, ⟨q0, q1, q2⟩, hzz⟩ := OUT.out _ cum2; have HB2 := hidd (HBX.out _ cum2))))
    all_goals have HL := hidd (hl2.to (p' := fun q => w.heap.size + 1 + 1 ≤ q ∧ q < v2.heap.size) (fun q hq => ⟨⟨by have := cum1.size; omega, hq.2⟩, rfl⟩))
    all_goals clear hl2
    all_goals go_wp2_with fail
    all_goals refine bodyPost_ret (v := .tuple #[.agg #[.int .i64 13, .int .i64 2, .slice A 2 k], .int .i64 0]) (by simp [results, Tryz.results49, go_sem, *]) rfl ⟨by have q := HB2.out; (repeat' (first | (with_reducible exact Below.refl _ _) | (with_reducible assumption) | (with_reducible apply Below.setCell) | (with_reducible apply Below.alloc) | (with_reducible apply Below.drew) | (with_reducible apply below_drewN) | (with_reducible refine Below.trans ?_ (Below.mono (by assumption) ?_)) | omega | (simp; done) | (simp; omega))), .inl ⟨(by first | exact rfl | exact trivial), A, k, rfl, ?_⟩⟩
    all_goals exact (((HL.out.low (p := ⟨w.heap.size + 1, 0, none⟩) (by simp) _).low (p := ⟨w.heap.size + 1, 1, none⟩) (by simp) _).low (p := ⟨w.heap.size + 1, 2, none⟩) (by simp) _).to (fun q hq => ⟨⟨by omega, hq.2⟩, rfl⟩)
  
  · have CS := hidd (fun W => said_no (cs W))
    clear cs
    obtain ⟨W1, hW1⟩ : ∃ W1, ((w.alloc (.cells #[.int .i64 x0, .int .i64 x1] 35)).alloc (.cells #[.int .i64 0, .int .i64 0, .slice none 0 0] 42)) = W1 := ⟨_, rfl⟩
    have hz1 : W1.heap.size = w.heap.size + 2 := by rw [← hW1]; simp
    have hBw : Below w.heap.size w W1 := by rw [← hW1]; (repeat' (first | (with_reducible exact Below.refl _ _) | (with_reducible assumption) | (with_reducible apply Below.setCell) | (with_reducible apply Below.alloc) | (with_reducible apply Below.drew) | (with_reducible apply below_drewN) | (with_reducible refine Below.trans ?_ (Below.mono (by assumption) ?_)) | omega | (simp; done) | (simp; omega)))
    have g0 : W1.cell? ⟨w.heap.size + 1, 0, none⟩ = some (.int .i64 0) := by rw [← hW1]; simp [go_sem]
    have h0 : W1.frozen? ⟨w.heap.size + 1, 0, none⟩ = false := by rw [← hW1]; simp [go_sem]
    have g1 : W1.cell? ⟨w.heap.size + 1, 1, none⟩ = some (.int .i64 0) := by rw [← hW1]; simp [go_sem]
    have h1 : W1.frozen? ⟨w.heap.size + 1, 1, none⟩ = false := by rw [← hW1]; simp [go_sem]
    have g2 : W1.cell? ⟨w.heap.size + 1, 2, none⟩ = some (.slice none 0 0) := by rw [← hW1]; simp [go_sem]
    have h2 : W1.frozen? ⟨w.heap.size + 1, 2, none⟩ = false := by rw [← hW1]; simp [go_sem]
    have l0 : W1.cell? ⟨w.heap.size, 0, none⟩ = some (.int .i64 x0) := by rw [← hW1]; simp [go_sem]
    have l1 : W1.cell? ⟨w.heap.size, 1, none⟩ = some (.int .i64 x1) := by rw [← hW1]; simp [go_sem]
    have KEEP := hidd (fun (W : World) (hb : Below W1.heap.size W1 W) => (show W.cell? ⟨w.heap.size, 0, none⟩ = some (.int .i64 x0) ∧ W.cell? ⟨w.heap.size, 1, none⟩ = some (.int .i64 x1) from ⟨(hb.cell (p := ⟨w.heap.size, 0, none⟩) (by show w.heap.size < W1.heap.size; omega)).trans l0, (hb.cell (p := ⟨w.heap.size, 1, none⟩) (by show w.heap.size < W1.heap.size; omega)).trans l1⟩))
    have OUT := hidd (fun (W : World) (hb : Below W1.heap.size W1 W) => (show (W.cell? ⟨w.heap.size + 1, 0, none⟩ = some (.int .i64 0) ∧ W.cell? ⟨w.heap.size + 1, 1, none⟩ = some (.int .i64 0) ∧ W.cell? ⟨w.heap.size + 1, 2, none⟩ = some (.slice none 0 0)) ∧ (W.frozen? ⟨w.heap.size + 1, 0, none⟩ = false ∧ W.frozen? ⟨w.heap.size + 1, 1, none⟩ = false ∧ W.frozen? ⟨w.heap.size + 1, 2, none⟩ = false) ∧ w.heap.size + 1 < W.heap.size from ⟨⟨(hb.cell (p := ⟨w.heap.size + 1, 0, none⟩) (by show w.heap.size + 1 < W1.heap.size; omega)).trans g0, (hb.cell (p := ⟨w.heap.size + 1, 1, none⟩) (by show w.heap.size + 1 < W1.heap.size; omega)).trans g1, (hb.cell (p := ⟨w.heap.size + 1, 2, none⟩) (by show w.heap.size + 1 < W1.heap.size; omega)).trans g2⟩, ⟨(hb.frozen (p := ⟨w.heap.size + 1, 0, none⟩) (by show w.heap.size + 1 < W1.heap.size; omega)).trans h0, (hb.frozen (p := ⟨w.heap.size + 1, 1, none⟩) (by show w.heap.size + 1 < W1.heap.size; omega)).trans h1, (hb.frozen (p := ⟨w.heap.size + 1, 2, none⟩) (by show w.heap.size + 1 < W1.heap.size; omega)).trans h2⟩, Nat.lt_of_lt_of_le (by omega) hb.size⟩))
    have HBX := hidd (fun (W : World) (hb : Below W1.heap.size W1 W) => below_step hBw hb)
    have HW1 := hidd hW1
    clear hW1 hBw g0 h0 g1 h1 g2 h2 l0 l1
    obtain ⟨k0, k1⟩ := KEEP.out _ (Below.refl _ _)
    go_enter Tryz.func49, Tryz.ntmps49
    go_wp2_with fail
    rw [HW1.out]
    go_region_held (fun W => W.cell? ⟨w.heap.size, 0, none⟩ = some (.int .i64 x0) ∧ W.cell? ⟨w.heap.size, 1, none⟩ = some (.int .i64 x1))
      ((first | exact KEEP.out _ cum2 | exact KEEP.out _ cum1 | exact KEEP.out _ (Below.refl _ _) | exact KEEP.out _ (Below.drew (Below.refl _ _)) | (obtain ⟨j0, j1⟩ := KEEP.out _ cum2; refine ⟨?_, ?_⟩ <;> simp [go_sem, *]; done)))
      ((first
        | (go_at_call 82; refine ((CM.out _)).mono ?_; rintro E1 v1 ⟨rfl, l1⟩; have cum1 : Below W1.heap.size W1 v1 := (by first | exact below_step (Below.drew (Below.refl _ _)) l1 | exact below_step (Below.refl _ _) l1))
        | (go_at_call 83; have HBW := HBX.out _ cum1; refine ((CS.out _)).mono ?_; rintro E2 v2 ⟨l2, rfl⟩; have cum2 : Below W1.heap.size W1 v2 := below_step cum1 l2; obtain ⟨⟨p0, p1, p2⟩, ⟨q0, q1, q2⟩, hzz⟩ := OUT.out _ cum2; have HB2 := hidd (HBX.out _ cum2))))
    all_goals go_wp2_with fail
    all_goals exact bodyPost_ret (v := .tuple #[.agg #[.int .i64 0, .int .i64 0, .slice none 0 0], .int .i64 2]) (by simp [results, Tryz.results49, go_sem, *]) rfl ⟨by have q := HB2.out; (repeat' (first | (with_reducible exact Below.refl _ _) | (with_reducible assumption) | (with_reducible apply Below.setCell) | (with_reducible apply Below.alloc) | (with_reducible apply Below.drew) | (with_reducible apply below_drewN) | (with_reducible refine Below.trans ?_ (Below.mono (by assumption) ?_)) | omega | (simp; done) | (simp; omega))), .inr ⟨(by first | exact rfl | exact trivial), rfl⟩⟩
set_option maxHeartbeats 2000000 in
theorem AsTerms_any (c t : Int) (A : Option Addr) (ws : List Int) (m : Nat) (hws : ws.length ≤ 9223372036854775807) (hwb : ∀ x ∈ ws, -9223372036854775808 ≤ x ∧ x ≤ 9223372036854775807) (w : World) (hl : LieQ wdV 1 w (· < w.heap.size) A ws) :
    Calls Tryz.prog 52 #[.agg #[.int .i64 c, .int .i64 t, .slice A ws.length m]] w (HeardM (mayM ((av ws 0)) ((av ws 1)) && sameB 13 2 [((av ws 0)), ((av ws 1))] c t ws) ((av ws 0)) ((av ws 1)) w) := by
  have CM := hidd (fun W => mkM_any W)
  have hy := av_bounds hwb
  have CH := hidd (fun W (h : LieQ wdV 1 W (· < W.heap.size) A ws) => heardM_any 150 152 153 entM_m entM_o entM_t #[] (mayM ((av ws 0)) ((av ws 1))) 13 2 [((av ws 0)), ((av ws 1))] (by simp) ((av ws 0)) ((av ws 1)) c t A ws m hws W h (fun W' _ => thingM_any _ _ _ _ _ _ _ hy W') (fun W' _ => mayM_any ((av ws 0)) ((av ws 1)) W') (fun hm W' _ => objM_any ((av ws 0)) ((av ws 1)) hm W'))
  have HL := hidd hl
  generalize (mayM ((av ws 0)) ((av ws 1)) && sameB 13 2 [((av ws 0)), ((av ws 1))] c t ws) = G at *
  generalize (av ws 0) = z0 at *
  generalize (av ws 1) = z1 at *
  clear hl hy hwb hws
  unfold HeardM at *
  cases G; rotate_left
  · have CS := hidd (fun W h => heard_yes (CH.out W h))
    have HL1 := hidd (fun W (hb : Below w.heap.size w W) => HL.out.below hb)
    clear CH
    obtain ⟨W1, hW1⟩ : ∃ W1, ((w.alloc (.cells #[.int .i64 c, .int .i64 t, .slice A ws.length m] 42)).alloc (.cells #[.int .i64 0, .int .i64 0] 35)) = W1 := ⟨_, rfl⟩
    have hz1 : W1.heap.size = w.heap.size + 2 := by rw [← hW1]; simp
    have hBw : Below w.heap.size w W1 := by rw [← hW1]; (repeat' (first | (with_reducible exact Below.refl _ _) | (with_reducible assumption) | (with_reducible apply Below.setCell) | (with_reducible apply Below.alloc) | (with_reducible apply Below.drew) | (with_reducible apply below_drewN) | (with_reducible refine Below.trans ?_ (Below.mono (by assumption) ?_)) | omega | (simp; done) | (simp; omega)))
    have g0 : W1.cell? ⟨w.heap.size + 1, 0, none⟩ = some (.int .i64 0) := by rw [← hW1]; simp [go_sem]
    have h0 : W1.frozen? ⟨w.heap.size + 1, 0, none⟩ = false := by rw [← hW1]; simp [go_sem]
    have g1 : W1.cell? ⟨w.heap.size + 1, 1, none⟩ = some (.int .i64 0) := by rw [← hW1]; simp [go_sem]
    have h1 : W1.frozen? ⟨w.heap.size + 1, 1, none⟩ = false := by rw [← hW1]; simp [go_sem]
    have l0 : W1.cell? ⟨w.heap.size, 0, none⟩ = some (.int .i64 c) := by rw [← hW1]; simp [go_sem]
    have l1 : W1.cell? ⟨w.heap.size, 1, none⟩ = some (.int .i64 t) := by rw [← hW1]; simp [go_sem]
    have l2 : W1.cell? ⟨w.heap.size, 2, none⟩ = some (.slice A ws.length m) := by rw [← hW1]; simp [go_sem]
    have KEEP := hidd (fun (W : World) (hb : Below W1.heap.size W1 W) => (show W.cell? ⟨w.heap.size, 0, none⟩ = some (.int .i64 c) ∧ W.cell? ⟨w.heap.size, 1, none⟩ = some (.int .i64 t) ∧ W.cell? ⟨w.heap.size, 2, none⟩ = some (.slice A ws.length m) from ⟨(hb.cell (p := ⟨w.heap.size, 0, none⟩) (by show w.heap.size < W1.heap.size; omega)).trans l0, (hb.cell (p := ⟨w.heap.size, 1, none⟩) (by show w.heap.size < W1.heap.size; omega)).trans l1, (hb.cell (p := ⟨w.heap.size, 2, none⟩) (by show w.heap.size < W1.heap.size; omega)).trans l2⟩))
    have OUT := hidd (fun (W : World) (hb : Below W1.heap.size W1 W) => (show (W.cell? ⟨w.heap.size + 1, 0, none⟩ = some (.int .i64 0) ∧ W.cell? ⟨w.heap.size + 1, 1, none⟩ = some (.int .i64 0)) ∧ (W.frozen? ⟨w.heap.size + 1, 0, none⟩ = false ∧ W.frozen? ⟨w.heap.size + 1, 1, none⟩ = false) ∧ w.heap.size + 1 < W.heap.size from ⟨⟨(hb.cell (p := ⟨w.heap.size + 1, 0, none⟩) (by show w.heap.size + 1 < W1.heap.size; omega)).trans g0, (hb.cell (p := ⟨w.heap.size + 1, 1, none⟩) (by show w.heap.size + 1 < W1.heap.size; omega)).trans g1⟩, ⟨(hb.frozen (p := ⟨w.heap.size + 1, 0, none⟩) (by show w.heap.size + 1 < W1.heap.size; omega)).trans h0, (hb.frozen (p := ⟨w.heap.size + 1, 1, none⟩) (by show w.heap.size + 1 < W1.heap.size; omega)).trans h1⟩, Nat.lt_of_lt_of_le (by omega) hb.size⟩))
    have HBX := hidd (fun (W : World) (hb : Below W1.heap.size W1 W) => below_step hBw hb)
    have HW1 := hidd hW1
    clear hW1 hBw g0 h0 g1 h1 l0 l1 l2
    obtain ⟨k0, k1, k2⟩ := KEEP.out _ (Below.refl _ _)
    go_enter Tryz.func52, Tryz.ntmps52
    go_wp2_with fail
    rw [HW1.out]
    go_region_held (fun W => W.cell? ⟨w.heap.size, 0, none⟩ = some (.int .i64 c) ∧ W.cell? ⟨w.heap.size, 1, none⟩ = some (.int .i64 t) ∧ W.cell? ⟨w.heap.size, 2, none⟩ = some (.slice A ws.length m))
      ((first | exact KEEP.out _ cum2 | exact KEEP.out _ cum1 | exact KEEP.out _ (Below.refl _ _) | exact KEEP.out _ (Below.drew (Below.refl _ _)) | (obtain ⟨j0, j1, j2⟩ := KEEP.out _ cum2; refine ⟨?_, ?_, ?_⟩ <;> simp [go_sem, *]; done)))
      ((first
        | (go_at_call 82; refine ((CM.out _)).mono ?_; rintro E1 v1 ⟨rfl, l1⟩; have cum1 : Below W1.heap.size W1 v1 := (by first | exact below_step (Below.drew (Below.refl _ _)) l1 | exact below_step (Below.refl _ _) l1))
        | (go_at_call 85; have HBW := HBX.out _ cum1; refine ((CS.out _ (HL1.out _ HBW))).mono ?_; rintro E2 v2 ⟨l2, rfl⟩; have cum2 : Below W1.heap.size W1 v2 := below_step cum1 l2; obtain ⟨⟨p0, p1⟩, ⟨q0, q1⟩, hzz⟩ := OUT.out _ cum2; have HB2 := hidd (HBX.out _ cum2))))
    all_goals go_wp2_with fail
    all_goals exact bodyPost_ret (v := .tuple #[.agg #[.int .i64 z0, .int .i64 z1], .int .i64 0]) (by simp [results, Tryz.results52, go_sem, *]) rfl ⟨by have q := HB2.out; (repeat' (first | (with_reducible exact Below.refl _ _) | (with_reducible assumption) | (with_reducible apply Below.setCell) | (with_reducible apply Below.alloc) | (with_reducible apply Below.drew) | (with_reducible apply below_drewN) | (with_reducible refine Below.trans ?_ (Below.mono (by assumption) ?_)) | omega | (simp; done) | (simp; omega))), .inl ⟨(by first | exact rfl | exact trivial), rfl⟩⟩
  
  · have CS := hidd (fun W h => heard_no (CH.out W h))
    have HL1 := hidd (fun W (hb : Below w.heap.size w W) => HL.out.below hb)
    clear CH
    obtain ⟨W1, hW1⟩ : ∃ W1, ((w.alloc (.cells #[.int .i64 c, .int .i64 t, .slice A ws.length m] 42)).alloc (.cells #[.int .i64 0, .int .i64 0] 35)) = W1 := ⟨_, rfl⟩
    have hz1 : W1.heap.size = w.heap.size + 2 := by rw [← hW1]; simp
    have hBw : Below w.heap.size w W1 := by rw [← hW1]; (repeat' (first | (with_reducible exact Below.refl _ _) | (with_reducible assumption) | (with_reducible apply Below.setCell) | (with_reducible apply Below.alloc) | (with_reducible apply Below.drew) | (with_reducible apply below_drewN) | (with_reducible refine Below.trans ?_ (Below.mono (by assumption) ?_)) | omega | (simp; done) | (simp; omega)))
    have g0 : W1.cell? ⟨w.heap.size + 1, 0, none⟩ = some (.int .i64 0) := by rw [← hW1]; simp [go_sem]
    have h0 : W1.frozen? ⟨w.heap.size + 1, 0, none⟩ = false := by rw [← hW1]; simp [go_sem]
    have g1 : W1.cell? ⟨w.heap.size + 1, 1, none⟩ = some (.int .i64 0) := by rw [← hW1]; simp [go_sem]
    have h1 : W1.frozen? ⟨w.heap.size + 1, 1, none⟩ = false := by rw [← hW1]; simp [go_sem]
    have l0 : W1.cell? ⟨w.heap.size, 0, none⟩ = some (.int .i64 c) := by rw [← hW1]; simp [go_sem]
    have l1 : W1.cell? ⟨w.heap.size, 1, none⟩ = some (.int .i64 t) := by rw [← hW1]; simp [go_sem]
    have l2 : W1.cell? ⟨w.heap.size, 2, none⟩ = some (.slice A ws.length m) := by rw [← hW1]; simp [go_sem]
    have KEEP := hidd (fun (W : World) (hb : Below W1.heap.size W1 W) => (show W.cell? ⟨w.heap.size, 0, none⟩ = some (.int .i64 c) ∧ W.cell? ⟨w.heap.size, 1, none⟩ = some (.int .i64 t) ∧ W.cell? ⟨w.heap.size, 2, none⟩ = some (.slice A ws.length m) from ⟨(hb.cell (p := ⟨w.heap.size, 0, none⟩) (by show w.heap.size < W1.heap.size; omega)).trans l0, (hb.cell (p := ⟨w.heap.size, 1, none⟩) (by show w.heap.size < W1.heap.size; omega)).trans l1, (hb.cell (p := ⟨w.heap.size, 2, none⟩) (by show w.heap.size < W1.heap.size; omega)).trans l2⟩))
    have OUT := hidd (fun (W : World) (hb : Below W1.heap.size W1 W) => (show (W.cell? ⟨w.heap.size + 1, 0, none⟩ = some (.int .i64 0) ∧ W.cell? ⟨w.heap.size + 1, 1, none⟩ = some (.int .i64 0)) ∧ (W.frozen? ⟨w.heap.size + 1, 0, none⟩ = false ∧ W.frozen? ⟨w.heap.size + 1, 1, none⟩ = false) ∧ w.heap.size + 1 < W.heap.size from ⟨⟨(hb.cell (p := ⟨w.heap.size + 1, 0, none⟩) (by show w.heap.size + 1 < W1.heap.size; omega)).trans g0, (hb.cell (p := ⟨w.heap.size + 1, 1, none⟩) (by show w.heap.size + 1 < W1.heap.size; omega)).trans g1⟩, ⟨(hb.frozen (p := ⟨w.heap.size + 1, 0, none⟩) (by show w.heap.size + 1 < W1.heap.size; omega)).trans h0, (hb.frozen (p := ⟨w.heap.size + 1, 1, none⟩) (by show w.heap.size + 1 < W1.heap.size; omega)).trans h1⟩, Nat.lt_of_lt_of_le (by omega) hb.size⟩))
    have HBX := hidd (fun (W : World) (hb : Below W1.heap.size W1 W) => below_step hBw hb)
    have HW1 := hidd hW1
    clear hW1 hBw g0 h0 g1 h1 l0 l1 l2
    obtain ⟨k0, k1, k2⟩ := KEEP.out _ (Below.refl _ _)
    go_enter Tryz.func52, Tryz.ntmps52
    go_wp2_with fail
    rw [HW1.out]
    go_region_held (fun W => W.cell? ⟨w.heap.size, 0, none⟩ = some (.int .i64 c) ∧ W.cell? ⟨w.heap.size, 1, none⟩ = some (.int .i64 t) ∧ W.cell? ⟨w.heap.size, 2, none⟩ = some (.slice A ws.length m))
      ((first | exact KEEP.out _ cum2 | exact KEEP.out _ cum1 | exact KEEP.out _ (Below.refl _ _) | exact KEEP.out _ (Below.drew (Below.refl _ _)) | (obtain ⟨j0, j1, j2⟩ := KEEP.out _ cum2; refine ⟨?_, ?_, ?_⟩ <;> simp [go_sem, *]; done)))
      ((first
        | (go_at_call 82; refine ((CM.out _)).mono ?_; rintro E1 v1 ⟨rfl, l1⟩; have cum1 : Below W1.heap.size W1 v1 := (by first | exact below_step (Below.drew (Below.refl _ _)) l1 | exact below_step (Below.refl _ _) l1))
        | (go_at_call 85; have HBW := HBX.out _ cum1; refine ((CS.out _ (HL1.out _ HBW))).mono ?_; rintro E2 v2 ⟨l2, rfl⟩; have cum2 : Below W1.heap.size W1 v2 := below_step cum1 l2; obtain ⟨⟨p0, p1⟩, ⟨q0, q1⟩, hzz⟩ := OUT.out _ cum2; have HB2 := hidd (HBX.out _ cum2))))
    all_goals go_wp2_with fail
    all_goals exact bodyPost_ret (v := .tuple #[.agg #[.int .i64 0, .int .i64 0], .int .i64 171]) (by simp [results, Tryz.results52, go_sem, *]) rfl ⟨by have q := HB2.out; (repeat' (first | (with_reducible exact Below.refl _ _) | (with_reducible assumption) | (with_reducible apply Below.setCell) | (with_reducible apply Below.alloc) | (with_reducible apply Below.drew) | (with_reducible apply below_drewN) | (with_reducible refine Below.trans ?_ (Below.mono (by assumption) ?_)) | omega | (simp; done) | (simp; omega))), .inr ⟨(by first | exact rfl | exact trivial), rfl⟩⟩
end Go.Proofs.YtappmacnoopmkaaGreat
