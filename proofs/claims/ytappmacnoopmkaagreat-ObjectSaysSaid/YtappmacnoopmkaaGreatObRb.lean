/- Objects: the document's wish and style. -/
import Derived.Test.YtappmacnoopmkaaGreatObRa
import Derived.Test.YtappmacnoopmkaaGreatObIWa
import Derived.Test.YtappmacnoopmkaaGreatObIYa
namespace Go.Proofs.YtappmacnoopmkaaGreat
set_option linter.unusedVariables false
open Go.RowKit

set_option maxHeartbeats 2000000 in
theorem refmayW_any (x0 x1 x2 x3 x4 x5 x6 : Int) (w : World) : Calls Tryz.prog 25 #[.agg #[.int .i64 x0, .int .i64 x1, .int .i64 x2, .int .i64 x3, .int .i64 x4, .int .i64 x5, .int .i64 x6]] w fun e w' => e = .returned (.bool (mayW x0 x1 x2 x3 x4 x5 x6)) ∧ Below w.heap.size w w' := by
  have c0 := hidd (fun W => refRight2 x0 x1 x2 x3 x4 W)
  have c1 := hidd (fun W => refWithin_any x1 x5 1000000 W)
  have c2 := hidd (fun W => refWithin_any 0 x6 1000000 W)
  have KX := hidd (fun (W : World) (hb : Below (w.alloc (.cells #[.int .i64 x0, .int .i64 x1, .int .i64 x2, .int .i64 x3, .int .i64 x4, .int .i64 x5, .int .i64 x6] 32)).heap.size (w.alloc (.cells #[.int .i64 x0, .int .i64 x1, .int .i64 x2, .int .i64 x3, .int .i64 x4, .int .i64 x5, .int .i64 x6] 32)) W) => (show W.cell? ⟨w.heap.size, 1, none⟩ = some (.int .i64 x1) ∧ W.cell? ⟨w.heap.size, 5, none⟩ = some (.int .i64 x5) ∧ W.cell? ⟨w.heap.size, 6, none⟩ = some (.int .i64 x6) from
    ⟨(hb.cell (p := ⟨w.heap.size, 1, none⟩) (by simp)).trans (by simp [go_sem]), (hb.cell (p := ⟨w.heap.size, 5, none⟩) (by simp)).trans (by simp [go_sem]), (hb.cell (p := ⟨w.heap.size, 6, none⟩) (by simp)).trans (by simp [go_sem])⟩))
  have HB0 := hidd (below_new (Below.refl w.heap.size w) (.cells #[.int .i64 x0, .int .i64 x1, .int .i64 x2, .int .i64 x3, .int .i64 x4, .int .i64 x5, .int .i64 x6] 32))
  unfold mayW
  generalize Zp.rightB x0 x1 x2 x3 x4 = B0 at *
  generalize inB x1 x5 1000000 = B1 at *
  generalize inB 0 x6 1000000 = B2 at *
  cases B0
  · go_enter Tryz.func25, Tryz.ntmps25
    go_wp2_with fail
    refine (c0.out _).mono ?_
    rintro e w1 ⟨rfl, hb1⟩
    have HB1 := hidd (below_step HB0.out hb1)
    obtain ⟨k1, k5, k6⟩ := KX.out _ hb1
    clear hb1
    go_wp2_with fail
    go_ret
    exact ⟨by first | rfl | simp, HB1.out⟩
  cases B1
  · go_enter Tryz.func25, Tryz.ntmps25
    go_wp2_with fail
    refine (c0.out _).mono ?_
    rintro e w1 ⟨rfl, hb1⟩
    have HB1 := hidd (below_step HB0.out hb1)
    obtain ⟨k1, k5, k6⟩ := KX.out _ hb1
    clear hb1
    go_wp2_with fail
    refine (c1.out _).mono ?_
    rintro e w2 ⟨rfl, rfl⟩
    go_wp2_with fail
    go_ret
    exact ⟨by first | rfl | simp, HB1.out⟩
  go_enter Tryz.func25, Tryz.ntmps25
  go_wp2_with fail
  refine (c0.out _).mono ?_
  rintro e w1 ⟨rfl, hb1⟩
  have HB1 := hidd (below_step HB0.out hb1)
  obtain ⟨k1, k5, k6⟩ := KX.out _ hb1
  clear hb1
  go_wp2_with fail
  refine (c1.out _).mono ?_
  rintro e w2 ⟨rfl, rfl⟩
  go_wp2_with fail
  refine (c2.out _).mono ?_
  rintro e w3 ⟨rfl, rfl⟩
  go_wp2_with fail
  go_ret
  exact ⟨by first | rfl | simp, HB1.out⟩
set_option maxHeartbeats 2000000 in
theorem refobjWish_any (x0 x1 x2 x3 x4 x5 x6 : Int) (w : World) : Calls Tryz.prog 26 #[.agg #[.int .i64 x0, .int .i64 x1, .int .i64 x2, .int .i64 x3, .int .i64 x4, .int .i64 x5, .int .i64 x6]] w (ObjEnd 9 2 [x1, x2, x0, x4, x3, x5, x6] w) := by
  obtain ⟨W1, hW1⟩ : ∃ W1, (((w.alloc (.cells #[.int .i64 x0, .int .i64 x1, .int .i64 x2, .int .i64 x3, .int .i64 x4, .int .i64 x5, .int .i64 x6] 32)).alloc (.cells #[.int .i64 0, .int .i64 0, .slice none 0 0] 42)).alloc (.cells #[.int .i64 x0, .int .i64 x1, .int .i64 x2, .int .i64 x3, .int .i64 x4] 30)) = W1 := ⟨_, rfl⟩
  have hz1 : W1.heap.size = w.heap.size + 3 := by rw [← hW1]; simp
  have hb1 : Below w.heap.size w W1 := by rw [← hW1]; (repeat' (first | (with_reducible exact Below.refl _ _) | (with_reducible assumption) | (with_reducible apply Below.setCell) | (with_reducible apply Below.alloc) | (with_reducible apply Below.drew) | (with_reducible apply below_drewN) | (with_reducible refine Below.trans ?_ (Below.mono (by assumption) ?_)) | omega | (simp; done) | (simp; omega)))
  have g0 : W1.cell? ⟨w.heap.size + 1, 0, none⟩ = some (.int .i64 0) := by rw [← hW1]; simp [go_sem]
  have h0 : W1.frozen? ⟨w.heap.size + 1, 0, none⟩ = false := by rw [← hW1]; simp [go_sem]
  have g1 : W1.cell? ⟨w.heap.size + 1, 1, none⟩ = some (.int .i64 0) := by rw [← hW1]; simp [go_sem]
  have h1 : W1.frozen? ⟨w.heap.size + 1, 1, none⟩ = false := by rw [← hW1]; simp [go_sem]
  have g2 : W1.cell? ⟨w.heap.size + 1, 2, none⟩ = some (.slice none 0 0) := by rw [← hW1]; simp [go_sem]
  have h2 : W1.frozen? ⟨w.heap.size + 1, 2, none⟩ = false := by rw [← hW1]; simp [go_sem]
  have HL := hidd (lie_new W1 [x1, x2, x0, x4, x3, x5, x6] 2 _ rfl (fun q => w.heap.size + 3 ≤ q ∧ q < W1.heap.size + 1) ⟨by omega, by omega⟩)
  have HB1 := hidd hb1
  have HW1 := hidd hW1
  clear hW1 hb1
  unfold ObjEnd
  go_enter Tryz.func26, Tryz.ntmps26
  go_wp2_with fail
  rw [HW1.out]
  refine (refobject_any _ _ _ _ _ _).mono ?_
  rintro e w2 ⟨rfl, hb2⟩
  have HB2 := hidd (below_step (below_new HB1.out (.cells #[.int .i64 x1, .int .i64 x2, .int .i64 x0, .int .i64 x4, .int .i64 x3, .int .i64 x5, .int .i64 x6] 2)) hb2)
  have hz2 : W1.heap.size < w2.heap.size := by have := hb2.size; simp at this; omega
  have HL2 := hidd (HL.out.to (w' := w2) (p' := fun q => w.heap.size + 3 ≤ q ∧ q < w2.heap.size) (fun q hq => ⟨⟨hq.1, by omega⟩, hb2.block q (by simpa using hq.2)⟩))
  obtain ⟨bc, bf⟩ := bcell hb2
  have p0 : w2.cell? ⟨w.heap.size + 1, 0, none⟩ = some (.int .i64 0) := by rw [bc _ _ (by simp; omega), (below_new (Below.refl W1.heap.size W1) _).cell (p := ⟨w.heap.size + 1, 0, none⟩) (by show w.heap.size + 1 < W1.heap.size; omega)]; exact g0
  have q0 : w2.frozen? ⟨w.heap.size + 1, 0, none⟩ = false := by rw [bf _ _ (by simp; omega), (below_new (Below.refl W1.heap.size W1) _).frozen (p := ⟨w.heap.size + 1, 0, none⟩) (by show w.heap.size + 1 < W1.heap.size; omega)]; exact h0
  have p1 : w2.cell? ⟨w.heap.size + 1, 1, none⟩ = some (.int .i64 0) := by rw [bc _ _ (by simp; omega), (below_new (Below.refl W1.heap.size W1) _).cell (p := ⟨w.heap.size + 1, 1, none⟩) (by show w.heap.size + 1 < W1.heap.size; omega)]; exact g1
  have q1 : w2.frozen? ⟨w.heap.size + 1, 1, none⟩ = false := by rw [bf _ _ (by simp; omega), (below_new (Below.refl W1.heap.size W1) _).frozen (p := ⟨w.heap.size + 1, 1, none⟩) (by show w.heap.size + 1 < W1.heap.size; omega)]; exact h1
  have p2 : w2.cell? ⟨w.heap.size + 1, 2, none⟩ = some (.slice none 0 0) := by rw [bc _ _ (by simp; omega), (below_new (Below.refl W1.heap.size W1) _).cell (p := ⟨w.heap.size + 1, 2, none⟩) (by show w.heap.size + 1 < W1.heap.size; omega)]; exact g2
  have q2 : w2.frozen? ⟨w.heap.size + 1, 2, none⟩ = false := by rw [bf _ _ (by simp; omega), (below_new (Below.refl W1.heap.size W1) _).frozen (p := ⟨w.heap.size + 1, 2, none⟩) (by show w.heap.size + 1 < W1.heap.size; omega)]; exact h2
  clear hb2 bc bf g0 h0 g1 h1 g2 h2
  go_wp2_with fail
  refine bodyPost_ret (v := .agg #[.int .i64 9, .int .i64 2, .slice (some ⟨W1.heap.size, 0, none⟩) 7 7]) (by simp [results, Tryz.results26, go_sem, *]) rfl ⟨by have q := HB2.out; (repeat' (first | (with_reducible exact Below.refl _ _) | (with_reducible assumption) | (with_reducible apply Below.setCell) | (with_reducible apply Below.alloc) | (with_reducible apply Below.drew) | (with_reducible apply below_drewN) | (with_reducible refine Below.trans ?_ (Below.mono (by assumption) ?_)) | omega | (simp; done) | (simp; omega))), some ⟨W1.heap.size, 0, none⟩, 7, rfl, ?_⟩
  exact (((HL2.out.low (p := ⟨w.heap.size + 1, 0, none⟩) (by simp) _).low (p := ⟨w.heap.size + 1, 1, none⟩) (by simp) _).low (p := ⟨w.heap.size + 1, 2, none⟩) (by simp) _).to (fun q hq => ⟨⟨by omega, hq.2⟩, rfl⟩)
set_option maxHeartbeats 2000000 in
theorem refobjStyle1  (w : World) : Calls Tryz.prog 23 #[.int .i64 1] w (ObjEnd 8 1 [10] w) := by
  obtain ⟨W1, hW1⟩ : ∃ W1, ((w.alloc (.cells #[.int .i64 0, .int .i64 0, .slice none 0 0] 42)).alloc (.cells #[.int .i64 0, .int .i64 10, .int .i64 18, .int .i64 17] 2)) = W1 := ⟨_, rfl⟩
  have hz1 : W1.heap.size = w.heap.size + 2 := by rw [← hW1]; simp
  have hb1 : Below w.heap.size w W1 := by rw [← hW1]; (repeat' (first | (with_reducible exact Below.refl _ _) | (with_reducible assumption) | (with_reducible apply Below.setCell) | (with_reducible apply Below.alloc) | (with_reducible apply Below.drew) | (with_reducible apply below_drewN) | (with_reducible refine Below.trans ?_ (Below.mono (by assumption) ?_)) | omega | (simp; done) | (simp; omega)))
  have g0 : W1.cell? ⟨w.heap.size, 0, none⟩ = some (.int .i64 0) := by rw [← hW1]; simp [go_sem]
  have h0 : W1.frozen? ⟨w.heap.size, 0, none⟩ = false := by rw [← hW1]; simp [go_sem]
  have g1 : W1.cell? ⟨w.heap.size, 1, none⟩ = some (.int .i64 0) := by rw [← hW1]; simp [go_sem]
  have h1 : W1.frozen? ⟨w.heap.size, 1, none⟩ = false := by rw [← hW1]; simp [go_sem]
  have g2 : W1.cell? ⟨w.heap.size, 2, none⟩ = some (.slice none 0 0) := by rw [← hW1]; simp [go_sem]
  have h2 : W1.frozen? ⟨w.heap.size, 2, none⟩ = false := by rw [← hW1]; simp [go_sem]
  have HL := hidd (lie_new W1 [10] 2 _ rfl (fun q => w.heap.size + 2 ≤ q ∧ q < W1.heap.size + 1) ⟨by omega, by omega⟩)
  have HB1 := hidd hb1
  have HW1 := hidd hW1
  clear hW1 hb1
  unfold ObjEnd
  go_enter Tryz.func23, Tryz.ntmps23
  go_wp2_with fail
  rw [HW1.out]
  refine (refobject_any _ _ _ _ _ _).mono ?_
  rintro e w2 ⟨rfl, hb2⟩
  have HB2 := hidd (below_step (below_new HB1.out (.cells #[.int .i64 10] 2)) hb2)
  have hz2 : W1.heap.size < w2.heap.size := by have := hb2.size; simp at this; omega
  have HL2 := hidd (HL.out.to (w' := w2) (p' := fun q => w.heap.size + 2 ≤ q ∧ q < w2.heap.size) (fun q hq => ⟨⟨hq.1, by omega⟩, hb2.block q (by simpa using hq.2)⟩))
  obtain ⟨bc, bf⟩ := bcell hb2
  have p0 : w2.cell? ⟨w.heap.size, 0, none⟩ = some (.int .i64 0) := by rw [bc _ _ (by simp; omega), (below_new (Below.refl W1.heap.size W1) _).cell (p := ⟨w.heap.size, 0, none⟩) (by show w.heap.size < W1.heap.size; omega)]; exact g0
  have q0 : w2.frozen? ⟨w.heap.size, 0, none⟩ = false := by rw [bf _ _ (by simp; omega), (below_new (Below.refl W1.heap.size W1) _).frozen (p := ⟨w.heap.size, 0, none⟩) (by show w.heap.size < W1.heap.size; omega)]; exact h0
  have p1 : w2.cell? ⟨w.heap.size, 1, none⟩ = some (.int .i64 0) := by rw [bc _ _ (by simp; omega), (below_new (Below.refl W1.heap.size W1) _).cell (p := ⟨w.heap.size, 1, none⟩) (by show w.heap.size < W1.heap.size; omega)]; exact g1
  have q1 : w2.frozen? ⟨w.heap.size, 1, none⟩ = false := by rw [bf _ _ (by simp; omega), (below_new (Below.refl W1.heap.size W1) _).frozen (p := ⟨w.heap.size, 1, none⟩) (by show w.heap.size < W1.heap.size; omega)]; exact h1
  have p2 : w2.cell? ⟨w.heap.size, 2, none⟩ = some (.slice none 0 0) := by rw [bc _ _ (by simp; omega), (below_new (Below.refl W1.heap.size W1) _).cell (p := ⟨w.heap.size, 2, none⟩) (by show w.heap.size < W1.heap.size; omega)]; exact g2
  have q2 : w2.frozen? ⟨w.heap.size, 2, none⟩ = false := by rw [bf _ _ (by simp; omega), (below_new (Below.refl W1.heap.size W1) _).frozen (p := ⟨w.heap.size, 2, none⟩) (by show w.heap.size < W1.heap.size; omega)]; exact h2
  clear hb2 bc bf g0 h0 g1 h1 g2 h2
  go_wp2_with fail
  refine bodyPost_ret (v := .agg #[.int .i64 8, .int .i64 1, .slice (some ⟨W1.heap.size, 0, none⟩) 1 1]) (by simp [results, Tryz.results23, go_sem, *]) rfl ⟨by have q := HB2.out; (repeat' (first | (with_reducible exact Below.refl _ _) | (with_reducible assumption) | (with_reducible apply Below.setCell) | (with_reducible apply Below.alloc) | (with_reducible apply Below.drew) | (with_reducible apply below_drewN) | (with_reducible refine Below.trans ?_ (Below.mono (by assumption) ?_)) | omega | (simp; done) | (simp; omega))), some ⟨W1.heap.size, 0, none⟩, 1, rfl, ?_⟩
  exact (((HL2.out.low (p := ⟨w.heap.size, 0, none⟩) (by simp) _).low (p := ⟨w.heap.size, 1, none⟩) (by simp) _).low (p := ⟨w.heap.size, 2, none⟩) (by simp) _).to (fun q hq => ⟨⟨by omega, hq.2⟩, rfl⟩)
set_option maxHeartbeats 2000000 in
theorem refobjStyle2  (w : World) : Calls Tryz.prog 23 #[.int .i64 2] w (ObjEnd 8 1 [18] w) := by
  obtain ⟨W1, hW1⟩ : ∃ W1, ((w.alloc (.cells #[.int .i64 0, .int .i64 0, .slice none 0 0] 42)).alloc (.cells #[.int .i64 0, .int .i64 10, .int .i64 18, .int .i64 17] 2)) = W1 := ⟨_, rfl⟩
  have hz1 : W1.heap.size = w.heap.size + 2 := by rw [← hW1]; simp
  have hb1 : Below w.heap.size w W1 := by rw [← hW1]; (repeat' (first | (with_reducible exact Below.refl _ _) | (with_reducible assumption) | (with_reducible apply Below.setCell) | (with_reducible apply Below.alloc) | (with_reducible apply Below.drew) | (with_reducible apply below_drewN) | (with_reducible refine Below.trans ?_ (Below.mono (by assumption) ?_)) | omega | (simp; done) | (simp; omega)))
  have g0 : W1.cell? ⟨w.heap.size, 0, none⟩ = some (.int .i64 0) := by rw [← hW1]; simp [go_sem]
  have h0 : W1.frozen? ⟨w.heap.size, 0, none⟩ = false := by rw [← hW1]; simp [go_sem]
  have g1 : W1.cell? ⟨w.heap.size, 1, none⟩ = some (.int .i64 0) := by rw [← hW1]; simp [go_sem]
  have h1 : W1.frozen? ⟨w.heap.size, 1, none⟩ = false := by rw [← hW1]; simp [go_sem]
  have g2 : W1.cell? ⟨w.heap.size, 2, none⟩ = some (.slice none 0 0) := by rw [← hW1]; simp [go_sem]
  have h2 : W1.frozen? ⟨w.heap.size, 2, none⟩ = false := by rw [← hW1]; simp [go_sem]
  have HL := hidd (lie_new W1 [18] 2 _ rfl (fun q => w.heap.size + 2 ≤ q ∧ q < W1.heap.size + 1) ⟨by omega, by omega⟩)
  have HB1 := hidd hb1
  have HW1 := hidd hW1
  clear hW1 hb1
  unfold ObjEnd
  go_enter Tryz.func23, Tryz.ntmps23
  go_wp2_with fail
  rw [HW1.out]
  refine (refobject_any _ _ _ _ _ _).mono ?_
  rintro e w2 ⟨rfl, hb2⟩
  have HB2 := hidd (below_step (below_new HB1.out (.cells #[.int .i64 18] 2)) hb2)
  have hz2 : W1.heap.size < w2.heap.size := by have := hb2.size; simp at this; omega
  have HL2 := hidd (HL.out.to (w' := w2) (p' := fun q => w.heap.size + 2 ≤ q ∧ q < w2.heap.size) (fun q hq => ⟨⟨hq.1, by omega⟩, hb2.block q (by simpa using hq.2)⟩))
  obtain ⟨bc, bf⟩ := bcell hb2
  have p0 : w2.cell? ⟨w.heap.size, 0, none⟩ = some (.int .i64 0) := by rw [bc _ _ (by simp; omega), (below_new (Below.refl W1.heap.size W1) _).cell (p := ⟨w.heap.size, 0, none⟩) (by show w.heap.size < W1.heap.size; omega)]; exact g0
  have q0 : w2.frozen? ⟨w.heap.size, 0, none⟩ = false := by rw [bf _ _ (by simp; omega), (below_new (Below.refl W1.heap.size W1) _).frozen (p := ⟨w.heap.size, 0, none⟩) (by show w.heap.size < W1.heap.size; omega)]; exact h0
  have p1 : w2.cell? ⟨w.heap.size, 1, none⟩ = some (.int .i64 0) := by rw [bc _ _ (by simp; omega), (below_new (Below.refl W1.heap.size W1) _).cell (p := ⟨w.heap.size, 1, none⟩) (by show w.heap.size < W1.heap.size; omega)]; exact g1
  have q1 : w2.frozen? ⟨w.heap.size, 1, none⟩ = false := by rw [bf _ _ (by simp; omega), (below_new (Below.refl W1.heap.size W1) _).frozen (p := ⟨w.heap.size, 1, none⟩) (by show w.heap.size < W1.heap.size; omega)]; exact h1
  have p2 : w2.cell? ⟨w.heap.size, 2, none⟩ = some (.slice none 0 0) := by rw [bc _ _ (by simp; omega), (below_new (Below.refl W1.heap.size W1) _).cell (p := ⟨w.heap.size, 2, none⟩) (by show w.heap.size < W1.heap.size; omega)]; exact g2
  have q2 : w2.frozen? ⟨w.heap.size, 2, none⟩ = false := by rw [bf _ _ (by simp; omega), (below_new (Below.refl W1.heap.size W1) _).frozen (p := ⟨w.heap.size, 2, none⟩) (by show w.heap.size < W1.heap.size; omega)]; exact h2
  clear hb2 bc bf g0 h0 g1 h1 g2 h2
  go_wp2_with fail
  refine bodyPost_ret (v := .agg #[.int .i64 8, .int .i64 1, .slice (some ⟨W1.heap.size, 0, none⟩) 1 1]) (by simp [results, Tryz.results23, go_sem, *]) rfl ⟨by have q := HB2.out; (repeat' (first | (with_reducible exact Below.refl _ _) | (with_reducible assumption) | (with_reducible apply Below.setCell) | (with_reducible apply Below.alloc) | (with_reducible apply Below.drew) | (with_reducible apply below_drewN) | (with_reducible refine Below.trans ?_ (Below.mono (by assumption) ?_)) | omega | (simp; done) | (simp; omega))), some ⟨W1.heap.size, 0, none⟩, 1, rfl, ?_⟩
  exact (((HL2.out.low (p := ⟨w.heap.size, 0, none⟩) (by simp) _).low (p := ⟨w.heap.size, 1, none⟩) (by simp) _).low (p := ⟨w.heap.size, 2, none⟩) (by simp) _).to (fun q hq => ⟨⟨by omega, hq.2⟩, rfl⟩)
set_option maxHeartbeats 2000000 in
theorem refobjStyle3  (w : World) : Calls Tryz.prog 23 #[.int .i64 3] w (ObjEnd 8 1 [17] w) := by
  obtain ⟨W1, hW1⟩ : ∃ W1, ((w.alloc (.cells #[.int .i64 0, .int .i64 0, .slice none 0 0] 42)).alloc (.cells #[.int .i64 0, .int .i64 10, .int .i64 18, .int .i64 17] 2)) = W1 := ⟨_, rfl⟩
  have hz1 : W1.heap.size = w.heap.size + 2 := by rw [← hW1]; simp
  have hb1 : Below w.heap.size w W1 := by rw [← hW1]; (repeat' (first | (with_reducible exact Below.refl _ _) | (with_reducible assumption) | (with_reducible apply Below.setCell) | (with_reducible apply Below.alloc) | (with_reducible apply Below.drew) | (with_reducible apply below_drewN) | (with_reducible refine Below.trans ?_ (Below.mono (by assumption) ?_)) | omega | (simp; done) | (simp; omega)))
  have g0 : W1.cell? ⟨w.heap.size, 0, none⟩ = some (.int .i64 0) := by rw [← hW1]; simp [go_sem]
  have h0 : W1.frozen? ⟨w.heap.size, 0, none⟩ = false := by rw [← hW1]; simp [go_sem]
  have g1 : W1.cell? ⟨w.heap.size, 1, none⟩ = some (.int .i64 0) := by rw [← hW1]; simp [go_sem]
  have h1 : W1.frozen? ⟨w.heap.size, 1, none⟩ = false := by rw [← hW1]; simp [go_sem]
  have g2 : W1.cell? ⟨w.heap.size, 2, none⟩ = some (.slice none 0 0) := by rw [← hW1]; simp [go_sem]
  have h2 : W1.frozen? ⟨w.heap.size, 2, none⟩ = false := by rw [← hW1]; simp [go_sem]
  have HL := hidd (lie_new W1 [17] 2 _ rfl (fun q => w.heap.size + 2 ≤ q ∧ q < W1.heap.size + 1) ⟨by omega, by omega⟩)
  have HB1 := hidd hb1
  have HW1 := hidd hW1
  clear hW1 hb1
  unfold ObjEnd
  go_enter Tryz.func23, Tryz.ntmps23
  go_wp2_with fail
  rw [HW1.out]
  refine (refobject_any _ _ _ _ _ _).mono ?_
  rintro e w2 ⟨rfl, hb2⟩
  have HB2 := hidd (below_step (below_new HB1.out (.cells #[.int .i64 17] 2)) hb2)
  have hz2 : W1.heap.size < w2.heap.size := by have := hb2.size; simp at this; omega
  have HL2 := hidd (HL.out.to (w' := w2) (p' := fun q => w.heap.size + 2 ≤ q ∧ q < w2.heap.size) (fun q hq => ⟨⟨hq.1, by omega⟩, hb2.block q (by simpa using hq.2)⟩))
  obtain ⟨bc, bf⟩ := bcell hb2
  have p0 : w2.cell? ⟨w.heap.size, 0, none⟩ = some (.int .i64 0) := by rw [bc _ _ (by simp; omega), (below_new (Below.refl W1.heap.size W1) _).cell (p := ⟨w.heap.size, 0, none⟩) (by show w.heap.size < W1.heap.size; omega)]; exact g0
  have q0 : w2.frozen? ⟨w.heap.size, 0, none⟩ = false := by rw [bf _ _ (by simp; omega), (below_new (Below.refl W1.heap.size W1) _).frozen (p := ⟨w.heap.size, 0, none⟩) (by show w.heap.size < W1.heap.size; omega)]; exact h0
  have p1 : w2.cell? ⟨w.heap.size, 1, none⟩ = some (.int .i64 0) := by rw [bc _ _ (by simp; omega), (below_new (Below.refl W1.heap.size W1) _).cell (p := ⟨w.heap.size, 1, none⟩) (by show w.heap.size < W1.heap.size; omega)]; exact g1
  have q1 : w2.frozen? ⟨w.heap.size, 1, none⟩ = false := by rw [bf _ _ (by simp; omega), (below_new (Below.refl W1.heap.size W1) _).frozen (p := ⟨w.heap.size, 1, none⟩) (by show w.heap.size < W1.heap.size; omega)]; exact h1
  have p2 : w2.cell? ⟨w.heap.size, 2, none⟩ = some (.slice none 0 0) := by rw [bc _ _ (by simp; omega), (below_new (Below.refl W1.heap.size W1) _).cell (p := ⟨w.heap.size, 2, none⟩) (by show w.heap.size < W1.heap.size; omega)]; exact g2
  have q2 : w2.frozen? ⟨w.heap.size, 2, none⟩ = false := by rw [bf _ _ (by simp; omega), (below_new (Below.refl W1.heap.size W1) _).frozen (p := ⟨w.heap.size, 2, none⟩) (by show w.heap.size < W1.heap.size; omega)]; exact h2
  clear hb2 bc bf g0 h0 g1 h1 g2 h2
  go_wp2_with fail
  refine bodyPost_ret (v := .agg #[.int .i64 8, .int .i64 1, .slice (some ⟨W1.heap.size, 0, none⟩) 1 1]) (by simp [results, Tryz.results23, go_sem, *]) rfl ⟨by have q := HB2.out; (repeat' (first | (with_reducible exact Below.refl _ _) | (with_reducible assumption) | (with_reducible apply Below.setCell) | (with_reducible apply Below.alloc) | (with_reducible apply Below.drew) | (with_reducible apply below_drewN) | (with_reducible refine Below.trans ?_ (Below.mono (by assumption) ?_)) | omega | (simp; done) | (simp; omega))), some ⟨W1.heap.size, 0, none⟩, 1, rfl, ?_⟩
  exact (((HL2.out.low (p := ⟨w.heap.size, 0, none⟩) (by simp) _).low (p := ⟨w.heap.size, 1, none⟩) (by simp) _).low (p := ⟨w.heap.size, 2, none⟩) (by simp) _).to (fun q hq => ⟨⟨by omega, hq.2⟩, rfl⟩)
theorem refobjStyle_any (x : Int) (hm : mayY x = true) (w : World) : Calls Tryz.prog 23 #[.int .i64 x] w (ObjEnd 8 1 [styleW x] w) := by
  unfold mayY at hm
  rw [inB_iff] at hm
  have : x = 1 ∨ x = 2 ∨ x = 3 := by omega
  rcases this with rfl | rfl | rfl
  · exact refobjStyle1 w
  · exact refobjStyle2 w
  · exact refobjStyle3 w
theorem refmayY_any (x : Int) (w : World) : Calls Tryz.prog 22 #[.int .i64 x] w fun e w' => e = .returned (.bool (mayY x)) ∧ Below w.heap.size w w' := by
  by_cases h1 : (1 : Int) ≤ x
  · go_enter Tryz.func22, Tryz.ntmps22
    go_wp2_with fail
    go_ret
    exact ⟨ret_bool (by simp [mayY, inB, h1]), by (repeat' (first | (with_reducible exact Below.refl _ _) | (with_reducible assumption) | (with_reducible apply Below.setCell) | (with_reducible apply Below.alloc) | (with_reducible apply Below.drew) | (with_reducible apply below_drewN) | (with_reducible refine Below.trans ?_ (Below.mono (by assumption) ?_)) | omega | (simp; done) | (simp; omega)))⟩
  · go_enter Tryz.func22, Tryz.ntmps22
    go_wp2_with fail
    go_ret
    exact ⟨ret_bool (by simp [mayY, inB]; omega), by (repeat' (first | (with_reducible exact Below.refl _ _) | (with_reducible assumption) | (with_reducible apply Below.setCell) | (with_reducible apply Below.alloc) | (with_reducible apply Below.drew) | (with_reducible apply below_drewN) | (with_reducible refine Below.trans ?_ (Below.mono (by assumption) ?_)) | omega | (simp; done) | (simp; omega)))⟩
end Go.Proofs.YtappmacnoopmkaaGreat
