/- Objects: the document's: may a thing be said, which object says it. -/
import Derived.Test.YtappmacnoopmkaaGreatObIS
import Derived.Test.YtappmacnoopmkaaGreatObIH
import Derived.Test.YtappmacnoopmkaaGreatObIQ
import Derived.Test.YtappmacnoopmkaaGreatObIF
import Derived.Test.YtappmacnoopmkaaGreatObIT
import Derived.Test.YtappmacnoopmkaaGreatObIM
import Derived.Test.YtappmacnoopmkaaGreatObIN
import Derived.Test.YtappmacnoopmkaaGreatObIP
namespace Go.Proofs.YtappmacnoopmkaaGreat
set_option linter.unusedVariables false
open Go.RowKit

theorem refWithin_any (a n b : Int) (w : World) : Calls Tryz.prog 56 #[.int .i64 n, .int .i64 a, .int .i64 b] w fun e w' => e = .returned (.bool (inB a n b)) ∧ w = w' := by
  by_cases h1 : a ≤ n
  · go_enter Tryz.func56, Tryz.ntmps56
    go_wp2_with fail
    go_ret
    exact ⟨ret_bool (by simp [inB, h1]), rfl⟩
  · go_enter Tryz.func56, Tryz.ntmps56
    go_wp2_with fail
    go_ret
    exact ⟨ret_bool (by simp [inB]; omega), rfl⟩
theorem refobject_any (a b : Int) (A : Option Addr) (n c : Nat) (w : World) : Calls Tryz.prog 57 #[.int .i64 a, .int .i64 b, .slice A n c] w fun e w' => e = .returned (.agg #[.int .i64 a, .int .i64 b, .slice A n c]) ∧ Below w.heap.size w w' := by
  go_enter Tryz.func57, Tryz.ntmps57
  go_wp2_with fail
  exact bodyPost_ret (v := .agg #[.int .i64 a, .int .i64 b, .slice A n c]) (by simp [results, Tryz.results57, go_sem, *]) rfl ⟨rfl, by (repeat' (first | (with_reducible exact Below.refl _ _) | (with_reducible assumption) | (with_reducible apply Below.setCell) | (with_reducible apply Below.alloc) | (with_reducible apply Below.drew) | (with_reducible apply below_drewN) | (with_reducible refine Below.trans ?_ (Below.mono (by assumption) ?_)) | omega | (simp; done) | (simp; omega)))⟩
set_option maxHeartbeats 2000000 in
theorem refobjSession_any (x0 x1 : Int) (hm : mayS x0 x1 = true) (w : World) : Calls Tryz.prog 11 #[.agg #[.int .i64 x0, .int .i64 x1]] w (ObjEnd 1 1 [x0, (285212672 + x1)] w) := by
  simp only [mayS, Bool.and_eq_true, inB_iff] at hm
  have e0 : IntKind.i64.wrap (285212672 + x1) = 285212672 + x1 := IntWalk.i64_in _ (by omega)
  obtain ⟨W1, hW1⟩ : ∃ W1, ((w.alloc (.cells #[.int .i64 x0, .int .i64 x1] 23)).alloc (.cells #[.int .i64 0, .int .i64 0, .slice none 0 0] 42)) = W1 := ⟨_, rfl⟩
  have hz1 : W1.heap.size = w.heap.size + 2 := by rw [← hW1]; simp
  have hb1 : Below w.heap.size w W1 := by rw [← hW1]; (repeat' (first | (with_reducible exact Below.refl _ _) | (with_reducible assumption) | (with_reducible apply Below.setCell) | (with_reducible apply Below.alloc) | (with_reducible apply Below.drew) | (with_reducible apply below_drewN) | (with_reducible refine Below.trans ?_ (Below.mono (by assumption) ?_)) | omega | (simp; done) | (simp; omega)))
  have g0 : W1.cell? ⟨w.heap.size + 1, 0, none⟩ = some (.int .i64 0) := by rw [← hW1]; simp [go_sem]
  have h0 : W1.frozen? ⟨w.heap.size + 1, 0, none⟩ = false := by rw [← hW1]; simp [go_sem]
  have g1 : W1.cell? ⟨w.heap.size + 1, 1, none⟩ = some (.int .i64 0) := by rw [← hW1]; simp [go_sem]
  have h1 : W1.frozen? ⟨w.heap.size + 1, 1, none⟩ = false := by rw [← hW1]; simp [go_sem]
  have g2 : W1.cell? ⟨w.heap.size + 1, 2, none⟩ = some (.slice none 0 0) := by rw [← hW1]; simp [go_sem]
  have h2 : W1.frozen? ⟨w.heap.size + 1, 2, none⟩ = false := by rw [← hW1]; simp [go_sem]
  have HL := hidd (lie_new W1 [x0, (285212672 + x1)] 2 _ rfl (fun q => w.heap.size + 2 ≤ q ∧ q < W1.heap.size + 1) ⟨by omega, by omega⟩)
  have HB1 := hidd hb1
  have HW1 := hidd hW1
  clear hW1 hb1 hm
  unfold ObjEnd
  go_enter Tryz.func11, Tryz.ntmps11
  go_wp2_with fail
  rw [HW1.out]
  refine (refobject_any _ _ _ _ _ _).mono ?_
  rintro e w2 ⟨rfl, hb2⟩
  have HB2 := hidd (below_step (below_new HB1.out (.cells #[.int .i64 x0, .int .i64 (285212672 + x1)] 2)) hb2)
  have hz2 : W1.heap.size < w2.heap.size := by have := hb2.size; simp at this; omega
  have HL2 := hidd (HL.out.to (w' := w2) (p' := fun q => w.heap.size + 2 ≤ q ∧ q < w2.heap.size) (fun q hq => ⟨⟨hq.1, by omega⟩, hb2.block q (by simpa using hq.2)⟩))
  obtain ⟨bc, bf⟩ := bcell hb2
  have p0 : w2.cell? ⟨w.heap.size + 1, 0, none⟩ = some (.int .i64 0) := by rw [bc _ _ (by simp; omega), (below_new (Below.refl W1.heap.size W1) _).cell (p := ⟨w.heap.size + 1, 0, none⟩) (by show w.heap.size + 1 < W1.heap.size; omega)]; exact g0
  have q0 : w2.frozen? ⟨w.heap.size + 1, 0, none⟩ = false := by rw [bf _ _ (by simp; omega), (below_new (Below.refl W1.heap.size W1) _).frozen (p := ⟨w.heap.size + 1, 0, none⟩) (by show w.heap.size + 1 < W1.heap.size; omega)]; exact h0
  have p1 : w2.cell? ⟨w.heap.size + 1, 1, none⟩ = some (.int .i64 0) := by rw [bc _ _ (by simp; omega), (below_new (Below.refl W1.heap.size W1) _).cell (p := ⟨w.heap.size + 1, 1, none⟩) (by show w.heap.size + 1 < W1.heap.size; omega)]; exact g1
  have q1 : w2.frozen? ⟨w.heap.size + 1, 1, none⟩ = false := by rw [bf _ _ (by simp; omega), (below_new (Below.refl W1.heap.size W1) _).frozen (p := ⟨w.heap.size + 1, 1, none⟩) (by show w.heap.size + 1 < W1.heap.size; omega)]; exact h1
  have p2 : w2.cell? ⟨w.heap.size + 1, 2, none⟩ = some (.slice none 0 0) := by rw [bc _ _ (by simp; omega), (below_new (Below.refl W1.heap.size W1) _).cell (p := ⟨w.heap.size + 1, 2, none⟩) (by show w.heap.size + 1 < W1.heap.size; omega)]; exact g2
  have q2 : w2.frozen? ⟨w.heap.size + 1, 2, none⟩ = false := by rw [bf _ _ (by simp; omega), (below_new (Below.refl W1.heap.size W1) _).frozen (p := ⟨w.heap.size + 1, 2, none⟩) (by show w.heap.size + 1 < W1.heap.size; omega)]; exact h2
  clear hb2 bc bf g0 h0 g1 h1 g2 h2
  go_wp2_with fail
  refine bodyPost_ret (v := .agg #[.int .i64 1, .int .i64 1, .slice (some ⟨W1.heap.size, 0, none⟩) 2 2]) (by simp [results, Tryz.results11, go_sem, *]) rfl ⟨by have q := HB2.out; (repeat' (first | (with_reducible exact Below.refl _ _) | (with_reducible assumption) | (with_reducible apply Below.setCell) | (with_reducible apply Below.alloc) | (with_reducible apply Below.drew) | (with_reducible apply below_drewN) | (with_reducible refine Below.trans ?_ (Below.mono (by assumption) ?_)) | omega | (simp; done) | (simp; omega))), some ⟨W1.heap.size, 0, none⟩, 2, rfl, ?_⟩
  exact (((HL2.out.low (p := ⟨w.heap.size + 1, 0, none⟩) (by simp) _).low (p := ⟨w.heap.size + 1, 1, none⟩) (by simp) _).low (p := ⟨w.heap.size + 1, 2, none⟩) (by simp) _).to (fun q hq => ⟨⟨by omega, hq.2⟩, rfl⟩)
set_option maxHeartbeats 2000000 in
theorem refmayS_any (x0 x1 : Int) (w : World) : Calls Tryz.prog 9 #[.agg #[.int .i64 x0, .int .i64 x1]] w fun e w' => e = .returned (.bool (mayS x0 x1)) ∧ Below w.heap.size w w' := by
  have c0 := hidd (fun W => refWithin_any 0 x0 15 W)
  have c1 := hidd (fun W => refWithin_any 1 x1 65535 W)
  unfold mayS
  generalize inB 0 x0 15 = B0 at *
  generalize inB 1 x1 65535 = B1 at *
  cases B0
  · go_enter Tryz.func9, Tryz.ntmps9
    go_wp2_with fail
    refine (c0.out _).mono ?_
    rintro e w1 ⟨rfl, rfl⟩
    go_wp2_with fail
    go_ret
    exact ⟨by first | rfl | simp, by (repeat' (first | (with_reducible exact Below.refl _ _) | (with_reducible assumption) | (with_reducible apply Below.setCell) | (with_reducible apply Below.alloc) | (with_reducible apply Below.drew) | (with_reducible apply below_drewN) | (with_reducible refine Below.trans ?_ (Below.mono (by assumption) ?_)) | omega | (simp; done) | (simp; omega)))⟩
  go_enter Tryz.func9, Tryz.ntmps9
  go_wp2_with fail
  refine (c0.out _).mono ?_
  rintro e w1 ⟨rfl, rfl⟩
  go_wp2_with fail
  refine (c1.out _).mono ?_
  rintro e w1 ⟨rfl, rfl⟩
  go_wp2_with fail
  go_ret
  exact ⟨by first | rfl | simp, by (repeat' (first | (with_reducible exact Below.refl _ _) | (with_reducible assumption) | (with_reducible apply Below.setCell) | (with_reducible apply Below.alloc) | (with_reducible apply Below.drew) | (with_reducible apply below_drewN) | (with_reducible refine Below.trans ?_ (Below.mono (by assumption) ?_)) | omega | (simp; done) | (simp; omega)))⟩
set_option maxHeartbeats 2000000 in
theorem refobjHop_any (x0 x1 : Int) (hm : mayH x0 x1 = true) (w : World) : Calls Tryz.prog 14 #[.agg #[.int .i64 x0, .int .i64 x1]] w (ObjEnd 3 1 [x0, x1] w) := by
  simp only [mayH, Bool.and_eq_true, inB_iff] at hm
  obtain ⟨W1, hW1⟩ : ∃ W1, ((w.alloc (.cells #[.int .i64 x0, .int .i64 x1] 25)).alloc (.cells #[.int .i64 0, .int .i64 0, .slice none 0 0] 42)) = W1 := ⟨_, rfl⟩
  have hz1 : W1.heap.size = w.heap.size + 2 := by rw [← hW1]; simp
  have hb1 : Below w.heap.size w W1 := by rw [← hW1]; (repeat' (first | (with_reducible exact Below.refl _ _) | (with_reducible assumption) | (with_reducible apply Below.setCell) | (with_reducible apply Below.alloc) | (with_reducible apply Below.drew) | (with_reducible apply below_drewN) | (with_reducible refine Below.trans ?_ (Below.mono (by assumption) ?_)) | omega | (simp; done) | (simp; omega)))
  have g0 : W1.cell? ⟨w.heap.size + 1, 0, none⟩ = some (.int .i64 0) := by rw [← hW1]; simp [go_sem]
  have h0 : W1.frozen? ⟨w.heap.size + 1, 0, none⟩ = false := by rw [← hW1]; simp [go_sem]
  have g1 : W1.cell? ⟨w.heap.size + 1, 1, none⟩ = some (.int .i64 0) := by rw [← hW1]; simp [go_sem]
  have h1 : W1.frozen? ⟨w.heap.size + 1, 1, none⟩ = false := by rw [← hW1]; simp [go_sem]
  have g2 : W1.cell? ⟨w.heap.size + 1, 2, none⟩ = some (.slice none 0 0) := by rw [← hW1]; simp [go_sem]
  have h2 : W1.frozen? ⟨w.heap.size + 1, 2, none⟩ = false := by rw [← hW1]; simp [go_sem]
  have HL := hidd (lie_new W1 [x0, x1] 2 _ rfl (fun q => w.heap.size + 2 ≤ q ∧ q < W1.heap.size + 1) ⟨by omega, by omega⟩)
  have HB1 := hidd hb1
  have HW1 := hidd hW1
  clear hW1 hb1 hm
  unfold ObjEnd
  go_enter Tryz.func14, Tryz.ntmps14
  go_wp2_with fail
  rw [HW1.out]
  refine (refobject_any _ _ _ _ _ _).mono ?_
  rintro e w2 ⟨rfl, hb2⟩
  have HB2 := hidd (below_step (below_new HB1.out (.cells #[.int .i64 x0, .int .i64 x1] 2)) hb2)
  have hz2 : W1.heap.size < w2.heap.size := by have := hb2.size; simp at this; omega
  have HL2 := hidd (HL.out.to (w' := w2) (p' := fun q => w.heap.size + 2 ≤ q ∧ q < w2.heap.size) (fun q hq => ⟨⟨hq.1, by omega⟩, hb2.block q (by simpa using hq.2)⟩))
  obtain ⟨bc, bf⟩ := bcell hb2
  have p0 : w2.cell? ⟨w.heap.size + 1, 0, none⟩ = some (.int .i64 0) := by rw [bc _ _ (by simp; omega), (below_new (Below.refl W1.heap.size W1) _).cell (p := ⟨w.heap.size + 1, 0, none⟩) (by show w.heap.size + 1 < W1.heap.size; omega)]; exact g0
  have q0 : w2.frozen? ⟨w.heap.size + 1, 0, none⟩ = false := by rw [bf _ _ (by simp; omega), (below_new (Below.refl W1.heap.size W1) _).frozen (p := ⟨w.heap.size + 1, 0, none⟩) (by show w.heap.size + 1 < W1.heap.size; omega)]; exact h0
  have p1 : w2.cell? ⟨w.heap.size + 1, 1, none⟩ = some (.int .i64 0) := by rw [bc _ _ (by simp; omega), (below_new (Below.refl W1.heap.size W1) _).cell (p := ⟨w.heap.size + 1, 1, none⟩) (by show w.heap.size + 1 < W1.heap.size; omega)]; exact g1
  have q1 : w2.frozen? ⟨w.heap.size + 1, 1, none⟩ = false := by rw [bf _ _ (by simp; omega), (below_new (Below.refl W1.heap.size W1) _).frozen (p := ⟨w.heap.size + 1, 1, none⟩) (by show w.heap.size + 1 < W1.heap.size; omega)]; exact h1
  have p2 : w2.cell? ⟨w.heap.size + 1, 2, none⟩ = some (.slice none 0 0) := by rw [bc _ _ (by simp; omega), (below_new (Below.refl W1.heap.size W1) _).cell (p := ⟨w.heap.size + 1, 2, none⟩) (by show w.heap.size + 1 < W1.heap.size; omega)]; exact g2
  have q2 : w2.frozen? ⟨w.heap.size + 1, 2, none⟩ = false := by rw [bf _ _ (by simp; omega), (below_new (Below.refl W1.heap.size W1) _).frozen (p := ⟨w.heap.size + 1, 2, none⟩) (by show w.heap.size + 1 < W1.heap.size; omega)]; exact h2
  clear hb2 bc bf g0 h0 g1 h1 g2 h2
  go_wp2_with fail
  refine bodyPost_ret (v := .agg #[.int .i64 3, .int .i64 1, .slice (some ⟨W1.heap.size, 0, none⟩) 2 2]) (by simp [results, Tryz.results14, go_sem, *]) rfl ⟨by have q := HB2.out; (repeat' (first | (with_reducible exact Below.refl _ _) | (with_reducible assumption) | (with_reducible apply Below.setCell) | (with_reducible apply Below.alloc) | (with_reducible apply Below.drew) | (with_reducible apply below_drewN) | (with_reducible refine Below.trans ?_ (Below.mono (by assumption) ?_)) | omega | (simp; done) | (simp; omega))), some ⟨W1.heap.size, 0, none⟩, 2, rfl, ?_⟩
  exact (((HL2.out.low (p := ⟨w.heap.size + 1, 0, none⟩) (by simp) _).low (p := ⟨w.heap.size + 1, 1, none⟩) (by simp) _).low (p := ⟨w.heap.size + 1, 2, none⟩) (by simp) _).to (fun q hq => ⟨⟨by omega, hq.2⟩, rfl⟩)
set_option maxHeartbeats 2000000 in
theorem refmayH_any (x0 x1 : Int) (w : World) : Calls Tryz.prog 13 #[.agg #[.int .i64 x0, .int .i64 x1]] w fun e w' => e = .returned (.bool (mayH x0 x1)) ∧ Below w.heap.size w w' := by
  have c0 := hidd (fun W => refWithin_any 0 x0 15 W)
  have c1 := hidd (fun W => refWithin_any 0 x1 47 W)
  unfold mayH
  generalize inB 0 x0 15 = B0 at *
  generalize inB 0 x1 47 = B1 at *
  cases B0
  · go_enter Tryz.func13, Tryz.ntmps13
    go_wp2_with fail
    refine (c0.out _).mono ?_
    rintro e w1 ⟨rfl, rfl⟩
    go_wp2_with fail
    go_ret
    exact ⟨by first | rfl | simp, by (repeat' (first | (with_reducible exact Below.refl _ _) | (with_reducible assumption) | (with_reducible apply Below.setCell) | (with_reducible apply Below.alloc) | (with_reducible apply Below.drew) | (with_reducible apply below_drewN) | (with_reducible refine Below.trans ?_ (Below.mono (by assumption) ?_)) | omega | (simp; done) | (simp; omega)))⟩
  go_enter Tryz.func13, Tryz.ntmps13
  go_wp2_with fail
  refine (c0.out _).mono ?_
  rintro e w1 ⟨rfl, rfl⟩
  go_wp2_with fail
  refine (c1.out _).mono ?_
  rintro e w1 ⟨rfl, rfl⟩
  go_wp2_with fail
  go_ret
  exact ⟨by first | rfl | simp, by (repeat' (first | (with_reducible exact Below.refl _ _) | (with_reducible assumption) | (with_reducible apply Below.setCell) | (with_reducible apply Below.alloc) | (with_reducible apply Below.drew) | (with_reducible apply below_drewN) | (with_reducible refine Below.trans ?_ (Below.mono (by assumption) ?_)) | omega | (simp; done) | (simp; omega)))⟩
set_option maxHeartbeats 2000000 in
theorem refobjPeriod_any (x : Int) (hm : mayQ x = true) (w : World) : Calls Tryz.prog 17 #[.int .i64 x] w (ObjEnd 5 1 [x] w) := by
  simp only [mayQ, inB_iff] at hm
  obtain ⟨W1, hW1⟩ : ∃ W1, (w.alloc (.cells #[.int .i64 0, .int .i64 0, .slice none 0 0] 42)) = W1 := ⟨_, rfl⟩
  have hz1 : W1.heap.size = w.heap.size + 1 := by rw [← hW1]; simp
  have hb1 : Below w.heap.size w W1 := by rw [← hW1]; (repeat' (first | (with_reducible exact Below.refl _ _) | (with_reducible assumption) | (with_reducible apply Below.setCell) | (with_reducible apply Below.alloc) | (with_reducible apply Below.drew) | (with_reducible apply below_drewN) | (with_reducible refine Below.trans ?_ (Below.mono (by assumption) ?_)) | omega | (simp; done) | (simp; omega)))
  have g0 : W1.cell? ⟨w.heap.size, 0, none⟩ = some (.int .i64 0) := by rw [← hW1]; simp [go_sem]
  have h0 : W1.frozen? ⟨w.heap.size, 0, none⟩ = false := by rw [← hW1]; simp [go_sem]
  have g1 : W1.cell? ⟨w.heap.size, 1, none⟩ = some (.int .i64 0) := by rw [← hW1]; simp [go_sem]
  have h1 : W1.frozen? ⟨w.heap.size, 1, none⟩ = false := by rw [← hW1]; simp [go_sem]
  have g2 : W1.cell? ⟨w.heap.size, 2, none⟩ = some (.slice none 0 0) := by rw [← hW1]; simp [go_sem]
  have h2 : W1.frozen? ⟨w.heap.size, 2, none⟩ = false := by rw [← hW1]; simp [go_sem]
  have HL := hidd (lie_new W1 [x] 2 _ rfl (fun q => w.heap.size + 1 ≤ q ∧ q < W1.heap.size + 1) ⟨by omega, by omega⟩)
  have HB1 := hidd hb1
  have HW1 := hidd hW1
  clear hW1 hb1 hm
  unfold ObjEnd
  go_enter Tryz.func17, Tryz.ntmps17
  go_wp2_with fail
  rw [HW1.out]
  refine (refobject_any _ _ _ _ _ _).mono ?_
  rintro e w2 ⟨rfl, hb2⟩
  have HB2 := hidd (below_step (below_new HB1.out (.cells #[.int .i64 x] 2)) hb2)
  have hz2 : W1.heap.size < w2.heap.size := by have := hb2.size; simp at this; omega
  have HL2 := hidd (HL.out.to (w' := w2) (p' := fun q => w.heap.size + 1 ≤ q ∧ q < w2.heap.size) (fun q hq => ⟨⟨hq.1, by omega⟩, hb2.block q (by simpa using hq.2)⟩))
  obtain ⟨bc, bf⟩ := bcell hb2
  have p0 : w2.cell? ⟨w.heap.size, 0, none⟩ = some (.int .i64 0) := by rw [bc _ _ (by simp; omega), (below_new (Below.refl W1.heap.size W1) _).cell (p := ⟨w.heap.size, 0, none⟩) (by show w.heap.size < W1.heap.size; omega)]; exact g0
  have q0 : w2.frozen? ⟨w.heap.size, 0, none⟩ = false := by rw [bf _ _ (by simp; omega), (below_new (Below.refl W1.heap.size W1) _).frozen (p := ⟨w.heap.size, 0, none⟩) (by show w.heap.size < W1.heap.size; omega)]; exact h0
  have p1 : w2.cell? ⟨w.heap.size, 1, none⟩ = some (.int .i64 0) := by rw [bc _ _ (by simp; omega), (below_new (Below.refl W1.heap.size W1) _).cell (p := ⟨w.heap.size, 1, none⟩) (by show w.heap.size < W1.heap.size; omega)]; exact g1
  have q1 : w2.frozen? ⟨w.heap.size, 1, none⟩ = false := by rw [bf _ _ (by simp; omega), (below_new (Below.refl W1.heap.size W1) _).frozen (p := ⟨w.heap.size, 1, none⟩) (by show w.heap.size < W1.heap.size; omega)]; exact h1
  have p2 : w2.cell? ⟨w.heap.size, 2, none⟩ = some (.slice none 0 0) := by rw [bc _ _ (by simp; omega), (below_new (Below.refl W1.heap.size W1) _).cell (p := ⟨w.heap.size, 2, none⟩) (by show w.heap.size < W1.heap.size; omega)]; exact g2
  have q2 : w2.frozen? ⟨w.heap.size, 2, none⟩ = false := by rw [bf _ _ (by simp; omega), (below_new (Below.refl W1.heap.size W1) _).frozen (p := ⟨w.heap.size, 2, none⟩) (by show w.heap.size < W1.heap.size; omega)]; exact h2
  clear hb2 bc bf g0 h0 g1 h1 g2 h2
  go_wp2_with fail
  refine bodyPost_ret (v := .agg #[.int .i64 5, .int .i64 1, .slice (some ⟨W1.heap.size, 0, none⟩) 1 1]) (by simp [results, Tryz.results17, go_sem, *]) rfl ⟨by have q := HB2.out; (repeat' (first | (with_reducible exact Below.refl _ _) | (with_reducible assumption) | (with_reducible apply Below.setCell) | (with_reducible apply Below.alloc) | (with_reducible apply Below.drew) | (with_reducible apply below_drewN) | (with_reducible refine Below.trans ?_ (Below.mono (by assumption) ?_)) | omega | (simp; done) | (simp; omega))), some ⟨W1.heap.size, 0, none⟩, 1, rfl, ?_⟩
  exact (((HL2.out.low (p := ⟨w.heap.size, 0, none⟩) (by simp) _).low (p := ⟨w.heap.size, 1, none⟩) (by simp) _).low (p := ⟨w.heap.size, 2, none⟩) (by simp) _).to (fun q hq => ⟨⟨by omega, hq.2⟩, rfl⟩)
set_option maxHeartbeats 2000000 in
theorem refmayQ_any (x : Int) (w : World) : Calls Tryz.prog 16 #[.int .i64 x] w fun e w' => e = .returned (.bool (mayQ x)) ∧ Below w.heap.size w w' := by
  have c0 := hidd (fun W => refWithin_any 1 x 1000000 W)
  unfold mayQ
  generalize inB 1 x 1000000 = B0 at *
  go_enter Tryz.func16, Tryz.ntmps16
  go_wp2_with fail
  refine (c0.out _).mono ?_
  rintro e w1 ⟨rfl, rfl⟩
  go_wp2_with fail
  go_ret
  exact ⟨by first | rfl | simp, by (repeat' (first | (with_reducible exact Below.refl _ _) | (with_reducible assumption) | (with_reducible apply Below.setCell) | (with_reducible apply Below.alloc) | (with_reducible apply Below.drew) | (with_reducible apply below_drewN) | (with_reducible refine Below.trans ?_ (Below.mono (by assumption) ?_)) | omega | (simp; done) | (simp; omega)))⟩
set_option maxHeartbeats 2000000 in
theorem refobjFault_any (x0 x1 x2 : Int) (hm : mayF x0 x1 x2 = true) (w : World) : Calls Tryz.prog 20 #[.agg #[.int .i64 x0, .int .i64 x1, .int .i64 x2]] w (ObjEnd 6 1 [x0, (65536 * x1 + x2)] w) := by
  simp only [mayF, Bool.and_eq_true, inB_iff] at hm
  have e0 : IntKind.i64.wrap (65536 * x1) = 65536 * x1 := IntWalk.i64_in _ (by omega)
  have e1 : IntKind.i64.wrap (65536 * x1 + x2) = 65536 * x1 + x2 := IntWalk.i64_in _ (by omega)
  obtain ⟨W1, hW1⟩ : ∃ W1, ((w.alloc (.cells #[.int .i64 x0, .int .i64 x1, .int .i64 x2] 27)).alloc (.cells #[.int .i64 0, .int .i64 0, .slice none 0 0] 42)) = W1 := ⟨_, rfl⟩
  have hz1 : W1.heap.size = w.heap.size + 2 := by rw [← hW1]; simp
  have hb1 : Below w.heap.size w W1 := by rw [← hW1]; (repeat' (first | (with_reducible exact Below.refl _ _) | (with_reducible assumption) | (with_reducible apply Below.setCell) | (with_reducible apply Below.alloc) | (with_reducible apply Below.drew) | (with_reducible apply below_drewN) | (with_reducible refine Below.trans ?_ (Below.mono (by assumption) ?_)) | omega | (simp; done) | (simp; omega)))
  have g0 : W1.cell? ⟨w.heap.size + 1, 0, none⟩ = some (.int .i64 0) := by rw [← hW1]; simp [go_sem]
  have h0 : W1.frozen? ⟨w.heap.size + 1, 0, none⟩ = false := by rw [← hW1]; simp [go_sem]
  have g1 : W1.cell? ⟨w.heap.size + 1, 1, none⟩ = some (.int .i64 0) := by rw [← hW1]; simp [go_sem]
  have h1 : W1.frozen? ⟨w.heap.size + 1, 1, none⟩ = false := by rw [← hW1]; simp [go_sem]
  have g2 : W1.cell? ⟨w.heap.size + 1, 2, none⟩ = some (.slice none 0 0) := by rw [← hW1]; simp [go_sem]
  have h2 : W1.frozen? ⟨w.heap.size + 1, 2, none⟩ = false := by rw [← hW1]; simp [go_sem]
  have HL := hidd (lie_new W1 [x0, (65536 * x1 + x2)] 2 _ rfl (fun q => w.heap.size + 2 ≤ q ∧ q < W1.heap.size + 1) ⟨by omega, by omega⟩)
  have HB1 := hidd hb1
  have HW1 := hidd hW1
  clear hW1 hb1 hm
  unfold ObjEnd
  go_enter Tryz.func20, Tryz.ntmps20
  go_wp2_with fail
  rw [HW1.out]
  refine (refobject_any _ _ _ _ _ _).mono ?_
  rintro e w2 ⟨rfl, hb2⟩
  have HB2 := hidd (below_step (below_new HB1.out (.cells #[.int .i64 x0, .int .i64 (65536 * x1 + x2)] 2)) hb2)
  have hz2 : W1.heap.size < w2.heap.size := by have := hb2.size; simp at this; omega
  have HL2 := hidd (HL.out.to (w' := w2) (p' := fun q => w.heap.size + 2 ≤ q ∧ q < w2.heap.size) (fun q hq => ⟨⟨hq.1, by omega⟩, hb2.block q (by simpa using hq.2)⟩))
  obtain ⟨bc, bf⟩ := bcell hb2
  have p0 : w2.cell? ⟨w.heap.size + 1, 0, none⟩ = some (.int .i64 0) := by rw [bc _ _ (by simp; omega), (below_new (Below.refl W1.heap.size W1) _).cell (p := ⟨w.heap.size + 1, 0, none⟩) (by show w.heap.size + 1 < W1.heap.size; omega)]; exact g0
  have q0 : w2.frozen? ⟨w.heap.size + 1, 0, none⟩ = false := by rw [bf _ _ (by simp; omega), (below_new (Below.refl W1.heap.size W1) _).frozen (p := ⟨w.heap.size + 1, 0, none⟩) (by show w.heap.size + 1 < W1.heap.size; omega)]; exact h0
  have p1 : w2.cell? ⟨w.heap.size + 1, 1, none⟩ = some (.int .i64 0) := by rw [bc _ _ (by simp; omega), (below_new (Below.refl W1.heap.size W1) _).cell (p := ⟨w.heap.size + 1, 1, none⟩) (by show w.heap.size + 1 < W1.heap.size; omega)]; exact g1
  have q1 : w2.frozen? ⟨w.heap.size + 1, 1, none⟩ = false := by rw [bf _ _ (by simp; omega), (below_new (Below.refl W1.heap.size W1) _).frozen (p := ⟨w.heap.size + 1, 1, none⟩) (by show w.heap.size + 1 < W1.heap.size; omega)]; exact h1
  have p2 : w2.cell? ⟨w.heap.size + 1, 2, none⟩ = some (.slice none 0 0) := by rw [bc _ _ (by simp; omega), (below_new (Below.refl W1.heap.size W1) _).cell (p := ⟨w.heap.size + 1, 2, none⟩) (by show w.heap.size + 1 < W1.heap.size; omega)]; exact g2
  have q2 : w2.frozen? ⟨w.heap.size + 1, 2, none⟩ = false := by rw [bf _ _ (by simp; omega), (below_new (Below.refl W1.heap.size W1) _).frozen (p := ⟨w.heap.size + 1, 2, none⟩) (by show w.heap.size + 1 < W1.heap.size; omega)]; exact h2
  clear hb2 bc bf g0 h0 g1 h1 g2 h2
  go_wp2_with fail
  refine bodyPost_ret (v := .agg #[.int .i64 6, .int .i64 1, .slice (some ⟨W1.heap.size, 0, none⟩) 2 2]) (by simp [results, Tryz.results20, go_sem, *]) rfl ⟨by have q := HB2.out; (repeat' (first | (with_reducible exact Below.refl _ _) | (with_reducible assumption) | (with_reducible apply Below.setCell) | (with_reducible apply Below.alloc) | (with_reducible apply Below.drew) | (with_reducible apply below_drewN) | (with_reducible refine Below.trans ?_ (Below.mono (by assumption) ?_)) | omega | (simp; done) | (simp; omega))), some ⟨W1.heap.size, 0, none⟩, 2, rfl, ?_⟩
  exact (((HL2.out.low (p := ⟨w.heap.size + 1, 0, none⟩) (by simp) _).low (p := ⟨w.heap.size + 1, 1, none⟩) (by simp) _).low (p := ⟨w.heap.size + 1, 2, none⟩) (by simp) _).to (fun q hq => ⟨⟨by omega, hq.2⟩, rfl⟩)
set_option maxHeartbeats 2000000 in
theorem refmayF_any (x0 x1 x2 : Int) (w : World) : Calls Tryz.prog 19 #[.agg #[.int .i64 x0, .int .i64 x1, .int .i64 x2]] w fun e w' => e = .returned (.bool (mayF x0 x1 x2)) ∧ Below w.heap.size w w' := by
  have c0 := hidd (fun W => refWithin_any 0 x0 15 W)
  have c1 := hidd (fun W => refWithin_any 0 x1 255 W)
  have c2 := hidd (fun W => refWithin_any 0 x2 65535 W)
  unfold mayF
  generalize inB 0 x0 15 = B0 at *
  generalize inB 0 x1 255 = B1 at *
  generalize inB 0 x2 65535 = B2 at *
  cases B0
  · go_enter Tryz.func19, Tryz.ntmps19
    go_wp2_with fail
    refine (c0.out _).mono ?_
    rintro e w1 ⟨rfl, rfl⟩
    go_wp2_with fail
    go_ret
    exact ⟨by first | rfl | simp, by (repeat' (first | (with_reducible exact Below.refl _ _) | (with_reducible assumption) | (with_reducible apply Below.setCell) | (with_reducible apply Below.alloc) | (with_reducible apply Below.drew) | (with_reducible apply below_drewN) | (with_reducible refine Below.trans ?_ (Below.mono (by assumption) ?_)) | omega | (simp; done) | (simp; omega)))⟩
  cases B1
  · go_enter Tryz.func19, Tryz.ntmps19
    go_wp2_with fail
    refine (c0.out _).mono ?_
    rintro e w1 ⟨rfl, rfl⟩
    go_wp2_with fail
    refine (c1.out _).mono ?_
    rintro e w1 ⟨rfl, rfl⟩
    go_wp2_with fail
    go_ret
    exact ⟨by first | rfl | simp, by (repeat' (first | (with_reducible exact Below.refl _ _) | (with_reducible assumption) | (with_reducible apply Below.setCell) | (with_reducible apply Below.alloc) | (with_reducible apply Below.drew) | (with_reducible apply below_drewN) | (with_reducible refine Below.trans ?_ (Below.mono (by assumption) ?_)) | omega | (simp; done) | (simp; omega)))⟩
  go_enter Tryz.func19, Tryz.ntmps19
  go_wp2_with fail
  refine (c0.out _).mono ?_
  rintro e w1 ⟨rfl, rfl⟩
  go_wp2_with fail
  refine (c1.out _).mono ?_
  rintro e w1 ⟨rfl, rfl⟩
  go_wp2_with fail
  refine (c2.out _).mono ?_
  rintro e w1 ⟨rfl, rfl⟩
  go_wp2_with fail
  go_ret
  exact ⟨by first | rfl | simp, by (repeat' (first | (with_reducible exact Below.refl _ _) | (with_reducible assumption) | (with_reducible apply Below.setCell) | (with_reducible apply Below.alloc) | (with_reducible apply Below.drew) | (with_reducible apply below_drewN) | (with_reducible refine Below.trans ?_ (Below.mono (by assumption) ?_)) | omega | (simp; done) | (simp; omega)))⟩
set_option maxHeartbeats 2000000 in
theorem refobjTell_any (x : Int) (hm : mayT x = true) (w : World) : Calls Tryz.prog 35 #[.int .i64 x] w (ObjEnd 15 1 [x] w) := by
  simp only [mayT, inB_iff] at hm
  obtain ⟨W1, hW1⟩ : ∃ W1, (w.alloc (.cells #[.int .i64 0, .int .i64 0, .slice none 0 0] 42)) = W1 := ⟨_, rfl⟩
  have hz1 : W1.heap.size = w.heap.size + 1 := by rw [← hW1]; simp
  have hb1 : Below w.heap.size w W1 := by rw [← hW1]; (repeat' (first | (with_reducible exact Below.refl _ _) | (with_reducible assumption) | (with_reducible apply Below.setCell) | (with_reducible apply Below.alloc) | (with_reducible apply Below.drew) | (with_reducible apply below_drewN) | (with_reducible refine Below.trans ?_ (Below.mono (by assumption) ?_)) | omega | (simp; done) | (simp; omega)))
  have g0 : W1.cell? ⟨w.heap.size, 0, none⟩ = some (.int .i64 0) := by rw [← hW1]; simp [go_sem]
  have h0 : W1.frozen? ⟨w.heap.size, 0, none⟩ = false := by rw [← hW1]; simp [go_sem]
  have g1 : W1.cell? ⟨w.heap.size, 1, none⟩ = some (.int .i64 0) := by rw [← hW1]; simp [go_sem]
  have h1 : W1.frozen? ⟨w.heap.size, 1, none⟩ = false := by rw [← hW1]; simp [go_sem]
  have g2 : W1.cell? ⟨w.heap.size, 2, none⟩ = some (.slice none 0 0) := by rw [← hW1]; simp [go_sem]
  have h2 : W1.frozen? ⟨w.heap.size, 2, none⟩ = false := by rw [← hW1]; simp [go_sem]
  have HL := hidd (lie_new W1 [x] 2 _ rfl (fun q => w.heap.size + 1 ≤ q ∧ q < W1.heap.size + 1) ⟨by omega, by omega⟩)
  have HB1 := hidd hb1
  have HW1 := hidd hW1
  clear hW1 hb1 hm
  unfold ObjEnd
  go_enter Tryz.func35, Tryz.ntmps35
  go_wp2_with fail
  rw [HW1.out]
  refine (refobject_any _ _ _ _ _ _).mono ?_
  rintro e w2 ⟨rfl, hb2⟩
  have HB2 := hidd (below_step (below_new HB1.out (.cells #[.int .i64 x] 2)) hb2)
  have hz2 : W1.heap.size < w2.heap.size := by have := hb2.size; simp at this; omega
  have HL2 := hidd (HL.out.to (w' := w2) (p' := fun q => w.heap.size + 1 ≤ q ∧ q < w2.heap.size) (fun q hq => ⟨⟨hq.1, by omega⟩, hb2.block q (by simpa using hq.2)⟩))
  obtain ⟨bc, bf⟩ := bcell hb2
  have p0 : w2.cell? ⟨w.heap.size, 0, none⟩ = some (.int .i64 0) := by rw [bc _ _ (by simp; omega), (below_new (Below.refl W1.heap.size W1) _).cell (p := ⟨w.heap.size, 0, none⟩) (by show w.heap.size < W1.heap.size; omega)]; exact g0
  have q0 : w2.frozen? ⟨w.heap.size, 0, none⟩ = false := by rw [bf _ _ (by simp; omega), (below_new (Below.refl W1.heap.size W1) _).frozen (p := ⟨w.heap.size, 0, none⟩) (by show w.heap.size < W1.heap.size; omega)]; exact h0
  have p1 : w2.cell? ⟨w.heap.size, 1, none⟩ = some (.int .i64 0) := by rw [bc _ _ (by simp; omega), (below_new (Below.refl W1.heap.size W1) _).cell (p := ⟨w.heap.size, 1, none⟩) (by show w.heap.size < W1.heap.size; omega)]; exact g1
  have q1 : w2.frozen? ⟨w.heap.size, 1, none⟩ = false := by rw [bf _ _ (by simp; omega), (below_new (Below.refl W1.heap.size W1) _).frozen (p := ⟨w.heap.size, 1, none⟩) (by show w.heap.size < W1.heap.size; omega)]; exact h1
  have p2 : w2.cell? ⟨w.heap.size, 2, none⟩ = some (.slice none 0 0) := by rw [bc _ _ (by simp; omega), (below_new (Below.refl W1.heap.size W1) _).cell (p := ⟨w.heap.size, 2, none⟩) (by show w.heap.size < W1.heap.size; omega)]; exact g2
  have q2 : w2.frozen? ⟨w.heap.size, 2, none⟩ = false := by rw [bf _ _ (by simp; omega), (below_new (Below.refl W1.heap.size W1) _).frozen (p := ⟨w.heap.size, 2, none⟩) (by show w.heap.size < W1.heap.size; omega)]; exact h2
  clear hb2 bc bf g0 h0 g1 h1 g2 h2
  go_wp2_with fail
  refine bodyPost_ret (v := .agg #[.int .i64 15, .int .i64 1, .slice (some ⟨W1.heap.size, 0, none⟩) 1 1]) (by simp [results, Tryz.results35, go_sem, *]) rfl ⟨by have q := HB2.out; (repeat' (first | (with_reducible exact Below.refl _ _) | (with_reducible assumption) | (with_reducible apply Below.setCell) | (with_reducible apply Below.alloc) | (with_reducible apply Below.drew) | (with_reducible apply below_drewN) | (with_reducible refine Below.trans ?_ (Below.mono (by assumption) ?_)) | omega | (simp; done) | (simp; omega))), some ⟨W1.heap.size, 0, none⟩, 1, rfl, ?_⟩
  exact (((HL2.out.low (p := ⟨w.heap.size, 0, none⟩) (by simp) _).low (p := ⟨w.heap.size, 1, none⟩) (by simp) _).low (p := ⟨w.heap.size, 2, none⟩) (by simp) _).to (fun q hq => ⟨⟨by omega, hq.2⟩, rfl⟩)
set_option maxHeartbeats 2000000 in
theorem refmayT_any (x : Int) (w : World) : Calls Tryz.prog 34 #[.int .i64 x] w fun e w' => e = .returned (.bool (mayT x)) ∧ Below w.heap.size w w' := by
  have c0 := hidd (fun W => refWithin_any 0 x 15 W)
  unfold mayT
  generalize inB 0 x 15 = B0 at *
  go_enter Tryz.func34, Tryz.ntmps34
  go_wp2_with fail
  refine (c0.out _).mono ?_
  rintro e w1 ⟨rfl, rfl⟩
  go_wp2_with fail
  go_ret
  exact ⟨by first | rfl | simp, by (repeat' (first | (with_reducible exact Below.refl _ _) | (with_reducible assumption) | (with_reducible apply Below.setCell) | (with_reducible apply Below.alloc) | (with_reducible apply Below.drew) | (with_reducible apply below_drewN) | (with_reducible refine Below.trans ?_ (Below.mono (by assumption) ?_)) | omega | (simp; done) | (simp; omega)))⟩
set_option maxHeartbeats 2000000 in
theorem refobjTerms_any (x0 x1 : Int) (hm : mayM x0 x1 = true) (w : World) : Calls Tryz.prog 51 #[.agg #[.int .i64 x0, .int .i64 x1]] w (ObjEnd 13 2 [x0, x1] w) := by
  obtain ⟨W1, hW1⟩ : ∃ W1, ((w.alloc (.cells #[.int .i64 x0, .int .i64 x1] 35)).alloc (.cells #[.int .i64 0, .int .i64 0, .slice none 0 0] 42)) = W1 := ⟨_, rfl⟩
  have hz1 : W1.heap.size = w.heap.size + 2 := by rw [← hW1]; simp
  have hb1 : Below w.heap.size w W1 := by rw [← hW1]; (repeat' (first | (with_reducible exact Below.refl _ _) | (with_reducible assumption) | (with_reducible apply Below.setCell) | (with_reducible apply Below.alloc) | (with_reducible apply Below.drew) | (with_reducible apply below_drewN) | (with_reducible refine Below.trans ?_ (Below.mono (by assumption) ?_)) | omega | (simp; done) | (simp; omega)))
  have g0 : W1.cell? ⟨w.heap.size + 1, 0, none⟩ = some (.int .i64 0) := by rw [← hW1]; simp [go_sem]
  have h0 : W1.frozen? ⟨w.heap.size + 1, 0, none⟩ = false := by rw [← hW1]; simp [go_sem]
  have g1 : W1.cell? ⟨w.heap.size + 1, 1, none⟩ = some (.int .i64 0) := by rw [← hW1]; simp [go_sem]
  have h1 : W1.frozen? ⟨w.heap.size + 1, 1, none⟩ = false := by rw [← hW1]; simp [go_sem]
  have g2 : W1.cell? ⟨w.heap.size + 1, 2, none⟩ = some (.slice none 0 0) := by rw [← hW1]; simp [go_sem]
  have h2 : W1.frozen? ⟨w.heap.size + 1, 2, none⟩ = false := by rw [← hW1]; simp [go_sem]
  have HL := hidd (lie_new W1 [x0, x1] 2 _ rfl (fun q => w.heap.size + 2 ≤ q ∧ q < W1.heap.size + 1) ⟨by omega, by omega⟩)
  have HB1 := hidd hb1
  have HW1 := hidd hW1
  clear hW1 hb1 hm
  unfold ObjEnd
  go_enter Tryz.func51, Tryz.ntmps51
  go_wp2_with fail
  rw [HW1.out]
  refine (refobject_any _ _ _ _ _ _).mono ?_
  rintro e w2 ⟨rfl, hb2⟩
  have HB2 := hidd (below_step (below_new HB1.out (.cells #[.int .i64 x0, .int .i64 x1] 2)) hb2)
  have hz2 : W1.heap.size < w2.heap.size := by have := hb2.size; simp at this; omega
  have HL2 := hidd (HL.out.to (w' := w2) (p' := fun q => w.heap.size + 2 ≤ q ∧ q < w2.heap.size) (fun q hq => ⟨⟨hq.1, by omega⟩, hb2.block q (by simpa using hq.2)⟩))
  obtain ⟨bc, bf⟩ := bcell hb2
  have p0 : w2.cell? ⟨w.heap.size + 1, 0, none⟩ = some (.int .i64 0) := by rw [bc _ _ (by simp; omega), (below_new (Below.refl W1.heap.size W1) _).cell (p := ⟨w.heap.size + 1, 0, none⟩) (by show w.heap.size + 1 < W1.heap.size; omega)]; exact g0
  have q0 : w2.frozen? ⟨w.heap.size + 1, 0, none⟩ = false := by rw [bf _ _ (by simp; omega), (below_new (Below.refl W1.heap.size W1) _).frozen (p := ⟨w.heap.size + 1, 0, none⟩) (by show w.heap.size + 1 < W1.heap.size; omega)]; exact h0
  have p1 : w2.cell? ⟨w.heap.size + 1, 1, none⟩ = some (.int .i64 0) := by rw [bc _ _ (by simp; omega), (below_new (Below.refl W1.heap.size W1) _).cell (p := ⟨w.heap.size + 1, 1, none⟩) (by show w.heap.size + 1 < W1.heap.size; omega)]; exact g1
  have q1 : w2.frozen? ⟨w.heap.size + 1, 1, none⟩ = false := by rw [bf _ _ (by simp; omega), (below_new (Below.refl W1.heap.size W1) _).frozen (p := ⟨w.heap.size + 1, 1, none⟩) (by show w.heap.size + 1 < W1.heap.size; omega)]; exact h1
  have p2 : w2.cell? ⟨w.heap.size + 1, 2, none⟩ = some (.slice none 0 0) := by rw [bc _ _ (by simp; omega), (below_new (Below.refl W1.heap.size W1) _).cell (p := ⟨w.heap.size + 1, 2, none⟩) (by show w.heap.size + 1 < W1.heap.size; omega)]; exact g2
  have q2 : w2.frozen? ⟨w.heap.size + 1, 2, none⟩ = false := by rw [bf _ _ (by simp; omega), (below_new (Below.refl W1.heap.size W1) _).frozen (p := ⟨w.heap.size + 1, 2, none⟩) (by show w.heap.size + 1 < W1.heap.size; omega)]; exact h2
  clear hb2 bc bf g0 h0 g1 h1 g2 h2
  go_wp2_with fail
  refine bodyPost_ret (v := .agg #[.int .i64 13, .int .i64 2, .slice (some ⟨W1.heap.size, 0, none⟩) 2 2]) (by simp [results, Tryz.results51, go_sem, *]) rfl ⟨by have q := HB2.out; (repeat' (first | (with_reducible exact Below.refl _ _) | (with_reducible assumption) | (with_reducible apply Below.setCell) | (with_reducible apply Below.alloc) | (with_reducible apply Below.drew) | (with_reducible apply below_drewN) | (with_reducible refine Below.trans ?_ (Below.mono (by assumption) ?_)) | omega | (simp; done) | (simp; omega))), some ⟨W1.heap.size, 0, none⟩, 2, rfl, ?_⟩
  exact (((HL2.out.low (p := ⟨w.heap.size + 1, 0, none⟩) (by simp) _).low (p := ⟨w.heap.size + 1, 1, none⟩) (by simp) _).low (p := ⟨w.heap.size + 1, 2, none⟩) (by simp) _).to (fun q hq => ⟨⟨by omega, hq.2⟩, rfl⟩)
set_option maxHeartbeats 2000000 in
theorem refobjFilter_any (x0 x1 : Int) (hm : mayN x0 x1 = true) (w : World) : Calls Tryz.prog 40 #[.agg #[.int .i64 x0, .int .i64 x1]] w (ObjEnd 10 1 [x0, x1] w) := by
  simp only [mayN, Bool.and_eq_true, inB_iff] at hm
  obtain ⟨W1, hW1⟩ : ∃ W1, ((w.alloc (.cells #[.int .i64 x0, .int .i64 x1] 33)).alloc (.cells #[.int .i64 0, .int .i64 0, .slice none 0 0] 42)) = W1 := ⟨_, rfl⟩
  have hz1 : W1.heap.size = w.heap.size + 2 := by rw [← hW1]; simp
  have hb1 : Below w.heap.size w W1 := by rw [← hW1]; (repeat' (first | (with_reducible exact Below.refl _ _) | (with_reducible assumption) | (with_reducible apply Below.setCell) | (with_reducible apply Below.alloc) | (with_reducible apply Below.drew) | (with_reducible apply below_drewN) | (with_reducible refine Below.trans ?_ (Below.mono (by assumption) ?_)) | omega | (simp; done) | (simp; omega)))
  have g0 : W1.cell? ⟨w.heap.size + 1, 0, none⟩ = some (.int .i64 0) := by rw [← hW1]; simp [go_sem]
  have h0 : W1.frozen? ⟨w.heap.size + 1, 0, none⟩ = false := by rw [← hW1]; simp [go_sem]
  have g1 : W1.cell? ⟨w.heap.size + 1, 1, none⟩ = some (.int .i64 0) := by rw [← hW1]; simp [go_sem]
  have h1 : W1.frozen? ⟨w.heap.size + 1, 1, none⟩ = false := by rw [← hW1]; simp [go_sem]
  have g2 : W1.cell? ⟨w.heap.size + 1, 2, none⟩ = some (.slice none 0 0) := by rw [← hW1]; simp [go_sem]
  have h2 : W1.frozen? ⟨w.heap.size + 1, 2, none⟩ = false := by rw [← hW1]; simp [go_sem]
  have HL := hidd (lie_new W1 [x0, x1] 2 _ rfl (fun q => w.heap.size + 2 ≤ q ∧ q < W1.heap.size + 1) ⟨by omega, by omega⟩)
  have HB1 := hidd hb1
  have HW1 := hidd hW1
  clear hW1 hb1 hm
  unfold ObjEnd
  go_enter Tryz.func40, Tryz.ntmps40
  go_wp2_with fail
  rw [HW1.out]
  refine (refobject_any _ _ _ _ _ _).mono ?_
  rintro e w2 ⟨rfl, hb2⟩
  have HB2 := hidd (below_step (below_new HB1.out (.cells #[.int .i64 x0, .int .i64 x1] 2)) hb2)
  have hz2 : W1.heap.size < w2.heap.size := by have := hb2.size; simp at this; omega
  have HL2 := hidd (HL.out.to (w' := w2) (p' := fun q => w.heap.size + 2 ≤ q ∧ q < w2.heap.size) (fun q hq => ⟨⟨hq.1, by omega⟩, hb2.block q (by simpa using hq.2)⟩))
  obtain ⟨bc, bf⟩ := bcell hb2
  have p0 : w2.cell? ⟨w.heap.size + 1, 0, none⟩ = some (.int .i64 0) := by rw [bc _ _ (by simp; omega), (below_new (Below.refl W1.heap.size W1) _).cell (p := ⟨w.heap.size + 1, 0, none⟩) (by show w.heap.size + 1 < W1.heap.size; omega)]; exact g0
  have q0 : w2.frozen? ⟨w.heap.size + 1, 0, none⟩ = false := by rw [bf _ _ (by simp; omega), (below_new (Below.refl W1.heap.size W1) _).frozen (p := ⟨w.heap.size + 1, 0, none⟩) (by show w.heap.size + 1 < W1.heap.size; omega)]; exact h0
  have p1 : w2.cell? ⟨w.heap.size + 1, 1, none⟩ = some (.int .i64 0) := by rw [bc _ _ (by simp; omega), (below_new (Below.refl W1.heap.size W1) _).cell (p := ⟨w.heap.size + 1, 1, none⟩) (by show w.heap.size + 1 < W1.heap.size; omega)]; exact g1
  have q1 : w2.frozen? ⟨w.heap.size + 1, 1, none⟩ = false := by rw [bf _ _ (by simp; omega), (below_new (Below.refl W1.heap.size W1) _).frozen (p := ⟨w.heap.size + 1, 1, none⟩) (by show w.heap.size + 1 < W1.heap.size; omega)]; exact h1
  have p2 : w2.cell? ⟨w.heap.size + 1, 2, none⟩ = some (.slice none 0 0) := by rw [bc _ _ (by simp; omega), (below_new (Below.refl W1.heap.size W1) _).cell (p := ⟨w.heap.size + 1, 2, none⟩) (by show w.heap.size + 1 < W1.heap.size; omega)]; exact g2
  have q2 : w2.frozen? ⟨w.heap.size + 1, 2, none⟩ = false := by rw [bf _ _ (by simp; omega), (below_new (Below.refl W1.heap.size W1) _).frozen (p := ⟨w.heap.size + 1, 2, none⟩) (by show w.heap.size + 1 < W1.heap.size; omega)]; exact h2
  clear hb2 bc bf g0 h0 g1 h1 g2 h2
  go_wp2_with fail
  refine bodyPost_ret (v := .agg #[.int .i64 10, .int .i64 1, .slice (some ⟨W1.heap.size, 0, none⟩) 2 2]) (by simp [results, Tryz.results40, go_sem, *]) rfl ⟨by have q := HB2.out; (repeat' (first | (with_reducible exact Below.refl _ _) | (with_reducible assumption) | (with_reducible apply Below.setCell) | (with_reducible apply Below.alloc) | (with_reducible apply Below.drew) | (with_reducible apply below_drewN) | (with_reducible refine Below.trans ?_ (Below.mono (by assumption) ?_)) | omega | (simp; done) | (simp; omega))), some ⟨W1.heap.size, 0, none⟩, 2, rfl, ?_⟩
  exact (((HL2.out.low (p := ⟨w.heap.size + 1, 0, none⟩) (by simp) _).low (p := ⟨w.heap.size + 1, 1, none⟩) (by simp) _).low (p := ⟨w.heap.size + 1, 2, none⟩) (by simp) _).to (fun q hq => ⟨⟨by omega, hq.2⟩, rfl⟩)
set_option maxHeartbeats 2000000 in
theorem refmayN_any (x0 x1 : Int) (w : World) : Calls Tryz.prog 39 #[.agg #[.int .i64 x0, .int .i64 x1]] w fun e w' => e = .returned (.bool (mayN x0 x1)) ∧ Below w.heap.size w w' := by
  have c0 := hidd (fun W => refWithin_any 0 x0 15 W)
  have c1 := hidd (fun W => refWithin_any 1 x1 65535 W)
  unfold mayN
  generalize inB 0 x0 15 = B0 at *
  generalize inB 1 x1 65535 = B1 at *
  cases B0
  · go_enter Tryz.func39, Tryz.ntmps39
    go_wp2_with fail
    refine (c0.out _).mono ?_
    rintro e w1 ⟨rfl, rfl⟩
    go_wp2_with fail
    go_ret
    exact ⟨by first | rfl | simp, by (repeat' (first | (with_reducible exact Below.refl _ _) | (with_reducible assumption) | (with_reducible apply Below.setCell) | (with_reducible apply Below.alloc) | (with_reducible apply Below.drew) | (with_reducible apply below_drewN) | (with_reducible refine Below.trans ?_ (Below.mono (by assumption) ?_)) | omega | (simp; done) | (simp; omega)))⟩
  go_enter Tryz.func39, Tryz.ntmps39
  go_wp2_with fail
  refine (c0.out _).mono ?_
  rintro e w1 ⟨rfl, rfl⟩
  go_wp2_with fail
  refine (c1.out _).mono ?_
  rintro e w1 ⟨rfl, rfl⟩
  go_wp2_with fail
  go_ret
  exact ⟨by first | rfl | simp, by (repeat' (first | (with_reducible exact Below.refl _ _) | (with_reducible assumption) | (with_reducible apply Below.setCell) | (with_reducible apply Below.alloc) | (with_reducible apply Below.drew) | (with_reducible apply below_drewN) | (with_reducible refine Below.trans ?_ (Below.mono (by assumption) ?_)) | omega | (simp; done) | (simp; omega)))⟩
set_option maxHeartbeats 2000000 in
theorem refobjSender_any (x0 x1 : Int) (hm : mayN x0 x1 = true) (w : World) : Calls Tryz.prog 43 #[.agg #[.int .i64 x0, .int .i64 x1]] w (ObjEnd 11 1 [x0, x1] w) := by
  simp only [mayN, Bool.and_eq_true, inB_iff] at hm
  obtain ⟨W1, hW1⟩ : ∃ W1, ((w.alloc (.cells #[.int .i64 x0, .int .i64 x1] 33)).alloc (.cells #[.int .i64 0, .int .i64 0, .slice none 0 0] 42)) = W1 := ⟨_, rfl⟩
  have hz1 : W1.heap.size = w.heap.size + 2 := by rw [← hW1]; simp
  have hb1 : Below w.heap.size w W1 := by rw [← hW1]; (repeat' (first | (with_reducible exact Below.refl _ _) | (with_reducible assumption) | (with_reducible apply Below.setCell) | (with_reducible apply Below.alloc) | (with_reducible apply Below.drew) | (with_reducible apply below_drewN) | (with_reducible refine Below.trans ?_ (Below.mono (by assumption) ?_)) | omega | (simp; done) | (simp; omega)))
  have g0 : W1.cell? ⟨w.heap.size + 1, 0, none⟩ = some (.int .i64 0) := by rw [← hW1]; simp [go_sem]
  have h0 : W1.frozen? ⟨w.heap.size + 1, 0, none⟩ = false := by rw [← hW1]; simp [go_sem]
  have g1 : W1.cell? ⟨w.heap.size + 1, 1, none⟩ = some (.int .i64 0) := by rw [← hW1]; simp [go_sem]
  have h1 : W1.frozen? ⟨w.heap.size + 1, 1, none⟩ = false := by rw [← hW1]; simp [go_sem]
  have g2 : W1.cell? ⟨w.heap.size + 1, 2, none⟩ = some (.slice none 0 0) := by rw [← hW1]; simp [go_sem]
  have h2 : W1.frozen? ⟨w.heap.size + 1, 2, none⟩ = false := by rw [← hW1]; simp [go_sem]
  have HL := hidd (lie_new W1 [x0, x1] 2 _ rfl (fun q => w.heap.size + 2 ≤ q ∧ q < W1.heap.size + 1) ⟨by omega, by omega⟩)
  have HB1 := hidd hb1
  have HW1 := hidd hW1
  clear hW1 hb1 hm
  unfold ObjEnd
  go_enter Tryz.func43, Tryz.ntmps43
  go_wp2_with fail
  rw [HW1.out]
  refine (refobject_any _ _ _ _ _ _).mono ?_
  rintro e w2 ⟨rfl, hb2⟩
  have HB2 := hidd (below_step (below_new HB1.out (.cells #[.int .i64 x0, .int .i64 x1] 2)) hb2)
  have hz2 : W1.heap.size < w2.heap.size := by have := hb2.size; simp at this; omega
  have HL2 := hidd (HL.out.to (w' := w2) (p' := fun q => w.heap.size + 2 ≤ q ∧ q < w2.heap.size) (fun q hq => ⟨⟨hq.1, by omega⟩, hb2.block q (by simpa using hq.2)⟩))
  obtain ⟨bc, bf⟩ := bcell hb2
  have p0 : w2.cell? ⟨w.heap.size + 1, 0, none⟩ = some (.int .i64 0) := by rw [bc _ _ (by simp; omega), (below_new (Below.refl W1.heap.size W1) _).cell (p := ⟨w.heap.size + 1, 0, none⟩) (by show w.heap.size + 1 < W1.heap.size; omega)]; exact g0
  have q0 : w2.frozen? ⟨w.heap.size + 1, 0, none⟩ = false := by rw [bf _ _ (by simp; omega), (below_new (Below.refl W1.heap.size W1) _).frozen (p := ⟨w.heap.size + 1, 0, none⟩) (by show w.heap.size + 1 < W1.heap.size; omega)]; exact h0
  have p1 : w2.cell? ⟨w.heap.size + 1, 1, none⟩ = some (.int .i64 0) := by rw [bc _ _ (by simp; omega), (below_new (Below.refl W1.heap.size W1) _).cell (p := ⟨w.heap.size + 1, 1, none⟩) (by show w.heap.size + 1 < W1.heap.size; omega)]; exact g1
  have q1 : w2.frozen? ⟨w.heap.size + 1, 1, none⟩ = false := by rw [bf _ _ (by simp; omega), (below_new (Below.refl W1.heap.size W1) _).frozen (p := ⟨w.heap.size + 1, 1, none⟩) (by show w.heap.size + 1 < W1.heap.size; omega)]; exact h1
  have p2 : w2.cell? ⟨w.heap.size + 1, 2, none⟩ = some (.slice none 0 0) := by rw [bc _ _ (by simp; omega), (below_new (Below.refl W1.heap.size W1) _).cell (p := ⟨w.heap.size + 1, 2, none⟩) (by show w.heap.size + 1 < W1.heap.size; omega)]; exact g2
  have q2 : w2.frozen? ⟨w.heap.size + 1, 2, none⟩ = false := by rw [bf _ _ (by simp; omega), (below_new (Below.refl W1.heap.size W1) _).frozen (p := ⟨w.heap.size + 1, 2, none⟩) (by show w.heap.size + 1 < W1.heap.size; omega)]; exact h2
  clear hb2 bc bf g0 h0 g1 h1 g2 h2
  go_wp2_with fail
  refine bodyPost_ret (v := .agg #[.int .i64 11, .int .i64 1, .slice (some ⟨W1.heap.size, 0, none⟩) 2 2]) (by simp [results, Tryz.results43, go_sem, *]) rfl ⟨by have q := HB2.out; (repeat' (first | (with_reducible exact Below.refl _ _) | (with_reducible assumption) | (with_reducible apply Below.setCell) | (with_reducible apply Below.alloc) | (with_reducible apply Below.drew) | (with_reducible apply below_drewN) | (with_reducible refine Below.trans ?_ (Below.mono (by assumption) ?_)) | omega | (simp; done) | (simp; omega))), some ⟨W1.heap.size, 0, none⟩, 2, rfl, ?_⟩
  exact (((HL2.out.low (p := ⟨w.heap.size + 1, 0, none⟩) (by simp) _).low (p := ⟨w.heap.size + 1, 1, none⟩) (by simp) _).low (p := ⟨w.heap.size + 1, 2, none⟩) (by simp) _).to (fun q hq => ⟨⟨by omega, hq.2⟩, rfl⟩)
set_option maxHeartbeats 2000000 in
theorem refobjSpec_any (x0 x1 x2 x3 x4 : Int) (hm : mayP x0 x1 x2 x3 x4 = true) (w : World) : Calls Tryz.prog 47 #[.agg #[.int .i64 x0, .int .i64 x1, .int .i64 x2, .int .i64 x3, .int .i64 x4]] w (ObjEnd 12 2 [x1, x2, x0, x4, x3] w) := by
  obtain ⟨W1, hW1⟩ : ∃ W1, ((w.alloc (.cells #[.int .i64 x0, .int .i64 x1, .int .i64 x2, .int .i64 x3, .int .i64 x4] 30)).alloc (.cells #[.int .i64 0, .int .i64 0, .slice none 0 0] 42)) = W1 := ⟨_, rfl⟩
  have hz1 : W1.heap.size = w.heap.size + 2 := by rw [← hW1]; simp
  have hb1 : Below w.heap.size w W1 := by rw [← hW1]; (repeat' (first | (with_reducible exact Below.refl _ _) | (with_reducible assumption) | (with_reducible apply Below.setCell) | (with_reducible apply Below.alloc) | (with_reducible apply Below.drew) | (with_reducible apply below_drewN) | (with_reducible refine Below.trans ?_ (Below.mono (by assumption) ?_)) | omega | (simp; done) | (simp; omega)))
  have g0 : W1.cell? ⟨w.heap.size + 1, 0, none⟩ = some (.int .i64 0) := by rw [← hW1]; simp [go_sem]
  have h0 : W1.frozen? ⟨w.heap.size + 1, 0, none⟩ = false := by rw [← hW1]; simp [go_sem]
  have g1 : W1.cell? ⟨w.heap.size + 1, 1, none⟩ = some (.int .i64 0) := by rw [← hW1]; simp [go_sem]
  have h1 : W1.frozen? ⟨w.heap.size + 1, 1, none⟩ = false := by rw [← hW1]; simp [go_sem]
  have g2 : W1.cell? ⟨w.heap.size + 1, 2, none⟩ = some (.slice none 0 0) := by rw [← hW1]; simp [go_sem]
  have h2 : W1.frozen? ⟨w.heap.size + 1, 2, none⟩ = false := by rw [← hW1]; simp [go_sem]
  have HL := hidd (lie_new W1 [x1, x2, x0, x4, x3] 2 _ rfl (fun q => w.heap.size + 2 ≤ q ∧ q < W1.heap.size + 1) ⟨by omega, by omega⟩)
  have HB1 := hidd hb1
  have HW1 := hidd hW1
  clear hW1 hb1 hm
  unfold ObjEnd
  go_enter Tryz.func47, Tryz.ntmps47
  go_wp2_with fail
  rw [HW1.out]
  refine (refobject_any _ _ _ _ _ _).mono ?_
  rintro e w2 ⟨rfl, hb2⟩
  have HB2 := hidd (below_step (below_new HB1.out (.cells #[.int .i64 x1, .int .i64 x2, .int .i64 x0, .int .i64 x4, .int .i64 x3] 2)) hb2)
  have hz2 : W1.heap.size < w2.heap.size := by have := hb2.size; simp at this; omega
  have HL2 := hidd (HL.out.to (w' := w2) (p' := fun q => w.heap.size + 2 ≤ q ∧ q < w2.heap.size) (fun q hq => ⟨⟨hq.1, by omega⟩, hb2.block q (by simpa using hq.2)⟩))
  obtain ⟨bc, bf⟩ := bcell hb2
  have p0 : w2.cell? ⟨w.heap.size + 1, 0, none⟩ = some (.int .i64 0) := by rw [bc _ _ (by simp; omega), (below_new (Below.refl W1.heap.size W1) _).cell (p := ⟨w.heap.size + 1, 0, none⟩) (by show w.heap.size + 1 < W1.heap.size; omega)]; exact g0
  have q0 : w2.frozen? ⟨w.heap.size + 1, 0, none⟩ = false := by rw [bf _ _ (by simp; omega), (below_new (Below.refl W1.heap.size W1) _).frozen (p := ⟨w.heap.size + 1, 0, none⟩) (by show w.heap.size + 1 < W1.heap.size; omega)]; exact h0
  have p1 : w2.cell? ⟨w.heap.size + 1, 1, none⟩ = some (.int .i64 0) := by rw [bc _ _ (by simp; omega), (below_new (Below.refl W1.heap.size W1) _).cell (p := ⟨w.heap.size + 1, 1, none⟩) (by show w.heap.size + 1 < W1.heap.size; omega)]; exact g1
  have q1 : w2.frozen? ⟨w.heap.size + 1, 1, none⟩ = false := by rw [bf _ _ (by simp; omega), (below_new (Below.refl W1.heap.size W1) _).frozen (p := ⟨w.heap.size + 1, 1, none⟩) (by show w.heap.size + 1 < W1.heap.size; omega)]; exact h1
  have p2 : w2.cell? ⟨w.heap.size + 1, 2, none⟩ = some (.slice none 0 0) := by rw [bc _ _ (by simp; omega), (below_new (Below.refl W1.heap.size W1) _).cell (p := ⟨w.heap.size + 1, 2, none⟩) (by show w.heap.size + 1 < W1.heap.size; omega)]; exact g2
  have q2 : w2.frozen? ⟨w.heap.size + 1, 2, none⟩ = false := by rw [bf _ _ (by simp; omega), (below_new (Below.refl W1.heap.size W1) _).frozen (p := ⟨w.heap.size + 1, 2, none⟩) (by show w.heap.size + 1 < W1.heap.size; omega)]; exact h2
  clear hb2 bc bf g0 h0 g1 h1 g2 h2
  go_wp2_with fail
  refine bodyPost_ret (v := .agg #[.int .i64 12, .int .i64 2, .slice (some ⟨W1.heap.size, 0, none⟩) 5 5]) (by simp [results, Tryz.results47, go_sem, *]) rfl ⟨by have q := HB2.out; (repeat' (first | (with_reducible exact Below.refl _ _) | (with_reducible assumption) | (with_reducible apply Below.setCell) | (with_reducible apply Below.alloc) | (with_reducible apply Below.drew) | (with_reducible apply below_drewN) | (with_reducible refine Below.trans ?_ (Below.mono (by assumption) ?_)) | omega | (simp; done) | (simp; omega))), some ⟨W1.heap.size, 0, none⟩, 5, rfl, ?_⟩
  exact (((HL2.out.low (p := ⟨w.heap.size + 1, 0, none⟩) (by simp) _).low (p := ⟨w.heap.size + 1, 1, none⟩) (by simp) _).low (p := ⟨w.heap.size + 1, 2, none⟩) (by simp) _).to (fun q hq => ⟨⟨by omega, hq.2⟩, rfl⟩)
set_option maxHeartbeats 2000000 in
theorem refRight2 (p r u m l : Int) (w : World) : Calls Tryz.prog 46 #[.agg #[.int .i64 p, .int .i64 r, .int .i64 u, .int .i64 m, .int .i64 l]] w fun e w' => e = .returned (.bool (Zp.rightB p r u m l)) ∧ Below w.heap.size w w' := by
  have hb : ∀ R, Zp.rightB p r u m l = R → Hid (R = decide (1 ≤ r ∧ r ≤ p ∧ p ≤ 1000000 ∧ 1 ≤ l ∧ l ≤ m ∧ m ≤ 2000 ∧ m ≤ u ∧ u ≤ 10000000)) := fun R h => by subst h; exact rfl
  have HB := hb _ rfl
  generalize Zp.rightB p r u m l = R at *
  clear hb
  go_enter Tryz.func46, Tryz.ntmps46
  go_wp2_with fail
  all_goals go_ret
  all_goals (refine ⟨ret_bool ?_, by (repeat' (first | (with_reducible exact Below.refl _ _) | (with_reducible assumption) | (with_reducible apply Below.setCell) | (with_reducible apply Below.alloc) | (with_reducible apply Below.drew) | (with_reducible apply below_drewN) | (with_reducible refine Below.trans ?_ (Below.mono (by assumption) ?_)) | omega | (simp; done) | (simp; omega)))⟩; rw [HB.out]; first | (simp [*]; done) | (simp [*]; omega))
set_option maxHeartbeats 2000000 in
theorem refRight5 (c d : Int) (w : World) : Calls Tryz.prog 84 #[.agg #[.int .i64 c, .int .i64 d]] w fun e w' => e = .returned (.bool (termB c d)) ∧ Below w.heap.size w w' := by
  have walk : ∀ B, termB c d = B → (0 ≤ c → c ≤ 10000000 → 0 ≤ d → B = decide (d ≤ 1000000)) → (¬ (0 ≤ c ∧ c ≤ 10000000 ∧ 0 ≤ d) → B = false) → Calls Tryz.prog 84 #[.agg #[.int .i64 c, .int .i64 d]] w fun e w' => e = .returned (.bool B) ∧ Below w.heap.size w w' := by
    intro B _ hy hn
    by_cases h1 : 0 ≤ c
    · by_cases h2 : c ≤ 10000000
      · by_cases h3 : 0 ≤ d
        · have e := hy h1 h2 h3
          clear hy hn
          subst e
          go_enter Tryz.func84, Tryz.ntmps84
          go_wp2_with fail
          go_ret
          exact ⟨by first | rfl | simp, by (repeat' (first | (with_reducible exact Below.refl _ _) | (with_reducible assumption) | (with_reducible apply Below.setCell) | (with_reducible apply Below.alloc) | (with_reducible apply Below.drew) | (with_reducible apply below_drewN) | (with_reducible refine Below.trans ?_ (Below.mono (by assumption) ?_)) | omega | (simp; done) | (simp; omega)))⟩
        · have e := hn (fun h => h3 h.2.2)
          clear hy hn
          subst e
          go_enter Tryz.func84, Tryz.ntmps84
          go_wp2_with fail
          go_ret
          exact ⟨by first | rfl | simp, by (repeat' (first | (with_reducible exact Below.refl _ _) | (with_reducible assumption) | (with_reducible apply Below.setCell) | (with_reducible apply Below.alloc) | (with_reducible apply Below.drew) | (with_reducible apply below_drewN) | (with_reducible refine Below.trans ?_ (Below.mono (by assumption) ?_)) | omega | (simp; done) | (simp; omega)))⟩
      · have e := hn (fun h => h2 h.2.1)
        clear hy hn
        subst e
        go_enter Tryz.func84, Tryz.ntmps84
        go_wp2_with fail
        go_ret
        exact ⟨by first | rfl | simp, by (repeat' (first | (with_reducible exact Below.refl _ _) | (with_reducible assumption) | (with_reducible apply Below.setCell) | (with_reducible apply Below.alloc) | (with_reducible apply Below.drew) | (with_reducible apply below_drewN) | (with_reducible refine Below.trans ?_ (Below.mono (by assumption) ?_)) | omega | (simp; done) | (simp; omega)))⟩
    · have e := hn (fun h => h1 h.1)
      clear hy hn
      subst e
      go_enter Tryz.func84, Tryz.ntmps84
      go_wp2_with fail
      go_ret
      exact ⟨by first | rfl | simp, by (repeat' (first | (with_reducible exact Below.refl _ _) | (with_reducible assumption) | (with_reducible apply Below.setCell) | (with_reducible apply Below.alloc) | (with_reducible apply Below.drew) | (with_reducible apply below_drewN) | (with_reducible refine Below.trans ?_ (Below.mono (by assumption) ?_)) | omega | (simp; done) | (simp; omega)))⟩
  refine walk _ rfl (fun h1 h2 h3 => by simp [termB, inB, h1, h2, h3]) (fun h => ?_)
  cases q : termB c d
  · rfl
  · simp [termB, inB] at q
    omega
end Go.Proofs.YtappmacnoopmkaaGreat
