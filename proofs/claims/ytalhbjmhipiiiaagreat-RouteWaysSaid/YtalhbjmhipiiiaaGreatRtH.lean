/- Routes: where a way begins. -/
import Derived.Test.YtalhbjmhipiiiaaGreatRtG
namespace Go.Proofs.YtalhbjmhipiiiaaGreat.Tp
set_option linter.unusedVariables false
open Go.RowKit Go.Maps

set_option maxRecDepth 100000 in
set_option maxHeartbeats 4000000 in
theorem firstW_any (bw m : Nat) (n : Int) (L : List Lk) (hV : Valid n L) (far : FarT) (lks : LksT) (x t : Nat) (hx : (x : Int) < n) (ht : t < 16) (W : World) (h : WaysAt W W.heap.size bw m n L far lks) :
    Calls Tryz.prog 85 #[.pointer (some ⟨bw, 0, none⟩), .int .i64 (x : Int), .int .i64 (t : Int)] W fun e w' =>
      e = .returned (.agg #[.int .i64 (oN (bst (gOf L (fun y => far y t)) (outs L (x : Int)) none)), .int .i64 (oT L (bst (gOf L (fun y => far y t)) (outs L (x : Int)) none))]) ∧ Below W.heap.size W w' := by
  have hmf : ∀ (fn : Fn) (first cap : Array Value) (w : World), (Instr.makeFunc fn first cap).run Tryz.prog w = .ok (.func fn first cap) w := fun _ _ _ _ => rfl
  obtain ⟨W0, hW0⟩ : ∃ W0, ((W.alloc (.cells #[.pointer (some ⟨bw, 0, none⟩)] 70)).alloc (.cells #[.int .i64 (t : Int)] 3)).alloc (.cells #[.int .i64 0, .int .i64 0] 148) = W0 := ⟨_, rfl⟩
  have hs0 : W0.heap.size = W.heap.size + 3 := by rw [← hW0]; simp
  have hb0 : Below W.heap.size W W0 := by rw [← hW0]; (repeat' (first | (with_reducible exact Below.refl _ _) | (with_reducible assumption) | (with_reducible apply Below.setCell) | (with_reducible apply Below.alloc) | (with_reducible apply Below.drew) | (with_reducible apply below_drewN) | (with_reducible refine Below.trans ?_ (Below.mono (by assumption) ?_)) | omega | (simp; done) | (simp; omega)))
  have p0 : W0.cell? ⟨W.heap.size, 0, none⟩ = some (.pointer (some ⟨bw, 0, none⟩)) := by rw [← hW0]; simp [go_sem]
  have p1 : W0.cell? ⟨W.heap.size + 1, 0, none⟩ = some (.int .i64 (t : Int)) := by rw [← hW0]; simp [go_sem]
  have r0 : W0.cell? ⟨W.heap.size + 2, 0, none⟩ = some (.int .i64 0) := by rw [← hW0]; simp [go_sem]
  have r1 : W0.cell? ⟨W.heap.size + 2, 1, none⟩ = some (.int .i64 0) := by rw [← hW0]; simp [go_sem]
  have z0 : W0.frozen? ⟨W.heap.size + 2, 0, none⟩ = false := by rw [← hW0]; simp [go_sem]
  have z1 : W0.frozen? ⟨W.heap.size + 2, 1, none⟩ = false := by rw [← hW0]; simp [go_sem]
  obtain ⟨W1, hW1⟩ : ∃ W1, (W0.alloc (.cells #[.pointer (some ⟨bw, 0, none⟩)] 70)).alloc (.cells #[.int .i64 (x : Int)] 3) = W1 := ⟨_, rfl⟩
  have hs1 : W1.heap.size = W0.heap.size + 2 := by rw [← hW1]; simp
  have hb1 : Below W0.heap.size W0 W1 := by rw [← hW1]; (repeat' (first | (with_reducible exact Below.refl _ _) | (with_reducible assumption) | (with_reducible apply Below.setCell) | (with_reducible apply Below.alloc) | (with_reducible apply Below.drew) | (with_reducible apply below_drewN) | (with_reducible refine Below.trans ?_ (Below.mono (by assumption) ?_)) | omega | (simp; done) | (simp; omega)))
  have q1 : W1.cell? ⟨W0.heap.size, 0, none⟩ = some (.pointer (some ⟨bw, 0, none⟩)) := by rw [← hW1]; simp [go_sem]
  have r2 : W1.cell? ⟨W0.heap.size + 1, 0, none⟩ = some (.int .i64 (x : Int)) := by rw [← hW1]; simp [go_sem]
  have hA1 : WaysAt W1 W1.heap.size bw m n L far lks := (h.below hb0).below hb1
  have NA := hidd (near_any bw (x : Int) W0)
  have hblt := h.lt
  have LA := hidd (least_any W0.heap.size (W0.heap.size + 1) bw m n L hV (x : Int) (by omega) hx W.heap.size (W.heap.size + 1) t ht (fun y => far y t) W1
    ⟨q1, r2, hA1.map, by omega, by omega, by omega, hA1.mapAt⟩ ((hb1.cell (p := ⟨W.heap.size, 0, none⟩) (by show W.heap.size < _; omega)).trans p0) ((hb1.cell (p := ⟨W.heap.size + 1, 0, none⟩) (by show W.heap.size + 1 < _; omega)).trans p1) (fun y hy => hA1.far y t hy ht))
  have HB1 := hidd (hb0.trans (hb1.mono (by omega)))
  have HB01 := hidd hb1
  have HS0 := hidd hs0
  have HW := hidd hW0
  have HW1 := hidd hW1
  have HP0 := hidd p0
  clear h hs0 hb0 hW0 hs1 hb1 hA1 hW1 q1 r2 p1
  go_enter Tryz.func85, Tryz.ntmps85
  go_wp2_with fail
  rw [HW.out]
  refine NA.out.mono ?_
  rintro e w1 ⟨rfl, hw1⟩
  rw [HW1.out] at hw1
  subst hw1
  go_wp2_with fail
  refine LA.out.mono ?_
  rintro e w2 ⟨rfl, hb2⟩
  have HB2 := hidd (HB1.out.trans (hb2.mono HB1.out.size))
  have hb02 : Below W0.heap.size W0 w2 := HB01.out.trans (hb2.mono HB01.out.size)
  have hs0 := HS0.out
  have e0 := (hb02.cell (p := ⟨W.heap.size + 2, 0, none⟩) (by show W.heap.size + 2 < _; omega)).trans r0
  have e1 := (hb02.cell (p := ⟨W.heap.size + 2, 1, none⟩) (by show W.heap.size + 2 < _; omega)).trans r1
  have y0 := (hb02.frozen (p := ⟨W.heap.size + 2, 0, none⟩) (by show W.heap.size + 2 < _; omega)).trans z0
  have y1 := (hb02.frozen (p := ⟨W.heap.size + 2, 1, none⟩) (by show W.heap.size + 2 < _; omega)).trans z1
  obtain ⟨vN, hN⟩ : ∃ v, oN (bst (gOf L (fun y => far y t)) (outs L (x : Int)) none) = v := ⟨_, rfl⟩
  obtain ⟨vT, hT⟩ : ∃ v, oT L (bst (gOf L (fun y => far y t)) (outs L (x : Int)) none) = v := ⟨_, rfl⟩
  have HN := hidd hN
  have HT := hidd hT
  rw [hN, hT]
  clear hb2 hb02 hs0 r0 r1 z0 z1 hN hT
  go_wp2_with fail
  refine ⟨rfl, .agg #[.int .i64 vN, .int .i64 vT], ?_, by rw [HN.out, HT.out], ?_⟩
  · have g0 : ((w2.setCell ⟨W.heap.size + 2, 0, none⟩ (.int .i64 vN)).setCell ⟨W.heap.size + 2, 1, none⟩ (.int .i64 vT)).cell? ⟨W.heap.size + 2, 0, none⟩ = some (.int .i64 vN) := (set_other _ (by omega)).trans (World.cell?_setCell_same' _ _ _ (by rw [e0]; rfl))
    have g1 : ((w2.setCell ⟨W.heap.size + 2, 0, none⟩ (.int .i64 vN)).setCell ⟨W.heap.size + 2, 1, none⟩ (.int .i64 vT)).cell? ⟨W.heap.size + 2, 1, none⟩ = some (.int .i64 vT) := World.cell?_setCell_same' _ _ _ (by rw [set_other _ (by omega), e1]; rfl)
    simp [results, Tryz.results85, go_sem, g0, g1]
  · exact (HB2.out.setCell (p := ⟨W.heap.size + 2, 0, none⟩) (Nat.le_add_right _ _) (.int .i64 vN)).setCell (p := ⟨W.heap.size + 2, 1, none⟩) (Nat.le_add_right _ _) (.int .i64 vT)
end Go.Proofs.YtalhbjmhipiiiaaGreat.Tp
