/- Maps: TopoCopies, where there is no map. -/
import Derived.Test.YtjnceoklnmmhjaaTpY
import Derived.Test.YtjnceoklnmmhjaaTpO
namespace Go.Proofs.Ytjnceoklnmmhjaa.Tp
set_option linter.unusedVariables false
open Go.RowKit Go.Maps

set_option maxRecDepth 100000 in
set_option maxHeartbeats 4000000 in
theorem copies_x0 (n : Int) (A : Option Addr) (L : List Lk) (c : Nat) (many : Int) (hc : L.length ≤ c) (hc2 : c ≤ maxLen) (hlen : 60 < L.length) (w : World) :
    Calls Try.prog 4 #[.int .i64 n, .slice A L.length c, .int .i64 many] w fun e w' => e = .returned (.bool true) ∧ Below w.heap.size w w' := by
  have hl3 : (L.length : Int) ≤ 9223372036854775807 := by unfold maxLen at hc2; omega
  have hl2 : (60 : Int) < (L.length : Int) := by omega
  have hd1 : decide ((60 : Int) < (L.length : Int)) = true := decide_eq_true hl2
  obtain ⟨W0, hW0⟩ : ∃ W0, (w.alloc (.cells #[.int .i64 many] 3)).alloc (.cells #[.bool false] 4) = W0 := ⟨_, rfl⟩
  have hz : W0.heap.size = w.heap.size + 2 := by rw [← hW0]; simp
  have hb0 : Below w.heap.size w W0 := by rw [← hW0]; (repeat' (first | (with_reducible exact Below.refl _ _) | (with_reducible assumption) | (with_reducible apply Below.setCell) | (with_reducible apply Below.alloc) | (with_reducible apply Below.drew) | (with_reducible apply below_drewN) | (with_reducible refine Below.trans ?_ (Below.mono (by assumption) ?_)) | omega | (simp; done) | (simp; omega)))
  have q0 : W0.cell? ⟨w.heap.size, 0, none⟩ = some (.int .i64 many) := by rw [← hW0]; simp [go_sem]
  have r0 : W0.cell? ⟨w.heap.size + 1, 0, none⟩ = some (.bool false) := by rw [← hW0]; simp [go_sem]
  have r1 : W0.frozen? ⟨w.heap.size + 1, 0, none⟩ = false := by rw [← hW0]; simp [go_sem]
  have RC := hidd (fun W (h : Below W0.heap.size W0 W) => show W.cell? ⟨w.heap.size, 0, none⟩ = some (.int .i64 many) ∧ W.cell? ⟨w.heap.size + 1, 0, none⟩ = some (.bool false) ∧ W.frozen? ⟨w.heap.size + 1, 0, none⟩ = false from ⟨(h.cell (p := ⟨w.heap.size, 0, none⟩) (show w.heap.size < W0.heap.size by omega)).trans q0, (h.cell (p := ⟨w.heap.size + 1, 0, none⟩) (show w.heap.size + 1 < W0.heap.size by omega)).trans r0, (h.frozen (p := ⟨w.heap.size + 1, 0, none⟩) (show w.heap.size + 1 < W0.heap.size by omega)).trans r1⟩)
  have cK := hidd (fun W => known_any W)
  have HW := hidd hW0
  have HB0 := hidd hb0
  have HZ := hidd hz
  clear hW0
  clear hz hb0 hc hc2 hlen
  go_enter Try.func4, Try.ntmps4
  go_wp2_with fail
  rw [HW.out]
  refine (cK.out _).mono ?_
  rintro e w1 ⟨rfl, hb1⟩
  obtain ⟨c0, c1, c2⟩ := RC.out _ hb1
  have HB1 := hidd (HB0.out.trans (hb1.mono HB0.out.size))
  clear hb1 q0 r0 r1
  go_wp2_with fail
  exact bodyPost_ret (v := .bool true) (by simp [results, Try.results4, go_sem, *]) rfl ⟨rfl, HB1.out.setCell (p := ⟨w.heap.size + 1, 0, none⟩) (Nat.le_add_right _ _) _⟩
set_option maxRecDepth 100000 in
set_option maxHeartbeats 4000000 in
theorem copies_x1 (n : Int) (A : Option Addr) (L : List Lk) (c : Nat) (many : Int) (hc : L.length ≤ c) (hc2 : c ≤ maxLen) (hlen : ¬ 60 < L.length) (hm : many < 1) (w : World) :
    Calls Try.prog 4 #[.int .i64 n, .slice A L.length c, .int .i64 many] w fun e w' => e = .returned (.bool true) ∧ Below w.heap.size w w' := by
  have hl3 : (L.length : Int) ≤ 9223372036854775807 := by unfold maxLen at hc2; omega
  have hl2 : ¬ (60 : Int) < (L.length : Int) := by omega
  have hd1 : decide ((60 : Int) < (L.length : Int)) = false := decide_eq_false hl2
  obtain ⟨W0, hW0⟩ : ∃ W0, (w.alloc (.cells #[.int .i64 many] 3)).alloc (.cells #[.bool false] 4) = W0 := ⟨_, rfl⟩
  have hz : W0.heap.size = w.heap.size + 2 := by rw [← hW0]; simp
  have hb0 : Below w.heap.size w W0 := by rw [← hW0]; (repeat' (first | (with_reducible exact Below.refl _ _) | (with_reducible assumption) | (with_reducible apply Below.setCell) | (with_reducible apply Below.alloc) | (with_reducible apply Below.drew) | (with_reducible apply below_drewN) | (with_reducible refine Below.trans ?_ (Below.mono (by assumption) ?_)) | omega | (simp; done) | (simp; omega)))
  have q0 : W0.cell? ⟨w.heap.size, 0, none⟩ = some (.int .i64 many) := by rw [← hW0]; simp [go_sem]
  have r0 : W0.cell? ⟨w.heap.size + 1, 0, none⟩ = some (.bool false) := by rw [← hW0]; simp [go_sem]
  have r1 : W0.frozen? ⟨w.heap.size + 1, 0, none⟩ = false := by rw [← hW0]; simp [go_sem]
  have RC := hidd (fun W (h : Below W0.heap.size W0 W) => show W.cell? ⟨w.heap.size, 0, none⟩ = some (.int .i64 many) ∧ W.cell? ⟨w.heap.size + 1, 0, none⟩ = some (.bool false) ∧ W.frozen? ⟨w.heap.size + 1, 0, none⟩ = false from ⟨(h.cell (p := ⟨w.heap.size, 0, none⟩) (show w.heap.size < W0.heap.size by omega)).trans q0, (h.cell (p := ⟨w.heap.size + 1, 0, none⟩) (show w.heap.size + 1 < W0.heap.size by omega)).trans r0, (h.frozen (p := ⟨w.heap.size + 1, 0, none⟩) (show w.heap.size + 1 < W0.heap.size by omega)).trans r1⟩)
  have cK := hidd (fun W => known_any W)
  have HW := hidd hW0
  have HB0 := hidd hb0
  have HZ := hidd hz
  clear hW0
  clear hz hb0 hc hc2 hlen
  go_enter Try.func4, Try.ntmps4
  go_wp2_with fail
  rw [HW.out]
  refine (cK.out _).mono ?_
  rintro e w1 ⟨rfl, hb1⟩
  obtain ⟨c0, c1, c2⟩ := RC.out _ hb1
  have HB1 := hidd (HB0.out.trans (hb1.mono HB0.out.size))
  clear hb1 q0 r0 r1
  go_wp2_with fail
  exact bodyPost_ret (v := .bool true) (by simp [results, Try.results4, go_sem, *]) rfl ⟨rfl, HB1.out.setCell (p := ⟨w.heap.size + 1, 0, none⟩) (Nat.le_add_right _ _) _⟩
set_option maxRecDepth 100000 in
set_option maxHeartbeats 4000000 in
theorem copies_x2 (n : Int) (A : Option Addr) (L : List Lk) (c : Nat) (many : Int) (hc : L.length ≤ c) (hc2 : c ≤ maxLen) (hlen : ¬ 60 < L.length) (hm : ¬ many < 1) (hm2 : 20 < many) (w : World) :
    Calls Try.prog 4 #[.int .i64 n, .slice A L.length c, .int .i64 many] w fun e w' => e = .returned (.bool true) ∧ Below w.heap.size w w' := by
  have hl3 : (L.length : Int) ≤ 9223372036854775807 := by unfold maxLen at hc2; omega
  have hl2 : ¬ (60 : Int) < (L.length : Int) := by omega
  have hd1 : decide ((60 : Int) < (L.length : Int)) = false := decide_eq_false hl2
  have hd2 : decide (many < 1) = false := decide_eq_false hm
  obtain ⟨W0, hW0⟩ : ∃ W0, (w.alloc (.cells #[.int .i64 many] 3)).alloc (.cells #[.bool false] 4) = W0 := ⟨_, rfl⟩
  have hz : W0.heap.size = w.heap.size + 2 := by rw [← hW0]; simp
  have hb0 : Below w.heap.size w W0 := by rw [← hW0]; (repeat' (first | (with_reducible exact Below.refl _ _) | (with_reducible assumption) | (with_reducible apply Below.setCell) | (with_reducible apply Below.alloc) | (with_reducible apply Below.drew) | (with_reducible apply below_drewN) | (with_reducible refine Below.trans ?_ (Below.mono (by assumption) ?_)) | omega | (simp; done) | (simp; omega)))
  have q0 : W0.cell? ⟨w.heap.size, 0, none⟩ = some (.int .i64 many) := by rw [← hW0]; simp [go_sem]
  have r0 : W0.cell? ⟨w.heap.size + 1, 0, none⟩ = some (.bool false) := by rw [← hW0]; simp [go_sem]
  have r1 : W0.frozen? ⟨w.heap.size + 1, 0, none⟩ = false := by rw [← hW0]; simp [go_sem]
  have RC := hidd (fun W (h : Below W0.heap.size W0 W) => show W.cell? ⟨w.heap.size, 0, none⟩ = some (.int .i64 many) ∧ W.cell? ⟨w.heap.size + 1, 0, none⟩ = some (.bool false) ∧ W.frozen? ⟨w.heap.size + 1, 0, none⟩ = false from ⟨(h.cell (p := ⟨w.heap.size, 0, none⟩) (show w.heap.size < W0.heap.size by omega)).trans q0, (h.cell (p := ⟨w.heap.size + 1, 0, none⟩) (show w.heap.size + 1 < W0.heap.size by omega)).trans r0, (h.frozen (p := ⟨w.heap.size + 1, 0, none⟩) (show w.heap.size + 1 < W0.heap.size by omega)).trans r1⟩)
  have cK := hidd (fun W => known_any W)
  have HW := hidd hW0
  have HB0 := hidd hb0
  have HZ := hidd hz
  clear hW0
  clear hz hb0 hc hc2 hlen
  go_enter Try.func4, Try.ntmps4
  go_wp2_with fail
  rw [HW.out]
  refine (cK.out _).mono ?_
  rintro e w1 ⟨rfl, hb1⟩
  obtain ⟨c0, c1, c2⟩ := RC.out _ hb1
  have HB1 := hidd (HB0.out.trans (hb1.mono HB0.out.size))
  clear hb1 q0 r0 r1
  go_wp2_with fail
  exact bodyPost_ret (v := .bool true) (by simp [results, Try.results4, go_sem, *]) rfl ⟨rfl, HB1.out.setCell (p := ⟨w.heap.size + 1, 0, none⟩) (Nat.le_add_right _ _) _⟩
set_option maxRecDepth 100000 in
set_option maxHeartbeats 4000000 in
theorem copies_no (n : Int) (A : Option Addr) (L : List Lk) (c : Nat) (many : Int) (hlen : ¬ 60 < L.length) (hm : ¬ many < 1) (hm2 : ¬ 20 < many) (hI : WideL L) (hE : errN n L ≠ 0) (w : World) (hA : Lie linkV 8 w w.heap.size A L) :
    Calls Try.prog 4 #[.int .i64 n, .slice A L.length c, .int .i64 many] w fun e w' => e = .returned (.bool true) ∧ Below w.heap.size w w' := by
  have hl2 : ¬ (60 : Int) < (L.length : Int) := by omega
  have hd1 : decide ((60 : Int) < (L.length : Int)) = false := decide_eq_false hl2
  have hd2 : decide (many < 1) = false := decide_eq_false hm
  obtain ⟨W0, hW0⟩ : ∃ W0, (w.alloc (.cells #[.int .i64 many] 3)).alloc (.cells #[.bool false] 4) = W0 := ⟨_, rfl⟩
  have hz : W0.heap.size = w.heap.size + 2 := by rw [← hW0]; simp
  have hb0 : Below w.heap.size w W0 := by rw [← hW0]; (repeat' (first | (with_reducible exact Below.refl _ _) | (with_reducible assumption) | (with_reducible apply Below.setCell) | (with_reducible apply Below.alloc) | (with_reducible apply Below.drew) | (with_reducible apply below_drewN) | (with_reducible refine Below.trans ?_ (Below.mono (by assumption) ?_)) | omega | (simp; done) | (simp; omega)))
  have q0 : W0.cell? ⟨w.heap.size, 0, none⟩ = some (.int .i64 many) := by rw [← hW0]; simp [go_sem]
  have r0 : W0.cell? ⟨w.heap.size + 1, 0, none⟩ = some (.bool false) := by rw [← hW0]; simp [go_sem]
  have r1 : W0.frozen? ⟨w.heap.size + 1, 0, none⟩ = false := by rw [← hW0]; simp [go_sem]
  have RC := hidd (fun W (h : Below W0.heap.size W0 W) => show W.cell? ⟨w.heap.size, 0, none⟩ = some (.int .i64 many) ∧ W.cell? ⟨w.heap.size + 1, 0, none⟩ = some (.bool false) ∧ W.frozen? ⟨w.heap.size + 1, 0, none⟩ = false from ⟨(h.cell (p := ⟨w.heap.size, 0, none⟩) (show w.heap.size < W0.heap.size by omega)).trans q0, (h.cell (p := ⟨w.heap.size + 1, 0, none⟩) (show w.heap.size + 1 < W0.heap.size by omega)).trans r0, (h.frozen (p := ⟨w.heap.size + 1, 0, none⟩) (show w.heap.size + 1 < W0.heap.size by omega)).trans r1⟩)
  have cK := hidd (fun W => known_any W)
  have HW := hidd hW0
  have HB0 := hidd hb0
  have HZ := hidd hz
  clear hW0
  have CN := hidd (New_any n A L c (by omega) hI W0 (hA.below hb0))
  have cS := hidd (fun W => Same_nn (.pointer none) (.pointer none) W (.inl rfl) (.inl rfl))
  clear hz hb0 hlen hA hI
  go_enter Try.func4, Try.ntmps4
  go_wp2_with fail
  rw [HW.out]
  refine CN.out.mono ?_
  rintro e w1 (⟨_, rfl, hb1⟩ | ⟨h, _⟩)
  rotate_left
  · exact absurd h hE
  have HB1 := hidd hb1
  clear hb1 q0 r0 r1 CN
  generalize errN n L = R at *
  have hR : (R == 0) = false := beq_eq_false_iff_ne.2 hE
  go_wp2_with fail
  refine (cS.out _).mono ?_
  rintro e w' ⟨rfl, rfl⟩
  go_wp2_with fail
  refine (cK.out _).mono ?_
  rintro e w2 ⟨rfl, hb2⟩
  have HB2 := hidd (below_step HB1.out hb2)
  obtain ⟨c0, c1, c2⟩ := RC.out _ HB2.out
  clear hb2
  go_wp2_with fail
  exact bodyPost_ret (v := .bool true) (by simp [results, Try.results4, go_sem, *]) rfl ⟨rfl, (HB0.out.trans (HB2.out.mono HB0.out.size)).setCell (p := ⟨w.heap.size + 1, 0, none⟩) (Nat.le_add_right _ _) _⟩
end Go.Proofs.Ytjnceoklnmmhjaa.Tp
