/- Maps: TopoChecks. -/
import Derived.Test.YtjnceoklnmmhjaaTpO
import Derived.Test.YtjnceoklnmmhjaaTpN
namespace Go.Proofs.Ytjnceoklnmmhjaa.Tp
set_option linter.unusedVariables false
open Go.RowKit Go.Maps

set_option maxRecDepth 100000 in
set_option maxHeartbeats 4000000 in
theorem topoChecks_walk (a0 a1 a2 a3 a4 a5 a6 a7 n : Int) (h0 : I64 a0) (h1 : I64 a1) (hn : I64 n) (w : World) :
    Calls Try.prog 3 #[.agg #[.int .i64 a0, .int .i64 a1, .int .i64 a2, .int .i64 a3, .int .i64 a4, .int .i64 a5, .int .i64 a6, .int .i64 a7], .int .i64 n] w fun e w' => e = .returned (.bool true) ∧ Below w.heap.size w w' := by
  have cC := hidd (fun W => Check_any a0 a1 a2 a3 a4 a5 a6 a7 n W)
  have cR := hidd (fun W => refRight_any a0 a1 a2 a3 a4 a5 a6 a7 n W)
  have cK := hidd (fun W => known_any W)
  generalize rightB n (a0, a1, a2, a3, a4, a5, a6, a7) = B at *
  clear h0 h1 hn
  cases B
  all_goals
    go_enter Try.func3, Try.ntmps3
    go_wp2_with fail
    refine (cC.out _).mono ?_
    rintro e w1 ⟨rfl, hb1⟩
    obtain ⟨bc, bf⟩ := bcell hb1
    have HB1 := hidd (below_step (below_new (Below.refl w.heap.size w) _) hb1)
    have z : w.heap.size < w1.heap.size := by have := hb1.size; simp at this; omega
    have c0 : w1.cell? ⟨w.heap.size, 0, none⟩ = some (.int .i64 a0) := by rw [bc _ _ (by (first | omega | (simp; done) | (simp; omega)))]; simp [go_sem]
    have c1 : w1.cell? ⟨w.heap.size, 1, none⟩ = some (.int .i64 a1) := by rw [bc _ _ (by (first | omega | (simp; done) | (simp; omega)))]; simp [go_sem]
    have c2 : w1.cell? ⟨w.heap.size, 2, none⟩ = some (.int .i64 a2) := by rw [bc _ _ (by (first | omega | (simp; done) | (simp; omega)))]; simp [go_sem]
    have c3 : w1.cell? ⟨w.heap.size, 3, none⟩ = some (.int .i64 a3) := by rw [bc _ _ (by (first | omega | (simp; done) | (simp; omega)))]; simp [go_sem]
    have c4 : w1.cell? ⟨w.heap.size, 4, none⟩ = some (.int .i64 a4) := by rw [bc _ _ (by (first | omega | (simp; done) | (simp; omega)))]; simp [go_sem]
    have c5 : w1.cell? ⟨w.heap.size, 5, none⟩ = some (.int .i64 a5) := by rw [bc _ _ (by (first | omega | (simp; done) | (simp; omega)))]; simp [go_sem]
    have c6 : w1.cell? ⟨w.heap.size, 6, none⟩ = some (.int .i64 a6) := by rw [bc _ _ (by (first | omega | (simp; done) | (simp; omega)))]; simp [go_sem]
    have c7 : w1.cell? ⟨w.heap.size, 7, none⟩ = some (.int .i64 a7) := by rw [bc _ _ (by (first | omega | (simp; done) | (simp; omega)))]; simp [go_sem]
    clear bc bf hb1
    go_wp2_with fail
    refine (cR.out _).mono ?_
    rintro e w2 ⟨rfl, hb2⟩
    have HB2 := hidd (below_step HB1.out hb2)
    clear hb2
    go_wp2_with fail
    refine (cK.out _).mono ?_
    rintro e w3 ⟨rfl, hb3⟩
    have HB3 := hidd (below_step HB2.out hb3)
    clear hb3
    go_wp2_with fail
    go_ret
    exact ⟨by first | rfl | simp, HB3.out⟩
end Go.Proofs.Ytjnceoklnmmhjaa.Tp
