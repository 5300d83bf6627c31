/- The walk of BoundWays: a link's terms, and those of a way. -/
import Derived.Test.YtlhfblonopebfaaBdJ
namespace Go.Proofs.Ytlhfblonopebfaa
set_option linter.unusedVariables false
open Go.RowKit

theorem three_new (w : World) (x0 x1 x2 : Int) (T : TypeId) {W : World} (hb : Below (w.alloc (.cells #[.int .i64 x0, .int .i64 x1, .int .i64 x2] T)).heap.size (w.alloc (.cells #[.int .i64 x0, .int .i64 x1, .int .i64 x2] T)) W) :
    w.heap.size < W.heap.size ∧ W.cell? ⟨w.heap.size, 0, none⟩ = some (.int .i64 x0) ∧ W.cell? ⟨w.heap.size, 1, none⟩ = some (.int .i64 x1) ∧ W.cell? ⟨w.heap.size, 2, none⟩ = some (.int .i64 x2) :=
  ⟨by have := hb.size; simp at this; omega, by rw [hb.cell (by simp)]; simp [go_sem], by rw [hb.cell (by simp)]; simp [go_sem], by rw [hb.cell (by simp)]; simp [go_sem]⟩
set_option maxRecDepth 100000 in
set_option maxHeartbeats 8000000 in
theorem ways_walk (x0 x1 x2 : Int) (A : Option Addr) (l : List (Int × Int)) (c : Nat) (hc : l.length ≤ c) (hcm : c ≤ maxLen) (w : World) (hl : LiesO w A l) :
    Calls Try.prog 4 #[.agg #[.int .i64 x0, .int .i64 x1, .int .i64 x2], .slice A l.length c] w fun e w' => e = .returned (.bool true) ∧ Below w.heap.size w w' := by
  have ck := hidd (fun W => known5_any W)
  have hLm : l.length ≤ maxLen := Nat.le_trans hc hcm
  unfold maxLen at hLm
  have A0 := hidd (fun W hb => three_new w x0 x1 x2 41 (W := W) hb)
  by_cases h30 : 30 < l.length
  · have h30' : (30 : Int) < (l.length : Int) := by omega
    clear hl
    go_enter Try.func4, Try.ntmps4
    go_wp2_with fail
    refine (ck.out _).mono ?_
    rintro e w1 ⟨rfl, hb1⟩
    go_wp2_with fail
    go_ret
    exact ⟨rfl, below_step (below_new (Below.refl w.heap.size w) _) hb1⟩
  have h30' : ¬ (30 : Int) < (l.length : Int) := by omega
  have kW := fun W (hb : Below w.heap.size w W) => Way_any A l c (by omega) W (hl.below hb)
  have kV := fun W (hb : Below w.heap.size w W) => refWay_any A l c (by omega) W (hl.below hb)
  obtain ⟨R, hR⟩ : ∃ R, wayR l = R := ⟨_, rfl⟩
  rw [hR] at kW kV
  obtain ⟨R1, R2, R3⟩ := R
  unfold pairOf at kW kV
  dsimp only at kW kV
  have cW := hidd kW
  have cV := hidd kV
  have kL := fun W => Link_any x0 x1 x2 W
  have kR := fun W => refLink_any x0 x1 x2 W
  generalize upZ x1 x0 + 1 + x2 = U at *
  have hs1 := fun w => terms_eq_same R1 R2 w
  obtain ⟨yz, y0, y1, y2⟩ := A0.out _ (Below.refl _ _)
  clear hR hl kW kV
  by_cases hB : linkB x0 x1 x2 = true
  · simp only [if_pos hB] at kL kR
    have hs2 := fun w => terms_eq_same x1 U w
    have cL := hidd kL
    have cR := hidd kR
    clear kL kR hB
    go_enter Try.func4, Try.ntmps4
    go_wp2_with fail
    refine (cL.out _).mono ?_
    rintro e1 w1 ⟨rfl, hb1⟩
    have HA1 := hidd (A0.out _ hb1)
    have HB1 := hidd (below_step (below_new (Below.refl w.heap.size w) _) hb1)
    clear hb1 y0 y1 y2
    obtain ⟨yz, y0, y1, y2⟩ := HA1.out
    go_wp2_with fail
    refine (cR.out _).mono ?_
    rintro e2 w2 ⟨rfl, hb2⟩
    have F2 := hidd ((GBox.new (rfl : w1.heap.size = w1.heap.size) 25 x1 U).step hb2)
    have HB2 := hidd (below_step (below_new HB1.out _) hb2)
    clear hb2 y0 y1 y2
    go_wp2_with fail
    refine (cW.out _ (below_new HB2.out _)).mono ?_
    rintro e3 w3 ⟨rfl, hb3⟩
    have F3 := hidd ((F2.out.past _).step hb3)
    have G3 := hidd ((GBox.new (rfl : w2.heap.size = w2.heap.size) 25 x1 U).step hb3)
    have HB3 := hidd (below_step (below_new HB2.out _) hb3)
    clear hb3
    go_wp2_with fail
    refine (cV.out _ (below_new HB3.out _)).mono ?_
    rintro e4 w4 ⟨rfl, hb4⟩
    obtain ⟨fz, f0, f1, _, _⟩ := (F3.out.past _).step hb4
    obtain ⟨gz, g0, g1, _, _⟩ := (G3.out.past _).step hb4
    obtain ⟨kz, k0, k1, _, _⟩ := (GBox.new (rfl : w3.heap.size = w3.heap.size) 25 R1 R2).step hb4
    have HB4 := hidd (below_step (below_new HB3.out _) hb4)
    clear hb4
    go_wp2_with fail
    refine (ck.out _).mono ?_
    rintro e5 w5 ⟨rfl, hb5⟩
    go_wp2_with fail
    go_ret
    exact ⟨by first | rfl | simp, below_step (below_new HB4.out _) hb5⟩
  · simp only [if_neg hB] at kL kR
    have hs2 := fun w => terms_eq_same 0 0 w
    have cL := hidd kL
    have cR := hidd kR
    clear kL kR hB
    go_enter Try.func4, Try.ntmps4
    go_wp2_with fail
    refine (cL.out _).mono ?_
    rintro e1 w1 ⟨rfl, hb1⟩
    have HA1 := hidd (A0.out _ hb1)
    have HB1 := hidd (below_step (below_new (Below.refl w.heap.size w) _) hb1)
    clear hb1 y0 y1 y2
    obtain ⟨yz, y0, y1, y2⟩ := HA1.out
    go_wp2_with fail
    refine (cR.out _).mono ?_
    rintro e2 w2 ⟨rfl, hb2⟩
    have F2 := hidd ((GBox.new (rfl : w1.heap.size = w1.heap.size) 25 0 0).step hb2)
    have HB2 := hidd (below_step (below_new HB1.out _) hb2)
    clear hb2 y0 y1 y2
    go_wp2_with fail
    refine (cW.out _ (below_new HB2.out _)).mono ?_
    rintro e3 w3 ⟨rfl, hb3⟩
    have F3 := hidd ((F2.out.past _).step hb3)
    have G3 := hidd ((GBox.new (rfl : w2.heap.size = w2.heap.size) 25 0 0).step hb3)
    have HB3 := hidd (below_step (below_new HB2.out _) hb3)
    clear hb3
    go_wp2_with fail
    refine (cV.out _ (below_new HB3.out _)).mono ?_
    rintro e4 w4 ⟨rfl, hb4⟩
    obtain ⟨fz, f0, f1, _, _⟩ := (F3.out.past _).step hb4
    obtain ⟨gz, g0, g1, _, _⟩ := (G3.out.past _).step hb4
    obtain ⟨kz, k0, k1, _, _⟩ := (GBox.new (rfl : w3.heap.size = w3.heap.size) 25 R1 R2).step hb4
    have HB4 := hidd (below_step (below_new HB3.out _) hb4)
    clear hb4
    go_wp2_with fail
    refine (ck.out _).mono ?_
    rintro e5 w5 ⟨rfl, hb5⟩
    go_wp2_with fail
    go_ret
    exact ⟨by first | rfl | simp, below_step (below_new HB4.out _) hb5⟩
end Go.Proofs.Ytlhfblonopebfaa
