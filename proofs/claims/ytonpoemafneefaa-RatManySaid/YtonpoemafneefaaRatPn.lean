/- What every law of the layer looks at besides: a half and a third, and two more. -/
import Derived.Test.YtonpoemafneefaaRatPm
import Derived.Test.YtonpoemafneefaaRatPl
namespace Go.Proofs.Ytonpoemafneefaa
open Go.RowKit

set_option maxHeartbeats 1000000 in
theorem known_any (w : World) :
    Calls Try.prog 10 #[] w fun e w' => e = .returned (.bool true) ∧ Below w.heap.size w w' := by
  have v1 : addR 1 2 1 3 = (5, 6, 0) := by decide +kernel
  have v2 : floorR (-3) 2 = (-2, 0) := by decide +kernel
  have v3 : makeR 6 (-4) = (-3, 2, 0) := by decide +kernel
  have ca := fun W => add_any 1 2 1 3 (by decide) (by decide) (by decide) (by decide) (by decide) (by decide) (by decide) (by decide) W
  have cf := fun W => floor_any (-3) 2 (by decide) (by decide) (by decide) (by decide) W
  have cm := fun W => make_any 6 (-4) (by decide) (by decide) (by decide) (by decide) W
  rw [v1] at ca
  rw [v2] at cf
  rw [v3] at cm
  have CA := hidd ca
  have CF := hidd cf
  have CM := hidd cm
  clear v1 v2 v3 ca cf cm
  go_enter Try.func10, Try.ntmps10
  go_wp2_with fail
  refine (CA.out _).mono ?_
  unfold pairOf
  rintro e w1 ⟨rfl, hb1⟩
  go_wp2_with fail
  refine (CF.out _).mono ?_
  rintro e w2 ⟨rfl, hb2⟩
  have c0 : w2.cell? ⟨w1.heap.size, 0, none⟩ = some (.int .i64 5) := by rw [hb2.cell (by (first | omega | (simp; done) | (simp; omega)))]; simp [go_sem]
  have c1 : w2.cell? ⟨w1.heap.size, 1, none⟩ = some (.int .i64 6) := by rw [hb2.cell (by (first | omega | (simp; done) | (simp; omega)))]; simp [go_sem]
  have z2 : w1.heap.size < w2.heap.size := by have := hb2.size; simp at this; omega
  go_wp2_with fail
  refine (CM.out _).mono ?_
  unfold pairOf
  rintro e w3 ⟨rfl, hb3⟩
  have d0 : w3.cell? ⟨w1.heap.size, 0, none⟩ = some (.int .i64 5) := by rw [hb3.cell z2]; exact c0
  have d1 : w3.cell? ⟨w1.heap.size, 1, none⟩ = some (.int .i64 6) := by rw [hb3.cell z2]; exact c1
  have z3 : w1.heap.size < w3.heap.size := Nat.lt_of_lt_of_le z2 hb3.size
  go_wp2_with fail
  go_ret
  have q1 := hb1.size
  have q3 : w.heap.size ≤ w3.heap.size := by omega
  have q2 : w.heap.size ≤ w2.heap.size := by omega
  exact ⟨by simp, by (repeat' (first | (with_reducible exact Below.refl _ _) | (with_reducible assumption) | (with_reducible apply Below.setCell) | (with_reducible apply Below.alloc) | (with_reducible apply Below.drew) | (with_reducible apply below_drewN) | (with_reducible refine Below.trans ?_ (Below.mono (by assumption) ?_)) | omega | (simp; done) | (simp; omega)))⟩
end Go.Proofs.Ytonpoemafneefaa
