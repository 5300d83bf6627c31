/- bound's steps: a fraction made, rounded up, the bound. -/
import Derived.Test.YtjnceoklnmmhjaaGreatBdA
namespace Go.Proofs.YtjnceoklnmmhjaaGreat
set_option linter.unusedVariables false
open Go.RowKit

theorem boundBy_ok (n d N D : Int) (h0 : -9223372036854775808 ≤ n) (h1 : n ≤ 9223372036854775807) (h2 : -9223372036854775808 ≤ d) (h3 : d ≤ 9223372036854775807) (hm : makeR n d = (N, D, 0)) (w : World) :
    Calls Tryz.prog 47 #[.int .i64 n, .int .i64 d] w fun e w' => e = .returned (.agg #[.int .i64 N, .int .i64 D]) ∧ Below w.heap.size w w' := by
  have cm := fun W => make_any n d h0 h1 h2 h3 W
  rw [hm] at cm
  unfold pairOf at cm
  dsimp only at cm
  have CM := hidd cm
  clear cm hm
  go_enter Tryz.func47, Tryz.ntmps47
  go_wp2_with fail
  refine (CM.out _).mono ?_
  rintro e w1 ⟨rfl, hb1⟩
  have HB1 := hidd (below_step (below_new (Below.refl w.heap.size w) _) hb1)
  have z1 : w.heap.size < w1.heap.size := by have := hb1.size; simp at this; omega
  obtain ⟨bc, bf⟩ := bcell hb1
  clear hb1
  go_wp2_with fail
  refine (mustR_ok N D _).mono ?_
  rintro e w2 ⟨rfl, hb2⟩
  have z2 : w.heap.size < w2.heap.size := Nat.lt_of_lt_of_le z1 hb2.size
  have q0 : w2.cell? ⟨w.heap.size, 0, none⟩ = some (.int .i64 0) := by rw [hb2.cell (by (first | omega | (simp; done) | (simp; omega))), bc _ _ (by (first | omega | (simp; done) | (simp; omega)))]; simp [go_sem]
  have q1 : w2.cell? ⟨w.heap.size, 1, none⟩ = some (.int .i64 0) := by rw [hb2.cell (by (first | omega | (simp; done) | (simp; omega))), bc _ _ (by (first | omega | (simp; done) | (simp; omega)))]; simp [go_sem]
  have q2 : w2.frozen? ⟨w.heap.size, 0, none⟩ = false := by rw [hb2.frozen (by (first | omega | (simp; done) | (simp; omega))), bf _ _ (by (first | omega | (simp; done) | (simp; omega)))]; simp [go_sem]
  have q3 : w2.frozen? ⟨w.heap.size, 1, none⟩ = false := by rw [hb2.frozen (by (first | omega | (simp; done) | (simp; omega))), bf _ _ (by (first | omega | (simp; done) | (simp; omega)))]; simp [go_sem]
  have HB2 := hidd (below_step HB1.out hb2)
  clear bc bf hb2
  go_wp2_with fail
  exact bodyPost_ret (v := .agg #[.int .i64 N, .int .i64 D]) (by simp [results, Tryz.results47, go_sem, *]) rfl ⟨rfl, by have := HB2.out; (repeat' (first | (with_reducible exact Below.refl _ _) | (with_reducible assumption) | (with_reducible apply Below.setCell) | (with_reducible apply Below.alloc) | (with_reducible apply Below.drew) | (with_reducible apply below_drewN) | (with_reducible refine Below.trans ?_ (Below.mono (by assumption) ?_)) | omega | (simp; done) | (simp; omega)))⟩
theorem up_ok (n d : Int) (h0 : -9223372036854775808 ≤ n) (h1 : n ≤ 9223372036854775807) (h3 : d ≤ 9223372036854775807) (hr : rightB n d = true) (w : World) :
    Calls Tryz.prog 46 #[.agg #[.int .i64 n, .int .i64 d]] w fun e w' => e = .returned (.int .i64 (-(-n / d))) ∧ Below w.heap.size w w' := by
  have hd := (right_bounds n d h0 hr).1
  have cm := fun W => ceil_any n d h0 h1 (by omega) h3 W
  have e1 : ceilR n d = (-(-n / d), 0) := by simp [ceilR, hr]
  rw [e1] at cm
  dsimp only at cm
  generalize -(-n / d) = u at *
  have CM := hidd cm
  clear cm e1 hr
  go_enter Tryz.func46, Tryz.ntmps46
  go_wp2_with fail
  refine (CM.out _).mono ?_
  rintro e w1 ⟨rfl, hb1⟩
  have HB1 := hidd (below_step (below_new (Below.refl w.heap.size w) _) hb1)
  clear hb1
  go_wp2_with fail
  refine (mustL_ok u _).mono ?_
  rintro e w2 ⟨rfl, hb2⟩
  have HB2 := hidd (below_step HB1.out hb2)
  clear hb2
  go_wp2_with fail
  go_ret
  exact ⟨rfl, HB2.out⟩
end Go.Proofs.YtjnceoklnmmhjaaGreat
