/- Routes: RouteNil. -/
import Derived.Test.YtalhbjmhipiiiaaGreatRtQ
namespace Go.Proofs.YtalhbjmhipiiiaaGreat.Tp
set_option linter.unusedVariables false
open Go.RowKit Go.Maps

set_option maxHeartbeats 2000000 in
theorem TermsR_no (v : Value) (x t : Int) (w : World) (h : NoneR w v) : Calls Tryz.prog 14 #[v, .int .i64 x, .int .i64 t] w fun e w' => e = .returned (.tuple #[.agg #[.int .i64 0, .int .i64 0], .int .i64 1]) ∧ Below w.heap.size w w' := by
  have c := hidd (fun W (hb : Below w.heap.size w W) => find_no v x t W (h.below hb))
  clear h
  go_enter Tryz.func14, Tryz.ntmps14
  go_wp2_with fail
  refine (c.out _ (by (repeat' (first | (with_reducible exact Below.refl _ _) | (with_reducible assumption) | (with_reducible apply Below.setCell) | (with_reducible apply Below.alloc) | (with_reducible apply Below.drew) | (with_reducible apply below_drewN) | (with_reducible refine Below.trans ?_ (Below.mono (by assumption) ?_)) | omega | (simp; done) | (simp; omega))))).mono ?_
  rintro e w1 ⟨rfl, rfl⟩
  go_wp2_with fail
  refine ⟨rfl, .tuple #[.agg #[.int .i64 0, .int .i64 0], .int .i64 1], by simp [results, Tryz.results14, go_sem], rfl, by (repeat' (first | (with_reducible exact Below.refl _ _) | (with_reducible assumption) | (with_reducible apply Below.setCell) | (with_reducible apply Below.alloc) | (with_reducible apply Below.drew) | (with_reducible apply below_drewN) | (with_reducible refine Below.trans ?_ (Below.mono (by assumption) ?_)) | omega | (simp; done) | (simp; omega)))⟩
set_option maxRecDepth 100000 in
set_option maxHeartbeats 8000000 in
theorem routeNil_walk (x t : Int) (hx : I64 x) (ht : I64 t) (w : World) : Calls Tryz.prog 5 #[.int .i64 x, .int .i64 t] w fun e w' => e = .returned (.bool true) ∧ Below w.heap.size w w' := by
  clear hx ht
  have cW := hidd (fun W => Way_no (.pointer none) x t W (.inl rfl))
  have cX := hidd (fun v W h => Next_no v x t W h)
  have cF := hidd (fun W => Far_no (.pointer none) x t W (.inl rfl))
  have cT := hidd (fun v W h => TermsR_no v x t W h)
  have cR := hidd (fun W => NewR_no (.pointer none) W (.inl rfl))
  have cA := hidd (fun W => Ahead_no (.pointer none) x t W (.inl rfl))
  have cM := hidd (fun v W h => MapR_no v W h)
  have cK := hidd (fun W => known10_any W)
  obtain ⟨W1, hW1⟩ : ∃ W1, w.alloc (.cells #[.int .u32 0, .int .i32 0, .int .u32 0, .pointer none] 72) = W1 := ⟨_, rfl⟩
  have hb1 : Below w.heap.size w W1 := by rw [← hW1]; (repeat' (first | (with_reducible exact Below.refl _ _) | (with_reducible assumption) | (with_reducible apply Below.setCell) | (with_reducible apply Below.alloc) | (with_reducible apply Below.drew) | (with_reducible apply below_drewN) | (with_reducible refine Below.trans ?_ (Below.mono (by assumption) ?_)) | omega | (simp; done) | (simp; omega)))
  have hz : NoneR W1 (.pointer (some ⟨w.heap.size, 0, none⟩)) := .inr ⟨w.heap.size, rfl, by rw [← hW1]; simp, by rw [← hW1]; simp [go_sem]⟩
  have HZ := hidd (fun W (hb : Below W1.heap.size W1 W) => hz.below hb)
  have HB1 := hidd hb1
  have HW := hidd hW1
  clear hb1 hz hW1
  go_enter Tryz.func5, Tryz.ntmps5
  go_wp2_with fail
  rw [HW.out]
  refine (cW.out _).mono ?_
  rintro e w2 ⟨A, c, rfl, hb2⟩
  have HB2 := hidd hb2
  clear hb2
  go_wp2_with fail
  refine (cX.out _ _ (HZ.out _ HB2.out)).mono ?_
  rintro e w' ⟨rfl, rfl⟩
  go_wp2_with fail
  refine (cF.out _).mono ?_
  rintro e w' ⟨rfl, rfl⟩
  go_wp2_with fail
  refine (cT.out _ _ (HZ.out _ HB2.out)).mono ?_
  rintro e w3 ⟨rfl, hb3⟩
  have HB3 := hidd (below_new (below_step HB2.out hb3) (.cells #[.int .i64 0, .int .i64 0] 42))
  clear hb3
  go_wp2_with fail
  refine (cR.out _).mono ?_
  rintro e w' ⟨rfl, rfl⟩
  go_wp2_with fail
  refine (cA.out _).mono ?_
  rintro e w' ⟨rfl, rfl⟩
  go_wp2_with fail
  refine (cM.out _ _ (HZ.out _ HB3.out)).mono ?_
  rintro e w' ⟨rfl, rfl⟩
  go_wp2_with fail
  refine (cK.out _).mono ?_
  rintro e w4 ⟨rfl, hb4⟩
  have HB4 := hidd (below_step HB3.out hb4)
  clear hb4
  go_wp2_with fail
  go_ret
  exact ⟨by first | rfl | simp, HB1.out.trans (HB4.out.mono HB1.out.size)⟩
end Go.Proofs.YtalhbjmhipiiiaaGreat.Tp
