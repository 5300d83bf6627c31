/- The document's Ticks, Room; the walk of BoundTells. -/
import Derived.Test.YtianceglbkcmpaaBdQ
import Derived.Deep.RegionHeld
namespace Go.Proofs.Ytianceglbkcmpaa
set_option linter.unusedVariables false
open Go.RowKit

theorem make_right5 {n d N D : Int} (h : makeR n d = (N, D, 0)) : RM.Right N D := by
  unfold makeR at h
  by_cases hz : d.natAbs = 0
  · unfold RM.fracN at h; rw [if_pos hz] at h; cases h
  · exact ((RM.fracN_ok _ _ _ (by omega) N D).1 h).1
set_option maxHeartbeats 4000000 in
theorem refTicks_any (p r u m l R c d : Int) (h : hasB p r u m l R c d = true) (w : World) :
    Calls Try.prog 15 #[.agg #[.int .i64 p, .int .i64 r, .int .i64 u, .int .i64 m, .int .i64 l], .int .i64 R, .agg #[.int .i64 c, .int .i64 d]] w fun e w' => e = .returned (.int .i64 (upB p r u m R c d)) ∧ Below w.heap.size w w' := by
  obtain ⟨hs, ⟨hR, hR2⟩, ⟨hc1, hc2⟩, hd1, hd2⟩ := has_in h
  obtain ⟨N, D, ht, hm, hu⟩ := told_up (l := l) hs hR hR2 hc1 hc2 hd1 hd2
  have cb := hidd (fun W => refBound_any p r u m l R c d N D h hm W)
  obtain ⟨_, _, ⟨b1, b2, b3⟩, hrt⟩ := ht
  have hr : RM.Right N D := make_right5 hm
  have cc := hidd (fun W => refCeil_any N D (by have := hr.2.2.1; omega) b2 hr.1 b3 W)
  have hu' := hidd (show -(-N / D) = upB p r u m R c d from hu)
  have HS := hidd (spc_new w p r u m l c d)
  have HB0 := hidd (below_new (below_new (Below.refl w.heap.size w) (.cells #[.int .i64 p, .int .i64 r, .int .i64 u, .int .i64 m, .int .i64 l] 23)) (.cells #[.int .i64 c, .int .i64 d] 25))
  generalize upB p r u m R c d = U at *
  obtain ⟨V, hV⟩ : ∃ V, -(-N / D) = V := ⟨_, rfl⟩
  rw [hV] at cc hu'
  clear hs hR hR2 hc1 hc2 hd1 hd2 h hm hu hr hrt b1 b2 b3 hV
  obtain ⟨⟨x0, x1, x2, x3, x4, x5⟩, z0, z1, z2⟩ := HS.out
  go_enter Try.func15, Try.ntmps15
  go_wp2_with fail
  refine (cb.out _).mono ?_
  rintro E1 w1 ⟨rfl, hb1⟩
  have HB1 := hidd (below_step HB0.out hb1)
  clear hb1
  go_wp2_with fail
  refine (cc.out _).mono ?_
  rintro E2 w2 ⟨rfl, hb2⟩
  have HB2 := hidd (below_step HB1.out hb2)
  clear hb2
  go_wp2_with fail
  go_ret
  exact ⟨by rw [hu'.out]; first | rfl | simp, HB2.out⟩
set_option maxRecDepth 100000 in
set_option maxHeartbeats 4000000 in
theorem refRoom_any (p r u m l R c d : Int) (h : hasB p r u m l R c d = true) (w : World) :
    Calls Try.prog 13 #[.agg #[.int .i64 p, .int .i64 r, .int .i64 u, .int .i64 m, .int .i64 l], .int .i64 R, .agg #[.int .i64 c, .int .i64 d]] w fun e w' => e = .returned (.tuple #[.int .i64 (rmR p r u m l R c d).1, .bool (decide (u + r * upB p r u m R c d ≤ 1000000000))]) ∧ Below w.heap.size w w' := by
  have ct := hidd (fun W => refTicks_any p r u m l R c d h W)
  obtain ⟨hs, ⟨hR, hR2⟩, ⟨hc1, hc2⟩, hd1, hd2⟩ := has_in h
  obtain ⟨U0, U1⟩ := upB_in h
  unfold rmR
  rw [if_pos h]
  obtain ⟨a1, a2, a3, a4, a5, a6, a7⟩ := hs
  generalize upB p r u m R c d = U at *
  have k1 : 0 ≤ r * U := Int.mul_nonneg (by omega) U0
  have k2 : r * U ≤ 1000000 * 30000000 := Int.mul_le_mul (by omega) U1 U0 (by decide)
  obtain ⟨v1, v1'⟩ := wrap_both3 (x := r * U) (by omega) (by omega)
  obtain ⟨v2, v2'⟩ := wrap_both3 (x := u + r * U) (by omega) (by omega)
  obtain ⟨V, hV⟩ : ∃ V, r * U = V := ⟨_, rfl⟩
  replace v1 := v1.trans hV
  replace v1' := v1'.trans hV
  rw [hV] at v2 v2' ⊢
  obtain ⟨S, hS⟩ : ∃ V', u + V = V' := ⟨_, rfl⟩
  replace v2 := v2.trans hS
  replace v2' := v2'.trans hS
  rw [hS]
  have HS := hidd (spc_new w p r u m l c d)
  have HB0 := hidd (below_new (below_new (Below.refl w.heap.size w) (.cells #[.int .i64 p, .int .i64 r, .int .i64 u, .int .i64 m, .int .i64 l] 23)) (.cells #[.int .i64 c, .int .i64 d] 25))
  obtain ⟨w0, hw0⟩ : ∃ w0, (w.alloc (.cells #[.int .i64 p, .int .i64 r, .int .i64 u, .int .i64 m, .int .i64 l] 23)).alloc (.cells #[.int .i64 c, .int .i64 d] 25) = w0 := ⟨_, rfl⟩
  rw [hw0] at HS HB0
  have KEEP := hidd (fun W' (hb : Below w0.heap.size w0 W') => (show (W'.cell? ⟨w.heap.size, 0, none⟩ = some (.int .i64 p) ∧ W'.cell? ⟨w.heap.size, 1, none⟩ = some (.int .i64 r) ∧ W'.cell? ⟨w.heap.size, 2, none⟩ = some (.int .i64 u) ∧ W'.cell? ⟨w.heap.size, 3, none⟩ = some (.int .i64 m) ∧ W'.cell? ⟨w.heap.size, 4, none⟩ = some (.int .i64 l)) ∧ W'.cell? ⟨w.heap.size + 1, 0, none⟩ = some (.int .i64 c) ∧ W'.cell? ⟨w.heap.size + 1, 1, none⟩ = some (.int .i64 d) from ⟨(HS.out.step hb).1.2, (HS.out.step hb).2.2⟩))
  have hw1 := hidd hw0
  clear hV hS h hR hR2 hc1 hc2 hd1 hd2 a1 a2 a3 a4 a5 a6 a7 U0 U1 k1 k2 hw0
  rcases Int.lt_or_le 1000000000 S with hS | hS
  · rw [if_neg (by omega : ¬ S ≤ 1000000000), decide_eq_false (by omega : ¬ S ≤ 1000000000)]
    dsimp only
    go_enter Try.func13, Try.ntmps13
    go_wp2_with fail
    rw [hw1.out]
    obtain ⟨⟨x0, x1, x2, x3, x4, x5⟩, z0, z1, z2⟩ := HS.out
    go_region_held3 (fun w' => (w'.cell? ⟨w.heap.size, 0, none⟩ = some (.int .i64 p) ∧ w'.cell? ⟨w.heap.size, 1, none⟩ = some (.int .i64 r) ∧ w'.cell? ⟨w.heap.size, 2, none⟩ = some (.int .i64 u) ∧ w'.cell? ⟨w.heap.size, 3, none⟩ = some (.int .i64 m) ∧ w'.cell? ⟨w.heap.size, 4, none⟩ = some (.int .i64 l)) ∧ w'.cell? ⟨w.heap.size + 1, 0, none⟩ = some (.int .i64 c) ∧ w'.cell? ⟨w.heap.size + 1, 1, none⟩ = some (.int .i64 d))
      ((first | exact KEEP.out _ cum1 | exact ⟨⟨x1, x2, x3, x4, x5⟩, z1, z2⟩ | go_keep))
      ((first
        | (go_at_call 15; refine (ct.out _).mono ?_; rintro E1 y1 ⟨rfl, l1⟩; have cum1 : Below w0.heap.size w0 y1 := (by first | exact below_step (Below.drew (Below.refl _ _)) l1 | exact below_step (Below.refl _ _) l1))))
    all_goals have HB1 := hidd (HB0.out.trans (cum1.mono HB0.out.size))
    all_goals clear l1 cum1 x0 x1 x2 x3 x4 x5 z0 z1 z2
    all_goals go_wp2_with fail
    all_goals go_ret2
    all_goals exact ⟨by first | rfl | simp, HB1.out⟩
  · have hS2 : ¬ 1000000000 < S := by omega
    rw [if_pos hS, decide_eq_true hS]
    dsimp only
    go_enter Try.func13, Try.ntmps13
    go_wp2_with fail
    rw [hw1.out]
    obtain ⟨⟨x0, x1, x2, x3, x4, x5⟩, z0, z1, z2⟩ := HS.out
    go_region_held3 (fun w' => (w'.cell? ⟨w.heap.size, 0, none⟩ = some (.int .i64 p) ∧ w'.cell? ⟨w.heap.size, 1, none⟩ = some (.int .i64 r) ∧ w'.cell? ⟨w.heap.size, 2, none⟩ = some (.int .i64 u) ∧ w'.cell? ⟨w.heap.size, 3, none⟩ = some (.int .i64 m) ∧ w'.cell? ⟨w.heap.size, 4, none⟩ = some (.int .i64 l)) ∧ w'.cell? ⟨w.heap.size + 1, 0, none⟩ = some (.int .i64 c) ∧ w'.cell? ⟨w.heap.size + 1, 1, none⟩ = some (.int .i64 d))
      ((first | exact KEEP.out _ cum1 | exact ⟨⟨x1, x2, x3, x4, x5⟩, z1, z2⟩ | go_keep))
      ((first
        | (go_at_call 15; refine (ct.out _).mono ?_; rintro E1 y1 ⟨rfl, l1⟩; have cum1 : Below w0.heap.size w0 y1 := (by first | exact below_step (Below.drew (Below.refl _ _)) l1 | exact below_step (Below.refl _ _) l1))))
    all_goals have HB1 := hidd (HB0.out.trans (cum1.mono HB0.out.size))
    all_goals clear l1 cum1 x0 x1 x2 x3 x4 x5 z0 z1 z2
    all_goals go_wp2_with fail
    all_goals go_ret2
    all_goals exact ⟨by first | rfl | simp, HB1.out⟩
set_option maxRecDepth 100000 in
set_option maxHeartbeats 8000000 in
theorem tells_no (p r u m l R c d : Int) (T : Bool) (hT : termsB c d = T) (h : hasB p r u m l R c d = false) (w : World) :
    Calls Try.prog 3 #[.agg #[.int .i64 p, .int .i64 r, .int .i64 u, .int .i64 m, .int .i64 l], .int .i64 R, .agg #[.int .i64 c, .int .i64 d]] w fun e w' => e = .returned (.bool true) ∧ Below w.heap.size w w' := by
  have cB := fun W => Bound_any p r u m l R c d W
  have cT := fun W => Ticks_any p r u m l R c d W
  have cR := fun W => Room_any p r u m l R c d W
  have cM := fun W => may_any p r u m l R c d W
  have cC := fun W => boundCheck_any c d W
  have cG := fun W => refTerms_any c d W
  unfold bnR at cB
  unfold tkR at cT
  unfold rmR at cR
  rw [h] at cB cT cR cM
  simp only [Bool.false_eq_true, if_false] at cB cT cR
  rw [hT] at cC cG
  replace cB := hidd cB
  replace cT := hidd cT
  replace cR := hidd cR
  replace cM := hidd cM
  replace cC := hidd cC
  replace cG := hidd cG
  have HS := hidd (spc_new w p r u m l c d)
  have HB0 := hidd (below_new (below_new (Below.refl w.heap.size w) (.cells #[.int .i64 p, .int .i64 r, .int .i64 u, .int .i64 m, .int .i64 l] 23)) (.cells #[.int .i64 c, .int .i64 d] 25))
  have ck := hidd (fun W => known5_any W)
  have hs0 := fun w => ratB_eq_same 0 0 w
  clear h hT
  cases T
  · obtain ⟨⟨x0, x1, x2, x3, x4, x5⟩, z0, z1, z2⟩ := HS.out
    go_enter Try.func3, Try.ntmps3
    go_wp2_with fail
    refine (cB.out _).mono ?_
    rintro E1 w1 ⟨rfl, hb1⟩
    have HS1 := hidd ((HS.out.step hb1).step (below_new (Below.refl w1.heap.size w1) (.cells #[.int .i64 0, .int .i64 0] 27)))
    have HX1 := hidd (GBox.new (rfl : w1.heap.size = w1.heap.size) 27 0 0)
    have HB1 := hidd (below_new (below_step HB0.out hb1) (.cells #[.int .i64 0, .int .i64 0] 27))
    clear hb1 x0 x1 x2 x3 x4 x5 z0 z1 z2
    obtain ⟨⟨x0, x1, x2, x3, x4, x5⟩, z0, z1, z2⟩ := HS1.out
    go_wp2_with fail
    refine (cT.out _).mono ?_
    rintro E2 w2 ⟨rfl, hb2⟩
    have HS2 := hidd (HS1.out.step hb2)
    have HX2 := hidd (HX1.out.step hb2)
    have HB2 := hidd (below_step HB1.out hb2)
    clear hb2 x0 x1 x2 x3 x4 x5 z0 z1 z2
    obtain ⟨⟨x0, x1, x2, x3, x4, x5⟩, z0, z1, z2⟩ := HS2.out
    go_wp2_with fail
    refine (cR.out _).mono ?_
    rintro E3 w3 ⟨rfl, hb3⟩
    have HS3 := hidd (HS2.out.step hb3)
    have HX3 := hidd (HX2.out.step hb3)
    have HB3 := hidd (below_step HB2.out hb3)
    clear hb3 x0 x1 x2 x3 x4 x5 z0 z1 z2
    obtain ⟨⟨x0, x1, x2, x3, x4, x5⟩, z0, z1, z2⟩ := HS3.out
    have KEEP := hidd (fun W' (hb : Below w3.heap.size w3 W') => (show W'.cell? ⟨w.heap.size + 1, 0, none⟩ = some (.int .i64 c) ∧ W'.cell? ⟨w.heap.size + 1, 1, none⟩ = some (.int .i64 d) from (HS3.out.step hb).2.2))
    go_wp2_with fail
    go_cut [41] (fun s41 wx => s41 = .bool false ∧ Below w3.heap.size w3 wx)
    case first =>
      go_region_held3 (fun w' => w'.cell? ⟨w.heap.size + 1, 0, none⟩ = some (.int .i64 c) ∧ w'.cell? ⟨w.heap.size + 1, 1, none⟩ = some (.int .i64 d))
        ((first | exact KEEP.out _ cum2 | exact KEEP.out _ cum1 | exact ⟨z1, z2⟩ | go_keep))
        ((first
          | (go_at_call 9; refine (cC.out _).mono ?_; rintro E4 y1 ⟨rfl, l1⟩; have cum1 : Below w3.heap.size w3 y1 := (by first | exact below_step (Below.drew (Below.refl _ _)) l1 | exact below_step (Below.refl _ _) l1))
          | (go_at_call 10; refine (cG.out _).mono ?_; rintro E5 y2 ⟨rfl, l2⟩; have cum2 : Below w3.heap.size w3 y2 := (by first | exact below_step cum1 l2 | exact below_step (Below.drew (Below.refl _ _)) l2 | exact below_step (Below.refl _ _) l2))))
      all_goals go_wp2_with fail
      all_goals go_meet
      all_goals exact ⟨by first | rfl | simp, cum2⟩
    case rest =>
      obtain ⟨rfl, hcut⟩ := hcut
      have HS4 := hidd (HS3.out.step hcut)
      have HX4 := hidd (HX3.out.step hcut)
      have HB4 := hidd (below_step HB3.out hcut)
      clear hcut x0 x1 x2 x3 x4 x5 z0 z1 z2
      obtain ⟨⟨x0, x1, x2, x3, x4, x5⟩, z0, z1, z2⟩ := HS4.out
      go_wp2_with fail
      refine (cM.out _).mono ?_
      rintro E6 w5 ⟨rfl, hb5⟩
      have HS5 := hidd (HS4.out.step hb5)
      have HX5 := hidd (HX4.out.step hb5)
      have HB5 := hidd (below_step HB4.out hb5)
      clear hb5 x0 x1 x2 x3 x4 x5 z0 z1 z2
      obtain ⟨⟨x0, x1, x2, x3, x4, x5⟩, z0, z1, z2⟩ := HS5.out
      obtain ⟨k0, k1, k2, _, _⟩ := HX5.out
      go_wp2_with fail
      refine (ck.out _).mono ?_
      rintro E7 w6 ⟨rfl, hb6⟩
      have HB6 := hidd (below_step HB5.out hb6)
      clear hb6
      go_wp2_with fail
      go_ret
      exact ⟨by first | rfl | simp, HB6.out⟩
  · obtain ⟨⟨x0, x1, x2, x3, x4, x5⟩, z0, z1, z2⟩ := HS.out
    go_enter Try.func3, Try.ntmps3
    go_wp2_with fail
    refine (cB.out _).mono ?_
    rintro E1 w1 ⟨rfl, hb1⟩
    have HS1 := hidd ((HS.out.step hb1).step (below_new (Below.refl w1.heap.size w1) (.cells #[.int .i64 0, .int .i64 0] 27)))
    have HX1 := hidd (GBox.new (rfl : w1.heap.size = w1.heap.size) 27 0 0)
    have HB1 := hidd (below_new (below_step HB0.out hb1) (.cells #[.int .i64 0, .int .i64 0] 27))
    clear hb1 x0 x1 x2 x3 x4 x5 z0 z1 z2
    obtain ⟨⟨x0, x1, x2, x3, x4, x5⟩, z0, z1, z2⟩ := HS1.out
    go_wp2_with fail
    refine (cT.out _).mono ?_
    rintro E2 w2 ⟨rfl, hb2⟩
    have HS2 := hidd (HS1.out.step hb2)
    have HX2 := hidd (HX1.out.step hb2)
    have HB2 := hidd (below_step HB1.out hb2)
    clear hb2 x0 x1 x2 x3 x4 x5 z0 z1 z2
    obtain ⟨⟨x0, x1, x2, x3, x4, x5⟩, z0, z1, z2⟩ := HS2.out
    go_wp2_with fail
    refine (cR.out _).mono ?_
    rintro E3 w3 ⟨rfl, hb3⟩
    have HS3 := hidd (HS2.out.step hb3)
    have HX3 := hidd (HX2.out.step hb3)
    have HB3 := hidd (below_step HB2.out hb3)
    clear hb3 x0 x1 x2 x3 x4 x5 z0 z1 z2
    obtain ⟨⟨x0, x1, x2, x3, x4, x5⟩, z0, z1, z2⟩ := HS3.out
    have KEEP := hidd (fun W' (hb : Below w3.heap.size w3 W') => (show W'.cell? ⟨w.heap.size + 1, 0, none⟩ = some (.int .i64 c) ∧ W'.cell? ⟨w.heap.size + 1, 1, none⟩ = some (.int .i64 d) from (HS3.out.step hb).2.2))
    go_wp2_with fail
    go_cut [41] (fun s41 wx => s41 = .bool false ∧ Below w3.heap.size w3 wx)
    case first =>
      go_region_held3 (fun w' => w'.cell? ⟨w.heap.size + 1, 0, none⟩ = some (.int .i64 c) ∧ w'.cell? ⟨w.heap.size + 1, 1, none⟩ = some (.int .i64 d))
        ((first | exact KEEP.out _ cum2 | exact KEEP.out _ cum1 | exact ⟨z1, z2⟩ | go_keep))
        ((first
          | (go_at_call 9; refine (cC.out _).mono ?_; rintro E4 y1 ⟨rfl, l1⟩; have cum1 : Below w3.heap.size w3 y1 := (by first | exact below_step (Below.drew (Below.refl _ _)) l1 | exact below_step (Below.refl _ _) l1))
          | (go_at_call 10; refine (cG.out _).mono ?_; rintro E5 y2 ⟨rfl, l2⟩; have cum2 : Below w3.heap.size w3 y2 := (by first | exact below_step cum1 l2 | exact below_step (Below.drew (Below.refl _ _)) l2 | exact below_step (Below.refl _ _) l2))))
      all_goals go_wp2_with fail
      all_goals go_meet
      all_goals exact ⟨by first | rfl | simp, cum2⟩
    case rest =>
      obtain ⟨rfl, hcut⟩ := hcut
      have HS4 := hidd (HS3.out.step hcut)
      have HX4 := hidd (HX3.out.step hcut)
      have HB4 := hidd (below_step HB3.out hcut)
      clear hcut x0 x1 x2 x3 x4 x5 z0 z1 z2
      obtain ⟨⟨x0, x1, x2, x3, x4, x5⟩, z0, z1, z2⟩ := HS4.out
      go_wp2_with fail
      refine (cM.out _).mono ?_
      rintro E6 w5 ⟨rfl, hb5⟩
      have HS5 := hidd (HS4.out.step hb5)
      have HX5 := hidd (HX4.out.step hb5)
      have HB5 := hidd (below_step HB4.out hb5)
      clear hb5 x0 x1 x2 x3 x4 x5 z0 z1 z2
      obtain ⟨⟨x0, x1, x2, x3, x4, x5⟩, z0, z1, z2⟩ := HS5.out
      obtain ⟨k0, k1, k2, _, _⟩ := HX5.out
      go_wp2_with fail
      refine (ck.out _).mono ?_
      rintro E7 w6 ⟨rfl, hb6⟩
      have HB6 := hidd (below_step HB5.out hb6)
      clear hb6
      go_wp2_with fail
      go_ret
      exact ⟨by first | rfl | simp, HB6.out⟩
set_option maxRecDepth 100000 in
set_option maxHeartbeats 8000000 in
theorem tells_yes (p r u m l R c d : Int) (N D U V : Int) (fits : Bool) (hm : makeR (boundN p r u m R c d) (boundD p r R) = (N, D, 0)) (hU : upB p r u m R c d = U) (hV : rmR p r u m l R c d = (V, if fits then 0 else 3)) (hF : decide (u + r * upB p r u m R c d ≤ 1000000000) = fits) (h : hasB p r u m l R c d = true) (w : World) :
    Calls Try.prog 3 #[.agg #[.int .i64 p, .int .i64 r, .int .i64 u, .int .i64 m, .int .i64 l], .int .i64 R, .agg #[.int .i64 c, .int .i64 d]] w fun e w' => e = .returned (.bool true) ∧ Below w.heap.size w w' := by
  have hT : termsB c d = true := by unfold hasB at h; rw [Bool.and_eq_true, Bool.and_eq_true] at h; exact h.1.2
  have cB := fun W => Bound_any p r u m l R c d W
  have cT := fun W => Ticks_any p r u m l R c d W
  have cR := fun W => Room_any p r u m l R c d W
  have cM := fun W => may_any p r u m l R c d W
  have cC := fun W => boundCheck_any c d W
  have cG := fun W => refTerms_any c d W
  have dB := hidd (fun W => refBound_any p r u m l R c d N D h hm W)
  have dT := fun W => refTicks_any p r u m l R c d h W
  have dR := fun W => refRoom_any p r u m l R c d h W
  unfold bnR at cB
  unfold tkR at cT
  rw [hV] at cR dR
  rw [h] at cB cT cM
  rw [hF] at dR
  simp only [if_true] at cB cT
  rw [hm] at cB
  rw [hU] at cT dT
  rw [hT] at cC cG
  replace cB := hidd cB
  replace cT := hidd cT
  replace dT := hidd dT
  replace cM := hidd cM
  replace cC := hidd cC
  replace cG := hidd cG
  have HS := hidd (spc_new w p r u m l c d)
  have HB0 := hidd (below_new (below_new (Below.refl w.heap.size w) (.cells #[.int .i64 p, .int .i64 r, .int .i64 u, .int .i64 m, .int .i64 l] 23)) (.cells #[.int .i64 c, .int .i64 d] 25))
  have ck := hidd (fun W => known5_any W)
  have hs0 := fun w => ratB_eq_same N D w
  clear h hT hm hU hV hF
  cases fits
  · simp only [Bool.false_eq_true, if_false] at cR dR
    replace cR := hidd cR
    replace dR := hidd dR
    obtain ⟨⟨x0, x1, x2, x3, x4, x5⟩, z0, z1, z2⟩ := HS.out
    go_enter Try.func3, Try.ntmps3
    go_wp2_with fail
    refine (cB.out _).mono ?_
    rintro E1 w1 ⟨rfl, hb1⟩
    have HS1 := hidd ((HS.out.step hb1).step (below_new (Below.refl w1.heap.size w1) (.cells #[.int .i64 N, .int .i64 D] 27)))
    have HX1 := hidd (GBox.new (rfl : w1.heap.size = w1.heap.size) 27 N D)
    have HB1 := hidd (below_new (below_step HB0.out hb1) (.cells #[.int .i64 N, .int .i64 D] 27))
    clear hb1 x0 x1 x2 x3 x4 x5 z0 z1 z2
    obtain ⟨⟨x0, x1, x2, x3, x4, x5⟩, z0, z1, z2⟩ := HS1.out
    go_wp2_with fail
    refine (cT.out _).mono ?_
    rintro E2 w2 ⟨rfl, hb2⟩
    have HS2 := hidd (HS1.out.step hb2)
    have HX2 := hidd (HX1.out.step hb2)
    have HB2 := hidd (below_step HB1.out hb2)
    clear hb2 x0 x1 x2 x3 x4 x5 z0 z1 z2
    obtain ⟨⟨x0, x1, x2, x3, x4, x5⟩, z0, z1, z2⟩ := HS2.out
    go_wp2_with fail
    refine (cR.out _).mono ?_
    rintro E3 w3 ⟨rfl, hb3⟩
    have HS3 := hidd (HS2.out.step hb3)
    have HX3 := hidd (HX2.out.step hb3)
    have HB3 := hidd (below_step HB2.out hb3)
    clear hb3 x0 x1 x2 x3 x4 x5 z0 z1 z2
    obtain ⟨⟨x0, x1, x2, x3, x4, x5⟩, z0, z1, z2⟩ := HS3.out
    have KEEP := hidd (fun W' (hb : Below w3.heap.size w3 W') => (show W'.cell? ⟨w.heap.size + 1, 0, none⟩ = some (.int .i64 c) ∧ W'.cell? ⟨w.heap.size + 1, 1, none⟩ = some (.int .i64 d) from (HS3.out.step hb).2.2))
    go_wp2_with fail
    go_cut [41] (fun s41 wx => s41 = .bool false ∧ Below w3.heap.size w3 wx)
    case first =>
      go_region_held3 (fun w' => w'.cell? ⟨w.heap.size + 1, 0, none⟩ = some (.int .i64 c) ∧ w'.cell? ⟨w.heap.size + 1, 1, none⟩ = some (.int .i64 d))
        ((first | exact KEEP.out _ cum2 | exact KEEP.out _ cum1 | exact ⟨z1, z2⟩ | go_keep))
        ((first
          | (go_at_call 9; refine (cC.out _).mono ?_; rintro E4 y1 ⟨rfl, l1⟩; have cum1 : Below w3.heap.size w3 y1 := (by first | exact below_step (Below.drew (Below.refl _ _)) l1 | exact below_step (Below.refl _ _) l1))
          | (go_at_call 10; refine (cG.out _).mono ?_; rintro E5 y2 ⟨rfl, l2⟩; have cum2 : Below w3.heap.size w3 y2 := (by first | exact below_step cum1 l2 | exact below_step (Below.drew (Below.refl _ _)) l2 | exact below_step (Below.refl _ _) l2))))
      all_goals go_wp2_with fail
      all_goals go_meet
      all_goals exact ⟨by first | rfl | simp, cum2⟩
    case rest =>
      obtain ⟨rfl, hcut⟩ := hcut
      have HS4 := hidd (HS3.out.step hcut)
      have HX4 := hidd (HX3.out.step hcut)
      have HB4 := hidd (below_step HB3.out hcut)
      clear hcut x0 x1 x2 x3 x4 x5 z0 z1 z2
      obtain ⟨⟨x0, x1, x2, x3, x4, x5⟩, z0, z1, z2⟩ := HS4.out
      go_wp2_with fail
      refine (cM.out _).mono ?_
      rintro E6 w5 ⟨rfl, hb5⟩
      have HS5 := hidd (HS4.out.step hb5)
      have HX5 := hidd (HX4.out.step hb5)
      have HB5 := hidd (below_step HB4.out hb5)
      clear hb5 x0 x1 x2 x3 x4 x5 z0 z1 z2
      obtain ⟨⟨x0, x1, x2, x3, x4, x5⟩, z0, z1, z2⟩ := HS5.out
      obtain ⟨k0, k1, k2, _, _⟩ := HX5.out
      go_wp2_with fail
      refine (dR.out _).mono ?_
      rintro E7 w6 ⟨rfl, hb6⟩
      have HS6 := hidd (HS5.out.step hb6)
      have HX6 := hidd (HX5.out.step hb6)
      have HB6 := hidd (below_step HB5.out hb6)
      clear hb6 x0 x1 x2 x3 x4 x5 z0 z1 z2 k0 k1 k2
      obtain ⟨⟨x0, x1, x2, x3, x4, x5⟩, z0, z1, z2⟩ := HS6.out
      obtain ⟨k0, k1, k2, _, _⟩ := HX6.out
      have KEEP6 := hidd (fun W' (hb : Below w6.heap.size w6 W') => (show ((W'.cell? ⟨w.heap.size, 0, none⟩ = some (.int .i64 p) ∧ W'.cell? ⟨w.heap.size, 1, none⟩ = some (.int .i64 r) ∧ W'.cell? ⟨w.heap.size, 2, none⟩ = some (.int .i64 u) ∧ W'.cell? ⟨w.heap.size, 3, none⟩ = some (.int .i64 m) ∧ W'.cell? ⟨w.heap.size, 4, none⟩ = some (.int .i64 l)) ∧ W'.cell? ⟨w.heap.size + 1, 0, none⟩ = some (.int .i64 c) ∧ W'.cell? ⟨w.heap.size + 1, 1, none⟩ = some (.int .i64 d)) ∧ W'.cell? ⟨w1.heap.size, 0, none⟩ = some (.int .i64 N) ∧ W'.cell? ⟨w1.heap.size, 1, none⟩ = some (.int .i64 D) from ⟨⟨(HS6.out.step hb).1.2, (HS6.out.step hb).2.2⟩, (HX6.out.step hb).2.1, (HX6.out.step hb).2.2.1⟩))
      go_wp2_with fail
      go_region_held3 (fun w' => ((w'.cell? ⟨w.heap.size, 0, none⟩ = some (.int .i64 p) ∧ w'.cell? ⟨w.heap.size, 1, none⟩ = some (.int .i64 r) ∧ w'.cell? ⟨w.heap.size, 2, none⟩ = some (.int .i64 u) ∧ w'.cell? ⟨w.heap.size, 3, none⟩ = some (.int .i64 m) ∧ w'.cell? ⟨w.heap.size, 4, none⟩ = some (.int .i64 l)) ∧ w'.cell? ⟨w.heap.size + 1, 0, none⟩ = some (.int .i64 c) ∧ w'.cell? ⟨w.heap.size + 1, 1, none⟩ = some (.int .i64 d)) ∧ w'.cell? ⟨w1.heap.size, 0, none⟩ = some (.int .i64 N) ∧ w'.cell? ⟨w1.heap.size, 1, none⟩ = some (.int .i64 D))
        ((first | exact KEEP6.out _ cum3 | exact KEEP6.out _ cum2 | exact KEEP6.out _ cum1 | exact ⟨⟨⟨x1, x2, x3, x4, x5⟩, z1, z2⟩, k1, k2⟩ | go_keep))
        ((first
          | (go_at_call 14; refine (dB.out _).mono ?_; rintro E8 y3 ⟨rfl, l1⟩; have cum1 : Below w6.heap.size w6 y3 := (by first | exact below_step (Below.drew (Below.refl _ _)) l1 | exact below_step (Below.refl _ _) l1))
          | (go_at_call 15; refine (dT.out _).mono ?_; rintro E9 y4 ⟨rfl, l2⟩; have cum2 : Below w6.heap.size w6 y4 := (by first | exact below_step cum1 l2))
          | (go_at_call 12; refine (ck.out _).mono ?_; rintro E10 y5 ⟨rfl, l3⟩; have cum3 : Below w6.heap.size w6 y5 := (by first | exact below_step cum2 l3))))
      all_goals have HB9 := hidd (below_step HB6.out cum3)
      all_goals clear l1 l2 l3 cum1 cum2 cum3 x0 x1 x2 x3 x4 x5 z0 z1 z2 k0 k1 k2
      all_goals go_wp2_with fail
      all_goals go_ret
      all_goals exact ⟨by first | rfl | simp, HB9.out⟩
  · simp only [if_true] at cR dR
    replace cR := hidd cR
    replace dR := hidd dR
    obtain ⟨⟨x0, x1, x2, x3, x4, x5⟩, z0, z1, z2⟩ := HS.out
    go_enter Try.func3, Try.ntmps3
    go_wp2_with fail
    refine (cB.out _).mono ?_
    rintro E1 w1 ⟨rfl, hb1⟩
    have HS1 := hidd ((HS.out.step hb1).step (below_new (Below.refl w1.heap.size w1) (.cells #[.int .i64 N, .int .i64 D] 27)))
    have HX1 := hidd (GBox.new (rfl : w1.heap.size = w1.heap.size) 27 N D)
    have HB1 := hidd (below_new (below_step HB0.out hb1) (.cells #[.int .i64 N, .int .i64 D] 27))
    clear hb1 x0 x1 x2 x3 x4 x5 z0 z1 z2
    obtain ⟨⟨x0, x1, x2, x3, x4, x5⟩, z0, z1, z2⟩ := HS1.out
    go_wp2_with fail
    refine (cT.out _).mono ?_
    rintro E2 w2 ⟨rfl, hb2⟩
    have HS2 := hidd (HS1.out.step hb2)
    have HX2 := hidd (HX1.out.step hb2)
    have HB2 := hidd (below_step HB1.out hb2)
    clear hb2 x0 x1 x2 x3 x4 x5 z0 z1 z2
    obtain ⟨⟨x0, x1, x2, x3, x4, x5⟩, z0, z1, z2⟩ := HS2.out
    go_wp2_with fail
    refine (cR.out _).mono ?_
    rintro E3 w3 ⟨rfl, hb3⟩
    have HS3 := hidd (HS2.out.step hb3)
    have HX3 := hidd (HX2.out.step hb3)
    have HB3 := hidd (below_step HB2.out hb3)
    clear hb3 x0 x1 x2 x3 x4 x5 z0 z1 z2
    obtain ⟨⟨x0, x1, x2, x3, x4, x5⟩, z0, z1, z2⟩ := HS3.out
    have KEEP := hidd (fun W' (hb : Below w3.heap.size w3 W') => (show W'.cell? ⟨w.heap.size + 1, 0, none⟩ = some (.int .i64 c) ∧ W'.cell? ⟨w.heap.size + 1, 1, none⟩ = some (.int .i64 d) from (HS3.out.step hb).2.2))
    go_wp2_with fail
    go_cut [41] (fun s41 wx => s41 = .bool false ∧ Below w3.heap.size w3 wx)
    case first =>
      go_region_held3 (fun w' => w'.cell? ⟨w.heap.size + 1, 0, none⟩ = some (.int .i64 c) ∧ w'.cell? ⟨w.heap.size + 1, 1, none⟩ = some (.int .i64 d))
        ((first | exact KEEP.out _ cum2 | exact KEEP.out _ cum1 | exact ⟨z1, z2⟩ | go_keep))
        ((first
          | (go_at_call 9; refine (cC.out _).mono ?_; rintro E4 y1 ⟨rfl, l1⟩; have cum1 : Below w3.heap.size w3 y1 := (by first | exact below_step (Below.drew (Below.refl _ _)) l1 | exact below_step (Below.refl _ _) l1))
          | (go_at_call 10; refine (cG.out _).mono ?_; rintro E5 y2 ⟨rfl, l2⟩; have cum2 : Below w3.heap.size w3 y2 := (by first | exact below_step cum1 l2 | exact below_step (Below.drew (Below.refl _ _)) l2 | exact below_step (Below.refl _ _) l2))))
      all_goals go_wp2_with fail
      all_goals go_meet
      all_goals exact ⟨by first | rfl | simp, cum2⟩
    case rest =>
      obtain ⟨rfl, hcut⟩ := hcut
      have HS4 := hidd (HS3.out.step hcut)
      have HX4 := hidd (HX3.out.step hcut)
      have HB4 := hidd (below_step HB3.out hcut)
      clear hcut x0 x1 x2 x3 x4 x5 z0 z1 z2
      obtain ⟨⟨x0, x1, x2, x3, x4, x5⟩, z0, z1, z2⟩ := HS4.out
      go_wp2_with fail
      refine (cM.out _).mono ?_
      rintro E6 w5 ⟨rfl, hb5⟩
      have HS5 := hidd (HS4.out.step hb5)
      have HX5 := hidd (HX4.out.step hb5)
      have HB5 := hidd (below_step HB4.out hb5)
      clear hb5 x0 x1 x2 x3 x4 x5 z0 z1 z2
      obtain ⟨⟨x0, x1, x2, x3, x4, x5⟩, z0, z1, z2⟩ := HS5.out
      obtain ⟨k0, k1, k2, _, _⟩ := HX5.out
      go_wp2_with fail
      refine (dR.out _).mono ?_
      rintro E7 w6 ⟨rfl, hb6⟩
      have HS6 := hidd (HS5.out.step hb6)
      have HX6 := hidd (HX5.out.step hb6)
      have HB6 := hidd (below_step HB5.out hb6)
      clear hb6 x0 x1 x2 x3 x4 x5 z0 z1 z2 k0 k1 k2
      obtain ⟨⟨x0, x1, x2, x3, x4, x5⟩, z0, z1, z2⟩ := HS6.out
      obtain ⟨k0, k1, k2, _, _⟩ := HX6.out
      have KEEP6 := hidd (fun W' (hb : Below w6.heap.size w6 W') => (show ((W'.cell? ⟨w.heap.size, 0, none⟩ = some (.int .i64 p) ∧ W'.cell? ⟨w.heap.size, 1, none⟩ = some (.int .i64 r) ∧ W'.cell? ⟨w.heap.size, 2, none⟩ = some (.int .i64 u) ∧ W'.cell? ⟨w.heap.size, 3, none⟩ = some (.int .i64 m) ∧ W'.cell? ⟨w.heap.size, 4, none⟩ = some (.int .i64 l)) ∧ W'.cell? ⟨w.heap.size + 1, 0, none⟩ = some (.int .i64 c) ∧ W'.cell? ⟨w.heap.size + 1, 1, none⟩ = some (.int .i64 d)) ∧ W'.cell? ⟨w1.heap.size, 0, none⟩ = some (.int .i64 N) ∧ W'.cell? ⟨w1.heap.size, 1, none⟩ = some (.int .i64 D) from ⟨⟨(HS6.out.step hb).1.2, (HS6.out.step hb).2.2⟩, (HX6.out.step hb).2.1, (HX6.out.step hb).2.2.1⟩))
      go_wp2_with fail
      first | (go_region_held (fun w' => ((w'.cell? ⟨w.heap.size, 0, none⟩ = some (.int .i64 p) ∧ w'.cell? ⟨w.heap.size, 1, none⟩ = some (.int .i64 r) ∧ w'.cell? ⟨w.heap.size, 2, none⟩ = some (.int .i64 u) ∧ w'.cell? ⟨w.heap.size, 3, none⟩ = some (.int .i64 m) ∧ w'.cell? ⟨w.heap.size, 4, none⟩ = some (.int .i64 l)) ∧ w'.cell? ⟨w.heap.size + 1, 0, none⟩ = some (.int .i64 c) ∧ w'.cell? ⟨w.heap.size + 1, 1, none⟩ = some (.int .i64 d)) ∧ w'.cell? ⟨w1.heap.size, 0, none⟩ = some (.int .i64 N) ∧ w'.cell? ⟨w1.heap.size, 1, none⟩ = some (.int .i64 D)) ((first | exact KEEP6.out _ cum3 | exact KEEP6.out _ cum2 | exact KEEP6.out _ cum1 | exact ⟨⟨⟨x1, x2, x3, x4, x5⟩, z1, z2⟩, k1, k2⟩ | go_keep)) ((first | (go_at_call 14; refine (dB.out _).mono ?_; rintro E8 y3 ⟨rfl, l1⟩; have cum1 : Below w6.heap.size w6 y3 := (by first | exact below_step (Below.drew (Below.refl _ _)) l1 | exact below_step (Below.refl _ _) l1)) | (go_at_call 15; refine (dT.out _).mono ?_; rintro E9 y4 ⟨rfl, l2⟩; have cum2 : Below w6.heap.size w6 y4 := (by first | exact below_step cum1 l2)) | (go_at_call 12; refine (ck.out _).mono ?_; rintro E10 y5 ⟨rfl, l3⟩; have cum3 : Below w6.heap.size w6 y5 := (by first | exact below_step cum2 l3))))) | fail
      all_goals have HB9 := hidd (below_step HB6.out cum3)
      all_goals clear l1 l2 l3 cum1 cum2 cum3 x0 x1 x2 x3 x4 x5 z0 z1 z2 k0 k1 k2
      all_goals go_wp2_with fail
      all_goals go_ret
      all_goals exact ⟨by first | rfl | simp, HB9.out⟩
theorem tells_walk (p r u m l R c d : Int) (_h0 : -9223372036854775808 ≤ R) (_h1 : R ≤ 9223372036854775807) (w : World) :
    Calls Try.prog 3 #[.agg #[.int .i64 p, .int .i64 r, .int .i64 u, .int .i64 m, .int .i64 l], .int .i64 R, .agg #[.int .i64 c, .int .i64 d]] w fun e w' => e = .returned (.bool true) ∧ Below w.heap.size w w' := by
  by_cases h : hasB p r u m l R c d = true
  · obtain ⟨hs, ⟨hR, hR2⟩, ⟨hc1, hc2⟩, hd1, hd2⟩ := has_in h
    obtain ⟨N, D, ht, hm, hu⟩ := told_up (l := l) hs hR hR2 hc1 hc2 hd1 hd2
    by_cases hl : u + r * upB p r u m R c d ≤ 1000000000
    · exact tells_yes p r u m l R c d N D _ (u + r * upB p r u m R c d) true hm rfl (by unfold rmR; rw [if_pos h, if_pos hl]; rfl) (decide_eq_true hl) h w
    · exact tells_yes p r u m l R c d N D _ 0 false hm rfl (by unfold rmR; rw [if_pos h, if_neg hl]; rfl) (decide_eq_false hl) h w
  · exact tells_no p r u m l R c d _ rfl (by simpa using h) w
end Go.Proofs.Ytianceglbkcmpaa
