/- The walk of SpecPairs. -/
import Derived.Test.YtlocclnpnghaaaaSpU
import Derived.Deep.RegionHeld
namespace Go.Proofs.Ytlocclnpnghaaaa
open Go.RowKit RowK

set_option maxRecDepth 100000 in
set_option maxHeartbeats 8000000 in
theorem pairs_walk (a0 a1 a2 a3 a4 b0 b1 b2 b3 b4 : Int) (A : Option Addr) (L : List Spc) (c : Nat) (hc : L.length ≤ c) (hx : c ≤ maxLen) (w : World) (hl : Lie specV 5 w w.heap.size A L) :
    Calls Try.prog 5 #[.agg #[.int .i64 a0, .int .i64 a1, .int .i64 a2, .int .i64 a3, .int .i64 a4], .agg #[.int .i64 b0, .int .i64 b1, .int .i64 b2, .int .i64 b3, .int .i64 b4], .slice A L.length c] w fun e w' => e = .returned (.bool true) ∧ Below w.heap.size w w' := by
  have hx' := hx
  unfold maxLen at hx'
  have HL := hidd hl
  have ck := hidd (fun W => known_any W)
  obtain ⟨N, hN⟩ : ∃ N, L.length = N := ⟨_, rfl⟩
  rw [hN] at hc ⊢
  have HN := hidd hN
  clear hl hN
  by_cases h10 : 10 < N
  · have g2 : (10 : Int) < (N : Int) := by omega
    go_enter Try.func5, Try.ntmps5
    go_wp2_with fail
    refine (ck.out _).mono ?_
    rintro e w1 ⟨rfl, hb1⟩
    go_wp2_with fail
    go_ret
    exact ⟨rfl, by (repeat' (first | (with_reducible exact Below.refl _ _) | (with_reducible assumption) | (with_reducible apply Below.setCell) | (with_reducible apply Below.alloc) | (with_reducible apply Below.drew) | (with_reducible apply below_drewN) | (with_reducible refine Below.trans ?_ (Below.mono (by assumption) ?_)) | omega | (simp; done) | (simp; omega)))⟩
  · have g2 : (N : Int) ≤ 10 := by omega
    have cj := hidd (fun W hl => Joint_any A L N c HN.out (by omega) hc hx W hl)
    have cs := hidd (fun W hl => Sum_any A L N c HN.out (by omega) hc hx W hl)
    have ra := hidd (fun W => right_any a0 a1 a2 a3 a4 W)
    have rb := hidd (fun W => right_any b0 b1 b2 b3 b4 W)
    have ci := hidd (fun W => Within_any (a0, a1, a2, a3, a4) (b0, b1, b2, b3, b4) W)
    have cw := hidd (fun W => refWithin_any (a0, a1, a2, a3, a4) (b0, b1, b2, b3, b4) W)
    have hW1 : rightB a0 a1 a2 a3 a4 = true → rightB b0 b1 b2 b3 b4 = true → withinR (a0, a1, a2, a3, a4) (b0, b1, b2, b3, b4) = (refWithinB (a0, a1, a2, a3, a4) (b0, b1, b2, b3, b4), 0) := fun h1 h2 => within_is h1 h2
    have hW2 : ¬ (rightB a0 a1 a2 a3 a4 = true ∧ rightB b0 b1 b2 b3 b4 = true) → withinR (a0, a1, a2, a3, a4) (b0, b1, b2, b3, b4) = (false, 2) := fun h => within_no h
    unfold specA at ci cw
    dsimp only at ci cw
    generalize withinR (a0, a1, a2, a3, a4) (b0, b1, b2, b3, b4) = WR at *
    generalize refWithinB (a0, a1, a2, a3, a4) (b0, b1, b2, b3, b4) = WB at *
    generalize rightB a0 a1 a2 a3 a4 = RA at *
    generalize rightB b0 b1 b2 b3 b4 = RB at *
    have HW1 := hidd hW1
    have HW2 := hidd hW2
    clear hW1 hW2 hx hx'
    go_enter Try.func5, Try.ntmps5
    go_wp2_with fail
    refine (ci.out _).mono ?_
    rintro e w1 ⟨rfl, hb1⟩
    have Ha := ((HasSpec.new w 23 a0 a1 a2 a3 a4).past _).step hb1
    have Hb := (HasSpec.new' (b := w.heap.size + 1) (by simp) 23 b0 b1 b2 b3 b4).step hb1
    have Lw := below_step (below_new (below_new (Below.refl w.heap.size w) _) _) hb1
    have HA := hidd Ha
    have HB := hidd Hb
    have LW := hidd Lw
    clear Ha Hb Lw hb1
    go_upto_region 4 with fail
    go_cut [34] (fun s34 wx => s34 = .bool (!(RA && RB)) ∧ Below w.heap.size w wx ∧ HasSpec wx w.heap.size a0 a1 a2 a3 a4 ∧ HasSpec wx (w.heap.size + 1) b0 b1 b2 b3 b4)
    case first =>
      obtain ⟨z, d0, d1, d2, d3, d4⟩ := HA.out
      obtain ⟨y, e0, e1, e2, e3, e4⟩ := HB.out
      cases RA
      · go_wp2_with fail
        refine (ra.out _).mono ?_
        rintro e w2 ⟨rfl, hb2⟩
        go_wp2_with fail
        go_meet
        exact ⟨rfl, below_step LW.out hb2, HA.out.step hb2, HB.out.step hb2⟩
      · go_wp2_with fail
        refine (ra.out _).mono ?_
        rintro e w2 ⟨rfl, hb2⟩
        obtain ⟨y, e0, e1, e2, e3, e4⟩ := HB.out.step hb2
        go_wp2_with fail
        refine (rb.out _).mono ?_
        rintro e w3 ⟨rfl, hb3⟩
        go_wp2_with fail
        go_meet
        exact ⟨by simp, below_step (below_step LW.out hb2) hb3, (HA.out.step hb2).step hb3, (HB.out.step hb2).step hb3⟩
    case rest =>
    obtain ⟨rfl, Lw, Ha, Hb⟩ := hcut
    have LW2 := hidd Lw
    have HA2 := hidd Ha
    have HB2 := hidd Hb
    clear Lw Ha Hb
    obtain ⟨wA, rfl⟩ : ∃ wA : World, wA = wc := ⟨_, rfl⟩
    go_upto_if 34 with fail
    go_cut [] (fun wx => Below w.heap.size w wx)
    case first =>
      obtain ⟨z, d0, d1, d2, d3, d4⟩ := HA2.out
      obtain ⟨y, e0, e1, e2, e3, e4⟩ := HB2.out
      cases RA
      · have hW := HW2.out (by simp)
        subst hW
        go_wp2_with fail
        go_meet
        exact LW2.out
      · cases RB
        · have hW := HW2.out (by simp)
          subst hW
          go_wp2_with fail
          go_meet
          exact LW2.out
        · have hW := HW1.out rfl rfl
          subst hW
          cases WB
          all_goals
            go_wp2_with fail
            refine (cw.out _).mono ?_
            rintro e w3 ⟨rfl, hb3⟩
            go_wp2_with fail
            go_meet
            exact below_step LW2.out hb3
    case rest =>
    have LW3 := hidd hcut
    obtain ⟨wB, rfl⟩ : ∃ wB : World, wB = wc := ⟨_, rfl⟩
    clear hcut HA HB LW HA2 HB2 LW2 HW1 HW2 ra rb ci cw
    have hrt : Hid (∀ b, (decide (0 < N) && allRight L) = b → (b = false → jointR L = (z5, 2) ∧ sumR L = (z5, 2)) ∧ (b = true → jointR L = (acc jointV L (N - 1), 0) ∧ ((∃ s, sumR L = (s, 0) ∧ refSumR L N = (s, true)) ∨ (sumR L = (z5, 3) ∧ refSumR L N = (z5, false))))) := hidd (by
      rintro b hb
      refine ⟨fun h => nones_agree (by rw [HN.out, hb, h]), fun h => ?_⟩
      rw [h] at hb
      simp at hb
      exact ⟨joints_agree HN.out hb.2 hb.1, sums_agree HN.out hb.2 hb.1 (by omega)⟩)
    unfold pairS specA at cj cs
    go_wp2_with fail
    refine (cj.out _ (HL.out.below LW3.out)).mono ?_
    rintro e w1 ⟨rfl, hb1⟩
    have LW4 := hidd (below_step LW3.out hb1)
    clear hb1
    go_wp2_with fail
    refine (cs.out _ (HL.out.below (below_new LW4.out _))).mono ?_
    rintro e w2 ⟨rfl, hb2⟩
    have HX := hidd ((HasSpec.new w1 23 (jointR L).1.1 (jointR L).1.2.1 (jointR L).1.2.2.1 (jointR L).1.2.2.2.1 (jointR L).1.2.2.2.2).step hb2)
    have LW5 := hidd (below_step (below_new LW4.out _) hb2)
    clear hb2
    go_wp2_with fail
    go_loopg [13, 14] (N + 1) (fun g s13 s14 wr => ∃ (i : Nat) (q : Bool), i ≤ N ∧ i + g = N + 1 ∧ s13 = .bool q ∧ (decide (0 < N) && allRight (L.take i)) = q ∧ s14 = .int .i64 (i : Int) ∧ Below w.heap.size w wr ∧ HasSpec wr w1.heap.size (jointR L).1.1 (jointR L).1.2.1 (jointR L).1.2.2.1 (jointR L).1.2.2.2.1 (jointR L).1.2.2.2.2 ∧ HasSpec wr w2.heap.size (sumR L).1.1 (sumR L).1.2.1 (sumR L).1.2.2.1 (sumR L).1.2.2.2.1 (sumR L).1.2.2.2.2)
    case atStart => exact ⟨0, decide (0 < N), by omega, by omega, rfl, by simp [allRight], rfl, below_new LW5.out _, HX.out.past _, HasSpec.new w2 _ _ _ _ _ _⟩
    case round =>
      obtain ⟨i, q, hi, hk, rfl, hq, rfl, hB, hX, hY⟩ := hrel
      have HK := hidd hk
      have HQ := hidd hq
      have HB := hidd hB
      have HX2 := hidd hX
      have HY2 := hidd hY
      clear hk hB hX hY hq
      by_cases hlt : i < N
      · obtain ⟨ad, rfl, hadb, x0, x1, x2, x3, x4⟩ := (HL.out.keep HB.out).spec i (by rw [HN.out]; exact hlt)
        have htk : (decide (0 < N) && allRight (L.take (i + 1))) = ((decide (0 < N) && allRight (L.take i)) && rightS (spAt L i)) := by
          have hi' : i < L.length := by rw [HN.out]; exact hlt
          unfold allRight
          rw [List.take_succ_eq_append_getElem hi', List.all_append, spAt_get hi', Bool.and_assoc]; simp
        rw [HQ.out] at htk
        have HTK := hidd htk
        have cn := hidd (fun W => right_any (spAt L i).1 (spAt L i).2.1 (spAt L i).2.2.1 (spAt L i).2.2.2.1 (spAt L i).2.2.2.2 W)
        unfold rightS at HTK
        clear htk
        generalize rightB (spAt L i).1 (spAt L i).2.1 (spAt L i).2.2.1 (spAt L i).2.2.2.1 (spAt L i).2.2.2.2 = R at *
        generalize (spAt L i).1 = a0 at *
        generalize (spAt L i).2.1 = a1 at *
        generalize (spAt L i).2.2.1 = a2 at *
        generalize (spAt L i).2.2.2.1 = a3 at *
        generalize (spAt L i).2.2.2.2 = a4 at *
        cases q
        · go_wp2_with fail
          have hk := HK.out
          go_roundg (gk - 1)
          case measure => omega
          case rel => exact ⟨i + 1, false, by omega, by omega, rfl, by rw [HTK.out]; rfl, by go_num, HB.out, HX2.out, HY2.out⟩
        · go_wp2_with fail
          refine (cn.out _).mono ?_
          rintro e w3 ⟨rfl, hb3⟩
          go_wp2_with fail
          have hk := HK.out
          go_roundg (gk - 1)
          case measure => omega
          case rel => exact ⟨i + 1, R, by omega, by omega, by simp, by rw [HTK.out]; simp, by go_num, below_step HB.out hb3, HX2.out.step hb3, HY2.out.step hb3⟩
      · have hi' : i = N := by omega
        have hall : allRight (L.take i) = allRight L := by rw [List.take_of_length_le (by rw [HN.out]; omega)]
        have hq := HQ.out
        rw [hall] at hq
        have hrr := hrt.out q hq
        cases q
        · obtain ⟨hj, hs⟩ := hrr.1 rfl
          have hX := HX2.out
          have hY := HY2.out
          have HJ := hidd hj
          have HS := hidd hs
          rw [hj] at hX
          rw [hs] at hY
          unfold z5 at hX hY
          obtain ⟨ux, u0, u1, u2, u3, u4⟩ := hX
          obtain ⟨vx, v0, v1, v2, v3, v4⟩ := hY
          dsimp only at u0 u1 u2 u3 u4 v0 v1 v2 v3 v4
          have j2 : (jointR L).2 = 2 := by rw [HJ.out]
          have s2 : (sumR L).2 = 2 := by rw [HS.out]
          clear hrr hq hall hj hs HX2 HY2 HX
          go_wp2_with fail
          refine (ck.out _).mono ?_
          rintro e w4 ⟨rfl, hb4⟩
          go_wp2_with fail
          go_ret
          exact ⟨by simp, below_step HB.out hb4⟩
        · obtain ⟨hj, hs⟩ := hrr.2 rfl
          have h1N : 1 ≤ N := by
            simp at hq; omega
          have cjj := hidd (fun W hl => refJoint_any A L N c HN.out h1N (by omega) W hl)
          have css := hidd (fun W hl => refSum_any A L N c HN.out h1N (by omega) W hl)
          unfold specA at cjj css
          have j2 : (jointR L).2 = 0 := by rw [hj]
          have hX := HX2.out
          rw [hj] at hX
          generalize acc jointV L (N - 1) = j at *
          have HJ := hidd hj
          clear hrr hq hall HX2 HX hj
          have HXX := hidd hX
          clear hX
          rcases hs with ⟨s, hs, hs'⟩ | ⟨hs, hs'⟩
          · have hY := HY2.out
            rw [hs] at hY
            rw [hs'] at css
            have s2 : (sumR L).2 = 0 := by rw [hs]
            have HYY := hidd hY
            dsimp only at HYY HXX css
            clear hs hs' hY HY2
            obtain ⟨ux, u0, u1, u2, u3, u4⟩ := HXX.out
            obtain ⟨vx, v0, v1, v2, v3, v4⟩ := HYY.out
            go_wp2_with fail
            refine (css.out _ (HL.out.below HB.out)).mono ?_
            rintro e w4 ⟨rfl, hb4⟩
            have HXX := hidd (HXX.out.step hb4)
            have HYY := hidd (HYY.out.step hb4)
            have LW6 := hidd (below_step HB.out hb4)
            clear hb4 u0 u1 u2 u3 u4 v0 v1 v2 v3 v4
            obtain ⟨ux, u0, u1, u2, u3, u4⟩ := HXX.out
            obtain ⟨vx, v0, v1, v2, v3, v4⟩ := HYY.out
            have q1 := fun w => same_run j.1 j.2.1 j.2.2.1 j.2.2.2.1 j.2.2.2.2 j.1 j.2.1 j.2.2.1 j.2.2.2.1 j.2.2.2.2 w
            have q2 := fun w => same_run s.1 s.2.1 s.2.2.1 s.2.2.2.1 s.2.2.2.2 s.1 s.2.1 s.2.2.1 s.2.2.2.1 s.2.2.2.2 w
            have q5 : sameB (j.1, j.2.1, j.2.2.1, j.2.2.2.1, j.2.2.2.2) (j.1, j.2.1, j.2.2.1, j.2.2.2.1, j.2.2.2.2) = true := by simp [sameB]
            have q6 : sameB (s.1, s.2.1, s.2.2.1, s.2.2.2.1, s.2.2.2.2) (s.1, s.2.1, s.2.2.1, s.2.2.2.1, s.2.2.2.2) = true := by simp [sameB]
            rw [q5] at q1
            rw [q6] at q2
            clear q5 q6
            have PX := hidd (HXX.out.past (.cells #[.int .i64 s.1, .int .i64 s.2.1, .int .i64 s.2.2.1, .int .i64 s.2.2.2.1, .int .i64 s.2.2.2.2] 23))
            have PY := hidd (HYY.out.past (.cells #[.int .i64 s.1, .int .i64 s.2.1, .int .i64 s.2.2.1, .int .i64 s.2.2.2.1, .int .i64 s.2.2.2.2] 23))
            have PZ := hidd (HasSpec.new w4 23 s.1 s.2.1 s.2.2.1 s.2.2.2.1 s.2.2.2.2)
            have P0 : (w4.alloc (.cells #[.int .i64 s.1, .int .i64 s.2.1, .int .i64 s.2.2.1, .int .i64 s.2.2.2.1, .int .i64 s.2.2.2.2] 23)).cell? ⟨w1.heap.size, 0, none⟩ = some (.int .i64 j.1) ∧ (w4.alloc (.cells #[.int .i64 s.1, .int .i64 s.2.1, .int .i64 s.2.2.1, .int .i64 s.2.2.2.1, .int .i64 s.2.2.2.2] 23)).cell? ⟨w1.heap.size, 1, none⟩ = some (.int .i64 j.2.1) ∧ (w4.alloc (.cells #[.int .i64 s.1, .int .i64 s.2.1, .int .i64 s.2.2.1, .int .i64 s.2.2.2.1, .int .i64 s.2.2.2.2] 23)).cell? ⟨w1.heap.size, 2, none⟩ = some (.int .i64 j.2.2.1) ∧ (w4.alloc (.cells #[.int .i64 s.1, .int .i64 s.2.1, .int .i64 s.2.2.1, .int .i64 s.2.2.2.1, .int .i64 s.2.2.2.2] 23)).cell? ⟨w1.heap.size, 3, none⟩ = some (.int .i64 j.2.2.2.1) ∧ (w4.alloc (.cells #[.int .i64 s.1, .int .i64 s.2.1, .int .i64 s.2.2.1, .int .i64 s.2.2.2.1, .int .i64 s.2.2.2.2] 23)).cell? ⟨w1.heap.size, 4, none⟩ = some (.int .i64 j.2.2.2.2) ∧ (w4.alloc (.cells #[.int .i64 s.1, .int .i64 s.2.1, .int .i64 s.2.2.1, .int .i64 s.2.2.2.1, .int .i64 s.2.2.2.2] 23)).cell? ⟨w2.heap.size, 0, none⟩ = some (.int .i64 s.1) ∧ (w4.alloc (.cells #[.int .i64 s.1, .int .i64 s.2.1, .int .i64 s.2.2.1, .int .i64 s.2.2.2.1, .int .i64 s.2.2.2.2] 23)).cell? ⟨w2.heap.size, 1, none⟩ = some (.int .i64 s.2.1) ∧ (w4.alloc (.cells #[.int .i64 s.1, .int .i64 s.2.1, .int .i64 s.2.2.1, .int .i64 s.2.2.2.1, .int .i64 s.2.2.2.2] 23)).cell? ⟨w2.heap.size, 2, none⟩ = some (.int .i64 s.2.2.1) ∧ (w4.alloc (.cells #[.int .i64 s.1, .int .i64 s.2.1, .int .i64 s.2.2.1, .int .i64 s.2.2.2.1, .int .i64 s.2.2.2.2] 23)).cell? ⟨w2.heap.size, 3, none⟩ = some (.int .i64 s.2.2.2.1) ∧ (w4.alloc (.cells #[.int .i64 s.1, .int .i64 s.2.1, .int .i64 s.2.2.1, .int .i64 s.2.2.2.1, .int .i64 s.2.2.2.2] 23)).cell? ⟨w2.heap.size, 4, none⟩ = some (.int .i64 s.2.2.2.2) ∧ (w4.alloc (.cells #[.int .i64 s.1, .int .i64 s.2.1, .int .i64 s.2.2.1, .int .i64 s.2.2.2.1, .int .i64 s.2.2.2.2] 23)).cell? ⟨w4.heap.size, 0, none⟩ = some (.int .i64 s.1) ∧ (w4.alloc (.cells #[.int .i64 s.1, .int .i64 s.2.1, .int .i64 s.2.2.1, .int .i64 s.2.2.2.1, .int .i64 s.2.2.2.2] 23)).cell? ⟨w4.heap.size, 1, none⟩ = some (.int .i64 s.2.1) ∧ (w4.alloc (.cells #[.int .i64 s.1, .int .i64 s.2.1, .int .i64 s.2.2.1, .int .i64 s.2.2.2.1, .int .i64 s.2.2.2.2] 23)).cell? ⟨w4.heap.size, 2, none⟩ = some (.int .i64 s.2.2.1) ∧ (w4.alloc (.cells #[.int .i64 s.1, .int .i64 s.2.1, .int .i64 s.2.2.1, .int .i64 s.2.2.2.1, .int .i64 s.2.2.2.2] 23)).cell? ⟨w4.heap.size, 3, none⟩ = some (.int .i64 s.2.2.2.1) ∧ (w4.alloc (.cells #[.int .i64 s.1, .int .i64 s.2.1, .int .i64 s.2.2.1, .int .i64 s.2.2.2.1, .int .i64 s.2.2.2.2] 23)).cell? ⟨w4.heap.size, 4, none⟩ = some (.int .i64 s.2.2.2.2) := ⟨PX.out.2.1, PX.out.2.2.1, PX.out.2.2.2.1, PX.out.2.2.2.2.1, PX.out.2.2.2.2.2, PY.out.2.1, PY.out.2.2.1, PY.out.2.2.2.1, PY.out.2.2.2.2.1, PY.out.2.2.2.2.2, PZ.out.2.1, PZ.out.2.2.1, PZ.out.2.2.2.1, PZ.out.2.2.2.2.1, PZ.out.2.2.2.2.2⟩
            go_wp2_with fail
            clear u0 u1 u2 u3 u4 v0 v1 v2 v3 v4
            first | (go_region_held (fun w' => w'.cell? ⟨w1.heap.size, 0, none⟩ = some (.int .i64 j.1) ∧ w'.cell? ⟨w1.heap.size, 1, none⟩ = some (.int .i64 j.2.1) ∧ w'.cell? ⟨w1.heap.size, 2, none⟩ = some (.int .i64 j.2.2.1) ∧ w'.cell? ⟨w1.heap.size, 3, none⟩ = some (.int .i64 j.2.2.2.1) ∧ w'.cell? ⟨w1.heap.size, 4, none⟩ = some (.int .i64 j.2.2.2.2) ∧ w'.cell? ⟨w2.heap.size, 0, none⟩ = some (.int .i64 s.1) ∧ w'.cell? ⟨w2.heap.size, 1, none⟩ = some (.int .i64 s.2.1) ∧ w'.cell? ⟨w2.heap.size, 2, none⟩ = some (.int .i64 s.2.2.1) ∧ w'.cell? ⟨w2.heap.size, 3, none⟩ = some (.int .i64 s.2.2.2.1) ∧ w'.cell? ⟨w2.heap.size, 4, none⟩ = some (.int .i64 s.2.2.2.2) ∧ w'.cell? ⟨w4.heap.size, 0, none⟩ = some (.int .i64 s.1) ∧ w'.cell? ⟨w4.heap.size, 1, none⟩ = some (.int .i64 s.2.1) ∧ w'.cell? ⟨w4.heap.size, 2, none⟩ = some (.int .i64 s.2.2.1) ∧ w'.cell? ⟨w4.heap.size, 3, none⟩ = some (.int .i64 s.2.2.2.1) ∧ w'.cell? ⟨w4.heap.size, 4, none⟩ = some (.int .i64 s.2.2.2.2)) ((first | exact pp6 | exact pp5 | exact P0)) (first | (go_at_call 24; refine (cjj.out _ (HL.out.below (by have := LW6.out; have := LW6.out.size; (repeat' (first | (with_reducible exact Below.refl _ _) | (with_reducible assumption) | (with_reducible apply Below.setCell) | (with_reducible apply Below.alloc) | (with_reducible apply Below.drew) | (with_reducible apply below_drewN) | (with_reducible refine Below.trans ?_ (Below.mono (by assumption) ?_)) | omega | (simp; done) | (simp; omega)))))).mono ?_; rintro E w5 ⟨rfl, hb5⟩; have pp5 : w5.cell? ⟨w1.heap.size, 0, none⟩ = some (.int .i64 j.1) ∧ w5.cell? ⟨w1.heap.size, 1, none⟩ = some (.int .i64 j.2.1) ∧ w5.cell? ⟨w1.heap.size, 2, none⟩ = some (.int .i64 j.2.2.1) ∧ w5.cell? ⟨w1.heap.size, 3, none⟩ = some (.int .i64 j.2.2.2.1) ∧ w5.cell? ⟨w1.heap.size, 4, none⟩ = some (.int .i64 j.2.2.2.2) ∧ w5.cell? ⟨w2.heap.size, 0, none⟩ = some (.int .i64 s.1) ∧ w5.cell? ⟨w2.heap.size, 1, none⟩ = some (.int .i64 s.2.1) ∧ w5.cell? ⟨w2.heap.size, 2, none⟩ = some (.int .i64 s.2.2.1) ∧ w5.cell? ⟨w2.heap.size, 3, none⟩ = some (.int .i64 s.2.2.2.1) ∧ w5.cell? ⟨w2.heap.size, 4, none⟩ = some (.int .i64 s.2.2.2.2) ∧ w5.cell? ⟨w4.heap.size, 0, none⟩ = some (.int .i64 s.1) ∧ w5.cell? ⟨w4.heap.size, 1, none⟩ = some (.int .i64 s.2.1) ∧ w5.cell? ⟨w4.heap.size, 2, none⟩ = some (.int .i64 s.2.2.1) ∧ w5.cell? ⟨w4.heap.size, 3, none⟩ = some (.int .i64 s.2.2.2.1) ∧ w5.cell? ⟨w4.heap.size, 4, none⟩ = some (.int .i64 s.2.2.2.2) := ⟨(by have q := Below.cell (p := ⟨w1.heap.size, 0, none⟩) hb5 PX.out.1; exact q.trans PX.out.2.1), (by have q := Below.cell (p := ⟨w1.heap.size, 1, none⟩) hb5 PX.out.1; exact q.trans PX.out.2.2.1), (by have q := Below.cell (p := ⟨w1.heap.size, 2, none⟩) hb5 PX.out.1; exact q.trans PX.out.2.2.2.1), (by have q := Below.cell (p := ⟨w1.heap.size, 3, none⟩) hb5 PX.out.1; exact q.trans PX.out.2.2.2.2.1), (by have q := Below.cell (p := ⟨w1.heap.size, 4, none⟩) hb5 PX.out.1; exact q.trans PX.out.2.2.2.2.2), (by have q := Below.cell (p := ⟨w2.heap.size, 0, none⟩) hb5 PY.out.1; exact q.trans PY.out.2.1), (by have q := Below.cell (p := ⟨w2.heap.size, 1, none⟩) hb5 PY.out.1; exact q.trans PY.out.2.2.1), (by have q := Below.cell (p := ⟨w2.heap.size, 2, none⟩) hb5 PY.out.1; exact q.trans PY.out.2.2.2.1), (by have q := Below.cell (p := ⟨w2.heap.size, 3, none⟩) hb5 PY.out.1; exact q.trans PY.out.2.2.2.2.1), (by have q := Below.cell (p := ⟨w2.heap.size, 4, none⟩) hb5 PY.out.1; exact q.trans PY.out.2.2.2.2.2), (by have q := Below.cell (p := ⟨w4.heap.size, 0, none⟩) hb5 PZ.out.1; exact q.trans PZ.out.2.1), (by have q := Below.cell (p := ⟨w4.heap.size, 1, none⟩) hb5 PZ.out.1; exact q.trans PZ.out.2.2.1), (by have q := Below.cell (p := ⟨w4.heap.size, 2, none⟩) hb5 PZ.out.1; exact q.trans PZ.out.2.2.2.1), (by have q := Below.cell (p := ⟨w4.heap.size, 3, none⟩) hb5 PZ.out.1; exact q.trans PZ.out.2.2.2.2.1), (by have q := Below.cell (p := ⟨w4.heap.size, 4, none⟩) hb5 PZ.out.1; exact q.trans PZ.out.2.2.2.2.2)⟩) | (go_at_call 10; refine (ck.out _).mono ?_; rintro E w6 ⟨rfl, hb6⟩; have pp6 : w6.cell? ⟨w1.heap.size, 0, none⟩ = some (.int .i64 j.1) ∧ w6.cell? ⟨w1.heap.size, 1, none⟩ = some (.int .i64 j.2.1) ∧ w6.cell? ⟨w1.heap.size, 2, none⟩ = some (.int .i64 j.2.2.1) ∧ w6.cell? ⟨w1.heap.size, 3, none⟩ = some (.int .i64 j.2.2.2.1) ∧ w6.cell? ⟨w1.heap.size, 4, none⟩ = some (.int .i64 j.2.2.2.2) ∧ w6.cell? ⟨w2.heap.size, 0, none⟩ = some (.int .i64 s.1) ∧ w6.cell? ⟨w2.heap.size, 1, none⟩ = some (.int .i64 s.2.1) ∧ w6.cell? ⟨w2.heap.size, 2, none⟩ = some (.int .i64 s.2.2.1) ∧ w6.cell? ⟨w2.heap.size, 3, none⟩ = some (.int .i64 s.2.2.2.1) ∧ w6.cell? ⟨w2.heap.size, 4, none⟩ = some (.int .i64 s.2.2.2.2) ∧ w6.cell? ⟨w4.heap.size, 0, none⟩ = some (.int .i64 s.1) ∧ w6.cell? ⟨w4.heap.size, 1, none⟩ = some (.int .i64 s.2.1) ∧ w6.cell? ⟨w4.heap.size, 2, none⟩ = some (.int .i64 s.2.2.1) ∧ w6.cell? ⟨w4.heap.size, 3, none⟩ = some (.int .i64 s.2.2.2.1) ∧ w6.cell? ⟨w4.heap.size, 4, none⟩ = some (.int .i64 s.2.2.2.2) := ⟨(by have q := Below.cell (p := ⟨w1.heap.size, 0, none⟩) hb6 (Nat.lt_of_lt_of_le PX.out.1 hb5.size); exact q.trans pp5.1), (by have q := Below.cell (p := ⟨w1.heap.size, 1, none⟩) hb6 (Nat.lt_of_lt_of_le PX.out.1 hb5.size); exact q.trans pp5.2.1), (by have q := Below.cell (p := ⟨w1.heap.size, 2, none⟩) hb6 (Nat.lt_of_lt_of_le PX.out.1 hb5.size); exact q.trans pp5.2.2.1), (by have q := Below.cell (p := ⟨w1.heap.size, 3, none⟩) hb6 (Nat.lt_of_lt_of_le PX.out.1 hb5.size); exact q.trans pp5.2.2.2.1), (by have q := Below.cell (p := ⟨w1.heap.size, 4, none⟩) hb6 (Nat.lt_of_lt_of_le PX.out.1 hb5.size); exact q.trans pp5.2.2.2.2.1), (by have q := Below.cell (p := ⟨w2.heap.size, 0, none⟩) hb6 (Nat.lt_of_lt_of_le PY.out.1 hb5.size); exact q.trans pp5.2.2.2.2.2.1), (by have q := Below.cell (p := ⟨w2.heap.size, 1, none⟩) hb6 (Nat.lt_of_lt_of_le PY.out.1 hb5.size); exact q.trans pp5.2.2.2.2.2.2.1), (by have q := Below.cell (p := ⟨w2.heap.size, 2, none⟩) hb6 (Nat.lt_of_lt_of_le PY.out.1 hb5.size); exact q.trans pp5.2.2.2.2.2.2.2.1), (by have q := Below.cell (p := ⟨w2.heap.size, 3, none⟩) hb6 (Nat.lt_of_lt_of_le PY.out.1 hb5.size); exact q.trans pp5.2.2.2.2.2.2.2.2.1), (by have q := Below.cell (p := ⟨w2.heap.size, 4, none⟩) hb6 (Nat.lt_of_lt_of_le PY.out.1 hb5.size); exact q.trans pp5.2.2.2.2.2.2.2.2.2.1), (by have q := Below.cell (p := ⟨w4.heap.size, 0, none⟩) hb6 (Nat.lt_of_lt_of_le PZ.out.1 hb5.size); exact q.trans pp5.2.2.2.2.2.2.2.2.2.2.1), (by have q := Below.cell (p := ⟨w4.heap.size, 1, none⟩) hb6 (Nat.lt_of_lt_of_le PZ.out.1 hb5.size); exact q.trans pp5.2.2.2.2.2.2.2.2.2.2.2.1), (by have q := Below.cell (p := ⟨w4.heap.size, 2, none⟩) hb6 (Nat.lt_of_lt_of_le PZ.out.1 hb5.size); exact q.trans pp5.2.2.2.2.2.2.2.2.2.2.2.2.1), (by have q := Below.cell (p := ⟨w4.heap.size, 3, none⟩) hb6 (Nat.lt_of_lt_of_le PZ.out.1 hb5.size); exact q.trans pp5.2.2.2.2.2.2.2.2.2.2.2.2.2.1), (by have q := Below.cell (p := ⟨w4.heap.size, 4, none⟩) hb6 (Nat.lt_of_lt_of_le PZ.out.1 hb5.size); exact q.trans pp5.2.2.2.2.2.2.2.2.2.2.2.2.2.2)⟩))) | fail
            all_goals go_wp2_with fail
            all_goals go_ret
            all_goals exact ⟨by simp, below_step (below_step (below_new LW6.out (.cells #[.int .i64 s.1, .int .i64 s.2.1, .int .i64 s.2.2.1, .int .i64 s.2.2.2.1, .int .i64 s.2.2.2.2] 23)) (show Below (w4.alloc (.cells #[.int .i64 s.1, .int .i64 s.2.1, .int .i64 s.2.2.1, .int .i64 s.2.2.2.1, .int .i64 s.2.2.2.2] 23)).heap.size (w4.alloc (.cells #[.int .i64 s.1, .int .i64 s.2.1, .int .i64 s.2.2.1, .int .i64 s.2.2.2.1, .int .i64 s.2.2.2.2] 23)) w5 from ⟨hb5.os, hb5.tape, hb5.output, hb5.size, hb5.block⟩)) (show Below w5.heap.size w5 w6 from ⟨hb6.os, hb6.tape, hb6.output, hb6.size, hb6.block⟩)⟩
          · have hY := HY2.out
            rw [hs] at hY
            rw [hs'] at css
            have s2 : (sumR L).2 = 3 := by rw [hs]
            have HYY := hidd hY
            unfold z5 at HYY css
            dsimp only at HYY HXX css
            clear hs hs' hY HY2
            obtain ⟨ux, u0, u1, u2, u3, u4⟩ := HXX.out
            obtain ⟨vx, v0, v1, v2, v3, v4⟩ := HYY.out
            go_wp2_with fail
            refine (css.out _ (HL.out.below HB.out)).mono ?_
            rintro e w4 ⟨rfl, hb4⟩
            have HXX := hidd (HXX.out.step hb4)
            have HYY := hidd (HYY.out.step hb4)
            have LW6 := hidd (below_step HB.out hb4)
            clear hb4 u0 u1 u2 u3 u4 v0 v1 v2 v3 v4
            obtain ⟨ux, u0, u1, u2, u3, u4⟩ := HXX.out
            obtain ⟨vx, v0, v1, v2, v3, v4⟩ := HYY.out
            have q1 := fun w => same_run j.1 j.2.1 j.2.2.1 j.2.2.2.1 j.2.2.2.2 j.1 j.2.1 j.2.2.1 j.2.2.2.1 j.2.2.2.2 w
            have q2 := fun w => same_run 0 0 0 0 0 0 0 0 0 0 w
            have q5 : sameB (j.1, j.2.1, j.2.2.1, j.2.2.2.1, j.2.2.2.2) (j.1, j.2.1, j.2.2.1, j.2.2.2.1, j.2.2.2.2) = true := by simp [sameB]
            have q6 : sameB (0, 0, 0, 0, 0) (0, 0, 0, 0, 0) = true := by simp [sameB]
            rw [q5] at q1
            rw [q6] at q2
            clear q5 q6
            have PX := hidd (HXX.out.past (.cells #[.int .i64 0, .int .i64 0, .int .i64 0, .int .i64 0, .int .i64 0] 23))
            have PY := hidd (HYY.out.past (.cells #[.int .i64 0, .int .i64 0, .int .i64 0, .int .i64 0, .int .i64 0] 23))
            have PZ := hidd (HasSpec.new w4 23 0 0 0 0 0)
            have P0 : (w4.alloc (.cells #[.int .i64 0, .int .i64 0, .int .i64 0, .int .i64 0, .int .i64 0] 23)).cell? ⟨w1.heap.size, 0, none⟩ = some (.int .i64 j.1) ∧ (w4.alloc (.cells #[.int .i64 0, .int .i64 0, .int .i64 0, .int .i64 0, .int .i64 0] 23)).cell? ⟨w1.heap.size, 1, none⟩ = some (.int .i64 j.2.1) ∧ (w4.alloc (.cells #[.int .i64 0, .int .i64 0, .int .i64 0, .int .i64 0, .int .i64 0] 23)).cell? ⟨w1.heap.size, 2, none⟩ = some (.int .i64 j.2.2.1) ∧ (w4.alloc (.cells #[.int .i64 0, .int .i64 0, .int .i64 0, .int .i64 0, .int .i64 0] 23)).cell? ⟨w1.heap.size, 3, none⟩ = some (.int .i64 j.2.2.2.1) ∧ (w4.alloc (.cells #[.int .i64 0, .int .i64 0, .int .i64 0, .int .i64 0, .int .i64 0] 23)).cell? ⟨w1.heap.size, 4, none⟩ = some (.int .i64 j.2.2.2.2) ∧ (w4.alloc (.cells #[.int .i64 0, .int .i64 0, .int .i64 0, .int .i64 0, .int .i64 0] 23)).cell? ⟨w2.heap.size, 0, none⟩ = some (.int .i64 0) ∧ (w4.alloc (.cells #[.int .i64 0, .int .i64 0, .int .i64 0, .int .i64 0, .int .i64 0] 23)).cell? ⟨w2.heap.size, 1, none⟩ = some (.int .i64 0) ∧ (w4.alloc (.cells #[.int .i64 0, .int .i64 0, .int .i64 0, .int .i64 0, .int .i64 0] 23)).cell? ⟨w2.heap.size, 2, none⟩ = some (.int .i64 0) ∧ (w4.alloc (.cells #[.int .i64 0, .int .i64 0, .int .i64 0, .int .i64 0, .int .i64 0] 23)).cell? ⟨w2.heap.size, 3, none⟩ = some (.int .i64 0) ∧ (w4.alloc (.cells #[.int .i64 0, .int .i64 0, .int .i64 0, .int .i64 0, .int .i64 0] 23)).cell? ⟨w2.heap.size, 4, none⟩ = some (.int .i64 0) ∧ (w4.alloc (.cells #[.int .i64 0, .int .i64 0, .int .i64 0, .int .i64 0, .int .i64 0] 23)).cell? ⟨w4.heap.size, 0, none⟩ = some (.int .i64 0) ∧ (w4.alloc (.cells #[.int .i64 0, .int .i64 0, .int .i64 0, .int .i64 0, .int .i64 0] 23)).cell? ⟨w4.heap.size, 1, none⟩ = some (.int .i64 0) ∧ (w4.alloc (.cells #[.int .i64 0, .int .i64 0, .int .i64 0, .int .i64 0, .int .i64 0] 23)).cell? ⟨w4.heap.size, 2, none⟩ = some (.int .i64 0) ∧ (w4.alloc (.cells #[.int .i64 0, .int .i64 0, .int .i64 0, .int .i64 0, .int .i64 0] 23)).cell? ⟨w4.heap.size, 3, none⟩ = some (.int .i64 0) ∧ (w4.alloc (.cells #[.int .i64 0, .int .i64 0, .int .i64 0, .int .i64 0, .int .i64 0] 23)).cell? ⟨w4.heap.size, 4, none⟩ = some (.int .i64 0) := ⟨PX.out.2.1, PX.out.2.2.1, PX.out.2.2.2.1, PX.out.2.2.2.2.1, PX.out.2.2.2.2.2, PY.out.2.1, PY.out.2.2.1, PY.out.2.2.2.1, PY.out.2.2.2.2.1, PY.out.2.2.2.2.2, PZ.out.2.1, PZ.out.2.2.1, PZ.out.2.2.2.1, PZ.out.2.2.2.2.1, PZ.out.2.2.2.2.2⟩
            go_wp2_with fail
            clear u0 u1 u2 u3 u4 v0 v1 v2 v3 v4
            go_region_held3 (fun w' => w'.cell? ⟨w1.heap.size, 0, none⟩ = some (.int .i64 j.1) ∧ w'.cell? ⟨w1.heap.size, 1, none⟩ = some (.int .i64 j.2.1) ∧ w'.cell? ⟨w1.heap.size, 2, none⟩ = some (.int .i64 j.2.2.1) ∧ w'.cell? ⟨w1.heap.size, 3, none⟩ = some (.int .i64 j.2.2.2.1) ∧ w'.cell? ⟨w1.heap.size, 4, none⟩ = some (.int .i64 j.2.2.2.2) ∧ w'.cell? ⟨w2.heap.size, 0, none⟩ = some (.int .i64 0) ∧ w'.cell? ⟨w2.heap.size, 1, none⟩ = some (.int .i64 0) ∧ w'.cell? ⟨w2.heap.size, 2, none⟩ = some (.int .i64 0) ∧ w'.cell? ⟨w2.heap.size, 3, none⟩ = some (.int .i64 0) ∧ w'.cell? ⟨w2.heap.size, 4, none⟩ = some (.int .i64 0) ∧ w'.cell? ⟨w4.heap.size, 0, none⟩ = some (.int .i64 0) ∧ w'.cell? ⟨w4.heap.size, 1, none⟩ = some (.int .i64 0) ∧ w'.cell? ⟨w4.heap.size, 2, none⟩ = some (.int .i64 0) ∧ w'.cell? ⟨w4.heap.size, 3, none⟩ = some (.int .i64 0) ∧ w'.cell? ⟨w4.heap.size, 4, none⟩ = some (.int .i64 0)) ((first | exact pp6 | exact pp5 | exact P0)) (first | (go_at_call 24; refine (cjj.out _ (HL.out.below (by have := LW6.out; have := LW6.out.size; (repeat' (first | (with_reducible exact Below.refl _ _) | (with_reducible assumption) | (with_reducible apply Below.setCell) | (with_reducible apply Below.alloc) | (with_reducible apply Below.drew) | (with_reducible apply below_drewN) | (with_reducible refine Below.trans ?_ (Below.mono (by assumption) ?_)) | omega | (simp; done) | (simp; omega)))))).mono ?_; rintro E w5 ⟨rfl, hb5⟩; have pp5 : w5.cell? ⟨w1.heap.size, 0, none⟩ = some (.int .i64 j.1) ∧ w5.cell? ⟨w1.heap.size, 1, none⟩ = some (.int .i64 j.2.1) ∧ w5.cell? ⟨w1.heap.size, 2, none⟩ = some (.int .i64 j.2.2.1) ∧ w5.cell? ⟨w1.heap.size, 3, none⟩ = some (.int .i64 j.2.2.2.1) ∧ w5.cell? ⟨w1.heap.size, 4, none⟩ = some (.int .i64 j.2.2.2.2) ∧ w5.cell? ⟨w2.heap.size, 0, none⟩ = some (.int .i64 0) ∧ w5.cell? ⟨w2.heap.size, 1, none⟩ = some (.int .i64 0) ∧ w5.cell? ⟨w2.heap.size, 2, none⟩ = some (.int .i64 0) ∧ w5.cell? ⟨w2.heap.size, 3, none⟩ = some (.int .i64 0) ∧ w5.cell? ⟨w2.heap.size, 4, none⟩ = some (.int .i64 0) ∧ w5.cell? ⟨w4.heap.size, 0, none⟩ = some (.int .i64 0) ∧ w5.cell? ⟨w4.heap.size, 1, none⟩ = some (.int .i64 0) ∧ w5.cell? ⟨w4.heap.size, 2, none⟩ = some (.int .i64 0) ∧ w5.cell? ⟨w4.heap.size, 3, none⟩ = some (.int .i64 0) ∧ w5.cell? ⟨w4.heap.size, 4, none⟩ = some (.int .i64 0) := ⟨(by have q := Below.cell (p := ⟨w1.heap.size, 0, none⟩) hb5 PX.out.1; exact q.trans PX.out.2.1), (by have q := Below.cell (p := ⟨w1.heap.size, 1, none⟩) hb5 PX.out.1; exact q.trans PX.out.2.2.1), (by have q := Below.cell (p := ⟨w1.heap.size, 2, none⟩) hb5 PX.out.1; exact q.trans PX.out.2.2.2.1), (by have q := Below.cell (p := ⟨w1.heap.size, 3, none⟩) hb5 PX.out.1; exact q.trans PX.out.2.2.2.2.1), (by have q := Below.cell (p := ⟨w1.heap.size, 4, none⟩) hb5 PX.out.1; exact q.trans PX.out.2.2.2.2.2), (by have q := Below.cell (p := ⟨w2.heap.size, 0, none⟩) hb5 PY.out.1; exact q.trans PY.out.2.1), (by have q := Below.cell (p := ⟨w2.heap.size, 1, none⟩) hb5 PY.out.1; exact q.trans PY.out.2.2.1), (by have q := Below.cell (p := ⟨w2.heap.size, 2, none⟩) hb5 PY.out.1; exact q.trans PY.out.2.2.2.1), (by have q := Below.cell (p := ⟨w2.heap.size, 3, none⟩) hb5 PY.out.1; exact q.trans PY.out.2.2.2.2.1), (by have q := Below.cell (p := ⟨w2.heap.size, 4, none⟩) hb5 PY.out.1; exact q.trans PY.out.2.2.2.2.2), (by have q := Below.cell (p := ⟨w4.heap.size, 0, none⟩) hb5 PZ.out.1; exact q.trans PZ.out.2.1), (by have q := Below.cell (p := ⟨w4.heap.size, 1, none⟩) hb5 PZ.out.1; exact q.trans PZ.out.2.2.1), (by have q := Below.cell (p := ⟨w4.heap.size, 2, none⟩) hb5 PZ.out.1; exact q.trans PZ.out.2.2.2.1), (by have q := Below.cell (p := ⟨w4.heap.size, 3, none⟩) hb5 PZ.out.1; exact q.trans PZ.out.2.2.2.2.1), (by have q := Below.cell (p := ⟨w4.heap.size, 4, none⟩) hb5 PZ.out.1; exact q.trans PZ.out.2.2.2.2.2)⟩) | (go_at_call 10; refine (ck.out _).mono ?_; rintro E w6 ⟨rfl, hb6⟩; have pp6 : w6.cell? ⟨w1.heap.size, 0, none⟩ = some (.int .i64 j.1) ∧ w6.cell? ⟨w1.heap.size, 1, none⟩ = some (.int .i64 j.2.1) ∧ w6.cell? ⟨w1.heap.size, 2, none⟩ = some (.int .i64 j.2.2.1) ∧ w6.cell? ⟨w1.heap.size, 3, none⟩ = some (.int .i64 j.2.2.2.1) ∧ w6.cell? ⟨w1.heap.size, 4, none⟩ = some (.int .i64 j.2.2.2.2) ∧ w6.cell? ⟨w2.heap.size, 0, none⟩ = some (.int .i64 0) ∧ w6.cell? ⟨w2.heap.size, 1, none⟩ = some (.int .i64 0) ∧ w6.cell? ⟨w2.heap.size, 2, none⟩ = some (.int .i64 0) ∧ w6.cell? ⟨w2.heap.size, 3, none⟩ = some (.int .i64 0) ∧ w6.cell? ⟨w2.heap.size, 4, none⟩ = some (.int .i64 0) ∧ w6.cell? ⟨w4.heap.size, 0, none⟩ = some (.int .i64 0) ∧ w6.cell? ⟨w4.heap.size, 1, none⟩ = some (.int .i64 0) ∧ w6.cell? ⟨w4.heap.size, 2, none⟩ = some (.int .i64 0) ∧ w6.cell? ⟨w4.heap.size, 3, none⟩ = some (.int .i64 0) ∧ w6.cell? ⟨w4.heap.size, 4, none⟩ = some (.int .i64 0) := ⟨(by have q := Below.cell (p := ⟨w1.heap.size, 0, none⟩) hb6 (Nat.lt_of_lt_of_le PX.out.1 hb5.size); exact q.trans pp5.1), (by have q := Below.cell (p := ⟨w1.heap.size, 1, none⟩) hb6 (Nat.lt_of_lt_of_le PX.out.1 hb5.size); exact q.trans pp5.2.1), (by have q := Below.cell (p := ⟨w1.heap.size, 2, none⟩) hb6 (Nat.lt_of_lt_of_le PX.out.1 hb5.size); exact q.trans pp5.2.2.1), (by have q := Below.cell (p := ⟨w1.heap.size, 3, none⟩) hb6 (Nat.lt_of_lt_of_le PX.out.1 hb5.size); exact q.trans pp5.2.2.2.1), (by have q := Below.cell (p := ⟨w1.heap.size, 4, none⟩) hb6 (Nat.lt_of_lt_of_le PX.out.1 hb5.size); exact q.trans pp5.2.2.2.2.1), (by have q := Below.cell (p := ⟨w2.heap.size, 0, none⟩) hb6 (Nat.lt_of_lt_of_le PY.out.1 hb5.size); exact q.trans pp5.2.2.2.2.2.1), (by have q := Below.cell (p := ⟨w2.heap.size, 1, none⟩) hb6 (Nat.lt_of_lt_of_le PY.out.1 hb5.size); exact q.trans pp5.2.2.2.2.2.2.1), (by have q := Below.cell (p := ⟨w2.heap.size, 2, none⟩) hb6 (Nat.lt_of_lt_of_le PY.out.1 hb5.size); exact q.trans pp5.2.2.2.2.2.2.2.1), (by have q := Below.cell (p := ⟨w2.heap.size, 3, none⟩) hb6 (Nat.lt_of_lt_of_le PY.out.1 hb5.size); exact q.trans pp5.2.2.2.2.2.2.2.2.1), (by have q := Below.cell (p := ⟨w2.heap.size, 4, none⟩) hb6 (Nat.lt_of_lt_of_le PY.out.1 hb5.size); exact q.trans pp5.2.2.2.2.2.2.2.2.2.1), (by have q := Below.cell (p := ⟨w4.heap.size, 0, none⟩) hb6 (Nat.lt_of_lt_of_le PZ.out.1 hb5.size); exact q.trans pp5.2.2.2.2.2.2.2.2.2.2.1), (by have q := Below.cell (p := ⟨w4.heap.size, 1, none⟩) hb6 (Nat.lt_of_lt_of_le PZ.out.1 hb5.size); exact q.trans pp5.2.2.2.2.2.2.2.2.2.2.2.1), (by have q := Below.cell (p := ⟨w4.heap.size, 2, none⟩) hb6 (Nat.lt_of_lt_of_le PZ.out.1 hb5.size); exact q.trans pp5.2.2.2.2.2.2.2.2.2.2.2.2.1), (by have q := Below.cell (p := ⟨w4.heap.size, 3, none⟩) hb6 (Nat.lt_of_lt_of_le PZ.out.1 hb5.size); exact q.trans pp5.2.2.2.2.2.2.2.2.2.2.2.2.2.1), (by have q := Below.cell (p := ⟨w4.heap.size, 4, none⟩) hb6 (Nat.lt_of_lt_of_le PZ.out.1 hb5.size); exact q.trans pp5.2.2.2.2.2.2.2.2.2.2.2.2.2.2)⟩))
            all_goals go_wp2_with fail
            all_goals go_ret
            all_goals exact ⟨by simp, below_step (below_step (below_new LW6.out (.cells #[.int .i64 0, .int .i64 0, .int .i64 0, .int .i64 0, .int .i64 0] 23)) (show Below (w4.alloc (.cells #[.int .i64 0, .int .i64 0, .int .i64 0, .int .i64 0, .int .i64 0] 23)).heap.size (w4.alloc (.cells #[.int .i64 0, .int .i64 0, .int .i64 0, .int .i64 0, .int .i64 0] 23)) w5 from ⟨hb5.os, hb5.tape, hb5.output, hb5.size, hb5.block⟩)) (show Below w5.heap.size w5 w6 from ⟨hb6.os, hb6.tape, hb6.output, hb6.size, hb6.block⟩)⟩
end Go.Proofs.Ytlocclnpnghaaaa
