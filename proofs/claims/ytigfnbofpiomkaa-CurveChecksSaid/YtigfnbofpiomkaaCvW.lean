/- The walk of CurveChecks: may any lines be a curve; how high it is, its least rate. -/
import Derived.Test.YtigfnbofpiomkaaCvV
namespace Go.Proofs.Ytigfnbofpiomkaa
set_option linter.unusedVariables false
open Go.RowKit Go.Proofs.Ytigfnbofpiomkaa.RowK

set_option maxRecDepth 100000 in
set_option maxHeartbeats 8000000 in
theorem checks_walk (A : Option Addr) (L : List (Int × Int)) (c : Nat) (t : Int) (hc : L.length ≤ c) (hcm : c ≤ maxLen) (t0 : -9223372036854775808 ≤ t) (t1 : t ≤ 9223372036854775807) (w : World) (hA : Lie sendV 2 w w.heap.size A L) :
    Calls Try.prog 4 #[.slice A L.length c, .int .i64 t] w fun e w' => e = .returned (.bool true) ∧ Below w.heap.size w w' := by
  have ck := hidd (fun W => known3_any W)
  have hLm : L.length ≤ maxLen := Nat.le_trans hc hcm
  have hcm2 := hcm
  unfold maxLen at hLm hcm2
  by_cases h40 : 40 < L.length
  · have h40' : (40 : Int) < (L.length : Int) := by omega
    clear hA
    go_enter Try.func4, Try.ntmps4
    go_wp2_with fail
    refine (ck.out _).mono ?_
    rintro e w1 ⟨rfl, hb1⟩
    go_wp2_with fail
    go_ret
    exact ⟨rfl, hb1⟩
  have h40' : ¬ (40 : Int) < (L.length : Int) := by omega
  have hL6 : L.length ≤ 1000000 := by omega
  have HA := hidd hA
  have cr := hidd (right3_any A L c hL6 w hA)
  have cs := hidd (fun W (hW : Lie sendV 2 W W.heap.size A L) => slowest_any A L c hL6 W hW)
  have cc := hidd (fun W (hW : Lie sendV 2 W W.heap.size A L) => curveCheck_any A L c hL6 W hW)
  have cno := hidd (fun W (hW : Lie sendV 2 W W.heap.size A L) => curveAt_no A L c t hL6 W hW)
  have cyes := hidd (fun W (hW : Lie sendV 2 W W.heap.size A L) => curveAt_yes A L c t hc hcm W hW)
  by_cases hr : RgtC L
  · have HR := hidd hr
    obtain ⟨m, hm⟩ : ∃ m, L.length = m + 1 := ⟨L.length - 1, by have := hr.1; omega⟩
    have HM := hidd hm
    have hm32 : m ≤ 31 := by have := hr.1; omega
    have hm2 : (0 : Int) ≤ (m : Int) := by omega
    have hm3 : (m : Int) < (m : Int) + 1 := by omega
    have hm5 : IntKind.i64.wrap (m : Int) = (m : Int) := IntWalk.i64_in _ (by omega)
    have hm6 : IntKind.i64.wrap ((m : Int) + 1 - 1) = (m : Int) := by rw [IntWalk.i64_in _ (by omega)]; omega
    have hm7 : ¬ (40 : Int) < (m : Int) + 1 := by omega
    have csy := hidd (fun W hW => (cs.out W hW).1 hr)
    rw [hm] at cr cc csy
    rw [hm]
    rw [Nat.add_sub_cancel] at csy
    by_cases ht : tickB t = true
    · obtain ⟨ht0, ht1⟩ : 0 ≤ t ∧ t ≤ 2147483647 := of_decide_eq_true ht
      have ca := hidd (fun W hW => cyes.out W hW hr ht)
      have cf := hidd (fun W (hW : Lie sendV 2 W W.heap.size A L) => refAt_any A L c t 1 hL6 (by omega) hr.2.1 ht0 ht1 (by decide) (by decide) W hW)
      rw [hm] at ca cf
      unfold AtEnd at ca
      unfold RefAtEnd at cf
      clear cs cno cyes hr hm h40 h40' hLm hL6 hA ht t0 t1 hc hcm hcm2
      go_enter Try.func4, Try.ntmps4
      go_wp2_with fail
      refine cr.out.mono ?_
      rintro e w1 ⟨R, rfl, hR, hb1⟩
      obtain rfl : R = true := hR.2 HR.out
      have HB1 := hidd hb1
      have HA1 := hidd (HA.out.below hb1)
      clear hR hb1
      go_wp2_with fail
      refine (ca.out _ HA1.out).mono ?_
      rintro e w2 ⟨x, rfl, hx, hb2⟩
      have HX := hidd hx
      have HB2 := hidd (below_step HB1.out hb2)
      have HA2 := hidd (HA1.out.below hb2)
      clear hx hb2
      go_wp2_with fail
      refine (csy.out _ HA2.out).mono ?_
      rintro e w3 ⟨rfl, hb3⟩
      have HB3 := hidd (below_step HB2.out hb3)
      have HA3 := hidd (HA2.out.below hb3)
      clear hb3
      go_wp2_with fail
      refine (cc.out _ HA3.out).mono ?_
      rintro e w4 ⟨R, rfl, hR, hb4⟩
      obtain rfl : R = true := hR.2 HR.out
      have HB4 := hidd (below_step HB3.out hb4)
      have HA4 := hidd (HA3.out.below hb4)
      obtain ⟨ad, rfl, _, y0, y1⟩ := HA4.out.send m (by rw [HM.out]; omega)
      rw [(av_at (show m < L.length by rw [HM.out]; omega)).2] at y1
      clear hR hb4 y0
      go_wp2_with fail
      refine (cf.out _ HA4.out).mono ?_
      rintro e w5 ⟨x', rfl, hx', hb5⟩
      obtain rfl : x = x' := HX.out.same hx'
      have HB5 := hidd (below_step HB4.out hb5)
      clear hx' hb5 y1
      go_wp2_with fail
      refine (ck.out _).mono ?_
      rintro e w6 ⟨rfl, hb6⟩
      go_wp2_with fail
      go_ret
      exact ⟨by simp, below_step HB5.out hb6⟩
    · have ca := hidd (fun W hW => cno.out W hW (fun h => ht h.2))
      rw [hm] at ca
      have htt : ¬ (0 ≤ t ∧ t ≤ 2147483647) := fun h => ht (decide_eq_true h)
      have hsp : t < 0 ∨ (¬ t < 0 ∧ 2147483647 < t) := by omega
      clear cs cno cyes hr hm h40 h40' hLm hL6 hA ht t0 t1 hc hcm hcm2 htt
      rcases hsp with hs | ⟨hs1, hs2⟩
      all_goals
        go_enter Try.func4, Try.ntmps4
        go_wp2_with fail
        refine cr.out.mono ?_
        rintro e w1 ⟨R, rfl, hR, hb1⟩
        obtain rfl : R = true := hR.2 HR.out
        have HB1 := hidd hb1
        have HA1 := hidd (HA.out.below hb1)
        clear hR hb1
        go_wp2_with fail
        refine (ca.out _ HA1.out).mono ?_
        rintro e w2 ⟨rfl, hb2⟩
        have HB2 := hidd (below_step HB1.out hb2)
        have HA2 := hidd (HA1.out.below hb2)
        clear hb2
        go_wp2_with fail
        refine (csy.out _ HA2.out).mono ?_
        rintro e w3 ⟨rfl, hb3⟩
        have HB3 := hidd (below_step HB2.out hb3)
        have HA3 := hidd (HA2.out.below hb3)
        clear hb3
        go_wp2_with fail
        refine (cc.out _ HA3.out).mono ?_
        rintro e w4 ⟨R, rfl, hR, hb4⟩
        obtain rfl : R = true := hR.2 HR.out
        have HB4 := hidd (below_step HB3.out hb4)
        have HA4 := hidd (HA3.out.below hb4)
        obtain ⟨ad, rfl, _, y0, y1⟩ := HA4.out.send m (by rw [HM.out]; omega)
        rw [(av_at (show m < L.length by rw [HM.out]; omega)).2] at y1
        clear hR hb4 y0
        go_wp2_with fail
        refine (ck.out _).mono ?_
        rintro e w6 ⟨rfl, hb6⟩
        go_wp2_with fail
        go_ret
        exact ⟨by first | rfl | simp, below_step HB4.out hb6⟩
  · have HR := hidd hr
    have csn := hidd (fun W hW => (cs.out W hW).2 hr)
    have ca := hidd (fun W hW => cno.out W hW (fun h => hr h.1))
    clear cs cno cyes hr h40 hLm hL6 hA t0 t1 hc hcm hcm2
    go_enter Try.func4, Try.ntmps4
    go_wp2_with fail
    refine cr.out.mono ?_
    rintro e w1 ⟨R, rfl, hR, hb1⟩
    obtain rfl : R = false := by cases R; rfl; exact absurd (hR.1 rfl) HR.out
    have HB1 := hidd hb1
    have HA1 := hidd (HA.out.below hb1)
    clear hR hb1
    go_wp2_with fail
    refine (ca.out _ HA1.out).mono ?_
    rintro e w2 ⟨rfl, hb2⟩
    have HB2 := hidd (below_step HB1.out hb2)
    have HA2 := hidd (HA1.out.below hb2)
    clear hb2
    go_wp2_with fail
    refine (csn.out _ HA2.out).mono ?_
    rintro e w3 ⟨rfl, hb3⟩
    have HB3 := hidd (below_step HB2.out hb3)
    have HA3 := hidd (HA2.out.below hb3)
    clear hb3
    go_wp2_with fail
    refine (cc.out _ HA3.out).mono ?_
    rintro e w4 ⟨R, rfl, hR, hb4⟩
    obtain rfl : R = false := by cases R; rfl; exact absurd (hR.1 rfl) HR.out
    have HB4 := hidd (below_step HB3.out hb4)
    clear hR hb4
    go_wp2_with fail
    refine (ck.out _).mono ?_
    rintro e w6 ⟨rfl, hb6⟩
    go_wp2_with fail
    go_ret
    exact ⟨by first | rfl | simp, below_step HB4.out hb6⟩
end Go.Proofs.Ytigfnbofpiomkaa
