/- Routes: RouteNear. -/
import Derived.Test.YtalhbjmhipiiiaaGreatRtR
namespace Go.Proofs.YtalhbjmhipiiiaaGreat.Tp
set_option linter.unusedVariables false
open Go.RowKit Go.Maps

theorem er_iff {n : Int} {L : List Lk} {x t : Int} : erI n L x t = 0 ↔ okB n x t = true ∧ dist n L t x ≠ 16 := by
  unfold erI
  by_cases h : okB n x t = true
  · rw [if_pos h]
    by_cases h2 : dist n L t x = 16
    · rw [if_pos h2]; simp [h2]
    · rw [if_neg h2]; simp [h, h2]
  · rw [if_neg h]
    simp [h]
theorem okB_back (n x t : Int) : okB n x t = okB n t x := by unfold okB; rw [Bool.and_comm]
theorem er_back {n : Int} {L : List Lk} (hV : Valid n L) (x t : Int) : erI n L x t = erI n L t x := by
  unfold erI
  by_cases h : okB n x t = true
  · obtain ⟨⟨hx0, hx1⟩, ht0, ht1⟩ := okB_iff.1 h
    rw [if_pos h, if_pos (show okB n t x = true by rw [okB_back]; exact h), dist_back hV hx0 hx1 ht0 ht1]
  · rw [if_neg h, if_neg (show ¬ okB n t x = true by rw [okB_back]; exact h)]
theorem fk_back {n : Int} {L : List Lk} (hV : Valid n L) (x t : Int) : fkI n L x t = fkI n L t x := by
  unfold fkI
  rw [er_back hV x t]
  by_cases h : erI n L t x = 0
  · obtain ⟨⟨hx0, hx1⟩, ht0, ht1⟩ := okB_iff.1 (er_iff.1 h).1
    rw [if_pos h, if_pos h, dist_back hV ht0 ht1 hx0 hx1]
  · rw [if_neg h, if_neg h]
theorem fk_le {n : Int} {L : List Lk} (hV : Valid n L) (x t : Int) : 0 ≤ fkI n L x t ∧ fkI n L x t ≤ 16 := by
  have hd := dist_le hV x t
  have := hV.hi
  unfold fkI
  split <;> omega
theorem fk_tri {n : Int} {L : List Lk} (hV : Valid n L) {x y z : Int} (h1 : erI n L x y = 0) (h2 : erI n L y z = 0) : erI n L x z = 0 ∧ fkI n L x z ≤ fkI n L x y + fkI n L y z := by
  obtain ⟨a1, a2⟩ := er_iff.1 h1
  obtain ⟨b1, b2⟩ := er_iff.1 h2
  obtain ⟨⟨hx0, hx1⟩, hy0, hy1⟩ := okB_iff.1 a1
  obtain ⟨_, hz0, hz1⟩ := okB_iff.1 b1
  obtain ⟨c1, c2⟩ := dist_tri hV hx0 hx1 hy0 hy1 a2 b2
  have h3 : erI n L x z = 0 := er_iff.2 ⟨okB_iff.2 ⟨⟨hx0, hx1⟩, hz0, hz1⟩, c1⟩
  refine ⟨h3, ?_⟩
  unfold fkI
  rw [if_pos h1, if_pos h2, if_pos h3]
  omega
theorem fk_zero {n : Int} {L : List Lk} (hV : Valid n L) {x y : Int} (h : erI n L x y = 0) : fkI n L x y = 0 ↔ x = y := by
  obtain ⟨⟨hx0, hx1⟩, _⟩ := okB_iff.1 (er_iff.1 h).1
  unfold fkI
  rw [if_pos h]
  constructor
  · intro e
    exact dist_zero hV hx0 hx1 (by omega)
  · rintro rfl
    rw [dist_self hV hx0 hx1]
    rfl
set_option maxRecDepth 100000 in
set_option maxHeartbeats 16000000 in
theorem routeNear_walk (n : Int) (A : Option Addr) (L : List Lk) (c : Nat) (p0 p1 p2 : Int) (hn : I64 n) (hc : L.length ≤ c) (hc2 : c ≤ maxLen) (hI : WideL L) (w : World) (hA : Lie linkV 8 w w.heap.size A L) :
    Calls Tryz.prog 6 #[.int .i64 n, .slice A L.length c, .agg #[.int .i64 p0, .int .i64 p1, .int .i64 p2]] w fun e w' => e = .returned (.bool true) ∧ Below w.heap.size w w' := by
  have cK := hidd (fun W => known10_any W)
  by_cases hlen : 60 < L.length
  · have hl2 : (60 : Int) < (L.length : Int) := by omega
    have hl3 : (L.length : Int) ≤ 9223372036854775807 := by unfold maxLen at hc2; omega
    clear hlen hc hc2 hI hA hn
    go_enter Tryz.func6, Tryz.ntmps6
    go_wp2_with fail
    refine (cK.out _).mono ?_
    rintro e w1 ⟨rfl, hb⟩
    go_wp2_with fail
    go_ret
    exact ⟨rfl, by (repeat' (first | (with_reducible exact Below.refl _ _) | (with_reducible assumption) | (with_reducible apply Below.setCell) | (with_reducible apply Below.alloc) | (with_reducible apply Below.drew) | (with_reducible apply below_drewN) | (with_reducible refine Below.trans ?_ (Below.mono (by assumption) ?_)) | omega | (simp; done) | (simp; omega)))⟩
  have hl2 : ¬ (60 : Int) < (L.length : Int) := by omega
  obtain ⟨W0, hW0⟩ : ∃ W0, w.alloc (.cells #[.int .i64 p0, .int .i64 p1, .int .i64 p2] 74) = W0 := ⟨_, rfl⟩
  have hz : W0.heap.size = w.heap.size + 1 := by rw [← hW0]; simp
  have hb0 : Below w.heap.size w W0 := by rw [← hW0]; (repeat' (first | (with_reducible exact Below.refl _ _) | (with_reducible assumption) | (with_reducible apply Below.setCell) | (with_reducible apply Below.alloc) | (with_reducible apply Below.drew) | (with_reducible apply below_drewN) | (with_reducible refine Below.trans ?_ (Below.mono (by assumption) ?_)) | omega | (simp; done) | (simp; omega)))
  have q0 : W0.cell? ⟨w.heap.size, 0, none⟩ = some (.int .i64 p0) := by rw [← hW0]; simp [go_sem]
  have q1 : W0.cell? ⟨w.heap.size, 1, none⟩ = some (.int .i64 p1) := by rw [← hW0]; simp [go_sem]
  have q2 : W0.cell? ⟨w.heap.size, 2, none⟩ = some (.int .i64 p2) := by rw [← hW0]; simp [go_sem]
  have hlt : w.heap.size < W0.heap.size := by omega
  have AT := hidd (fun W (h : Below W0.heap.size W0 W) => show W.cell? ⟨w.heap.size, 0, none⟩ = some (.int .i64 p0) ∧ W.cell? ⟨w.heap.size, 1, none⟩ = some (.int .i64 p1) ∧ W.cell? ⟨w.heap.size, 2, none⟩ = some (.int .i64 p2) from ⟨(h.cell (p := ⟨w.heap.size, 0, none⟩) hlt).trans q0, (h.cell (p := ⟨w.heap.size, 1, none⟩) hlt).trans q1, (h.cell (p := ⟨w.heap.size, 2, none⟩) hlt).trans q2⟩)
  have HB0 := hidd hb0
  have HW := hidd hW0
  have HI := hidd hI
  have CN := hidd (New_any n A L c (by omega) hI W0 (hA.below hb0))
  clear hz hb0 q0 q1 q2 hW0 hA hc hc2 hlen hI hn hlt
  go_enter Tryz.func6, Tryz.ntmps6
  go_wp2_with fail
  rw [HW.out]
  refine CN.out.mono ?_
  rintro e w1 (⟨hE, rfl, hb1⟩ | ⟨hE, m, rfl, hm1, hmz, hb1⟩)
  · have HB1 := hidd hb1
    clear hb1
    generalize errN n L = R at *
    have hR2 : (R != 0) = true := by simp [hE]
    go_wp2_with fail
    refine (cK.out _).mono ?_
    rintro e w4 ⟨rfl, hb4⟩
    have HB4 := hidd (below_step HB1.out hb4)
    clear hb4
    go_wp2_with fail
    go_ret
    exact ⟨rfl, HB0.out.trans (HB4.out.mono HB0.out.size)⟩
  · have HV := hidd (valid_of hE)
    have HB1 := hidd hb1
    have CR := hidd (NewR_yes m n L HV.out HI.out w1 hm1)
    clear hb1 hm1 hE
    go_wp2_with fail
    refine CR.out.mono ?_
    rintro e w2 ⟨r, bw, m', rfl, hr, hb2⟩
    have HR2 := hidd hr
    have HB2 := hidd (below_step HB1.out hb2)
    have HS1 := hidd HB1.out.size
    have HS2 := hidd hb2.size
    obtain ⟨c0, c1, c2⟩ := AT.out _ HB2.out
    clear hr hb2
    go_wp2_with fail
    refine (Far_all w1.heap.size r bw m' n L HV.out false p0 p1 w2 HR2.out HS2.out).mono ?_
    rintro e w3 ⟨⟨d3, hr3, _, hb3, _, _⟩, rfl⟩
    have HR3 := hidd hr3
    have HB3 := hidd (HB2.out.trans (hb3.mono HS1.out))
    have HS3 := hidd (Nat.le_trans HS2.out hb3.size)
    clear hr3 hb3 c0 c1 c2
    obtain ⟨c0, c1, c2⟩ := AT.out _ HB3.out
    go_wp2_with fail
    refine (Far_all w1.heap.size r bw m' n L HV.out d3 p1 p2 w3 HR3.out HS3.out).mono ?_
    rintro e w4 ⟨⟨d4, hr4, _, hb4, _, _⟩, rfl⟩
    have HR4 := hidd hr4
    have HB4 := hidd (HB3.out.trans (hb4.mono HS1.out))
    have HS4 := hidd (Nat.le_trans HS3.out hb4.size)
    clear hr4 hb4 c0 c1 c2
    obtain ⟨c0, c1, c2⟩ := AT.out _ HB4.out
    go_wp2_with fail
    refine (Far_all w1.heap.size r bw m' n L HV.out d4 p0 p2 w4 HR4.out HS4.out).mono ?_
    rintro e w5 ⟨⟨d5, hr5, _, hb5, _, _⟩, rfl⟩
    have HR5 := hidd hr5
    have HB5 := hidd (HB4.out.trans (hb5.mono HS1.out))
    have HS5 := hidd (Nat.le_trans HS4.out hb5.size)
    clear hr5 hb5 c0 c1 c2
    obtain ⟨c0, c1, c2⟩ := AT.out _ HB5.out
    go_wp2_with fail
    refine (Far_all w1.heap.size r bw m' n L HV.out d5 p1 p0 w5 HR5.out HS5.out).mono ?_
    rintro e w6 ⟨⟨d6, hr6, _, hb6, _, _⟩, rfl⟩
    have HB6 := hidd (HB5.out.trans (hb6.mono HS1.out))
    clear hr6 hb6 c0 c1 c2
    obtain ⟨c0, c1, c2⟩ := AT.out _ HB6.out
    rw [er_back HV.out p1 p0, fk_back HV.out p1 p0]
    have hl0 := fk_le HV.out p0 p1
    have hl1 := fk_le HV.out p1 p2
    have htri := fk_tri HV.out (x := p0) (y := p1) (z := p2)
    have hzero := fk_zero HV.out (x := p0) (y := p1)
    clear HR2 HR3 HR4 HR5 AT CR HB2 HB3 HB4 HB5 HS1 HS2 HS3 HS4 HS5 HV
    generalize erI n L p0 p1 = g at *
    generalize erI n L p1 p2 = h at *
    generalize erI n L p0 p2 = i at *
    generalize fkI n L p0 p1 = a at *
    generalize fkI n L p1 p2 = b at *
    generalize fkI n L p0 p2 = d at *
    have hfin : Hid (∀ W, Below W0.heap.size W0 W → Below w.heap.size w W) := hidd (fun W h => HB0.out.trans (h.mono HB0.out.size))
    by_cases hg : g = 0
    · have heq : ∃ eb, (a == 0) = eb ∧ (p0 == p1) = eb := by
        by_cases e : p0 = p1
        · exact ⟨true, beq_iff_eq.2 ((hzero hg).2 e), beq_iff_eq.2 e⟩
        · exact ⟨false, beq_eq_false_iff_ne.2 (fun q => e ((hzero hg).1 q)), beq_eq_false_iff_ne.2 e⟩
      obtain ⟨eb, he1, he2⟩ := heq
      by_cases hh : h = 0
      · obtain ⟨hi0, hdl⟩ := htri hg hh
        subst hg hh hi0
        have hgt : ¬ a + b < d := by omega
        have ha1 : -9223372036854775808 ≤ a + b := by omega
        have ha2 : a + b ≤ 9223372036854775807 := by omega
        clear htri hzero hl0 hl1 hdl
        cases eb with
        | true =>
          go_wp2_with fail
          refine (cK.out _).mono ?_
          rintro e w7 ⟨rfl, hb7⟩
          have HB7 := hidd (below_step HB6.out hb7)
          clear hb7
          go_wp2_with fail
          go_ret
          exact ⟨rfl, hfin.out _ HB7.out⟩
        | false =>
          go_wp2_with fail
          refine (cK.out _).mono ?_
          rintro e w7 ⟨rfl, hb7⟩
          have HB7 := hidd (below_step HB6.out hb7)
          clear hb7
          go_wp2_with fail
          go_ret
          exact ⟨rfl, hfin.out _ HB7.out⟩
      · have hhb : (h == 0) = false := beq_eq_false_iff_ne.2 hh
        subst hg
        clear htri hzero hl0 hl1
        cases eb with
        | true =>
          go_wp2_with fail
          refine (cK.out _).mono ?_
          rintro e w7 ⟨rfl, hb7⟩
          have HB7 := hidd (below_step HB6.out hb7)
          clear hb7
          go_wp2_with fail
          go_ret
          exact ⟨rfl, hfin.out _ HB7.out⟩
        | false =>
          go_wp2_with fail
          refine (cK.out _).mono ?_
          rintro e w7 ⟨rfl, hb7⟩
          have HB7 := hidd (below_step HB6.out hb7)
          clear hb7
          go_wp2_with fail
          go_ret
          exact ⟨rfl, hfin.out _ HB7.out⟩
    · have hgb : (g == 0) = false := beq_eq_false_iff_ne.2 hg
      clear htri hzero hl0 hl1
      go_wp2_with fail
      refine (cK.out _).mono ?_
      rintro e w7 ⟨rfl, hb7⟩
      have HB7 := hidd (below_step HB6.out hb7)
      clear hb7
      go_wp2_with fail
      go_ret
      exact ⟨rfl, hfin.out _ HB7.out⟩
end Go.Proofs.YtalhbjmhipiiiaaGreat.Tp
