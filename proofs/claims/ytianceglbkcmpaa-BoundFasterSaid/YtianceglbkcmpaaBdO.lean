/- The walk of BoundFaster: a faster link, a nearer one, has no greater terms; Rate falls where more ticks are allowed. -/
import Derived.Test.YtianceglbkcmpaaBdN
import Derived.Test.YtianceglbkcmpaaBdG
namespace Go.Proofs.Ytianceglbkcmpaa
set_option linter.unusedVariables false
open Go.RowKit

theorem rate_falls {p r u m l c d T : Int} (h0 : 0 ≤ T) (h1 : T ≤ 900000) (h : (rateR p r u m l c d T).2 = 0) : (rateR p r u m l c d (T + 100)).2 = 0 ∧ (rateR p r u m l c d (T + 100)).1 ≤ (rateR p r u m l c d T).1 := by
  unfold rateR at *
  by_cases hb : rateB p r u m l c d T = true
  · have hb2 : rateB p r u m l c d (T + 100) = true := by
      unfold rateB at *
      rw [Bool.and_eq_true] at *
      exact ⟨hb.1, fromB_iff.2 ⟨by omega, by omega⟩⟩
    have hs : SpecIn p r u m := by
      unfold rateB at hb
      rw [Bool.and_eq_true, Bool.and_eq_true] at hb
      exact spec_in hb.1.1
    rw [if_pos hb] at *
    rw [if_pos hb2] at *
    by_cases ht : timely p r u m c d T 1000000 = true
    · have ht2 := timely_more (T' := T + 100) (by omega) ht
      rw [if_pos ht] at *
      rw [if_pos ht2] at *
      exact ⟨rfl, search_less (does := timely p r u m c d T) (more := timely p r u m c d (T + 100)) (fun R hR => timely_more (by omega) hR) 1000001 r 1000000 (by have := hs.2.1; have := hs.2.2.1; omega)⟩
    · rw [if_neg ht] at h
      cases h
  · rw [if_neg hb] at h
    cases h
theorem half_rate {x : Int} (h : 1 ≤ x) : 1 ≤ x - x.tdiv 2 ∧ x - x.tdiv 2 ≤ x := by rw [Int.tdiv_eq_ediv_of_nonneg (by omega)]; omega
theorem half_word {x : Int} (h0 : -9223372036854775808 ≤ x) (h1 : x ≤ 9223372036854775807) : (IntKind.i64.wrap (x.tdiv 2) = x.tdiv 2 ∧ wrap64 (x.tdiv 2) = x.tdiv 2) ∧ IntKind.i64.wrap (x - x.tdiv 2) = x - x.tdiv 2 ∧ wrap64 (x - x.tdiv 2) = x - x.tdiv 2 := by
  have : (0 ≤ x ∧ x.tdiv 2 = x / 2) ∨ (x < 0 ∧ x.tdiv 2 = -(-x / 2)) := by
    rcases Int.lt_or_le x 0 with h | h
    · right
      refine ⟨h, ?_⟩
      have e : x = -(-x) := by omega
      rw [e, Int.neg_tdiv, Int.tdiv_eq_ediv_of_nonneg (by omega)]
      simp
    · exact .inl ⟨h, Int.tdiv_eq_ediv_of_nonneg h⟩
  constructor
  · exact wrap_both3 (by omega) (by omega)
  · exact wrap_both3 (by omega) (by omega)
theorem link_yes {x0 x1 x2 : Int} (h : linkB x0 x1 x2 = true) : (1 ≤ x0 ∧ x0 ≤ 1000000) ∧ (1 ≤ x1 ∧ x1 ≤ 2000) ∧ 0 ≤ x2 ∧ x2 ≤ 100000 := by
  unfold linkB at h
  rw [Bool.and_eq_true, Bool.and_eq_true] at h
  exact ⟨fromB_iff.1 h.1.1, fromB_iff.1 h.1.2, fromB_iff.1 h.2⟩
theorem link_half {x0 x1 x2 : Int} (h : linkB x0 x1 x2 = true) : linkB (x0 - x0.tdiv 2) x1 x2 = true ∧ upZ x1 x0 ≤ upZ x1 (x0 - x0.tdiv 2) := by
  obtain ⟨h1, h2, h3⟩ := link_yes h
  obtain ⟨q1, q2⟩ := half_rate h1.1
  refine ⟨?_, upZ_mono (by omega) q1 q2⟩
  unfold linkB
  rw [Bool.and_eq_true, Bool.and_eq_true]
  exact ⟨⟨fromB_iff.2 ⟨q1, by omega⟩, fromB_iff.2 h2⟩, fromB_iff.2 h3⟩
/-- a spec, terms and four numbers in three boxes from b on. -/
def FastAt (W : World) (b : Nat) (p r u m l c d x0 x1 x2 x3 : Int) : Prop :=
  b + 1 + 1 < W.heap.size ∧ (W.cell? ⟨b, 0, none⟩ = some (.int .i64 p) ∧ W.cell? ⟨b, 1, none⟩ = some (.int .i64 r) ∧ W.cell? ⟨b, 2, none⟩ = some (.int .i64 u) ∧ W.cell? ⟨b, 3, none⟩ = some (.int .i64 m) ∧ W.cell? ⟨b, 4, none⟩ = some (.int .i64 l)) ∧
  (W.cell? ⟨b + 1, 0, none⟩ = some (.int .i64 c) ∧ W.cell? ⟨b + 1, 1, none⟩ = some (.int .i64 d)) ∧
  (W.cell? ⟨b + 1 + 1, 0, none⟩ = some (.int .i64 x0) ∧ W.cell? ⟨b + 1 + 1, 1, none⟩ = some (.int .i64 x1) ∧ W.cell? ⟨b + 1 + 1, 2, none⟩ = some (.int .i64 x2) ∧ W.cell? ⟨b + 1 + 1, 3, none⟩ = some (.int .i64 x3))
theorem FastAt.step {W W' : World} {b : Nat} {p r u m l c d x0 x1 x2 x3 : Int} (h : FastAt W b p r u m l c d x0 x1 x2 x3) (hb : Below W.heap.size W W') : FastAt W' b p r u m l c d x0 x1 x2 x3 := by
  obtain ⟨h0, ⟨a0, a1, a2, a3, a4⟩, ⟨b0, b1⟩, c0, c1, c2, c3⟩ := h
  have k0 : ∀ o, W'.cell? ⟨b, o, none⟩ = W.cell? ⟨b, o, none⟩ := fun o => hb.cell (p := ⟨b, o, none⟩) (by simp; omega)
  have k1 : ∀ o, W'.cell? ⟨b + 1, o, none⟩ = W.cell? ⟨b + 1, o, none⟩ := fun o => hb.cell (p := ⟨b + 1, o, none⟩) (by simp; omega)
  have k2 : ∀ o, W'.cell? ⟨b + 1 + 1, o, none⟩ = W.cell? ⟨b + 1 + 1, o, none⟩ := fun o => hb.cell (p := ⟨b + 1 + 1, o, none⟩) (by simp; omega)
  exact ⟨Nat.lt_of_lt_of_le h0 hb.size, ⟨(k0 0).trans a0, (k0 1).trans a1, (k0 2).trans a2, (k0 3).trans a3, (k0 4).trans a4⟩, ⟨(k1 0).trans b0, (k1 1).trans b1⟩, (k2 0).trans c0, (k2 1).trans c1, (k2 2).trans c2, (k2 3).trans c3⟩
theorem fast_new (w : World) (p r u m l c d x0 x1 x2 x3 : Int) (T : TypeId) : FastAt (((w.alloc (.cells #[.int .i64 p, .int .i64 r, .int .i64 u, .int .i64 m, .int .i64 l] 23)).alloc (.cells #[.int .i64 c, .int .i64 d] 25)).alloc (.cells #[.int .i64 x0, .int .i64 x1, .int .i64 x2, .int .i64 x3] T)) w.heap.size p r u m l c d x0 x1 x2 x3 := by
  unfold FastAt
  refine ⟨by simp, ⟨?_, ?_, ?_, ?_, ?_⟩, ⟨?_, ?_⟩, ?_, ?_, ?_, ?_⟩ <;> simp [go_sem]
set_option maxRecDepth 100000 in
set_option maxHeartbeats 8000000 in
theorem faster_walk (p r u m l c d x0 x1 x2 x3 : Int) (h0 : -9223372036854775808 ≤ x0) (h1 : x0 ≤ 9223372036854775807) (w : World) :
    Calls Try.prog 5 #[.agg #[.int .i64 p, .int .i64 r, .int .i64 u, .int .i64 m, .int .i64 l], .agg #[.int .i64 c, .int .i64 d], .agg #[.int .i64 x0, .int .i64 x1, .int .i64 x2, .int .i64 x3]] w fun e w' => e = .returned (.bool true) ∧ Below w.heap.size w w' := by
  have ck := hidd (fun W => known5_any W)
  obtain ⟨⟨v1, v1'⟩, v2, v2'⟩ := half_word h0 h1
  have kL := fun W => Link_any x0 x1 x2 W
  have kM := fun W => Link_any (x0 - x0.tdiv 2) x1 x2 W
  have kR := fun W => Rate_any p r u m l c d x3 W
  have kS := fun W => Rate_any p r u m l c d (x3 + 100) W
  have HF := hidd (fun (h0 : 0 ≤ x3) (h1 : x3 ≤ 900000) => rate_falls (p := p) (r := r) (u := u) (m := m) (l := l) (c := c) (d := d) h0 h1)
  generalize rateR p r u m l c d x3 = Rn at *
  generalize rateR p r u m l c d (x3 + 100) = Sn at *
  obtain ⟨n1, g1⟩ := Rn
  obtain ⟨n2, g2⟩ := Sn
  dsimp only at kR kS HF
  have cR := hidd kR
  have cS := hidd kS
  have HF0 := hidd (fast_new w p r u m l c d x0 x1 x2 x3 46)
  have HB0 := hidd (below_new (below_new (below_new (Below.refl w.heap.size w) (.cells #[.int .i64 p, .int .i64 r, .int .i64 u, .int .i64 m, .int .i64 l] 23)) (.cells #[.int .i64 c, .int .i64 d] 25)) (.cells #[.int .i64 x0, .int .i64 x1, .int .i64 x2, .int .i64 x3] 46))
  obtain ⟨C1, D1, e1, C2, D2, e2, hL, hM, hno⟩ : ∃ C1 D1 e1 C2 D2 e2 : Int, (if linkB x0 x1 x2 then Value.tuple #[.agg #[.int .i64 x1, .int .i64 (upZ x1 x0 + 1 + x2)], .int .i64 0] else .tuple #[.agg #[.int .i64 0, .int .i64 0], .int .i64 2]) = .tuple #[.agg #[.int .i64 C1, .int .i64 D1], .int .i64 e1] ∧
      (if linkB (x0 - x0.tdiv 2) x1 x2 then Value.tuple #[.agg #[.int .i64 x1, .int .i64 (upZ x1 (x0 - x0.tdiv 2) + 1 + x2)], .int .i64 0] else .tuple #[.agg #[.int .i64 0, .int .i64 0], .int .i64 2]) = .tuple #[.agg #[.int .i64 C2, .int .i64 D2], .int .i64 e2] ∧ (e1 = 0 → e2 = 0 ∧ D1 ≤ D2 ∧ C2 = C1) := by
    by_cases hl : linkB x0 x1 x2 = true
    · obtain ⟨h2, h3⟩ := link_half hl
      rw [if_pos hl, if_pos h2]
      exact ⟨_, _, _, _, _, _, rfl, rfl, fun _ => ⟨rfl, by omega, rfl⟩⟩
    · rw [if_neg hl]
      by_cases h2 : linkB (x0 - x0.tdiv 2) x1 x2 = true
      · rw [if_pos h2]
        exact ⟨0, 0, 2, _, _, _, rfl, rfl, fun h => absurd h (by decide)⟩
      · rw [if_neg h2]
        exact ⟨0, 0, 2, 0, 0, 2, rfl, rfl, fun h => absurd h (by decide)⟩
  simp only [hL] at kL
  simp only [hM] at kM
  have cL := hidd kL
  have cM := hidd kM
  obtain ⟨z, hz⟩ : ∃ z, x0.tdiv 2 = z := ⟨_, rfl⟩
  have k1 := v1.trans hz
  have k1' := v1'.trans hz
  rw [hz] at v2 v2' cM
  obtain ⟨y, hy⟩ : ∃ y, x0 - z = y := ⟨_, rfl⟩
  have k2 := v2.trans hy
  have k2' := v2'.trans hy
  rw [hy] at cM
  clear hz hy v1 v1' v2 v2'
  have HNO := hidd hno
  clear hno
  clear kL kM kR kS hL hM h0 h1
  obtain ⟨az, ⟨a0, a1, a2, a3, a4⟩, ⟨b0, b1⟩, c0, c1, c2, c3⟩ := HF0.out
  go_enter Try.func5, Try.ntmps5
  go_wp2_with fail
  refine (cL.out _).mono ?_
  rintro E1 w1 ⟨rfl, hb1⟩
  have HA1 := hidd (FastAt.step (hidd (fast_new w p r u m l c d x0 x1 x2 x3 46)).out hb1)
  have HB1 := hidd (below_step HB0.out hb1)
  clear hb1 az a0 a1 a2 a3 a4 b0 b1 c0 c1 c2 c3
  obtain ⟨az, ⟨a0, a1, a2, a3, a4⟩, ⟨b0, b1⟩, c0, c1, c2, c3⟩ := HA1.out
  go_wp2_with fail
  refine (cM.out _).mono ?_
  rintro E2 w2 ⟨rfl, hb2⟩
  have F2 := hidd (((GBox.new (rfl : w1.heap.size = w1.heap.size) 25 C1 D1).step hb2).past (.cells #[.int .i64 C2, .int .i64 D2] 25))
  have G2 := hidd (GBox.new (rfl : w2.heap.size = w2.heap.size) 25 C2 D2)
  have HA2 := hidd (((HA1.out.step (below_new (Below.refl w1.heap.size w1) (.cells #[.int .i64 C1, .int .i64 D1] 25))).step hb2).step (below_new (Below.refl w2.heap.size w2) (.cells #[.int .i64 C2, .int .i64 D2] 25)))
  have HB2 := hidd (below_new (below_step (below_new HB1.out (.cells #[.int .i64 C1, .int .i64 D1] 25)) hb2) (.cells #[.int .i64 C2, .int .i64 D2] 25))
  clear hb2 az a0 a1 a2 a3 a4 b0 b1 c0 c1 c2 c3
  obtain ⟨az, ⟨a0, a1, a2, a3, a4⟩, ⟨b0, b1⟩, c0, c1, c2, c3⟩ := HA2.out
  obtain ⟨fz, f0, f1, _, _⟩ := F2.out
  obtain ⟨gz, g0, g1', _, _⟩ := G2.out
  by_cases he : e1 = 0
  · obtain ⟨rfl, hD, rfl⟩ := HNO.out he
    subst he
    have hD2 : ¬ D2 < D1 := by omega
    by_cases h3 : x3 < 0
    · go_wp2_with fail
      refine (ck.out _).mono ?_
      rintro E3 w3 ⟨rfl, hb3⟩
      have HB3 := hidd (below_step HB2.out hb3)
      clear hb3
      go_wp2_with fail
      go_ret
      exact ⟨by first | rfl | simp, HB3.out⟩
    · by_cases h4 : 900000 < x3
      · go_wp2_with fail
        refine (ck.out _).mono ?_
        rintro E3 w3 ⟨rfl, hb3⟩
        have HB3 := hidd (below_step HB2.out hb3)
        clear hb3
        go_wp2_with fail
        go_ret
        exact ⟨by first | rfl | simp, HB3.out⟩
      · obtain ⟨hq, hq'⟩ := wrap_both3 (x := x3 + 100) (by omega) (by omega)
        go_wp2_with fail
        refine (cR.out _).mono ?_
        rintro E3 w3 ⟨rfl, hb3⟩
        have HA3 := hidd (HA2.out.step hb3)
        have HB3 := hidd (below_step HB2.out hb3)
        clear hb3 az a0 a1 a2 a3 a4 b0 b1 c0 c1 c2 c3 fz f0 f1 gz g0 g1'
        obtain ⟨az, ⟨a0, a1, a2, a3, a4⟩, ⟨b0, b1⟩, c0, c1, c2, c3⟩ := HA3.out
        go_wp2_with fail
        refine (cS.out _).mono ?_
        rintro E4 w4 ⟨rfl, hb4⟩
        have HB4 := hidd (below_step HB3.out hb4)
        clear hb4 az a0 a1 a2 a3 a4 b0 b1 c0 c1 c2 c3
        by_cases hg : g1 = 0
        · obtain ⟨rfl, hn⟩ := HF.out (by omega) (by omega) hg
          subst hg
          go_wp2_with fail
          refine (ck.out _).mono ?_
          rintro E5 w5 ⟨rfl, hb5⟩
          have HB5 := hidd (below_step HB4.out hb5)
          clear hb5
          go_wp2_with fail
          go_ret
          exact ⟨by first | rfl | simp, HB5.out⟩
        · go_wp2_with fail
          refine (ck.out _).mono ?_
          rintro E5 w5 ⟨rfl, hb5⟩
          have HB5 := hidd (below_step HB4.out hb5)
          clear hb5
          go_wp2_with fail
          go_ret
          exact ⟨by first | rfl | simp, HB5.out⟩
  · have he2 : decide (e1 = 0) = false := decide_eq_false he
    by_cases h3 : x3 < 0
    · go_wp2_with fail
      refine (ck.out _).mono ?_
      rintro E3 w3 ⟨rfl, hb3⟩
      have HB3 := hidd (below_step HB2.out hb3)
      clear hb3
      go_wp2_with fail
      go_ret
      exact ⟨by first | rfl | simp, HB3.out⟩
    · by_cases h4 : 900000 < x3
      · go_wp2_with fail
        refine (ck.out _).mono ?_
        rintro E3 w3 ⟨rfl, hb3⟩
        have HB3 := hidd (below_step HB2.out hb3)
        clear hb3
        go_wp2_with fail
        go_ret
        exact ⟨by first | rfl | simp, HB3.out⟩
      · obtain ⟨hq, hq'⟩ := wrap_both3 (x := x3 + 100) (by omega) (by omega)
        go_wp2_with fail
        refine (cR.out _).mono ?_
        rintro E3 w3 ⟨rfl, hb3⟩
        have HA3 := hidd (HA2.out.step hb3)
        have HB3 := hidd (below_step HB2.out hb3)
        clear hb3 az a0 a1 a2 a3 a4 b0 b1 c0 c1 c2 c3 fz f0 f1 gz g0 g1'
        obtain ⟨az, ⟨a0, a1, a2, a3, a4⟩, ⟨b0, b1⟩, c0, c1, c2, c3⟩ := HA3.out
        go_wp2_with fail
        refine (cS.out _).mono ?_
        rintro E4 w4 ⟨rfl, hb4⟩
        have HB4 := hidd (below_step HB3.out hb4)
        clear hb4 az a0 a1 a2 a3 a4 b0 b1 c0 c1 c2 c3
        by_cases hg : g1 = 0
        · obtain ⟨rfl, hn⟩ := HF.out (by omega) (by omega) hg
          subst hg
          go_wp2_with fail
          refine (ck.out _).mono ?_
          rintro E5 w5 ⟨rfl, hb5⟩
          have HB5 := hidd (below_step HB4.out hb5)
          clear hb5
          go_wp2_with fail
          go_ret
          exact ⟨by first | rfl | simp, HB5.out⟩
        · go_wp2_with fail
          refine (ck.out _).mono ?_
          rintro E5 w5 ⟨rfl, hb5⟩
          have HB5 := hidd (below_step HB4.out hb5)
          clear hb5
          go_wp2_with fail
          go_ret
          exact ⟨by first | rfl | simp, HB5.out⟩
end Go.Proofs.Ytianceglbkcmpaa
