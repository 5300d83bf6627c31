/- The document's May, Bound, Ticks, Room. -/
import Derived.Test.YtianceglbkcmpaaBdP
import Derived.Test.YtianceglbkcmpaaBdG
import Derived.Test.YtianceglbkcmpaaBgG
import Derived.Test.YtianceglbkcmpaaBgU
namespace Go.Proofs.Ytianceglbkcmpaa
set_option linter.unusedVariables false
open Go.RowKit

/-- a spec and terms in two boxes. -/
def SpcAt (W : World) (a e : Nat) (p r u m l c d : Int) : Prop :=
  (a < W.heap.size ∧ W.cell? ⟨a, 0, none⟩ = some (.int .i64 p) ∧ W.cell? ⟨a, 1, none⟩ = some (.int .i64 r) ∧ W.cell? ⟨a, 2, none⟩ = some (.int .i64 u) ∧ W.cell? ⟨a, 3, none⟩ = some (.int .i64 m) ∧ W.cell? ⟨a, 4, none⟩ = some (.int .i64 l)) ∧
  e < W.heap.size ∧ W.cell? ⟨e, 0, none⟩ = some (.int .i64 c) ∧ W.cell? ⟨e, 1, none⟩ = some (.int .i64 d)
theorem SpcAt.step {W W' : World} {a e : Nat} {p r u m l c d : Int} (h : SpcAt W a e p r u m l c d) (hb : Below W.heap.size W W') : SpcAt W' a e p r u m l c d :=
  ⟨⟨Nat.lt_of_lt_of_le h.1.1 hb.size, (hb.cell (p := ⟨a, 0, none⟩) h.1.1).trans h.1.2.1, (hb.cell (p := ⟨a, 1, none⟩) h.1.1).trans h.1.2.2.1, (hb.cell (p := ⟨a, 2, none⟩) h.1.1).trans h.1.2.2.2.1, (hb.cell (p := ⟨a, 3, none⟩) h.1.1).trans h.1.2.2.2.2.1, (hb.cell (p := ⟨a, 4, none⟩) h.1.1).trans h.1.2.2.2.2.2⟩,
   Nat.lt_of_lt_of_le h.2.1 hb.size, (hb.cell (p := ⟨e, 0, none⟩) h.2.1).trans h.2.2.1, (hb.cell (p := ⟨e, 1, none⟩) h.2.1).trans h.2.2.2⟩
theorem spc_new (w : World) (p r u m l c d : Int) : SpcAt ((w.alloc (.cells #[.int .i64 p, .int .i64 r, .int .i64 u, .int .i64 m, .int .i64 l] 23)).alloc (.cells #[.int .i64 c, .int .i64 d] 25)) w.heap.size (w.heap.size + 1) p r u m l c d :=
  ⟨⟨by simp; omega, by simp [go_sem], by simp [go_sem], by simp [go_sem], by simp [go_sem], by simp [go_sem]⟩, by simp, by simp [go_sem], by simp [go_sem]⟩
set_option maxHeartbeats 2000000 in
theorem zpRight_any (p r u m l : Int) (w : World) : Calls Try.prog 30 #[.agg #[.int .i64 p, .int .i64 r, .int .i64 u, .int .i64 m, .int .i64 l]] w fun e w' => e = .returned (.bool (Zp.rightB p r u m l)) ∧ Below w.heap.size w w' := by
  have hb : ∀ R, Zp.rightB p r u m l = R → Hid (R = decide (1 ≤ r ∧ r ≤ p ∧ p ≤ 1000000 ∧ 1 ≤ l ∧ l ≤ m ∧ m ≤ 2000 ∧ m ≤ u ∧ u ≤ 10000000)) := fun R h => by subst h; exact rfl
  have HB := hb _ rfl
  generalize Zp.rightB p r u m l = R at *
  clear hb
  go_enter Try.func30, Try.ntmps30
  go_wp2_with fail
  all_goals go_ret
  all_goals (refine ⟨ret_bool ?_, by (repeat' (first | (with_reducible exact Below.refl _ _) | (with_reducible assumption) | (with_reducible apply Below.setCell) | (with_reducible apply Below.alloc) | (with_reducible apply Below.drew) | (with_reducible apply below_drewN) | (with_reducible refine Below.trans ?_ (Below.mono (by assumption) ?_)) | omega | (simp; done) | (simp; omega)))⟩; rw [HB.out]; first | (simp [*]; done) | (simp [*]; omega))
set_option maxHeartbeats 4000000 in
theorem may_any (p r u m l R c d : Int) (w : World) : Calls Try.prog 11 #[.agg #[.int .i64 p, .int .i64 r, .int .i64 u, .int .i64 m, .int .i64 l], .int .i64 R, .agg #[.int .i64 c, .int .i64 d]] w fun e w' => e = .returned (.bool (hasB p r u m l R c d)) ∧ Below w.heap.size w w' := by
  have ca := hidd (fun W => zpRight_any p r u m l W)
  have cb := hidd (fun W => refTerms_any c d W)
  have HS := hidd (spc_new w p r u m l c d)
  have HB0 := hidd (below_new (below_new (Below.refl w.heap.size w) (.cells #[.int .i64 p, .int .i64 r, .int .i64 u, .int .i64 m, .int .i64 l] 23)) (.cells #[.int .i64 c, .int .i64 d] 25))
  unfold hasB fromB
  generalize Zp.rightB p r u m l = P at *
  generalize termsB c d = Q at *
  obtain ⟨⟨x0, x1, x2, x3, x4, x5⟩, z0, z1, z2⟩ := HS.out
  cases P
  · go_enter Try.func11, Try.ntmps11
    go_wp2_with fail
    refine (ca.out _).mono ?_
    rintro e w1 ⟨rfl, hb⟩
    go_wp2_with fail
    go_ret
    exact ⟨by simp, below_step HB0.out hb⟩
  · cases Q
    · go_enter Try.func11, Try.ntmps11
      go_wp2_with fail
      refine (ca.out _).mono ?_
      rintro e w1 ⟨rfl, hb⟩
      have HS1 := hidd (HS.out.step hb)
      have HB1 := hidd (below_step HB0.out hb)
      clear hb x0 x1 x2 x3 x4 x5 z0 z1 z2
      obtain ⟨⟨x0, x1, x2, x3, x4, x5⟩, z0, z1, z2⟩ := HS1.out
      go_wp2_with fail
      refine (cb.out _).mono ?_
      rintro e w2 ⟨rfl, hb2⟩
      have HB2 := hidd (below_step HB1.out hb2)
      clear hb2
      go_wp2_with fail
      go_ret
      exact ⟨by simp, HB2.out⟩
    · go_enter Try.func11, Try.ntmps11
      go_wp2_with fail
      refine (ca.out _).mono ?_
      rintro e w1 ⟨rfl, hb⟩
      have HS1 := hidd (HS.out.step hb)
      have HB1 := hidd (below_step HB0.out hb)
      clear hb x0 x1 x2 x3 x4 x5 z0 z1 z2
      obtain ⟨⟨x0, x1, x2, x3, x4, x5⟩, z0, z1, z2⟩ := HS1.out
      go_wp2_with fail
      refine (cb.out _).mono ?_
      rintro e w2 ⟨rfl, hb2⟩
      have HS2 := hidd (HS1.out.step hb2)
      have HB2 := hidd (below_step HB1.out hb2)
      clear hb2 x0 x1 x2 x3 x4 x5 z0 z1 z2
      obtain ⟨⟨x0, x1, x2, x3, x4, x5⟩, z0, z1, z2⟩ := HS2.out
      by_cases h1 : r ≤ R
      · by_cases h2 : R ≤ 1000000
        · have g1 : R ≥ r := h1
          go_wp2_with fail
          go_ret
          exact ⟨ret_bool (by first | (simp; done) | (simp; omega)), HB2.out⟩
        · have g1 : R ≥ r := h1
          go_wp2_with fail
          go_ret
          exact ⟨ret_bool (by first | (simp; done) | (simp; omega)), HB2.out⟩
      · have g1 : ¬ (R ≥ r) := h1
        go_wp2_with fail
        go_ret
        exact ⟨ret_bool (by first | (simp; done) | (simp; omega)), HB2.out⟩
set_option maxRecDepth 100000 in
set_option maxHeartbeats 4000000 in
theorem refBound_any (p r u m l R c d N D : Int) (h : hasB p r u m l R c d = true) (hm : makeR (boundN p r u m R c d) (boundD p r R) = (N, D, 0)) (w : World) :
    Calls Try.prog 14 #[.agg #[.int .i64 p, .int .i64 r, .int .i64 u, .int .i64 m, .int .i64 l], .int .i64 R, .agg #[.int .i64 c, .int .i64 d]] w fun e w' => e = .returned (.agg #[.int .i64 N, .int .i64 D]) ∧ Below w.heap.size w w' := by
  obtain ⟨hs, ⟨hR, hR2⟩, ⟨hc1, hc2⟩, hd1, hd2⟩ := has_in h
  obtain ⟨⟨t1, t2⟩, t3, t4⟩ := boundN_bd hs hR hR2 hc1 hc2 hd1 hd2
  have cm := fun W => refMake_any (boundN p r u m R c d) (boundD p r R) (by omega) (by omega) (by omega) (by omega) W
  rw [hm] at cm
  unfold pairOf at cm
  dsimp only at cm
  have hs2 := hs
  obtain ⟨a1, a2, a3, a4, a5, a6, a7⟩ := hs
  have HS := hidd ((spc_new w p r u m l c d).step (below_new (Below.refl _ _) (.cells #[.int .i64 0, .int .i64 0] 27)))
  have HG := hidd (GBox.new (by simp : ((w.alloc (.cells #[.int .i64 p, .int .i64 r, .int .i64 u, .int .i64 m, .int .i64 l] 23)).alloc (.cells #[.int .i64 c, .int .i64 d] 25)).heap.size = w.heap.size + 1 + 1) 27 0 0)
  have HB0 := hidd (below_new (below_new (below_new (Below.refl w.heap.size w) (.cells #[.int .i64 p, .int .i64 r, .int .i64 u, .int .i64 m, .int .i64 l] 23)) (.cells #[.int .i64 c, .int .i64 d] 25)) (.cells #[.int .i64 0, .int .i64 0] 27))
  by_cases hp : R < p
  · simp only [boundN, boundD, if_pos hp] at cm t2 t1 t4
    obtain ⟨⟨p1, p2⟩, p3, p4⟩ := late_prods hs2 (by omega) hR2 hp
    have k2 : (m + c) * (p - r) ≤ 10002000 * 1000000 := Int.mul_le_mul (by omega) (by omega) (by omega) (by decide)
    have k2' : 0 ≤ (m + c) * (p - r) := Int.mul_nonneg (by omega) (by omega)
    have k4 : d * (R * (p - r)) ≤ 1000000 * (1000000 * 1000000) := Int.mul_le_mul hd2 (by omega) (by omega) (by decide)
    have k4' : 0 ≤ d * (R * (p - r)) := Int.mul_nonneg hd1 (by omega)
    obtain ⟨v1, v1'⟩ := wrap_both3 (x := R * (p - r)) (by omega) (by omega)
    obtain ⟨v2, v2'⟩ := wrap_both3 (x := (m + c) * (p - r)) (by omega) (by omega)
    obtain ⟨v3, v3'⟩ := wrap_both3 (x := d * (R * (p - r))) (by omega) (by omega)
    obtain ⟨v4, v4'⟩ := wrap_both3 (x := (u - m) * (p - R)) (by omega) (by omega)
    obtain ⟨e1, e1'⟩ := wrap_both3 (x := m + c) (by omega) (by omega)
    obtain ⟨e2, e2'⟩ := wrap_both3 (x := p - r) (by omega) (by omega)
    obtain ⟨e3, e3'⟩ := wrap_both3 (x := p - R) (by omega) (by omega)
    obtain ⟨e4, e4'⟩ := wrap_both3 (x := u - m) (by omega) (by omega)
    obtain ⟨e5, e5'⟩ := wrap_both3 (x := (m + c) * (p - r) + d * (R * (p - r))) (by omega) (by omega)
    obtain ⟨e6, e6'⟩ := wrap_both3 (x := (m + c) * (p - r) + d * (R * (p - r)) + (u - m) * (p - R)) (by omega) (by omega)
    have hp2 : ¬ p ≤ R := by omega
    clear k2 k2' k4 k4' p1 p2 p3 p4 t1 t2 t3 t4 a1 a2 a3 a4 a5 a6 a7 hs2 hR hR2 hc1 hc2 hd1 hd2 h hm hp
    obtain ⟨Z4, y4⟩ : ∃ z, m + c = z := ⟨_, rfl⟩
    obtain ⟨Z3, y3⟩ : ∃ z, p - r = z := ⟨_, rfl⟩
    obtain ⟨Z1, y1⟩ : ∃ z, p - R = z := ⟨_, rfl⟩
    obtain ⟨Z2, y2⟩ : ∃ z, u - m = z := ⟨_, rfl⟩
    replace e1 := e1.trans y4
    replace e1' := e1'.trans y4
    replace e2 := e2.trans y3
    replace e2' := e2'.trans y3
    replace e3 := e3.trans y1
    replace e3' := e3'.trans y1
    replace e4 := e4.trans y2
    replace e4' := e4'.trans y2
    rw [y3] at v1 v1' v2 v2' v3 v3' e5 e5' e6 e6' cm
    rw [y4] at v2 v2' e5 e5' e6 e6' cm
    rw [y1, y2] at v4 v4' e6 e6' cm
    obtain ⟨V1, q1⟩ : ∃ z, R * Z3 = z := ⟨_, rfl⟩
    replace v1 := v1.trans q1
    replace v1' := v1'.trans q1
    rw [q1] at v3 v3' e5 e5' e6 e6' cm
    obtain ⟨V2, q2⟩ : ∃ z, Z4 * Z3 = z := ⟨_, rfl⟩
    replace v2 := v2.trans q2
    replace v2' := v2'.trans q2
    obtain ⟨V3, q3⟩ : ∃ z, d * V1 = z := ⟨_, rfl⟩
    replace v3 := v3.trans q3
    replace v3' := v3'.trans q3
    obtain ⟨V4, q4⟩ : ∃ z, Z2 * Z1 = z := ⟨_, rfl⟩
    replace v4 := v4.trans q4
    replace v4' := v4'.trans q4
    rw [q2, q3] at e5 e5' e6 e6' cm
    rw [q4] at e6 e6' cm
    obtain ⟨S1, s1⟩ : ∃ z, V2 + V3 = z := ⟨_, rfl⟩
    replace e5 := e5.trans s1
    replace e5' := e5'.trans s1
    rw [s1] at e6 e6' cm
    obtain ⟨S2, s2⟩ : ∃ z, S1 + V4 = z := ⟨_, rfl⟩
    replace e6 := e6.trans s2
    replace e6' := e6'.trans s2
    rw [s2] at cm
    have CM := hidd cm
    clear cm y1 y2 y3 y4 q1 q2 q3 q4 s1 s2
    obtain ⟨⟨x0, x1, x2, x3, x4, x5⟩, z0, z1, z2⟩ := HS.out
    go_enter Try.func14, Try.ntmps14
    go_wp2_with fail
    refine (CM.out _).mono ?_
    rintro E1 w1 ⟨rfl, hb1⟩
    have HG1 := hidd ((HG.out.step hb1).past (.cells #[.int .i64 N, .int .i64 D] 27))
    have HK1 := hidd (GBox.new (rfl : w1.heap.size = w1.heap.size) 27 N D)
    have HB1 := hidd (below_new (below_step HB0.out hb1) (.cells #[.int .i64 N, .int .i64 D] 27))
    clear hb1 x0 x1 x2 x3 x4 x5 z0 z1 z2
    obtain ⟨g0, g1, g2, g3, g4⟩ := HG1.out
    obtain ⟨k0, k1, k2, k3, k4⟩ := HK1.out
    go_wp2_with fail
    exact bodyPost_ret (v := .agg #[.int .i64 N, .int .i64 D]) (by simp [results, Try.results14, go_sem, *]) rfl ⟨rfl, by have := HB1.out; (repeat' (first | (with_reducible exact Below.refl _ _) | (with_reducible assumption) | (with_reducible apply Below.setCell) | (with_reducible apply Below.alloc) | (with_reducible apply Below.drew) | (with_reducible apply below_drewN) | (with_reducible refine Below.trans ?_ (Below.mono (by assumption) ?_)) | omega | (simp; done) | (simp; omega)))⟩
  · simp only [boundN, boundD, if_neg hp] at cm t2 t1 t4
    have k4 : d * R ≤ 1000000 * 1000000 := Int.mul_le_mul hd2 (by omega) (by omega) (by decide)
    have k4' : 0 ≤ d * R := Int.mul_nonneg hd1 (by omega)
    obtain ⟨v3, v3'⟩ := wrap_both3 (x := d * R) (by omega) (by omega)
    obtain ⟨e1, e1'⟩ := wrap_both3 (x := m + c) (by omega) (by omega)
    obtain ⟨e5, e5'⟩ := wrap_both3 (x := m + c + d * R) (by omega) (by omega)
    have hp2 : p ≤ R := by omega
    clear k4 k4' t1 t2 t3 t4 a1 a2 a3 a4 a5 a6 a7 hs2 hR hR2 hc1 hc2 hd1 hd2 h hm hp
    obtain ⟨Z4, y4⟩ : ∃ z, m + c = z := ⟨_, rfl⟩
    obtain ⟨V3, q3⟩ : ∃ z, d * R = z := ⟨_, rfl⟩
    replace e1 := e1.trans y4
    replace e1' := e1'.trans y4
    replace v3 := v3.trans q3
    replace v3' := v3'.trans q3
    rw [y4, q3] at e5 e5' cm
    obtain ⟨S1, s1⟩ : ∃ z, Z4 + V3 = z := ⟨_, rfl⟩
    replace e5 := e5.trans s1
    replace e5' := e5'.trans s1
    rw [s1] at cm
    have CM := hidd cm
    clear cm y4 q3 s1
    obtain ⟨⟨x0, x1, x2, x3, x4, x5⟩, z0, z1, z2⟩ := HS.out
    go_enter Try.func14, Try.ntmps14
    go_wp2_with fail
    refine (CM.out _).mono ?_
    rintro E1 w1 ⟨rfl, hb1⟩
    have HG1 := hidd ((HG.out.step hb1).past (.cells #[.int .i64 N, .int .i64 D] 27))
    have HK1 := hidd (GBox.new (rfl : w1.heap.size = w1.heap.size) 27 N D)
    have HB1 := hidd (below_new (below_step HB0.out hb1) (.cells #[.int .i64 N, .int .i64 D] 27))
    clear hb1 x0 x1 x2 x3 x4 x5 z0 z1 z2
    obtain ⟨g0, g1, g2, g3, g4⟩ := HG1.out
    obtain ⟨k0, k1, k2, k3, k4⟩ := HK1.out
    go_wp2_with fail
    exact bodyPost_ret (v := .agg #[.int .i64 N, .int .i64 D]) (by simp [results, Try.results14, go_sem, *]) rfl ⟨rfl, by have := HB1.out; (repeat' (first | (with_reducible exact Below.refl _ _) | (with_reducible assumption) | (with_reducible apply Below.setCell) | (with_reducible apply Below.alloc) | (with_reducible apply Below.drew) | (with_reducible apply below_drewN) | (with_reducible refine Below.trans ?_ (Below.mono (by assumption) ?_)) | omega | (simp; done) | (simp; omega)))⟩
end Go.Proofs.Ytianceglbkcmpaa
