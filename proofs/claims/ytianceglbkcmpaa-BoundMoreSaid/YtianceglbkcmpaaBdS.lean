/- BoundMore: longer ways, and more that is sent, bring nothing earlier; a way in two parts is the way. -/
import Derived.Test.YtianceglbkcmpaaBdR
import Derived.Test.YtianceglbkcmpaaBdI
namespace Go.Proofs.Ytianceglbkcmpaa
set_option linter.unusedVariables false
open Go.RowKit

theorem ord_more {n n' d N D N' D' : Int} (h0 : 0 ≤ n) (hn : n ≤ n') (h1 : n' ≤ 9223372036854775807) (h2 : 1 ≤ d) (h3 : d ≤ 9223372036854775807) (h : makeR n d = (N, D, 0)) (h' : makeR n' d = (N', D', 0)) : ¬ ordZ (N' * D) (N * D') < 0 := by
  obtain ⟨a1, a2⟩ := make_same h0 (by omega) h2 h3 h
  obtain ⟨b1, b2⟩ := make_same (by omega) h1 h2 h3 h'
  unfold SameQ at a2 b2
  have k : N * D' ≤ N' * D := by
    refine Int.le_of_mul_le_mul_right (a := d) ?_ (by omega)
    have e1 : N * D' * d = n * (D * D') := by rw [Int.mul_right_comm, a2]; grind
    have e2 : N' * D * d = n' * (D * D') := by rw [Int.mul_right_comm, b2]; grind
    rw [e1, e2]
    exact Int.mul_le_mul_of_nonneg_right hn (Int.mul_nonneg (by omega) (by omega))
  unfold ordZ
  rw [if_neg (by omega)]
  split <;> omega
theorem boundN_more {p r u m R c d c' d' : Int} (hs : SpecIn p r u m) (hR : 0 ≤ R) (hc : c ≤ c') (hd : d ≤ d') : boundN p r u m R c d ≤ boundN p r u m R c' d' := by
  obtain ⟨a1, a2, a3, a4, a5, a6, a7⟩ := hs
  unfold boundN
  split
  · have k1 : (m + c) * (p - r) ≤ (m + c') * (p - r) := Int.mul_le_mul_of_nonneg_right (by omega) (by omega)
    have k2 : d * (R * (p - r)) ≤ d' * (R * (p - r)) := Int.mul_le_mul_of_nonneg_right hd (Int.mul_nonneg hR (by omega))
    omega
  · have k2 : d * R ≤ d' * R := Int.mul_le_mul_of_nonneg_right hd hR
    omega
theorem boundN_burst {p r u m R c d : Int} : boundN p r u m R c d ≤ boundN p r (u + 1) m R c d := by
  unfold boundN
  split
  · have k1 : (u - m) * (p - R) ≤ (u + 1 - m) * (p - R) := Int.mul_le_mul_of_nonneg_right (by omega) (by omega)
    omega
  · omega
theorem terms_ne_same (a b : Int) (w : World) : (binOp .neq 25 (.agg #[.int .i64 a, .int .i64 b]) (.agg #[.int .i64 a, .int .i64 b])).run Try.prog w = .ok (.bool false) w := by
  simp [go_sem, Op.eqFields]
theorem lies2 (V : World) (T : TypeId) (b : Nat) (hb : V.heap.size = b) (a c d e : Int) : LiesO (V.alloc (.cells #[.int .i64 a, .int .i64 c, .int .i64 d, .int .i64 e] T)) (some ⟨b, 0, none⟩) [(a, c), (d, e)] := fun _ => by
  subst hb
  refine ⟨_, rfl, by simp, fun i hi => ?_⟩
  have hi2 : i = 0 ∨ i = 1 := by simp at hi; omega
  rcases hi2 with rfl | rfl <;> exact ⟨by simp [Addr.add, go_sem], by simp [Addr.add, go_sem]⟩
theorem way2 (a c d e : Int) (A : Option Addr) (w : World) (hl : LiesO w A [(a, c), (d, e)]) : Calls Try.prog 16 #[.slice A 2 2] w fun e' w' => e' = .returned (pairOf (wayR [(a, c), (d, e)])) ∧ Below w.heap.size w w' :=
  Way_any A [(a, c), (d, e)] 2 (by simp) w hl
theorem way_turned (a c d e : Int) : wayR [(d, e), (a, c)] = wayR [(a, c), (d, e)] := by
  have k1 : sumC [(d, e), (a, c)] = sumC [(a, c), (d, e)] := by simp [sumC]; omega
  have k2 : sumD [(d, e), (a, c)] = sumD [(a, c), (d, e)] := by simp [sumD]; omega
  have k3 : allT [(d, e), (a, c)] = allT [(a, c), (d, e)] := by simp [allT, Bool.and_comm]
  unfold wayR
  rw [k1, k2, k3]
/-- what is right of a way of two. -/
theorem way_ok {a c d e C D : Int} (h : wayR [(a, c), (d, e)] = (C, D, 0)) : (termsB a c = true ∧ termsB C D = true) ∧ a ≤ C ∧ c ≤ D := by
  unfold wayR at h
  by_cases h1 : allT [(a, c), (d, e)] = true
  · rw [if_pos h1] at h
    by_cases h2 : termsB (sumC [(a, c), (d, e)]) (sumD [(a, c), (d, e)]) = true
    · rw [if_pos h2] at h
      simp only [Prod.mk.injEq, and_true] at h
      obtain ⟨e1, e2⟩ := h
      rw [e1, e2] at h2
      simp [allT] at h1
      obtain ⟨t1, t2⟩ := terms_in h1.1
      obtain ⟨t3, t4⟩ := terms_in h1.2
      simp [sumC] at e1
      simp [sumD] at e2
      exact ⟨⟨h1.1, h2⟩, by omega, by omega⟩
    · rw [if_neg h2] at h
      cases h
  · rw [if_neg h1] at h
    cases h
/-- a spec and two terms in two boxes from b on. -/
def MoreAt (W : World) (b : Nat) (p r u m l c0 d0 c1 d1 : Int) : Prop :=
  b + 1 < W.heap.size ∧ (W.cell? ⟨b, 0, none⟩ = some (.int .i64 p) ∧ W.cell? ⟨b, 1, none⟩ = some (.int .i64 r) ∧ W.cell? ⟨b, 2, none⟩ = some (.int .i64 u) ∧ W.cell? ⟨b, 3, none⟩ = some (.int .i64 m) ∧ W.cell? ⟨b, 4, none⟩ = some (.int .i64 l)) ∧
  (W.cell? ⟨b + 1, 0, none⟩ = some (.int .i64 c0) ∧ W.cell? ⟨b + 1, 1, none⟩ = some (.int .i64 d0) ∧ W.cell? ⟨b + 1, 2, none⟩ = some (.int .i64 c1) ∧ W.cell? ⟨b + 1, 3, none⟩ = some (.int .i64 d1))
theorem MoreAt.step {W W' : World} {b : Nat} {p r u m l c0 d0 c1 d1 : Int} (h : MoreAt W b p r u m l c0 d0 c1 d1) (hb : Below W.heap.size W W') : MoreAt W' b p r u m l c0 d0 c1 d1 := by
  obtain ⟨h0, ⟨a0, a1, a2, a3, a4⟩, b0, b1, b2, b3⟩ := h
  have k0 : ∀ o, W'.cell? ⟨b, o, none⟩ = W.cell? ⟨b, o, none⟩ := fun o => hb.cell (p := ⟨b, o, none⟩) (by simp; omega)
  have k1 : ∀ o, W'.cell? ⟨b + 1, o, none⟩ = W.cell? ⟨b + 1, o, none⟩ := fun o => hb.cell (p := ⟨b + 1, o, none⟩) (by simp; omega)
  exact ⟨Nat.lt_of_lt_of_le h0 hb.size, ⟨(k0 0).trans a0, (k0 1).trans a1, (k0 2).trans a2, (k0 3).trans a3, (k0 4).trans a4⟩, (k1 0).trans b0, (k1 1).trans b1, (k1 2).trans b2, (k1 3).trans b3⟩
theorem more_new (w : World) (p r u m l c0 d0 c1 d1 : Int) : MoreAt ((w.alloc (.cells #[.int .i64 p, .int .i64 r, .int .i64 u, .int .i64 m, .int .i64 l] 23)).alloc (.cells #[.int .i64 c0, .int .i64 d0, .int .i64 c1, .int .i64 d1] 41)) w.heap.size p r u m l c0 d0 c1 d1 := by
  unfold MoreAt
  refine ⟨by simp, ⟨?_, ?_, ?_, ?_, ?_⟩, ?_, ?_, ?_, ?_⟩ <;> simp [go_sem]
set_option maxRecDepth 100000 in
set_option maxHeartbeats 8000000 in
theorem more_no (p r u m l R c0 d0 c1 d1 : Int) (C D e N Q f N2 Q2 g : Int) (hW : wayR [(c0, d0), (c1, d1)] = (C, D, e)) (hX : bnR p r u m l R c0 d0 = (N, Q, f)) (hY : bnR p r u m l R C D = (N2, Q2, g)) (he : ¬ e = 0) (w : World) :
    Calls Try.prog 4 #[.agg #[.int .i64 p, .int .i64 r, .int .i64 u, .int .i64 m, .int .i64 l], .int .i64 R, .agg #[.int .i64 c0, .int .i64 d0, .int .i64 c1, .int .i64 d1]] w fun e w' => e = .returned (.bool true) ∧ Below w.heap.size w w' := by
  have cW := hidd (fun A W h => way2 c0 d0 c1 d1 A W h)
  rw [hW] at cW
  unfold pairOf at cW
  dsimp only at cW
  have cX := fun W => Bound_any p r u m l R c0 d0 W
  rw [hX] at cX
  replace cX := hidd cX
  have cY := fun W => Bound_any p r u m l R C D W
  rw [hY] at cY
  replace cY := hidd cY
  dsimp only at cX cY
  have ck := hidd (fun W => known5_any W)
  have HA := hidd (more_new w p r u m l c0 d0 c1 d1)
  have HB := hidd (below_new (below_new (Below.refl w.heap.size w) (.cells #[.int .i64 p, .int .i64 r, .int .i64 u, .int .i64 m, .int .i64 l] 23)) (.cells #[.int .i64 c0, .int .i64 d0, .int .i64 c1, .int .i64 d1] 41))
  clear hW hX hY
  obtain ⟨az, ⟨a0, a1, a2, a3, a4⟩, b0, b1, b2, b3⟩ := HA.out
  go_enter Try.func4, Try.ntmps4
  go_wp2_with fail
  refine (cW.out _ _ (lies2 _ _ _ (by simp) _ _ _ _)).mono ?_
  rintro E1 w1 ⟨rfl, hb1⟩
  have HA1 := hidd (((HA.out.step (below_new (Below.refl _ _) (.cells #[.int .i64 c0, .int .i64 d0, .int .i64 c1, .int .i64 d1] 25))).step hb1).step (below_new (Below.refl w1.heap.size w1) (.cells #[.int .i64 C, .int .i64 D] 25)))
  have HW1 := hidd (GBox.new (rfl : w1.heap.size = w1.heap.size) 25 C D)
  have HB1 := hidd (below_new (below_step (below_new HB.out _) hb1) (.cells #[.int .i64 C, .int .i64 D] 25))
  clear hb1 az a0 a1 a2 a3 a4 b0 b1 b2 b3
  obtain ⟨az, ⟨a0, a1, a2, a3, a4⟩, b0, b1, b2, b3⟩ := HA1.out
  go_wp2_with fail
  refine (cX.out _).mono ?_
  rintro E2 w2 ⟨rfl, hb2⟩
  have HA2 := hidd ((HA1.out.step hb2).step (below_new (Below.refl w2.heap.size w2) (.cells #[.int .i64 N, .int .i64 Q] 27)))
  have HW2 := hidd ((HW1.out.step hb2).past (.cells #[.int .i64 N, .int .i64 Q] 27))
  have HX2 := hidd (GBox.new (rfl : w2.heap.size = w2.heap.size) 27 N Q)
  have HB2 := hidd (below_new (below_step HB1.out hb2) (.cells #[.int .i64 N, .int .i64 Q] 27))
  clear hb2 az a0 a1 a2 a3 a4 b0 b1 b2 b3
  obtain ⟨az, ⟨a0, a1, a2, a3, a4⟩, b0, b1, b2, b3⟩ := HA2.out
  obtain ⟨g0, g1, g2, _, _⟩ := HW2.out
  go_wp2_with fail
  refine (cY.out _).mono ?_
  rintro E3 w3 ⟨rfl, hb3⟩
  have HA3 := hidd ((HA2.out.step hb3).step (below_new (Below.refl w3.heap.size w3) (.cells #[.int .i64 N2, .int .i64 Q2] 27)))
  have HW3 := hidd ((HW2.out.step hb3).past (.cells #[.int .i64 N2, .int .i64 Q2] 27))
  have HX3 := hidd ((HX2.out.step hb3).past (.cells #[.int .i64 N2, .int .i64 Q2] 27))
  have HY3 := hidd (GBox.new (rfl : w3.heap.size = w3.heap.size) 27 N2 Q2)
  have HB3 := hidd (below_new (below_step HB2.out hb3) (.cells #[.int .i64 N2, .int .i64 Q2] 27))
  clear hb3 az a0 a1 a2 a3 a4 b0 b1 b2 b3 g0 g1 g2
  go_wp2_with fail
  refine (ck.out _).mono ?_
  rintro E9 w9 ⟨rfl, hb9⟩
  have HB9 := hidd (below_step HB3.out hb9)
  clear hb9
  go_wp2_with fail
  go_ret
  exact ⟨by first | rfl | simp, HB9.out⟩
set_option maxRecDepth 100000 in
set_option maxHeartbeats 8000000 in
theorem more_two (p r u m l R c0 d0 c1 d1 : Int) (C D N Q N2 Q2 : Int) (hW : wayR [(c0, d0), (c1, d1)] = (C, D, 0)) (hX : bnR p r u m l R c0 d0 = (N, Q, 2)) (hY : bnR p r u m l R C D = (N2, Q2, 2)) (w : World) :
    Calls Try.prog 4 #[.agg #[.int .i64 p, .int .i64 r, .int .i64 u, .int .i64 m, .int .i64 l], .int .i64 R, .agg #[.int .i64 c0, .int .i64 d0, .int .i64 c1, .int .i64 d1]] w fun e w' => e = .returned (.bool true) ∧ Below w.heap.size w w' := by
  have cW := hidd (fun A W h => way2 c0 d0 c1 d1 A W h)
  rw [hW] at cW
  unfold pairOf at cW
  dsimp only at cW
  have cX := fun W => Bound_any p r u m l R c0 d0 W
  rw [hX] at cX
  replace cX := hidd cX
  have cY := fun W => Bound_any p r u m l R C D W
  rw [hY] at cY
  replace cY := hidd cY
  dsimp only at cX cY
  have ck := hidd (fun W => known5_any W)
  have HA := hidd (more_new w p r u m l c0 d0 c1 d1)
  have HB := hidd (below_new (below_new (Below.refl w.heap.size w) (.cells #[.int .i64 p, .int .i64 r, .int .i64 u, .int .i64 m, .int .i64 l] 23)) (.cells #[.int .i64 c0, .int .i64 d0, .int .i64 c1, .int .i64 d1] 41))
  clear hW hX hY
  obtain ⟨az, ⟨a0, a1, a2, a3, a4⟩, b0, b1, b2, b3⟩ := HA.out
  go_enter Try.func4, Try.ntmps4
  go_wp2_with fail
  refine (cW.out _ _ (lies2 _ _ _ (by simp) _ _ _ _)).mono ?_
  rintro E1 w1 ⟨rfl, hb1⟩
  have HA1 := hidd (((HA.out.step (below_new (Below.refl _ _) (.cells #[.int .i64 c0, .int .i64 d0, .int .i64 c1, .int .i64 d1] 25))).step hb1).step (below_new (Below.refl w1.heap.size w1) (.cells #[.int .i64 C, .int .i64 D] 25)))
  have HW1 := hidd (GBox.new (rfl : w1.heap.size = w1.heap.size) 25 C D)
  have HB1 := hidd (below_new (below_step (below_new HB.out _) hb1) (.cells #[.int .i64 C, .int .i64 D] 25))
  clear hb1 az a0 a1 a2 a3 a4 b0 b1 b2 b3
  obtain ⟨az, ⟨a0, a1, a2, a3, a4⟩, b0, b1, b2, b3⟩ := HA1.out
  go_wp2_with fail
  refine (cX.out _).mono ?_
  rintro E2 w2 ⟨rfl, hb2⟩
  have HA2 := hidd ((HA1.out.step hb2).step (below_new (Below.refl w2.heap.size w2) (.cells #[.int .i64 N, .int .i64 Q] 27)))
  have HW2 := hidd ((HW1.out.step hb2).past (.cells #[.int .i64 N, .int .i64 Q] 27))
  have HX2 := hidd (GBox.new (rfl : w2.heap.size = w2.heap.size) 27 N Q)
  have HB2 := hidd (below_new (below_step HB1.out hb2) (.cells #[.int .i64 N, .int .i64 Q] 27))
  clear hb2 az a0 a1 a2 a3 a4 b0 b1 b2 b3
  obtain ⟨az, ⟨a0, a1, a2, a3, a4⟩, b0, b1, b2, b3⟩ := HA2.out
  obtain ⟨g0, g1, g2, _, _⟩ := HW2.out
  go_wp2_with fail
  refine (cY.out _).mono ?_
  rintro E3 w3 ⟨rfl, hb3⟩
  have HA3 := hidd ((HA2.out.step hb3).step (below_new (Below.refl w3.heap.size w3) (.cells #[.int .i64 N2, .int .i64 Q2] 27)))
  have HW3 := hidd ((HW2.out.step hb3).past (.cells #[.int .i64 N2, .int .i64 Q2] 27))
  have HX3 := hidd ((HX2.out.step hb3).past (.cells #[.int .i64 N2, .int .i64 Q2] 27))
  have HY3 := hidd (GBox.new (rfl : w3.heap.size = w3.heap.size) 27 N2 Q2)
  have HB3 := hidd (below_new (below_step HB2.out hb3) (.cells #[.int .i64 N2, .int .i64 Q2] 27))
  clear hb3 az a0 a1 a2 a3 a4 b0 b1 b2 b3 g0 g1 g2
  go_wp2_with fail
  refine (ck.out _).mono ?_
  rintro E9 w9 ⟨rfl, hb9⟩
  have HB9 := hidd (below_step HB3.out hb9)
  clear hb9
  go_wp2_with fail
  go_ret
  exact ⟨by first | rfl | simp, HB9.out⟩
set_option maxRecDepth 100000 in
set_option maxHeartbeats 8000000 in
theorem more_yes (p r u m l R c0 d0 c1 d1 : Int) (C D N Q N2 Q2 N3 Q3 i U M k : Int) (hW : wayR [(c0, d0), (c1, d1)] = (C, D, 0)) (hX : bnR p r u m l R c0 d0 = (N, Q, 0)) (hY : bnR p r u m l R C D = (N2, Q2, 0)) (hZ : bnR p r (u + 1) m l R c0 d0 = (N3, Q3, i)) (hU : tkR p r u m l R c0 d0 = (U, 0)) (hM : rmR p r u m l R c0 d0 = (M, k)) (q1 q2 : Int) (hq1 : ¬ q1 < 0) (hC1 : ∀ W, Calls Try.prog 17 #[.agg #[.int .i64 N2, .int .i64 Q2], .agg #[.int .i64 N, .int .i64 Q]] W fun e w' => e = .returned (.int .i64 q1) ∧ Below W.heap.size W w') (hC2 : i = 0 → ¬ q2 < 0 ∧ ∀ W, Calls Try.prog 17 #[.agg #[.int .i64 N3, .int .i64 Q3], .agg #[.int .i64 N, .int .i64 Q]] W fun e w' => e = .returned (.int .i64 q2) ∧ Below W.heap.size W w') (hu : u ≤ 10000000) (hu0 : 0 ≤ u) (V : Int) (hV : r * U = V) (hV0 : 0 ≤ V) (hV1 : V ≤ 30000000000000) (hk : k = 0 → M = u + V) (w : World) :
    Calls Try.prog 4 #[.agg #[.int .i64 p, .int .i64 r, .int .i64 u, .int .i64 m, .int .i64 l], .int .i64 R, .agg #[.int .i64 c0, .int .i64 d0, .int .i64 c1, .int .i64 d1]] w fun e w' => e = .returned (.bool true) ∧ Below w.heap.size w w' := by
  have cW := hidd (fun A W h => way2 c0 d0 c1 d1 A W h)
  rw [hW] at cW
  unfold pairOf at cW
  dsimp only at cW
  have cX := fun W => Bound_any p r u m l R c0 d0 W
  rw [hX] at cX
  replace cX := hidd cX
  have cY := fun W => Bound_any p r u m l R C D W
  rw [hY] at cY
  replace cY := hidd cY
  dsimp only at cX cY
  have ck := hidd (fun W => known5_any W)
  have HA := hidd (more_new w p r u m l c0 d0 c1 d1)
  have HB := hidd (below_new (below_new (Below.refl w.heap.size w) (.cells #[.int .i64 p, .int .i64 r, .int .i64 u, .int .i64 m, .int .i64 l] 23)) (.cells #[.int .i64 c0, .int .i64 d0, .int .i64 c1, .int .i64 d1] 41))
  clear hX hY
  have cO := hidd (fun A W h => way2 c1 d1 c0 d0 A W h)
  rw [way_turned c0 d0 c1 d1, hW] at cO
  unfold pairOf at cO
  dsimp only at cO
  have cZ := fun W => Bound_any p r (u + 1) m l R c0 d0 W
  rw [hZ] at cZ
  replace cZ := hidd cZ
  have cT := fun W => Ticks_any p r u m l R c0 d0 W
  rw [hU] at cT
  replace cT := hidd cT
  have cR := fun W => Room_any p r u m l R c0 d0 W
  rw [hM] at cR
  replace cR := hidd cR
  dsimp only at cZ cT cR
  have CC1 := hidd hC1
  have CC2 := hidd hC2
  have HK := hidd hk
  have hne := fun w => terms_ne_same C D w
  obtain ⟨e1, e1'⟩ := wrap_both3 (x := u + 1) (by omega) (by omega)
  obtain ⟨e2, e2'⟩ := wrap_both3 (x := V) (by omega) (by omega)
  obtain ⟨e3, e3'⟩ := wrap_both3 (x := u + V) (by omega) (by omega)
  have e4 : IntKind.i64.wrap (r * U) = V := by rw [hV]; exact e2
  have e4' : wrap64 (r * U) = V := by rw [hV]; exact e2'
  clear hZ hU hM hC1 hC2 hk hV hV0 hV1 hu hu0 e2 e2'
  obtain ⟨az, ⟨a0, a1, a2, a3, a4⟩, b0, b1, b2, b3⟩ := HA.out
  go_enter Try.func4, Try.ntmps4
  go_wp2_with fail
  refine (cW.out _ _ (lies2 _ _ _ (by simp) _ _ _ _)).mono ?_
  rintro E1 w1 ⟨rfl, hb1⟩
  have HA1 := hidd (((HA.out.step (below_new (Below.refl _ _) (.cells #[.int .i64 c0, .int .i64 d0, .int .i64 c1, .int .i64 d1] 25))).step hb1).step (below_new (Below.refl w1.heap.size w1) (.cells #[.int .i64 C, .int .i64 D] 25)))
  have HW1 := hidd (GBox.new (rfl : w1.heap.size = w1.heap.size) 25 C D)
  have HB1 := hidd (below_new (below_step (below_new HB.out _) hb1) (.cells #[.int .i64 C, .int .i64 D] 25))
  clear hb1 az a0 a1 a2 a3 a4 b0 b1 b2 b3
  obtain ⟨az, ⟨a0, a1, a2, a3, a4⟩, b0, b1, b2, b3⟩ := HA1.out
  go_wp2_with fail
  refine (cX.out _).mono ?_
  rintro E2 w2 ⟨rfl, hb2⟩
  have HA2 := hidd ((HA1.out.step hb2).step (below_new (Below.refl w2.heap.size w2) (.cells #[.int .i64 N, .int .i64 Q] 27)))
  have HW2 := hidd ((HW1.out.step hb2).past (.cells #[.int .i64 N, .int .i64 Q] 27))
  have HX2 := hidd (GBox.new (rfl : w2.heap.size = w2.heap.size) 27 N Q)
  have HB2 := hidd (below_new (below_step HB1.out hb2) (.cells #[.int .i64 N, .int .i64 Q] 27))
  clear hb2 az a0 a1 a2 a3 a4 b0 b1 b2 b3
  obtain ⟨az, ⟨a0, a1, a2, a3, a4⟩, b0, b1, b2, b3⟩ := HA2.out
  obtain ⟨g0, g1, g2, _, _⟩ := HW2.out
  go_wp2_with fail
  refine (cY.out _).mono ?_
  rintro E3 w3 ⟨rfl, hb3⟩
  have HA3 := hidd ((HA2.out.step hb3).step (below_new (Below.refl w3.heap.size w3) (.cells #[.int .i64 N2, .int .i64 Q2] 27)))
  have HW3 := hidd ((HW2.out.step hb3).past (.cells #[.int .i64 N2, .int .i64 Q2] 27))
  have HX3 := hidd ((HX2.out.step hb3).past (.cells #[.int .i64 N2, .int .i64 Q2] 27))
  have HY3 := hidd (GBox.new (rfl : w3.heap.size = w3.heap.size) 27 N2 Q2)
  have HB3 := hidd (below_new (below_step HB2.out hb3) (.cells #[.int .i64 N2, .int .i64 Q2] 27))
  clear hb3 az a0 a1 a2 a3 a4 b0 b1 b2 b3 g0 g1 g2
  obtain ⟨az, ⟨a0, a1, a2, a3, a4⟩, b0, b1, b2, b3⟩ := HA3.out
  go_wp2_with fail
  refine (cO.out _ _ (lies2 _ _ _ (by simp) _ _ _ _)).mono ?_
  rintro E4 w4 ⟨rfl, hb4⟩
  have STEP := hidd (below_new (below_step (below_new (Below.refl _ (w3.alloc (.cells #[.int .i64 N2, .int .i64 Q2] 27))) (.cells #[.int .i64 c1, .int .i64 d1, .int .i64 c0, .int .i64 d0] 25)) hb4) (.cells #[.int .i64 C, .int .i64 D] 25))
  have HA4 := hidd (HA3.out.step STEP.out)
  have HW4 := hidd (HW3.out.step STEP.out)
  have HX4 := hidd (HX3.out.step STEP.out)
  have HY4 := hidd (HY3.out.step STEP.out)
  have HO4 := hidd (GBox.new (rfl : w4.heap.size = w4.heap.size) 25 C D)
  have HB4 := hidd (below_step HB3.out STEP.out)
  clear hb4 STEP az a0 a1 a2 a3 a4 b0 b1 b2 b3
  obtain ⟨az, ⟨a0, a1, a2, a3, a4⟩, b0, b1, b2, b3⟩ := HA4.out
  obtain ⟨yz, ⟨y0, y1, y2, y3, y4⟩, y5, y6, y7, y8⟩ := HA4.out.step (below_new (Below.refl _ (w4.alloc (.cells #[.int .i64 C, .int .i64 D] 25))) (.cells #[.int .i64 p, .int .i64 r, .int .i64 (u + 1), .int .i64 m, .int .i64 l] 23))
  go_wp2_with fail
  refine (cZ.out _).mono ?_
  rintro E5 w5 ⟨rfl, hb5⟩
  have STEP := hidd (below_new (below_step (below_new (Below.refl _ (w4.alloc (.cells #[.int .i64 C, .int .i64 D] 25))) (.cells #[.int .i64 p, .int .i64 r, .int .i64 (u + 1), .int .i64 m, .int .i64 l] 23)) hb5) (.cells #[.int .i64 N3, .int .i64 Q3] 27))
  have HA5 := hidd (HA4.out.step STEP.out)
  have HW5 := hidd (HW4.out.step STEP.out)
  have HX5 := hidd (HX4.out.step STEP.out)
  have HY5 := hidd (HY4.out.step STEP.out)
  have HO5 := hidd (HO4.out.step STEP.out)
  have HZ5 := hidd (GBox.new (rfl : w5.heap.size = w5.heap.size) 27 N3 Q3)
  have HB5 := hidd (below_step HB4.out STEP.out)
  clear hb5 STEP az a0 a1 a2 a3 a4 b0 b1 b2 b3 yz y0 y1 y2 y3 y4 y5 y6 y7 y8
  obtain ⟨g0, g1, g2, _, _⟩ := HW5.out
  obtain ⟨o0, o1, o2, _, _⟩ := HO5.out
  obtain ⟨s0, s1, s2, _, _⟩ := HX5.out
  obtain ⟨t0, t1, t2, _, _⟩ := HY5.out
  obtain ⟨z0, z1, z2, _, _⟩ := HZ5.out
  by_cases hi : i = 0
  · obtain ⟨hq2, hC2⟩ := CC2.out hi
    have HC2 := hidd hC2
    subst hi
    clear hC2
    go_wp2_with fail
    refine (CC1.out _).mono ?_
    rintro E6 w6 ⟨rfl, hb6⟩
    have HA6 := hidd (HA5.out.step hb6)
    have HB6 := hidd (below_step HB5.out hb6)
    have HX6 := hidd (HX5.out.step hb6)
    have HZ6 := hidd (HZ5.out.step hb6)
    clear hb6 g0 g1 g2 o0 o1 o2 s0 s1 s2 t0 t1 t2 z0 z1 z2
    obtain ⟨s0, s1, s2, _, _⟩ := HX6.out
    obtain ⟨z0, z1, z2, _, _⟩ := HZ6.out
    go_wp2_with fail
    refine (HC2.out _).mono ?_
    rintro E7 w7 ⟨rfl, hb7⟩
    have HA7 := hidd (HA6.out.step hb7)
    have HB7 := hidd (below_step HB6.out hb7)
    clear hb7 s0 s1 s2 z0 z1 z2
    obtain ⟨az, ⟨a0, a1, a2, a3, a4⟩, b0, b1, b2, b3⟩ := HA7.out
    go_wp2_with fail
    refine (cT.out _).mono ?_
    rintro E8 w8 ⟨rfl, hb8⟩
    have HA8 := hidd (HA7.out.step hb8)
    have HB8 := hidd (below_step HB7.out hb8)
    clear hb8 az a0 a1 a2 a3 a4 b0 b1 b2 b3
    obtain ⟨az, ⟨a0, a1, a2, a3, a4⟩, b0, b1, b2, b3⟩ := HA8.out
    go_wp2_with fail
    refine (cR.out _).mono ?_
    rintro E9 w9 ⟨rfl, hb9⟩
    have HA9 := hidd (HA8.out.step hb9)
    have HB9 := hidd (below_step HB8.out hb9)
    clear hb9 az a0 a1 a2 a3 a4 b0 b1 b2 b3
    obtain ⟨az, ⟨a0, a1, a2, a3, a4⟩, b0, b1, b2, b3⟩ := HA9.out
    by_cases hk : k = 0
    · have hM := HK.out hk
      subst hk
      subst hM
      go_wp2_with fail
      refine (ck.out _).mono ?_
      rintro E10 wa ⟨rfl, hba⟩
      have HBa := hidd (below_step HB9.out hba)
      clear hba
      go_wp2_with fail
      go_ret
      exact ⟨by first | rfl | simp, HBa.out⟩
    · go_wp2_with fail
      refine (ck.out _).mono ?_
      rintro E10 wa ⟨rfl, hba⟩
      have HBa := hidd (below_step HB9.out hba)
      clear hba
      go_wp2_with fail
      go_ret
      exact ⟨by first | rfl | simp, HBa.out⟩
  · go_wp2_with fail
    refine (CC1.out _).mono ?_
    rintro E6 w7 ⟨rfl, hb6⟩
    have HA7 := hidd (HA5.out.step hb6)
    have HB7 := hidd (below_step HB5.out hb6)
    clear hb6 g0 g1 g2 o0 o1 o2 s0 s1 s2 t0 t1 t2 z0 z1 z2
    obtain ⟨az, ⟨a0, a1, a2, a3, a4⟩, b0, b1, b2, b3⟩ := HA7.out
    go_wp2_with fail
    refine (cT.out _).mono ?_
    rintro E8 w8 ⟨rfl, hb8⟩
    have HA8 := hidd (HA7.out.step hb8)
    have HB8 := hidd (below_step HB7.out hb8)
    clear hb8 az a0 a1 a2 a3 a4 b0 b1 b2 b3
    obtain ⟨az, ⟨a0, a1, a2, a3, a4⟩, b0, b1, b2, b3⟩ := HA8.out
    go_wp2_with fail
    refine (cR.out _).mono ?_
    rintro E9 w9 ⟨rfl, hb9⟩
    have HA9 := hidd (HA8.out.step hb9)
    have HB9 := hidd (below_step HB8.out hb9)
    clear hb9 az a0 a1 a2 a3 a4 b0 b1 b2 b3
    obtain ⟨az, ⟨a0, a1, a2, a3, a4⟩, b0, b1, b2, b3⟩ := HA9.out
    by_cases hk : k = 0
    · have hM := HK.out hk
      subst hk
      subst hM
      go_wp2_with fail
      refine (ck.out _).mono ?_
      rintro E10 wa ⟨rfl, hba⟩
      have HBa := hidd (below_step HB9.out hba)
      clear hba
      go_wp2_with fail
      go_ret
      exact ⟨by first | rfl | simp, HBa.out⟩
    · go_wp2_with fail
      refine (ck.out _).mono ?_
      rintro E10 wa ⟨rfl, hba⟩
      have HBa := hidd (below_step HB9.out hba)
      clear hba
      go_wp2_with fail
      go_ret
      exact ⟨by first | rfl | simp, HBa.out⟩
theorem has_of {p r u m l R c d C D : Int} (h : hasB p r u m l R c d = true) (hT : termsB C D = true) : hasB p r u m l R C D = true := by
  unfold hasB at *
  rw [Bool.and_eq_true, Bool.and_eq_true] at *
  exact ⟨⟨h.1.1, hT⟩, h.2⟩
theorem cmp_told {n n' d N D N' D' : Int} (h0 : 0 ≤ n) (hn : n ≤ n') (h1 : n' ≤ 9223372036854775807) (h2 : 1 ≤ d) (h3 : d ≤ 9223372036854775807) (h : makeR n d = (N, D, 0)) (h' : makeR n' d = (N', D', 0)) :
    ∃ q, ¬ q < 0 ∧ ∀ W, Calls Try.prog 17 #[.agg #[.int .i64 N', .int .i64 D'], .agg #[.int .i64 N, .int .i64 D]] W fun e w' => e = .returned (.int .i64 q) ∧ Below W.heap.size W w' := by
  obtain ⟨a1, a2, a3, a4, _⟩ := make_right5 h
  obtain ⟨b1, b2, b3, b4, _⟩ := make_right5 h'
  exact ⟨_, ord_more h0 hn h1 h2 h3 h h', fun W => refCmp_any N' D' N D b3 b4 b1 b2 a3 a4 a1 a2 W⟩
theorem more_walk (p r u m l R c0 d0 c1 d1 : Int) (_h0 : -9223372036854775808 ≤ R) (_h1 : R ≤ 9223372036854775807) (w : World) :
    Calls Try.prog 4 #[.agg #[.int .i64 p, .int .i64 r, .int .i64 u, .int .i64 m, .int .i64 l], .int .i64 R, .agg #[.int .i64 c0, .int .i64 d0, .int .i64 c1, .int .i64 d1]] w fun e w' => e = .returned (.bool true) ∧ Below w.heap.size w w' := by
  obtain ⟨C, D, e, hW⟩ : ∃ C D e, wayR [(c0, d0), (c1, d1)] = (C, D, e) := ⟨_, _, _, rfl⟩
  by_cases he : e = 0
  · subst he
    obtain ⟨⟨hT, hTC⟩, hc, hd⟩ := way_ok hW
    by_cases h : hasB p r u m l R c0 d0 = true
    · have h' := has_of h hTC
      obtain ⟨hs, ⟨hR, hR2⟩, ⟨hc1, hc2⟩, hd1, hd2⟩ := has_in h
      obtain ⟨_, _, ⟨hC1, hC2⟩, hD1, hD2⟩ := has_in h'
      obtain ⟨N, Q, _, hm, _⟩ := told_up (l := l) hs hR hR2 hc1 hc2 hd1 hd2
      obtain ⟨N2, Q2, _, hm2, _⟩ := told_up (l := l) hs hR hR2 hC1 hC2 hD1 hD2
      obtain ⟨⟨t1, t2⟩, t3, t4⟩ := boundN_bd hs hR hR2 hc1 hc2 hd1 hd2
      obtain ⟨⟨s1, s2⟩, s3, s4⟩ := boundN_bd hs hR hR2 hC1 hC2 hD1 hD2
      obtain ⟨q1, hq1, hK1⟩ := cmp_told t1 (boundN_more hs (by have := hs.1; omega) hc hd) (by omega) t3 (by omega) hm hm2
      obtain ⟨U0, U1⟩ := upB_in h
      have hu := hs.2.2.2.2.2
      have hr0 := hs.1
      have hmm := hs.2.2.2.1
      have hr1 := hs.2.1
      have hr2 := hs.2.2.1
      have hV0 : 0 ≤ r * upB p r u m R c0 d0 := Int.mul_nonneg (by omega) U0
      have hV1 : r * upB p r u m R c0 d0 ≤ 1000000 * 30000000 := Int.mul_le_mul (by omega) U1 U0 (by decide)
      obtain ⟨M, k, hM, hk⟩ : ∃ M k, rmR p r u m l R c0 d0 = (M, k) ∧ (k = 0 → M = u + r * upB p r u m R c0 d0) := by
        unfold rmR
        rw [if_pos h]
        by_cases hl : u + r * upB p r u m R c0 d0 ≤ 1000000000
        · rw [if_pos hl]; exact ⟨_, _, rfl, fun _ => rfl⟩
        · rw [if_neg hl]; exact ⟨_, _, rfl, fun h => absurd h (by decide)⟩
      obtain ⟨N3, Q3, i, q2, hZ, hZ2⟩ : ∃ N3 Q3 i q2, bnR p r (u + 1) m l R c0 d0 = (N3, Q3, i) ∧ (i = 0 → ¬ q2 < 0 ∧ ∀ W, Calls Try.prog 17 #[.agg #[.int .i64 N3, .int .i64 Q3], .agg #[.int .i64 N, .int .i64 Q]] W fun e w' => e = .returned (.int .i64 q2) ∧ Below W.heap.size W w') := by
        by_cases h3 : hasB p r (u + 1) m l R c0 d0 = true
        · obtain ⟨hs3, _, _, _⟩ := has_in h3
          obtain ⟨N3, Q3, _, hm3, _⟩ := told_up (l := l) hs3 hR hR2 hc1 hc2 hd1 hd2
          obtain ⟨⟨r1, r2⟩, r3, r4⟩ := boundN_bd hs3 hR hR2 hc1 hc2 hd1 hd2
          obtain ⟨q2, hq2, hK2⟩ := cmp_told t1 boundN_burst (by omega) t3 (by omega) hm hm3
          exact ⟨N3, Q3, 0, q2, by unfold bnR; rw [if_pos h3, hm3], fun _ => ⟨hq2, hK2⟩⟩
        · exact ⟨0, 0, 2, 0, by unfold bnR; rw [if_neg h3], fun h => absurd h (by decide)⟩
      exact more_yes p r u m l R c0 d0 c1 d1 C D N Q N2 Q2 N3 Q3 i (upB p r u m R c0 d0) M k hW (by unfold bnR; rw [if_pos h, hm]) (by unfold bnR; rw [if_pos h', hm2]) hZ (by unfold tkR; rw [if_pos h]) hM q1 q2 hq1 hK1 hZ2 (by omega) (by omega) _ rfl hV0 (by omega) hk w
    · have h' : ¬ hasB p r u m l R C D = true := fun g => h (has_of g hT)
      exact more_two p r u m l R c0 d0 c1 d1 C D 0 0 0 0 hW (by unfold bnR; rw [if_neg h]) (by unfold bnR; rw [if_neg h']) w
  · exact more_no p r u m l R c0 d0 c1 d1 C D e _ _ _ _ _ _ hW rfl rfl he w
end Go.Proofs.Ytianceglbkcmpaa
