/- Curves: the small functions on lines: how they are compared, where they meet, how high they are. -/
import Derived.Test.YtpgaklfgbioocaaSmD
namespace Go.Proofs.Ytpgaklfgbioocaa
set_option linter.unusedVariables false
open Go.RowKit RowK

def cmpV (a b : Int) : Int := if a < b then -1 else if b < a then 1 else 0
theorem isNaN_any (a : Int) (w : World) : Calls Try.prog 50 #[.int .i64 a] w fun e w' => e = .returned (.bool false) ∧ w' = w := by
  go_enter Try.func50, Try.ntmps50
  go_wp2
  go_ret
  exact ⟨by simp, rfl⟩
theorem compare_any (a b : Int) (w : World) : Calls Try.prog 38 #[.int .i64 a, .int .i64 b] w fun e w' => e = .returned (.int .i64 (cmpV a b)) ∧ w' = w := by
  have ca := hidd (fun W => isNaN_any a W)
  have cb := hidd (fun W => isNaN_any b W)
  rcases Int.lt_trichotomy a b with h | h | h
  · have hv : cmpV a b = -1 := by unfold cmpV; rw [if_pos h]
    rw [hv]
    clear hv
    go_enter Try.func38, Try.ntmps38
    go_wp2_with fail
    refine (ca.out _).mono ?_
    rintro e w' ⟨rfl, rfl⟩
    go_wp2_with fail
    refine (cb.out _).mono ?_
    rintro e w' ⟨rfl, rfl⟩
    go_wp2_with fail
    go_ret
    exact ⟨rfl, rfl⟩
  · subst h
    have hv : cmpV a a = 0 := by unfold cmpV; rw [if_neg (by omega), if_neg (by omega)]
    rw [hv]
    clear hv
    go_enter Try.func38, Try.ntmps38
    go_wp2_with fail
    refine (ca.out _).mono ?_
    rintro e w' ⟨rfl, rfl⟩
    go_wp2_with fail
    refine (cb.out _).mono ?_
    rintro e w' ⟨rfl, rfl⟩
    go_wp2_with fail
    go_ret
    exact ⟨rfl, rfl⟩
  · have hn : ¬ a < b := by omega
    have hv : cmpV a b = 1 := by unfold cmpV; rw [if_neg hn, if_pos h]
    rw [hv]
    clear hv
    go_enter Try.func38, Try.ntmps38
    go_wp2_with fail
    refine (ca.out _).mono ?_
    rintro e w' ⟨rfl, rfl⟩
    go_wp2_with fail
    refine (cb.out _).mono ?_
    rintro e w' ⟨rfl, rfl⟩
    go_wp2_with fail
    go_ret
    exact ⟨rfl, rfl⟩
def orV (x y : Int) : Int := if x = 0 then y else x
theorem or_any (x y : Int) (b : Nat) (w : World) (h0 : w.cell? ⟨b, 0, none⟩ = some (.int .i64 x)) (h1 : w.cell? ⟨b, 1, none⟩ = some (.int .i64 y)) :
    Calls Try.prog 37 #[.slice (some ⟨b, 0, none⟩) 2 2] w fun e w' => e = .returned (.int .i64 (orV x y)) ∧ w' = w := by
  by_cases hx : x = 0
  · subst hx
    have hv : orV 0 y = y := by unfold orV; rw [if_pos rfl]
    rw [hv]
    clear hv
    by_cases hy : y = 0
    · subst hy
      go_enter Try.func37, Try.ntmps37
      go_wp2_with fail
      refine wp_loop_rounds 3 ?_
      rw [rounds_succ]
      go_wp2_with fail
      rw [rounds_succ]
      go_wp2_with fail
      rw [rounds_succ]
      go_wp2_with fail
      go_ret
      exact ⟨rfl, rfl⟩
    · have hy2 : (y != 0) = true := by simp [hy]
      clear hy
      go_enter Try.func37, Try.ntmps37
      go_wp2_with fail
      refine wp_loop_rounds 3 ?_
      rw [rounds_succ]
      go_wp2_with fail
      rw [rounds_succ]
      go_wp2_with fail
      go_ret
      exact ⟨rfl, rfl⟩
  · have hv : orV x y = x := by unfold orV; rw [if_neg hx]
    have hx2 : (x != 0) = true := by simp [hx]
    rw [hv]
    clear hv hx
    go_enter Try.func37, Try.ntmps37
    go_wp2_with fail
    refine wp_loop_rounds 3 ?_
    rw [rounds_succ]
    go_wp2_with fail
    go_ret
    exact ⟨rfl, rfl⟩
/-- which of two lines is first: by Burst, then by Rate. -/
def lineC (a b : Int × Int) : Int := orV (cmpV a.1 b.1) (cmpV a.2 b.2)
set_option maxHeartbeats 2000000 in
theorem lowest1_any (a0 a1 b0 b1 : Int) (w : World) : Calls Try.prog 36 #[.agg #[.int .i64 a0, .int .i64 a1], .agg #[.int .i64 b0, .int .i64 b1]] w fun e w' => e = .returned (.int .i64 (lineC (a0, a1) (b0, b1))) ∧ Below w.heap.size w w' := by
  have c1 := hidd (fun W => compare_any a0 b0 W)
  have c2 := hidd (fun W => compare_any a1 b1 W)
  have co := hidd (fun b W h0 h1 => or_any (cmpV a0 b0) (cmpV a1 b1) b W h0 h1)
  unfold lineC
  dsimp only
  generalize cmpV a0 b0 = x at *
  generalize cmpV a1 b1 = y at *
  generalize orV x y = z at *
  go_enter Try.func36, Try.ntmps36
  go_wp2_with fail
  go_region_held3 (fun w' => w'.cell? ⟨w.heap.size, 0, none⟩ = some (.int .i64 a0) ∧ w'.cell? ⟨w.heap.size, 1, none⟩ = some (.int .i64 a1) ∧ w'.cell? ⟨w.heap.size + 1, 0, none⟩ = some (.int .i64 b0) ∧ w'.cell? ⟨w.heap.size + 1, 1, none⟩ = some (.int .i64 b1))
    ((first | go_keep | (simp [go_sem]; done) | (refine ⟨?_, ?_, ?_, ?_⟩ <;> simp [go_sem])))
    ((first
      | (go_at_call_of 38 (Value.int IntKind.i64 a0); refine (c1.out _).mono ?_; rintro E w1 ⟨rfl, rfl⟩)
      | (go_at_call_of 38 (Value.int IntKind.i64 a1); refine (c2.out _).mono ?_; rintro E w1 ⟨rfl, rfl⟩)
      | (go_at_call 37; refine (co.out _ _ (by simp [go_sem]) (by simp [go_sem])).mono ?_; rintro E w1 ⟨rfl, rfl⟩)))
  all_goals go_wp2_with fail
  all_goals go_ret
  all_goals exact ⟨rfl, by (repeat' (first | (with_reducible exact Below.refl _ _) | (with_reducible assumption) | (with_reducible apply Below.setCell) | (with_reducible apply Below.alloc) | (with_reducible apply Below.drew) | (with_reducible apply below_drewN) | (with_reducible refine Below.trans ?_ (Below.mono (by assumption) ?_)) | omega | (simp; done) | (simp; omega)))⟩
theorem bendOf_any (a0 a1 b0 b1 : Int) (h0 : 0 ≤ a0) (h1 : a0 ≤ 2000000000) (h2 : 0 ≤ a1) (h3 : a1 ≤ 2000000000) (k0 : 0 ≤ b0) (k1 : b0 ≤ 2000000000) (k2 : 0 ≤ b1) (k3 : b1 ≤ 2000000000) (w : World) :
    Calls Try.prog 39 #[.agg #[.int .i64 a0, .int .i64 a1], .agg #[.int .i64 b0, .int .i64 b1]] w fun e w' => e = .returned (.agg #[.int .i64 (b0 - a0), .int .i64 (a1 - b1)]) ∧ Below w.heap.size w w' := by
  go_enter Try.func39, Try.ntmps39
  go_wp2_with fail
  exact bodyPost_ret (v := .agg #[.int .i64 (b0 - a0), .int .i64 (a1 - b1)]) (by simp [results, Try.results39, go_sem]) rfl ⟨rfl, by (repeat' (first | (with_reducible exact Below.refl _ _) | (with_reducible assumption) | (with_reducible apply Below.setCell) | (with_reducible apply Below.alloc) | (with_reducible apply Below.drew) | (with_reducible apply below_drewN) | (with_reducible refine Below.trans ?_ (Below.mono (by assumption) ?_)) | omega | (simp; done) | (simp; omega)))⟩
theorem prod_bd {x y : Int} (h0 : -2000000000 ≤ x) (h1 : x ≤ 2000000000) (k0 : -2000000000 ≤ y) (k1 : y ≤ 2000000000) : -4000000000000000000 ≤ x * y ∧ x * y ≤ 4000000000000000000 := by
  have e1 : (x * y).natAbs = x.natAbs * y.natAbs := Int.natAbs_mul x y
  have e2 : x.natAbs * y.natAbs ≤ 2000000000 * 2000000000 := Nat.mul_le_mul (by omega) (by omega)
  omega
theorem against_any (p0 p1 q0 q1 : Int) (hp : -2000000000 ≤ p0 ∧ p0 ≤ 2000000000 ∧ -2000000000 ≤ p1 ∧ p1 ≤ 2000000000) (hq : -2000000000 ≤ q0 ∧ q0 ≤ 2000000000 ∧ -2000000000 ≤ q1 ∧ q1 ≤ 2000000000) (w : World) :
    Calls Try.prog 40 #[.agg #[.int .i64 p0, .int .i64 p1], .agg #[.int .i64 q0, .int .i64 q1]] w fun e w' => e = .returned (.int .i64 (cmpV (p0 * q1) (q0 * p1))) ∧ Below w.heap.size w w' := by
  obtain ⟨u0, u1⟩ := prod_bd hp.1 hp.2.1 hq.2.2.1 hq.2.2.2
  obtain ⟨v0, v1⟩ := prod_bd hq.1 hq.2.1 hp.2.2.1 hp.2.2.2
  have c1 := hidd (fun W => compare_any (p0 * q1) (q0 * p1) W)
  have e1 : IntKind.i64.wrap (p0 * q1) = p0 * q1 := IntWalk.i64_in _ (by omega)
  have e2 : IntKind.i64.wrap (q0 * p1) = q0 * p1 := IntWalk.i64_in _ (by omega)
  have f1 : wrap64 (p0 * q1) = p0 * q1 := by rw [← e1]; simp [IntKind.wrap_i64, wrap64]
  have f2 : wrap64 (q0 * p1) = q0 * p1 := by rw [← e2]; simp [IntKind.wrap_i64, wrap64]
  generalize hX : p0 * q1 = X at *
  generalize hY : q0 * p1 = Y at *
  clear hp hq e1 e2 f1 f2
  go_enter Try.func40, Try.ntmps40
  go_wp2_with fail
  refine (c1.out _).mono ?_
  rintro e w1 ⟨rfl, rfl⟩
  go_wp2_with fail
  go_ret
  exact ⟨rfl, by (repeat' (first | (with_reducible exact Below.refl _ _) | (with_reducible assumption) | (with_reducible apply Below.setCell) | (with_reducible apply Below.alloc) | (with_reducible apply Below.drew) | (with_reducible apply below_drewN) | (with_reducible refine Below.trans ?_ (Below.mono (by assumption) ?_)) | omega | (simp; done) | (simp; omega)))⟩
/-- may a line be. -/
def mayB (x : Int × Int) : Bool := decide (0 ≤ x.1 ∧ x.1 ≤ 1000000000 ∧ 0 ≤ x.2 ∧ x.2 ≤ 1000000000)
theorem mayB_iff {x : Int × Int} (h : mayB x = true) : 0 ≤ x.1 ∧ x.1 ≤ 1000000000 ∧ 0 ≤ x.2 ∧ x.2 ≤ 1000000000 := of_decide_eq_true h
theorem isNoLine_any (a b : Int) (w : World) : Calls Try.prog 30 #[.agg #[.int .i64 a, .int .i64 b]] w fun e w' => e = .returned (.bool (!mayB (a, b))) ∧ Below w.heap.size w w' := by
  have hb : ∀ R, mayB (a, b) = R → Hid (R = decide (0 ≤ a ∧ a ≤ 1000000000 ∧ 0 ≤ b ∧ b ≤ 1000000000)) := fun R h => by subst h; exact rfl
  have HB := hb _ rfl
  generalize mayB (a, b) = R at *
  clear hb
  go_enter Try.func30, Try.ntmps30
  go_wp2_with fail
  all_goals go_ret
  all_goals (refine ⟨ret_bool ?_, by (repeat' (first | (with_reducible exact Below.refl _ _) | (with_reducible assumption) | (with_reducible apply Below.setCell) | (with_reducible apply Below.alloc) | (with_reducible apply Below.drew) | (with_reducible apply below_drewN) | (with_reducible refine Below.trans ?_ (Below.mono (by assumption) ?_)) | omega | (simp; done) | (simp; omega)))⟩; rw [HB.out]; first | (simp [*]; done) | (rw [Bool.eq_iff_iff]; simp [*]; done) | (rw [Bool.eq_iff_iff]; simp [*]; omega) | (simp [*]; omega))
theorem refMay_any (a b : Int) (w : World) : Calls Try.prog 19 #[.agg #[.int .i64 a, .int .i64 b]] w fun e w' => e = .returned (.bool (mayB (a, b))) ∧ Below w.heap.size w w' := by
  have hb : ∀ R, mayB (a, b) = R → Hid (R = decide (0 ≤ a ∧ a ≤ 1000000000 ∧ 0 ≤ b ∧ b ≤ 1000000000)) := fun R h => by subst h; exact rfl
  have HB := hb _ rfl
  generalize mayB (a, b) = R at *
  clear hb
  go_enter Try.func19, Try.ntmps19
  go_wp2_with fail
  all_goals go_ret
  all_goals (refine ⟨ret_bool ?_, by (repeat' (first | (with_reducible exact Below.refl _ _) | (with_reducible assumption) | (with_reducible apply Below.setCell) | (with_reducible apply Below.alloc) | (with_reducible apply Below.drew) | (with_reducible apply below_drewN) | (with_reducible refine Below.trans ?_ (Below.mono (by assumption) ?_)) | omega | (simp; done) | (simp; omega)))⟩; rw [HB.out]; first | (simp [*]; done) | (simp [*]; omega))
theorem high_bd {b r t : Int} (h0 : 0 ≤ b) (h1 : b ≤ 1000000000) (h2 : 0 ≤ r) (h3 : r ≤ 1000000000) (k0 : 0 ≤ t) (k1 : t ≤ 2147483647) : 0 ≤ r * t ∧ r * t ≤ 2147483647000000000 := by
  refine ⟨Int.mul_nonneg h2 k0, ?_⟩
  have : r * t ≤ 1000000000 * 2147483647 := Int.mul_le_mul h3 k1 k0 (by decide)
  omega
theorem height_any (b r t : Int) (h0 : 0 ≤ b) (h1 : b ≤ 1000000000) (h2 : 0 ≤ r) (h3 : r ≤ 1000000000) (k0 : 0 ≤ t) (k1 : t ≤ 2147483647) (w : World) :
    Calls Try.prog 28 #[.agg #[.int .i64 b, .int .i64 r], .int .i64 t] w fun e w' => e = .returned (.int .i64 (b + r * t)) ∧ Below w.heap.size w w' := by
  obtain ⟨u0, u1⟩ := high_bd h0 h1 h2 h3 k0 k1
  generalize hX : r * t = X at *
  go_enter Try.func28, Try.ntmps28
  go_wp2_with fail
  go_ret
  exact ⟨rfl, by (repeat' (first | (with_reducible exact Below.refl _ _) | (with_reducible assumption) | (with_reducible apply Below.setCell) | (with_reducible apply Below.alloc) | (with_reducible apply Below.drew) | (with_reducible apply below_drewN) | (with_reducible refine Below.trans ?_ (Below.mono (by assumption) ?_)) | omega | (simp; done) | (simp; omega)))⟩
theorem curveTick_any (n : Int) (w : World) : Calls Try.prog 27 #[.int .i64 n] w fun e w' => e = .returned (.bool (tickB n)) ∧ w = w' := by
  by_cases h0 : 0 ≤ n
  · by_cases h1 : n ≤ 2147483647
    · have hr : tickB n = true := decide_eq_true ⟨h0, h1⟩
      rw [hr]
      go_enter Try.func27, Try.ntmps27
      go_wp2
      go_ret
      exact ⟨by simp, rfl⟩
    · have hr : tickB n = false := decide_eq_false (fun h => h1 h.2)
      rw [hr]
      go_enter Try.func27, Try.ntmps27
      go_wp2
      go_ret
      exact ⟨by simp, rfl⟩
  · have hr : tickB n = false := decide_eq_false (fun h => h0 h.1)
    rw [hr]
    go_enter Try.func27, Try.ntmps27
    go_wp2
    go_ret
    exact ⟨by simp, rfl⟩
end Go.Proofs.Ytpgaklfgbioocaa
