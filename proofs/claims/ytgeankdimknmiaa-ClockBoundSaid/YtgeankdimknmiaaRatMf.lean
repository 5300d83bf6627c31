/- What follows of sums and products of fractions: order, taking away again, a product over a sum. Plain numbers. -/
import Derived.Test.YtgeankdimknmiaaRatMm
namespace Go.Proofs.Ytgeankdimknmiaa
namespace RM

/-- of one value there is one fraction. -/
theorem right_unique (N D M E : Int) (h1 : Right N D) (h2 : Right M E) (h : N * E = M * D) : N = M ∧ D = E := by
  have hd : 0 < D.natAbs := by have := h1.1; omega
  have hD : ((D.natAbs : Nat) : Int) = D := Int.natAbs_of_nonneg (by have := h1.1; omega)
  have a := (fracN_ok (decide (N < 0)) N.natAbs D.natAbs hd N D).2 ⟨h1, by rw [hD, sgn_self]⟩
  have b := (fracN_ok (decide (N < 0)) N.natAbs D.natAbs hd M E).2 ⟨h2, by rw [hD, sgn_self]; exact h.symm⟩
  rw [a] at b
  injection b with b1 b2
  injection b2 with b2 _
  exact ⟨b1, b2⟩

theorem plusR_comm (x d y e : Int) (hd : 1 ≤ d) (he : 1 ≤ e) : plusR x d y e = plusR y e x d := by
  rcases plusR_err x d y e hd he with ⟨N, D, h⟩ | h
  · have h' := (plusR_ok x d y e N D hd he).1 h
    rw [h, (plusR_ok y e x d N D he hd).2 ⟨h'.1, by rw [Int.mul_comm e d, Int.add_comm (y * d)]; exact h'.2⟩]
  · rcases plusR_err y e x d he hd with ⟨N, D, h2⟩ | h2
    · have h' := (plusR_ok y e x d N D he hd).1 h2
      rw [h2, (plusR_ok x d y e N D hd he).2 ⟨h'.1, by rw [Int.mul_comm d e, Int.add_comm (x * e)]; exact h'.2⟩]
    · rw [h, h2]
theorem timesR_comm (x d y e : Int) (hd : 1 ≤ d) (he : 1 ≤ e) : timesR x d y e = timesR y e x d := by
  rcases timesR_err x d y e hd he with ⟨N, D, h⟩ | h
  · have h' := (timesR_ok x d y e N D hd he).1 h
    rw [h, (timesR_ok y e x d N D he hd).2 ⟨h'.1, by rw [Int.mul_comm e d, Int.mul_comm y x]; exact h'.2⟩]
  · rcases timesR_err y e x d he hd with ⟨N, D, h2⟩ | h2
    · have h' := (timesR_ok y e x d N D he hd).1 h2
      rw [h2, (timesR_ok x d y e N D hd he).2 ⟨h'.1, by rw [Int.mul_comm d e, Int.mul_comm x y]; exact h'.2⟩]
    · rw [h, h2]

/-- what was added and is taken away again. -/
theorem plus_back (x d y e S T : Int) (hx : Right x d) (he : 1 ≤ e) (h : plusR x d y e = (S, T, 0)) : plusR S T (-y) e = (x, d, 0) := by
  have h' := (plusR_ok x d y e S T hx.1 he).1 h
  refine (plusR_ok S T (-y) e x d h'.1.1 he).2 ⟨hx, ?_⟩
  have h2 := h'.2
  grind
theorem times_back_pos (x d y e P Q : Int) (hx : Right x d) (he : 1 ≤ e) (hy : 1 ≤ y) (h : timesR x d y e = (P, Q, 0)) : timesR P Q e y = (x, d, 0) := by
  have h' := (timesR_ok x d y e P Q hx.1 he).1 h
  refine (timesR_ok P Q e y x d h'.1.1 hy).2 ⟨hx, ?_⟩
  have h2 := h'.2
  grind
theorem times_back_neg (x d y e P Q : Int) (hx : Right x d) (he : 1 ≤ e) (hy : y ≤ -1) (h : timesR x d y e = (P, Q, 0)) : timesR P Q (-e) (-y) = (x, d, 0) := by
  have h' := (timesR_ok x d y e P Q hx.1 he).1 h
  refine (timesR_ok P Q (-e) (-y) x d h'.1.1 (by omega)).2 ⟨hx, ?_⟩
  have h2 := h'.2
  grind

/-- N by D is p by q. -/
def Same (N D p q : Int) : Prop := N * q = p * D
theorem Same.mul {N D p q : Int} (h : Same N D p q) (r s : Int) : Same (N * r) (D * s) (p * r) (q * s) := by
  unfold Same at *; grind
theorem Same.add {V X p q W Y r s : Int} (h : Same V X p q) (k : Same W Y r s) : Same (V * Y + W * X) (X * Y) (p * s + r * q) (q * s) := by
  unfold Same at *; grind
theorem Same.trans {N D p q r s : Int} (h : Same N D p q) (k : Same p q r s) (hq : q ≠ 0) : Same N D r s := by
  unfold Same at *
  have : (N * s) * q = (r * D) * q := by grind
  exact Int.eq_of_mul_eq_mul_right hq this
theorem Same.of_plus {x d y e N D : Int} (hd : 1 ≤ d) (he : 1 ≤ e) (h : plusR x d y e = (N, D, 0)) : Same N D (x * e + y * d) (d * e) := ((plusR_ok x d y e N D hd he).1 h).2
theorem Same.of_times {x d y e N D : Int} (hd : 1 ≤ d) (he : 1 ≤ e) (h : timesR x d y e = (N, D, 0)) : Same N D (x * y) (d * e) := ((timesR_ok x d y e N D hd he).1 h).2

theorem mul_pos_ne {a b : Int} (ha : 1 ≤ a) (hb : 1 ≤ b) : a * b ≠ 0 := by
  have := Int.mul_pos (show 0 < a by omega) (show 0 < b by omega)
  omega
/-- two fractions of one value. -/
theorem same_eq {N D M E p q : Int} (h1 : Right N D) (h2 : Right M E) (a : Same N D p q) (b : Same M E p q) (hq : q ≠ 0) : N = M ∧ D = E := by
  refine right_unique N D M E h1 h2 ?_
  unfold Same at *
  have : (N * E) * q = (M * D) * q := by grind
  exact Int.eq_of_mul_eq_mul_right hq this

theorem over_sum (a1 a2 b1 b2 c1 c2 s1 s2 u1 u2 v1 v2 w1 w2 y1 y2 : Int) (ha : 1 ≤ a2) (hb : 1 ≤ b2) (hc : 1 ≤ c2)
    (hS : plusR a1 a2 b1 b2 = (s1, s2, 0)) (hU : timesR s1 s2 c1 c2 = (u1, u2, 0)) (hV : timesR a1 a2 c1 c2 = (v1, v2, 0)) (hW : timesR b1 b2 c1 c2 = (w1, w2, 0))
    (hY : plusR v1 v2 w1 w2 = (y1, y2, 0)) : u1 = y1 ∧ u2 = y2 := by
  have rS := ((plusR_ok a1 a2 b1 b2 s1 s2 ha hb).1 hS).1
  have rV := ((timesR_ok a1 a2 c1 c2 v1 v2 ha hc).1 hV).1
  have rW := ((timesR_ok b1 b2 c1 c2 w1 w2 hb hc).1 hW).1
  have rU := ((timesR_ok s1 s2 c1 c2 u1 u2 rS.1 hc).1 hU).1
  have rY := ((plusR_ok v1 v2 w1 w2 y1 y2 rV.1 rW.1).1 hY).1
  have k1 : Same u1 u2 ((a1 * b2 + b1 * a2) * c1) (a2 * b2 * c2) := (Same.of_times rS.1 hc hU).trans ((Same.of_plus ha hb hS).mul c1 c2) (mul_pos_ne rS.1 hc)
  have k2 : Same y1 y2 (a1 * c1 * (b2 * c2) + b1 * c1 * (a2 * c2)) (a2 * c2 * (b2 * c2)) :=
    (Same.of_plus rV.1 rW.1 hY).trans ((Same.of_times ha hc hV).add (Same.of_times hb hc hW)) (mul_pos_ne rV.1 rW.1)
  have k3 : Same ((a1 * b2 + b1 * a2) * c1) (a2 * b2 * c2) (a1 * c1 * (b2 * c2) + b1 * c1 * (a2 * c2)) (a2 * c2 * (b2 * c2)) := by unfold Same; grind
  have q1 : a2 * b2 * c2 ≠ 0 := by
    have h1 := Int.mul_pos (show 0 < a2 by omega) (show 0 < b2 by omega)
    have h2 := Int.mul_pos h1 (show 0 < c2 by omega)
    omega
  have q2 : a2 * c2 * (b2 * c2) ≠ 0 := by
    have h1 := Int.mul_pos (show 0 < a2 by omega) (show 0 < c2 by omega)
    have h2 := Int.mul_pos (show 0 < b2 by omega) (show 0 < c2 by omega)
    have h3 := Int.mul_pos h1 h2
    omega
  exact same_eq rU rY (k1.trans k3 q1) k2 q2

theorem plus_assoc (a1 a2 b1 b2 c1 c2 s1 s2 m1 m2 z1 z2 r1 r2 : Int) (ha : 1 ≤ a2) (hb : 1 ≤ b2) (hc : 1 ≤ c2)
    (hS : plusR a1 a2 b1 b2 = (s1, s2, 0)) (hM : plusR s1 s2 c1 c2 = (m1, m2, 0)) (hZ : plusR b1 b2 c1 c2 = (z1, z2, 0)) (hR : plusR a1 a2 z1 z2 = (r1, r2, 0)) : m1 = r1 ∧ m2 = r2 := by
  have rS := ((plusR_ok a1 a2 b1 b2 s1 s2 ha hb).1 hS).1
  have rZ := ((plusR_ok b1 b2 c1 c2 z1 z2 hb hc).1 hZ).1
  have rM := ((plusR_ok s1 s2 c1 c2 m1 m2 rS.1 hc).1 hM).1
  have rR := ((plusR_ok a1 a2 z1 z2 r1 r2 ha rZ.1).1 hR).1
  have sc : Same c1 c2 c1 c2 := rfl
  have sa : Same a1 a2 a1 a2 := rfl
  have k1 : Same m1 m2 ((a1 * b2 + b1 * a2) * c2 + c1 * (a2 * b2)) (a2 * b2 * c2) := (Same.of_plus rS.1 hc hM).trans ((Same.of_plus ha hb hS).add sc) (mul_pos_ne rS.1 hc)
  have k2 : Same r1 r2 (a1 * (b2 * c2) + (b1 * c2 + c1 * b2) * a2) (a2 * (b2 * c2)) := (Same.of_plus ha rZ.1 hR).trans (sa.add (Same.of_plus hb hc hZ)) (mul_pos_ne ha rZ.1)
  have k3 : Same ((a1 * b2 + b1 * a2) * c2 + c1 * (a2 * b2)) (a2 * b2 * c2) (a1 * (b2 * c2) + (b1 * c2 + c1 * b2) * a2) (a2 * (b2 * c2)) := by unfold Same; grind
  have h1 := Int.mul_pos (show 0 < a2 by omega) (show 0 < b2 by omega)
  have h2 := Int.mul_pos h1 (show 0 < c2 by omega)
  have h3 := Int.mul_pos (show 0 < b2 by omega) (show 0 < c2 by omega)
  have h4 := Int.mul_pos (show 0 < a2 by omega) h3
  exact same_eq rM rR (k1.trans k3 (by omega)) k2 (by omega)
end RM
end Go.Proofs.Ytgeankdimknmiaa
