/- The bound of any spec, rate and terms that may be asked for fits, and is the fraction by one denominator: plain mathematics. -/
import Derived.Test.YtianceglbkcmpaaBdF
namespace Go.Proofs.Ytianceglbkcmpaa
set_option linter.unusedVariables false
open Go.RowKit

/-- n by d is P by Q. -/
def SameQ (n d P Q : Int) : Prop := n * Q = P * d
theorem plus_make {n1 d1 n2 d2 P1 P2 Q : Int} (r1 : 1 ≤ d1) (r2 : 1 ≤ d2) (h1 : SameQ n1 d1 P1 Q) (h2 : SameQ n2 d2 P2 Q) (hP0 : 0 ≤ P1 + P2) (hP1 : P1 + P2 ≤ 9223372036854775807) (hQ0 : 1 ≤ Q) (hQ1 : Q ≤ 9223372036854775807) :
    RM.plusR n1 d1 n2 d2 = makeR (P1 + P2) Q := by
  have hd : 0 < Q.natAbs := by omega
  obtain ⟨N, D, hm, hr, _, _⟩ := make_fits (P1 + P2) Q hP0 hP1 hQ0 hQ1
  rw [hm]
  have hm2 := hm
  unfold makeR at hm2
  obtain ⟨hR, he⟩ := (RM.fracN_ok _ _ _ hd N D).1 hm2
  have e0 : (decide (P1 + P2 < 0) != decide (Q < 0)) = false := by
    have g1 : decide (P1 + P2 < 0) = false := decide_eq_false (by omega)
    have g2 : decide (Q < 0) = false := decide_eq_false (by omega)
    rw [g1, g2]; rfl
  rw [e0] at he
  have e1 : RM.sgn false (P1 + P2).natAbs = P1 + P2 := by unfold RM.sgn; simp; omega
  have e2 : ((Q.natAbs : Nat) : Int) = Q := by omega
  rw [e1, e2] at he
  refine (RM.plusR_ok n1 d1 n2 d2 N D r1 r2).2 ⟨hR, ?_⟩
  unfold SameQ at h1 h2
  have hQ : Q ≠ 0 := by omega
  refine Int.eq_of_mul_eq_mul_right hQ ?_
  clear hm hm2 hr hR e0 e1 e2 hd
  grind
theorem make_same {n d N D : Int} (h0 : 0 ≤ n) (h1 : n ≤ 9223372036854775807) (h2 : 1 ≤ d) (h3 : d ≤ 9223372036854775807) (h : makeR n d = (N, D, 0)) : 1 ≤ D ∧ SameQ N D n d := by
  have hd : 0 < d.natAbs := by omega
  unfold makeR at h
  obtain ⟨hR, he⟩ := (RM.fracN_ok _ _ _ hd N D).1 h
  have e0 : (decide (n < 0) != decide (d < 0)) = false := by
    have g1 : decide (n < 0) = false := decide_eq_false (by omega)
    have g2 : decide (d < 0) = false := decide_eq_false (by omega)
    rw [g1, g2]; rfl
  rw [e0] at he
  have e1 : RM.sgn false n.natAbs = n := by unfold RM.sgn; simp; omega
  have e2 : ((d.natAbs : Nat) : Int) = d := by omega
  rw [e1, e2] at he
  exact ⟨hR.1, he⟩
theorem SameQ.times {n d P Q : Int} (h : SameQ n d P Q) (k : Int) : SameQ n d (P * k) (Q * k) := by
  unfold SameQ at *
  rw [← Int.mul_assoc, h, Int.mul_assoc, Int.mul_comm d k, ← Int.mul_assoc]
/-- the bound's two numbers, with one denominator. -/
def boundN (p r u m R c d : Int) : Int := if R < p then (m + c) * (p - r) + d * (R * (p - r)) + (u - m) * (p - R) else m + c + d * R
def boundD (p r R : Int) : Int := if R < p then R * (p - r) else R
theorem boundN_bd {p r u m R c d : Int} (hs : SpecIn p r u m) (hR : r ≤ R) (hR2 : R ≤ 1000000) (hc1 : 0 ≤ c) (hc2 : c ≤ 10000000) (hd1 : 0 ≤ d) (hd2 : d ≤ 1000000) :
    (0 ≤ boundN p r u m R c d ∧ boundN p r u m R c d ≤ 2000000000000000000) ∧ 1 ≤ boundD p r R ∧ boundD p r R ≤ 1000000000000 := by
  obtain ⟨a1, a2, a3, a4, a5, a6, a7⟩ := hs
  unfold boundN boundD
  have k1 : d * R ≤ 1000000 * 1000000 := Int.mul_le_mul hd2 hR2 (by omega) (by decide)
  have k1' : 0 ≤ d * R := Int.mul_nonneg hd1 (by omega)
  split
  · rename_i hp
    have k2 : (m + c) * (p - r) ≤ 10002000 * 1000000 := Int.mul_le_mul (by omega) (by omega) (by omega) (by decide)
    have k2' : 0 ≤ (m + c) * (p - r) := Int.mul_nonneg (by omega) (by omega)
    have k3 : R * (p - r) ≤ 1000000 * 1000000 := Int.mul_le_mul hR2 (by omega) (by omega) (by decide)
    have k3' : 1 ≤ R * (p - r) := Int.mul_pos (by omega) (by omega)
    have k4 : d * (R * (p - r)) ≤ 1000000 * (1000000 * 1000000) := Int.mul_le_mul hd2 k3 (by omega) (by decide)
    have k4' : 0 ≤ d * (R * (p - r)) := Int.mul_nonneg hd1 (by omega)
    have k5 : (u - m) * (p - R) ≤ 10000000 * 1000000 := Int.mul_le_mul (by omega) (by omega) (by omega) (by decide)
    have k5' : 0 ≤ (u - m) * (p - R) := Int.mul_nonneg (by omega) (by omega)
    omega
  · omega
theorem sumR_three {n1 d1 n2 d2 n3 d3 : Int} (h : allRight [(n1, d1), (n2, d2), (n3, d3)] = true) {e1 f1 e2 f2 N D : Int} (a : RM.plusR 0 1 n1 d1 = (e1, f1, 0)) (b : RM.plusR e1 f1 n2 d2 = (e2, f2, 0)) (c : RM.plusR e2 f2 n3 d3 = (N, D, 0)) :
    sumR [(n1, d1), (n2, d2), (n3, d3)] = (N, D, 0) := by
  unfold sumR
  rw [if_pos h]
  simp only [foldR, addF, a, b, c, if_true]
theorem rightW3 {n d : Int} (h : rightB n d = true) (b1 : -9223372036854775808 ≤ n) (b2 : n ≤ 9223372036854775807) (b3 : d ≤ 9223372036854775807) : (-9223372036854775808 ≤ n ∧ n ≤ 9223372036854775807) ∧ -9223372036854775808 ≤ d ∧ d ≤ 9223372036854775807 :=
  ⟨⟨b1, b2⟩, by have := (of_decide_eq_true h).1; omega, b3⟩
/-- the bound of all that may be asked for: told, and by one denominator. -/
theorem late_total {p r u m l R c d : Int} (hs : SpecIn p r u m) (hR : r ≤ R) (hR2 : R ≤ 1000000) (hc1 : 0 ≤ c) (hc2 : c ≤ 10000000) (hd1 : 0 ≤ d) (hd2 : d ≤ 1000000) :
    ∃ N D, Told p r u m l R c d N D ∧ makeR (boundN p r u m R c d) (boundD p r R) = (N, D, 0) := by
  obtain ⟨⟨t1, t2⟩, t3, t4⟩ := boundN_bd hs hR hR2 hc1 hc2 hd1 hd2
  have hs2 := hs
  obtain ⟨a1, a2, a3, a4, a5, a6, a7⟩ := hs2
  obtain ⟨N, D, hm, hr, hb, _⟩ := make_fits (boundN p r u m R c d) (boundD p r R) t1 (by omega) t3 (by omega)
  obtain ⟨n1, d1, m1, r1, ⟨x1, x2, x3⟩, _⟩ := make_fits (m + c) R (by omega) (by omega) (by omega) (by omega)
  obtain ⟨n2, d2, m2, r2, ⟨y1, y2, y3⟩, _⟩ := make_fits d 1 hd1 (by omega) (by decide) (by decide)
  obtain ⟨q1, s1⟩ := make_same (by omega) (by omega) (by omega) (by omega) m1
  obtain ⟨q2, s2⟩ := make_same hd1 (by omega) (by decide) (by decide) m2
  have k1 : 0 ≤ d * R := Int.mul_nonneg hd1 (by omega)
  have k2 : d * R ≤ 1000000 * 1000000 := Int.mul_le_mul hd2 hR2 (by omega) (by decide)
  have z0 : SameQ 0 1 0 R := by unfold SameQ; simp
  have p1 := plus_make (by decide) q1 z0 s1 (by omega) (by omega) (by omega) (by omega)
  rw [Int.zero_add, m1] at p1
  have s2R : SameQ n2 d2 (d * R) R := by have := s2.times R; rwa [Int.one_mul] at this
  obtain ⟨n4, d4, m4, r4, ⟨v1, v2, v3⟩, _⟩ := make_fits (m + c + d * R) R (by omega) (by omega) (by omega) (by omega)
  obtain ⟨q4, s4⟩ := make_same (by omega) (by omega) (by omega) (by omega) m4
  have p2 := plus_make q1 q2 s1 s2R (by omega) (by omega) (by omega) (by omega)
  rw [m4] at p2
  refine ⟨N, D, ⟨⟨by omega, hR2⟩, ?_, hb, hr⟩, hm⟩
  by_cases hp : R < p
  · obtain ⟨⟨w1, w2⟩, w3, w4⟩ := late_prods hs (by omega) hR2 hp
    have w5 : 1 ≤ R * (p - r) := Int.mul_pos (by omega) (by omega)
    obtain ⟨n3, d3, m3, r3, ⟨g1, g2, g3⟩, _⟩ := make_fits ((u - m) * (p - R)) (R * (p - r)) w1 (by omega) w5 (by omega)
    obtain ⟨q3, s3⟩ := make_same w1 (by omega) w5 (by omega) m3
    have eN : boundN p r u m R c d = (m + c + d * R) * (p - r) + (u - m) * (p - R) := by
      unfold boundN; rw [if_pos hp, Int.add_mul (m + c) (d * R) (p - r), Int.mul_assoc d R (p - r)]
    have eD : boundD p r R = R * (p - r) := by unfold boundD; rw [if_pos hp]
    rw [eN, eD] at hm
    rw [eN] at t1 t2
    have p3 := plus_make q4 q3 (s4.times (p - r)) s3 t1 (by omega) w5 (by omega)
    rw [hm] at p3
    refine ⟨n1, d1, n2, d2, n3, d3, m1, m2, .inl ⟨hp, m3⟩, sumR_three (by simp [allRight, r1, r2, r3]) p1 p2 p3, ?_⟩
    intro x hx
    simp only [List.mem_cons, List.not_mem_nil, or_false] at hx
    rcases hx with rfl | rfl | rfl
    · exact ⟨x1, x2, by omega, x3⟩
    · exact ⟨y1, y2, by omega, y3⟩
    · exact ⟨g1, g2, by omega, g3⟩
  · have eN : boundN p r u m R c d = m + c + d * R := by unfold boundN; rw [if_neg hp]
    have eD : boundD p r R = R := by unfold boundD; rw [if_neg hp]
    rw [eN, eD] at hm
    have r01 : rightB 0 1 = true := by decide +kernel
    have p3 := plus_make q4 (by decide : (1 : Int) ≤ 1) s4 z0 (by omega) (by omega) (by omega) (by omega)
    rw [Int.add_zero, hm] at p3
    refine ⟨n1, d1, n2, d2, 0, 1, m1, m2, .inr ⟨hp, rfl, rfl⟩, sumR_three (by simp [allRight, r1, r2, r01]) p1 p2 p3, ?_⟩
    intro x hx
    simp only [List.mem_cons, List.not_mem_nil, or_false] at hx
    rcases hx with rfl | rfl | rfl
    · exact ⟨x1, x2, by omega, x3⟩
    · exact ⟨y1, y2, by omega, y3⟩
    · exact ⟨by decide, by decide, by decide, by decide⟩
end Go.Proofs.Ytianceglbkcmpaa
