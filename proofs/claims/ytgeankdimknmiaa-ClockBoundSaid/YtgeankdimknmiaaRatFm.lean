/- What the law on adding and taking away again leans on. -/
import Derived.Test.YtgeankdimknmiaaRatPo
import Derived.Test.YtgeankdimknmiaaRatMf
import Derived.Deep.DeepCutAuto
namespace Go.Proofs.Ytgeankdimknmiaa
open Go.RowKit

/-- a fraction's parts lie in block b. -/
def HasRat (w : World) (b : Nat) (x d : Int) : Prop :=
  w.cell? ⟨b, 0, none⟩ = some (.int .i64 x) ∧ w.cell? ⟨b, 1, none⟩ = some (.int .i64 d) ∧ b < w.heap.size
theorem HasRat.step {w w' : World} {b : Nat} {x d : Int} (h : HasRat w b x d) (hb : Below w.heap.size w w') : HasRat w' b x d :=
  ⟨(hb.cell (p := ⟨b, 0, none⟩) h.2.2).trans h.1, (hb.cell (p := ⟨b, 1, none⟩) h.2.2).trans h.2.1, Nat.lt_of_lt_of_le h.2.2 hb.size⟩
theorem HasRat.new (w : World) (x d : Int) (t : TypeId) : HasRat (w.alloc (.cells #[.int .i64 x, .int .i64 d] t)) w.heap.size x d := by
  refine ⟨by simp [go_sem], by simp [go_sem], by simp⟩
theorem HasRat.past {w : World} {b : Nat} {x d : Int} (h : HasRat w b x d) (o : Obj) : HasRat (w.alloc o) b x d := by
  have hb : Below w.heap.size w (w.alloc o) := (Below.refl _ _).alloc (Nat.le_refl _) o
  exact h.step hb

def InR (r : Int × Int × Int) : Prop := -9223372036854775807 ≤ r.1 ∧ r.1 ≤ 9223372036854775807 ∧ -9223372036854775807 ≤ r.2.1 ∧ r.2.1 ≤ 9223372036854775807
theorem fracN_in (b : Bool) (n d : Nat) : InR (RM.fracN b n d) := by
  unfold RM.fracN RM.fracP InR
  split
  · simp
  · generalize n / Nat.gcd n d = A
    generalize d / Nat.gcd n d = B
    split
    · rename_i h
      refine ⟨?_, ?_, ?_, ?_⟩
      · show _ ≤ RM.sgn b A; unfold RM.sgn; split <;> omega
      · show RM.sgn b A ≤ _; unfold RM.sgn; split <;> omega
      · show _ ≤ (B : Int); omega
      · show (B : Int) ≤ _; omega
    · simp
theorem addR_in (x d y e : Int) : InR (addR x d y e) := by
  unfold addR
  split
  · exact fracN_in _ _ _
  · simp [InR]
theorem mulR_in (x d y e : Int) : InR (mulR x d y e) := by
  unfold mulR
  split
  · exact fracN_in _ _ _
  · simp [InR]
theorem right_of (x d : Int) (h0 : -9223372036854775808 ≤ x) (h1 : x ≤ 9223372036854775807) (h3 : d ≤ 9223372036854775807) (h : rightB x d = true) : RM.Right x d := (rightB_iff x d h0 h1 h3).1 h
theorem addR_comm (x d y e : Int) : addR x d y e = addR y e x d := by
  unfold addR
  by_cases hx : rightB x d = true
  · by_cases hy : rightB y e = true
    · simp only [hx, hy, Bool.and_self, if_true]
      exact RM.plusR_comm x d y e (of_decide_eq_true hx).1 (of_decide_eq_true hy).1
    · simp [hx, hy]
  · simp [hx]
theorem mulR_comm (x d y e : Int) : mulR x d y e = mulR y e x d := by
  unfold mulR
  by_cases hx : rightB x d = true
  · by_cases hy : rightB y e = true
    · simp only [hx, hy, Bool.and_self, if_true]
      exact RM.timesR_comm x d y e (of_decide_eq_true hx).1 (of_decide_eq_true hy).1
    · simp [hx, hy]
  · simp [hx]
/-- where a sum is told both are fractions. -/
theorem addR_told {x d y e N D : Int} (h : addR x d y e = (N, D, 0)) : rightB x d = true ∧ rightB y e = true ∧ RM.plusR x d y e = (N, D, 0) := by
  unfold addR at h
  split at h
  · rename_i hh; rw [Bool.and_eq_true] at hh; exact ⟨hh.1, hh.2, h⟩
  · injection h with _ h2; injection h2 with _ h3; exact absurd h3 (by decide)
theorem mulR_told {x d y e N D : Int} (h : mulR x d y e = (N, D, 0)) : rightB x d = true ∧ rightB y e = true ∧ RM.timesR x d y e = (N, D, 0) := by
  unfold mulR at h
  split at h
  · rename_i hh; rw [Bool.and_eq_true] at hh; exact ⟨hh.1, hh.2, h⟩
  · injection h with _ h2; injection h2 with _ h3; exact absurd h3 (by decide)
theorem rightB_of (N D : Int) (h : RM.Right N D) : rightB N D = true := decide_eq_true ⟨h.1, by have := h.2.2.1; omega, h.2.2.2.2⟩
theorem sub_back (x d y e S T : Int) (h0 : -9223372036854775808 ≤ x) (h1 : x ≤ 9223372036854775807) (h3 : d ≤ 9223372036854775807)
    (h : addR x d y e = (S, T, 0)) : subR S T y e = (x, d, 0) := by
  obtain ⟨hx, hy, hp⟩ := addR_told h
  have rx := right_of x d h0 h1 h3 hx
  have he := (of_decide_eq_true hy).1
  have rS := ((RM.plusR_ok x d y e S T rx.1 he).1 hp).1
  have : subR S T y e = RM.plusR S T (-y) e := by simp [subR, subT, rightB_of S T rS, hy]
  rw [this]
  exact RM.plus_back x d y e S T rx he hp
theorem div_back (x d y e P Q : Int) (h0 : -9223372036854775808 ≤ x) (h1 : x ≤ 9223372036854775807) (h3 : d ≤ 9223372036854775807) (hn : ¬ y = 0)
    (h : mulR x d y e = (P, Q, 0)) : divR P Q y e = (x, d, 0) := by
  obtain ⟨hx, hy, hp⟩ := mulR_told h
  have rx := right_of x d h0 h1 h3 hx
  have he := (of_decide_eq_true hy).1
  have rP := ((RM.timesR_ok x d y e P Q rx.1 he).1 hp).1
  have e1 : divR P Q y e = divT P Q y e := by simp [divR, rightB_of P Q rP, hy]
  rw [e1]
  by_cases hneg : y < 0
  · have : divT P Q y e = RM.timesR P Q (-e) (-y) := by simp [divT, hn, hneg]
    rw [this]
    exact RM.times_back_neg x d y e P Q rx he (by omega) hp
  · have : divT P Q y e = RM.timesR P Q e y := by simp [divT, hn, hneg]
    rw [this]
    exact RM.times_back_pos x d y e P Q rx he (by omega) hp
theorem dist_of (a1 a2 b1 b2 c1 c2 s1 s2 u1 u2 v1 v2 w1 w2 y1 y2 : Int)
    (hS : addR a1 a2 b1 b2 = (s1, s2, 0)) (hU : mulR s1 s2 c1 c2 = (u1, u2, 0)) (hV : mulR a1 a2 c1 c2 = (v1, v2, 0)) (hW : mulR b1 b2 c1 c2 = (w1, w2, 0)) (hY : addR v1 v2 w1 w2 = (y1, y2, 0)) :
    u1 = y1 ∧ u2 = y2 := by
  obtain ⟨ha, hb, pS⟩ := addR_told hS
  obtain ⟨_, hc, pU⟩ := mulR_told hU
  exact RM.over_sum a1 a2 b1 b2 c1 c2 s1 s2 u1 u2 v1 v2 w1 w2 y1 y2 (of_decide_eq_true ha).1 (of_decide_eq_true hb).1 (of_decide_eq_true hc).1 pS pU (mulR_told hV).2.2 (mulR_told hW).2.2 (addR_told hY).2.2
theorem assoc_of (a1 a2 b1 b2 c1 c2 s1 s2 m1 m2 z1 z2 r1 r2 : Int)
    (hS : addR a1 a2 b1 b2 = (s1, s2, 0)) (hM : addR s1 s2 c1 c2 = (m1, m2, 0)) (hZ : addR b1 b2 c1 c2 = (z1, z2, 0)) (hR : addR a1 a2 z1 z2 = (r1, r2, 0)) : m1 = r1 ∧ m2 = r2 := by
  obtain ⟨ha, hb, pS⟩ := addR_told hS
  obtain ⟨_, hc, pM⟩ := addR_told hM
  exact RM.plus_assoc a1 a2 b1 b2 c1 c2 s1 s2 m1 m2 z1 z2 r1 r2 (of_decide_eq_true ha).1 (of_decide_eq_true hb).1 (of_decide_eq_true hc).1 pS pM (addR_told hZ).2.2 (addR_told hR).2.2
end Go.Proofs.Ytgeankdimknmiaa
