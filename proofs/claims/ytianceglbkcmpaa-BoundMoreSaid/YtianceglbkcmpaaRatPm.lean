/- The program's sum and product, of any two fractions. -/
import Derived.Test.YtianceglbkcmpaaRatPf
import Derived.Test.YtianceglbkcmpaaRatPg
import Derived.Test.YtianceglbkcmpaaRatMm
namespace Go.Proofs.Ytianceglbkcmpaa
open Go.RowKit

theorem tog_same (p : Bool) (x : Nat) (q : Bool) (y : Nat) : tog p x q y = RM.tog2 p x q y := rfl
theorem ratEnd_same (r : Int × Int × Int) : ratEnd r = endOf r := rfl
theorem right_parts (n d : Int) (h0 : -9223372036854775808 ≤ n) (h1 : n ≤ 9223372036854775807) (h3 : d ≤ 9223372036854775807) (h : rightB n d = true) :
    Parts2 n n.natAbs d.natAbs ∧ d = (d.natAbs : Int) := by
  have := of_decide_eq_true h
  exact ⟨⟨rfl, by omega, by omega, by omega, this.2.2⟩, by omega⟩

theorem plus_any (x d y e : Int) (h0 : -9223372036854775808 ≤ x) (h1 : x ≤ 9223372036854775807) (h3 : d ≤ 9223372036854775807) (k0 : -9223372036854775808 ≤ y) (k1 : y ≤ 9223372036854775807) (k3 : e ≤ 9223372036854775807)
    (hx : rightB x d = true) (hy : rightB y e = true) (w : World) :
    Calls Try.prog 65 #[.agg #[.int .i64 x, .int .i64 d], .agg #[.int .i64 y, .int .i64 e]] w fun E w' => E = endOf (RM.plusR x d y e) ∧ Below w.heap.size w w' := by
  obtain ⟨⟨_, a2, a3, a4, a5⟩, ed⟩ := right_parts x d h0 h1 h3 hx
  obtain ⟨⟨_, b2, b3, b4, b5⟩, ee⟩ := right_parts y e k0 k1 k3 hy
  obtain ⟨b, n, ht⟩ : ∃ b n, RM.tog2 (decide (x < 0)) (x.natAbs * (e.natAbs / Nat.gcd d.natAbs e.natAbs)) (decide (y < 0)) (y.natAbs * (d.natAbs / Nat.gcd d.natAbs e.natAbs)) = (b, n) := ⟨_, _, rfl⟩
  have hq := RM.plusR_eq x y d.natAbs e.natAbs a3 b3 a5 b5 b n ht
  have hp := plus_parts x y x.natAbs d.natAbs y.natAbs e.natAbs ⟨rfl, rfl, a2, a3, a4, a5⟩ ⟨rfl, rfl, b2, b3, b4, b5⟩ b n ht w
  rw [ratEnd_same, ← hq, ← ed, ← ee] at hp
  exact hp
def addR (x d y e : Int) : Int × Int × Int := if rightB x d && rightB y e then RM.plusR x d y e else (0, 0, 2)
def mulR (x d y e : Int) : Int × Int × Int := if rightB x d && rightB y e then RM.timesR x d y e else (0, 0, 2)
theorem plusR_clean (x d y e : Int) : Clean (RM.plusR x d y e) := fracN_clean _ _ _
theorem timesR_clean (x d y e : Int) : Clean (RM.timesR x d y e) := fracN_clean _ _ _
end Go.Proofs.Ytianceglbkcmpaa
