/- The greatest common divisor, numbers of 63 bits, numbers without their sign. -/
import Derived.Test.YtohkkebiilaniaaBgD
namespace Go.Proofs.Ytohkkebiilaniaa
set_option linter.unusedVariables false
open Go.RowKit

theorem size_big (n : Int) (h0 : -9223372036854775808 ≤ n) (h1 : n ≤ 9223372036854775807) (w : World) :
    Calls Try.prog 73 #[.int .i64 n] w fun e w' => e = .returned (.int .u64 (n.natAbs : Int)) ∧ w' = w := by
  by_cases h : n < 0
  · go_enter Try.func73, Try.ntmps73
    go_wp2
    go_ret
    exact ⟨ret_int (by omega), rfl⟩
  · go_enter Try.func73, Try.ntmps73
    go_wp2
    go_ret
    exact ⟨ret_int (by omega), rfl⟩
def BigEnd1 (x : Nat) (w : World) (e : Ending) (w' : World) : Prop := ∃ v, e = .returned v ∧ BigAt x w' v ∧ Below w.heap.size w w'
theorem BigEnd.one {x : Nat} {w w' : World} {e : Ending} (h : BigEnd x w e w') : BigEnd1 x w e w' := by
  obtain ⟨A, c, he, h1, h2, _, h4, h5⟩ := h
  exact ⟨_, he, ⟨A, c, rfl, h1, h2, h4⟩, h5⟩
set_option maxHeartbeats 4000000 in
theorem gcd_big (x y : Nat) (hx : x < 65536 ^ 15) (hy : y < 65536 ^ 15) (u v : Value) (w : World) (hu : BigAt x w u) (hv : BigAt y w v) :
    Calls Try.prog 74 #[u, v] w (BigEnd1 (Nat.gcd x y) w) := by
  have HU := hidd hu
  have HV := hidd hv
  have HX := hidd hx
  have HY := hidd hy
  have cd := hidd (fun x y hx hy hy0 A B c d n m hn hm W hA hB => div_big x y hx hy hy0 A B c d n m hn hm W hA hB)
  clear hu hv hx hy
  go_enter Try.func74, Try.ntmps74
  go_wp2_with fail
  go_loopg [0, 1] (y + 1) (fun g s0 s1 wr => ∃ (a b : Nat), b < g ∧ a < 65536 ^ 15 ∧ b < 65536 ^ 15 ∧ Nat.gcd a b = Nat.gcd x y ∧ BigAt a wr s0 ∧ BigAt b wr s1 ∧ Below w.heap.size w wr)
  case atStart => exact ⟨x, y, by omega, HX.out, HY.out, rfl, HU.out, HV.out, Below.refl _ _⟩
  case round =>
    obtain ⟨a, b, hg, ha, hb, hgcd, h0, h1, hB⟩ := hrel
    have HA := hidd ha
    have HB := hidd hb
    have HG := hidd hgcd
    have HBl := hidd hB
    have H0 := hidd h0
    have H1 := hidd h1
    obtain ⟨A, c, rfl, g1, g2, l1⟩ := h0
    obtain ⟨B, d, rfl, g3, g4, l2⟩ := h1
    have L1 := hidd l1
    have L2 := hidd l2
    clear ha hb hgcd hB l1 l2
    by_cases hz : b = 0
    · subst hz
      have hl0 : (BM.digs 0).length = 0 := by rw [BM.digs_zero]; rfl
      go_wp2_with fail
      go_ret
      have h2 := HG.out
      rw [Nat.gcd_zero_right] at h2
      exact ⟨_, rfl, by rw [← h2]; exact H0.out, HBl.out⟩
    · have hpos : (0 : Int) < ((BM.digs b).length : Int) := by
        have : BM.digs b ≠ [] := fun h => hz (BM.digs_nil.1 h)
        have := List.length_pos_iff.2 this
        omega
      have hmod : a % b < b := Nat.mod_lt _ (by omega)
      have c1 := hidd (fun W h h' => cd.out a b HA.out HB.out (by omega) A B c d _ _ rfl rfl W h h')
      go_wp2_with fail
      refine (c1.out _ L1.out L2.out).mono ?_
      rintro e w1 ⟨q, r, rfl, hq, hr, hb1⟩
      have HR := hidd hr
      have HB1 := hidd hb1
      clear hq hr hb1
      go_wp2_with fail
      go_roundg (a % b + 1)
      case measure => omega
      case rel => exact ⟨b, a % b, by omega, HB.out, by have := HB.out; omega, by rw [Nat.gcd_comm, ← Nat.gcd_rec, Nat.gcd_comm]; exact HG.out, H1.out.below HB1.out, HR.out, below_step HBl.out HB1.out⟩
/-- a number of at most 63 bits; else no number is told. -/
def numR (x : Nat) : Int × Bool := if x < 9223372036854775808 then ((x : Int), true) else (0, false)
end Go.Proofs.Ytohkkebiilaniaa
