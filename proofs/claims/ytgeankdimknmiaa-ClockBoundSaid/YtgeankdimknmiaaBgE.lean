/- The greatest common divisor, numbers of 63 bits, numbers without their sign. -/
import Derived.Test.YtgeankdimknmiaaBgD
namespace Go.Proofs.Ytgeankdimknmiaa
set_option linter.unusedVariables false
open Go.RowKit

theorem size_big (n : Int) (h0 : -9223372036854775808 ≤ n) (h1 : n ≤ 9223372036854775807) (w : World) :
    Calls Try.prog 26 #[.int .i64 n] w fun e w' => e = .returned (.int .u64 (n.natAbs : Int)) ∧ w' = w := by
  by_cases h : n < 0
  · go_enter Try.func26, Try.ntmps26
    go_wp2
    go_ret
    exact ⟨ret_int (by omega), rfl⟩
  · go_enter Try.func26, Try.ntmps26
    go_wp2
    go_ret
    exact ⟨ret_int (by omega), rfl⟩
def BigEnd1 (x : Nat) (w : World) (e : Ending) (w' : World) : Prop := ∃ v, e = .returned v ∧ BigAt x w' v ∧ Below w.heap.size w w'
theorem BigEnd.one {x : Nat} {w w' : World} {e : Ending} (h : BigEnd x w e w') : BigEnd1 x w e w' := by
  obtain ⟨A, c, he, h1, h2, _, h4, h5⟩ := h
  exact ⟨_, he, ⟨A, c, rfl, h1, h2, h4⟩, h5⟩
set_option maxHeartbeats 4000000 in
theorem gcd_big (x y : Nat) (hx : x < 65536 ^ 15) (hy : y < 65536 ^ 15) (u v : Value) (w : World) (hu : BigAt x w u) (hv : BigAt y w v) :
    Calls Try.prog 39 #[u, v] w (BigEnd1 (Nat.gcd x y) w) := by
  have HU := hidd hu
  have HV := hidd hv
  have HX := hidd hx
  have HY := hidd hy
  have cd := hidd (fun x y hx hy hy0 A B c d n m hn hm W hA hB => div_big x y hx hy hy0 A B c d n m hn hm W hA hB)
  clear hu hv hx hy
  go_enter Try.func39, Try.ntmps39
  go_wp2_with fail
  go_loopg [0, 1] (y + 1) (fun g s0 s1 wr => ∃ (a b : Nat), b < g ∧ a < 65536 ^ 15 ∧ b < 65536 ^ 15 ∧ Nat.gcd a b = Nat.gcd x y ∧ BigAt a wr s0 ∧ BigAt b wr s1 ∧ Below w.heap.size w wr)
  case atStart => exact ⟨x, y, by omega, HX.out, HY.out, rfl, HU.out, HV.out, Below.refl _ _⟩
  case round =>
    obtain ⟨a, b, hg, ha, hb, hgcd, h0, h1, hB⟩ := hrel
    have HA := hidd ha
    have HB := hidd hb
    have HG := hidd hgcd
    have HBl := hidd hB
    have H0 := hidd h0
    have H1 := hidd h1
    obtain ⟨A, c, rfl, g1, g2, l1⟩ := h0
    obtain ⟨B, d, rfl, g3, g4, l2⟩ := h1
    have L1 := hidd l1
    have L2 := hidd l2
    clear ha hb hgcd hB l1 l2
    by_cases hz : b = 0
    · subst hz
      have hl0 : (BM.digs 0).length = 0 := by rw [BM.digs_zero]; rfl
      go_wp2_with fail
      go_ret
      have h2 := HG.out
      rw [Nat.gcd_zero_right] at h2
      exact ⟨_, rfl, by rw [← h2]; exact H0.out, HBl.out⟩
    · have hpos : (0 : Int) < ((BM.digs b).length : Int) := by
        have : BM.digs b ≠ [] := fun h => hz (BM.digs_nil.1 h)
        have := List.length_pos_iff.2 this
        omega
      have hmod : a % b < b := Nat.mod_lt _ (by omega)
      have c1 := hidd (fun W h h' => cd.out a b HA.out HB.out (by omega) A B c d _ _ rfl rfl W h h')
      go_wp2_with fail
      refine (c1.out _ L1.out L2.out).mono ?_
      rintro e w1 ⟨q, r, rfl, hq, hr, hb1⟩
      have HR := hidd hr
      have HB1 := hidd hb1
      clear hq hr hb1
      go_wp2_with fail
      go_roundg (a % b + 1)
      case measure => omega
      case rel => exact ⟨b, a % b, by omega, HB.out, by have := HB.out; omega, by rw [Nat.gcd_comm, ← Nat.gcd_rec, Nat.gcd_comm]; exact HG.out, H1.out.below HB1.out, HR.out, below_step HBl.out HB1.out⟩
/-- a number of at most 63 bits; else no number is told. -/
def numR (x : Nat) : Int × Bool := if x < 9223372036854775808 then ((x : Int), true) else (0, false)
set_option maxHeartbeats 4000000 in
theorem number_big (x : Nat) (hx : x < 65536 ^ 16) (u : Value) (w : World) (hu : BigAt x w u) :
    Calls Try.prog 41 #[u] w fun e w' => (∃ k : Int, e = .returned (.tuple #[.int .i64 k, .bool (decide (x < 9223372036854775808))]) ∧ (x < 9223372036854775808 → k = (x : Int))) ∧ w' = w := by
  obtain ⟨A, c, rfl, g1, g2, hl⟩ := hu
  have HL := hidd hl
  have h16 := BM.len_le hx
  obtain ⟨n, hn⟩ : ∃ n, (BM.digs x).length = n := ⟨_, rfl⟩
  have HN := hidd hn
  rw [hn] at g1 h16 ⊢
  obtain ⟨bb, hbb⟩ : ∃ bb, decide (x < 9223372036854775808) = bb := ⟨_, rfl⟩
  rw [hbb]
  have HBB := hidd hbb
  clear hl hn hx hbb
  by_cases h4 : 4 < n
  · have hbig : bb = false := by
      rw [← HBB.out]
      refine decide_eq_false (fun h => ?_)
      have := BM.len_le (x := x) (k := 4) (by omega)
      rw [HN.out] at this
      omega
    subst hbig
    have hno : x < 9223372036854775808 → (0 : Int) = (x : Int) := fun h => absurd HBB.out (by simp [h])
    have HNO := hidd hno
    have h4' : (4 : Int) < (n : Int) := by omega
    clear hno
    go_enter Try.func41, Try.ntmps41
    go_wp2_with fail
    go_ret2
    exact ⟨⟨0, rfl, HNO.out⟩, rfl⟩
  · have h4' : ¬ (4 : Int) < (n : Int) := by omega
    go_enter Try.func41, Try.ntmps41
    go_wp2_with fail
    go_loopg [4, 5] (n + 1) (fun g s4 s5 wr => ∃ (k v : Nat), k ≤ n ∧ k < g ∧ s5 = .int .i64 ((k : Int) - 1) ∧ s4 = .int .u64 v ∧ v = BM.valD ((BM.digs x).drop k) ∧ v < 65536 ^ (n - k) ∧ wr = w)
    case atStart => exact ⟨n, 0, Nat.le_refl _, by omega, by first | rfl | simp, rfl, by rw [List.drop_eq_nil_of_le (by rw [HN.out]; omega)]; rfl, by simp, rfl⟩
    case round =>
      obtain ⟨k, v, hk, hg, rfl, rfl, hv, hlt, rfl⟩ := hrel
      have HV := hidd hv
      have HLT := hidd hlt
      clear hv hlt
      cases k with
      | zero =>
        have e : v = x := by rw [HV.out]; exact BM.valD_digs x
        have hv4 : v < 18446744073709551616 := by
          have := HLT.out
          have h2 : (65536 : Nat) ^ (n - 0) ≤ 65536 ^ 4 := Nat.pow_le_pow_right (by decide) (by omega)
          omega
        clear HV HLT HL HN
        subst e
        by_cases hs : v < 9223372036854775808
        · have hs1 : (v : Int) < 9223372036854775808 := by omega
          have hs2 : bb = true := by rw [← HBB.out]; exact decide_eq_true hs
          subst hs2
          have hw : IntKind.i64.wrap (v : Int) = (v : Int) := IntWalk.i64_in _ (by omega)
          go_wp2_with fail
          go_ret2
          exact ⟨⟨(v : Int), rfl, fun _ => rfl⟩, rfl⟩
        · have hs1 : ¬ (v : Int) < 9223372036854775808 := by omega
          have hs2 : bb = false := by rw [← HBB.out]; exact decide_eq_false hs
          subst hs2
          have HNS := hidd hs
          clear hs
          go_wp2_with fail
          go_ret2
          exact ⟨⟨_, rfl, fun h => absurd h HNS.out⟩, rfl⟩
      | succ j =>
        obtain ⟨ad, rfl, hb, x0⟩ := HL.out.digit j (by rw [HN.out]; omega)
        have hj2 : ((j + 1 : Nat) : Int) - 1 = (j : Int) := by omega
        rw [hj2]
        have hja : (0 : Int) ≤ (j : Int) := by omega
        have hjb : (j : Int) < (n : Int) := by omega
        have hstep : BM.valD ((BM.digs x).drop j) = BM.D (BM.digs x) j + 65536 * v := by
          rw [BM.drop_cons (by rw [HN.out]; omega), HV.out]; rfl
        have HST := hidd hstep
        have hd := BM.D_lt (BM.dig_digs x) j
        have hpw : v < 65536 ^ (n - (j + 1)) := HLT.out
        have hpw2 : v < 65536 ^ 3 := Nat.lt_of_lt_of_le hpw (Nat.pow_le_pow_right (by decide) (by omega))
        have hpn : (65536 : Nat) ^ (n - j) = 65536 ^ (n - (j + 1)) * 65536 := by rw [← Nat.pow_succ]; congr 1; omega
        have hnew : BM.D (BM.digs x) j + 65536 * v < 65536 ^ (n - j) := by rw [hpn]; omega
        have HNEW := hidd hnew
        have hv3 : v < 281474976710656 := by omega
        generalize BM.D (BM.digs x) j = dj at *
        clear hj2 hstep hpw hpw2 hpn hnew
        go_wp2_with fail
        go_roundg (j + 1)
        case measure => omega
        case rel => exact ⟨j, dj + 65536 * v, by omega, by omega, rfl, by congr 1; omega, HST.out.symm, HNEW.out, rfl⟩
end Go.Proofs.Ytgeankdimknmiaa
