/- The walk of CheckFlips: sealed bytes are right; with one bit turned they are not. -/
import Derived.Test.YtmpiobpgjlceaaaCkJ
import Derived.Test.YtmpiobpgjlceaaaCkP
namespace Go.Proofs.Ytmpiobpgjlceaaa
set_option linter.unusedVariables false
open Go.RowKit

theorem sealed_facts {M : List Int} (hb : Bytes M) {at_ : Int} (hok : SealOk M at_) : ∃ S, sealL M at_.toNat = S ∧ Hid (S.length = M.length) ∧ Hid (Bytes S) ∧ Hid (sumR S = 0) := by
  obtain ⟨o0, o1, o2⟩ := hok
  exact ⟨_, rfl, hidd (sealL_len M _), hidd (sealL_bytes hb _), hidd (sealed_right hb (by omega) (by omega))⟩
/-- the part of the walk behind Seal's answer. -/
def Flip (S : List Int) (g cap n : Nat) : Prop := True
theorem bit_parts {bit : Int} {n : Nat} (h0 : 0 ≤ bit) (h1 : bit < 8 * n) : ∃ k j : Nat, bit = 8 * k + j ∧ j < 8 ∧ k < n ∧ bit.tdiv 8 = k ∧ bit.tmod 8 = j := by
  obtain ⟨b, rfl⟩ := Int.eq_ofNat_of_zero_le h0
  refine ⟨b / 8, b % 8, by omega, by omega, by omega, ?_, ?_⟩
  · rw [Int.tdiv_eq_ediv_of_nonneg (by omega)]; omega
  · rw [Int.tmod_eq_emod_of_nonneg (by omega)]; omega
theorem wrap_pow {j : Nat} (h : j < 8) : IntKind.u8.wrap (2 ^ j) = 2 ^ j := by
  have : ∀ j, j < 8 → IntKind.u8.wrap (2 ^ j) = 2 ^ j := by decide
  exact this j h
set_option maxHeartbeats 4000000 in
theorem flips_walk (A : Option Addr) (L : List Int) (c : Nat) (at_ bit : Int) (hc : L.length ≤ c) (hm : c ≤ maxLen) (hb : Bytes L) (a0 : -9223372036854775808 ≤ at_) (a1 : at_ ≤ 9223372036854775807) (b0 : -9223372036854775808 ≤ bit) (b1 : bit ≤ 9223372036854775807) (w : World) (hl : Lie byV 1 w w.heap.size A L) :
    Calls Try.prog 5 #[.slice A L.length c, .int .i64 at_, .int .i64 bit] w fun e w' => e = .returned (.bool true) ∧ Below w.heap.size w w' := by
  have ck := hidd (fun W => known_any W)
  by_cases hlen : L.length ≤ 2000
  · have hml : L.length / 2 * 2 ≤ L.length := by omega
    have hT : (L.take (L.length / 2 * 2)).length = L.length / 2 * 2 := by rw [List.length_take]; omega
    have hbT : Bytes (L.take (L.length / 2 * 2)) := fun x hx => hb x (List.mem_of_mem_take hx)
    have hlT := hl.takeB (L.length / 2 * 2)
    generalize L.take (L.length / 2 * 2) = M at *
    have cs := hidd (fun A c W h => Seal_any A M c at_ a0 a1 (by omega) hbT W h)
    have cf := hidd (fun (hok : SealOk M at_) => sealed_facts hbT hok)
    have HL := hidd hlT
    have h1 : ¬ ((L.length : Int) > 2000) := by omega
    have HLM := hidd (show M.length ≤ 2000 by omega)
    rw [hT] at cs
    clear hlT hl hb hT hbT hml hlen
    go_enter Try.func5, Try.ntmps5
    go_wp2_with fail
    refine (cs.out _ _ _ HL.out).mono ?_
    rintro e w1 (⟨hok, g, cap, rfl, hO, hB⟩ | ⟨hok, rfl, hB⟩)
    · obtain ⟨S, hS, HSL, HSB, HSR⟩ := cf.out hok
      rw [hS] at hO
      have HO := hidd hO
      have HB := hidd hB
      clear hO hB hS cf hok cs HL h1
      generalize M.length = n at *
      have HR : Hid (∀ W, Lie byV 1 W W.heap.size (some ⟨g, 0, none⟩) S → Calls Try.prog 19 #[.slice (some ⟨g, 0, none⟩) n cap] W fun e w' => e = .returned (.bool true) ∧ Below W.heap.size W w') := by
        intro W h
        have := Right_any (some ⟨g, 0, none⟩) S cap (by rw [HSL.out]; have := HLM.out; omega) HSB.out W h
        rw [HSR.out, HSL.out] at this
        exact this
      have hn : n ≤ 2000 := HLM.out
      have q8 : IntKind.i64.wrap (8 * (n : Int)) = 8 * (n : Int) := IntWalk.i64_in _ (by omega)
      go_wp2_with fail
      refine (HR.out _ HO.out.lieAt).mono ?_
      rintro e w2 ⟨rfl, hb2⟩
      have HO2 := hidd (HO.out.below hb2)
      have HB2 := hidd (below_step HB.out hb2)
      have hgw := (HO2.out.lt g rfl).1
      have HGW := hidd hgw
      clear hb2 HO HB HR hgw
      rcases Int.lt_or_le bit 0 with hc1 | hc1
      · clear HO2 HSB HSR HSL HLM HGW
        go_wp2_with fail
        refine (ck.out _).mono ?_
        rintro e w3 ⟨rfl, hb3⟩
        have HB3 := hidd (below_step HB2.out hb3)
        clear hb3
        go_wp2_with fail
        go_ret
        exact ⟨rfl, HB3.out⟩
      rcases Int.lt_or_le bit (8 * n) with hc2 | hc2
      rotate_left
      · have hc3 : ¬ bit < 0 := by omega
        have hc4 : bit ≥ 8 * n := by omega
        clear HO2 HSB HSR HSL HLM HGW hc1 hc2
        go_wp2_with fail
        refine (ck.out _).mono ?_
        rintro e w3 ⟨rfl, hb3⟩
        have HB3 := hidd (below_step HB2.out hb3)
        clear hb3
        go_wp2_with fail
        go_ret
        exact ⟨rfl, HB3.out⟩
      obtain ⟨k, j, hbit, hj, hk, t1, t2⟩ := bit_parts hc1 hc2
      have t3 : bit / 8 = (k : Int) := by omega
      have t4 : bit % 8 = (j : Int) := by omega
      clear hbit
      have hkS : k < S.length := by rw [HSL.out]; exact hk
      obtain ⟨x0, f0⟩ := HO2.out.byteAt k hkS
      have hx := HSB.out _ (av_mem hkS)
      obtain ⟨y, d, e1, hy, e2, e3⟩ := flip_byte _ hx j hj
      have HN := hidd (flip_wrong HSB.out HSR.out hkS hj hy e2 e3)
      have HO3 := hidd (HO2.out.set k hkS y)
      have HB3 := hidd (HB2.out.setCell (p := ⟨g, k, none⟩) HGW.out (.int .u8 y))
      have HR2 := hidd (fun W h => Right_any (some ⟨g, 0, none⟩) (S.set k y) cap (by rw [List.length_set, HSL.out]; omega) (set_bytes HSB.out k hy) W h)
      have e4 : (sumR (S.set k y) == 0) = false := by simpa using HN.out
      rw [List.length_set, HSL.out, e4] at HR2
      have hw := wrap_pow hj
      have c1 : ¬ (bit < 0) := by omega
      have c2 : ¬ (bit ≥ 8 * n) := by omega
      have hj2 : (j : Int) < 8 := by omega
      have hkn : (k : Int) < n := by omega
      generalize av S k = x at *
      clear hx hy e2 e3 e4 HN HO2 HSB HSR HSL HLM HGW hc1 hc2 HB2
      go_wp2_with fail
      go_region
      all_goals go_wp2_with fail
      all_goals refine (HR2.out _ HO3.out.drew.lieAt).mono ?_
      all_goals rintro e w3 ⟨rfl, hb3⟩
      all_goals have HB4 := hidd (below_step HB3.out.drew hb3)
      all_goals clear hb3
      all_goals go_wp2_with fail
      all_goals refine (ck.out _).mono ?_
      all_goals rintro e w4 ⟨rfl, hb4⟩
      all_goals have HB5 := hidd (below_step HB4.out hb4)
      all_goals clear hb4
      all_goals go_wp2_with fail
      all_goals go_ret
      all_goals exact ⟨rfl, HB5.out⟩
    · have HB := hidd hB
      clear hB cs cf hok HL h1
      go_wp2_with fail
      refine (ck.out _).mono ?_
      rintro e w3 ⟨rfl, hb3⟩
      have HB3 := hidd (below_step HB.out hb3)
      clear hb3
      go_wp2_with fail
      go_ret
      exact ⟨rfl, HB3.out⟩
  · have h1 : (L.length : Int) > 2000 := by omega
    clear hlen hl hb
    go_enter Try.func5, Try.ntmps5
    go_wp2_with fail
    refine (ck.out _).mono ?_
    rintro e w2 ⟨rfl, hb2⟩
    go_wp2_with fail
    go_ret
    exact ⟨rfl, hb2⟩
end Go.Proofs.Ytmpiobpgjlceaaa
