/- The walk of CheckSeals: bytes with their sum, or that it can't stand there. -/
import Derived.Test.YtmpiobpgjlceaaaCkJ
namespace Go.Proofs.Ytmpiobpgjlceaaa
set_option linter.unusedVariables false
open Go.RowKit

set_option maxHeartbeats 4000000 in
theorem seals_walk (A : Option Addr) (L : List Int) (c : Nat) (at_ : Int) (hc : L.length ≤ c) (hm : c ≤ maxLen) (hb : Bytes L) (a0 : -9223372036854775808 ≤ at_) (a1 : at_ ≤ 9223372036854775807) (w : World) (hl : Lie byV 1 w w.heap.size A L) :
    Calls Try.prog 4 #[.slice A L.length c, .int .i64 at_] w fun e w' => e = .returned (.bool true) ∧ Below w.heap.size w w' := by
  have ck := hidd (fun W => known_any W)
  by_cases hlen : L.length ≤ 2000
  · have cs := hidd (fun W h => Seal_any A L c at_ a0 a1 (by omega) hb W h)
    have cr := hidd (fun W h => refSeal_any A L c at_ a0 a1 (by omega) hb W h)
    have cv := hidd (fun W B h => conv_any A L L.length c rfl W B h)
    have cv2 := hidd (fun g cap n l W B (hn : l.length = n) h => conv_any (some ⟨g, 0, none⟩) l n cap hn W B h)
    have cv3 := hidd (fun W => conv_any none [] 0 0 rfl W 0 Lie.nil)
    have HL := hidd hl
    have h1 : ¬ ((L.length : Int) > 2000) := by omega
    have k0 := cv.out _ _ hl
    have hsl := hidd (sealL_len L at_.toNat)
    clear hl hb hlen
    go_enter Try.func4, Try.ntmps4
    go_wp2_with fail
    refine (cs.out _ HL.out).mono ?_
    rintro e w1 (⟨hok, g, cap, rfl, hO, hB⟩ | ⟨hok, rfl, hB⟩)
    · have HO := hidd hO
      have HB := hidd hB
      clear hO hB k0
      go_wp2_with fail
      refine (cr.out _ (HL.out.below HB.out)).mono ?_
      rintro e w2 (⟨_, g', cap', rfl, hO', hB'⟩ | ⟨h, _⟩)
      rotate_left
      · exact absurd hok h
      have HO2 := hidd (HO.out.below hB')
      have HO' := hidd hO'
      have HB2 := hidd (below_step HB.out hB')
      have HL2 := hidd (HL.out.below HB2.out)
      clear hO' hB'
      have k1 := cv.out _ _ HL2.out
      have k2 := cv2.out g cap L.length _ _ _ hsl.out HO2.out.lieAt
      have k3 := cv2.out g' cap' L.length _ _ _ hsl.out HO'.out.lieAt
      have hab := hidd hok
      clear hok
      go_wp2_with fail
      refine (ck.out _).mono ?_
      rintro e w3 ⟨rfl, hb3⟩
      have HB3 := hidd (below_step HB2.out hb3)
      clear hb3
      go_wp2_with fail
      go_ret
      exact ⟨rfl, HB3.out⟩
    · have HB := hidd hB
      clear hB k0
      go_wp2_with fail
      refine (cr.out _ (HL.out.below HB.out)).mono ?_
      rintro e w2 (⟨h, _⟩ | ⟨_, rfl, hB'⟩)
      · exact absurd h hok
      have HB2 := hidd (below_step HB.out hB')
      have HL2 := hidd (HL.out.below HB2.out)
      clear hB'
      have k1 := cv.out _ _ HL2.out
      have k2 := cv3.out w2
      have hab := hidd hok
      clear hok
      go_wp2_with fail
      refine (ck.out _).mono ?_
      rintro e w3 ⟨rfl, hb3⟩
      have HB3 := hidd (below_step HB2.out hb3)
      clear hb3
      go_wp2_with fail
      go_ret
      exact ⟨rfl, HB3.out⟩
  · have h1 : (L.length : Int) > 2000 := by omega
    clear hlen hl hb
    go_enter Try.func4, Try.ntmps4
    go_wp2_with fail
    refine (ck.out _).mono ?_
    rintro e w2 ⟨rfl, hb2⟩
    go_wp2_with fail
    go_ret
    exact ⟨rfl, hb2⟩
end Go.Proofs.Ytmpiobpgjlceaaa
