/- The walk of CurveMakes: the curve of any lines, or why there is none. -/
import Derived.Test.YtjifbcbbnjpcjaaCwG
import Derived.Test.YtjifbcbbnjpcjaaCvX
namespace Go.Proofs.Ytjifbcbbnjpcjaa
set_option linter.unusedVariables false
open Go.RowKit Go.Proofs.Ytjifbcbbnjpcjaa.RowK

set_option maxRecDepth 100000 in
set_option maxHeartbeats 4000000 in
theorem made_any (ok : Bool) (A : Option Addr) (L : List (Int × Int)) (c : Nat) (hL : L.length ≤ 60) (h0 : 0 < L.length) (hm : MayAll L) (hok : ok = true ↔ (CM.low L).length ≤ 32) (w : World) (hA : Lie sendV 2 w w.heap.size A L) :
    Calls Try.prog 10 #[.slice A L.length c] w (MakeEnd L (if ok then CM.low L else []) (if ok then 0 else 3) w) := by
  have cl := hidd (least_ref A L c hL h0 hm w hA)
  have HMR := hidd (may_low hm)
  have HOK := hidd hok
  have hlen : (CM.low L).length ≤ 1000000 := Nat.le_trans (CM.low_len L) (by omega)
  clear hok hm hA hL
  unfold MakeEnd
  generalize CM.low L = R at *
  go_enter Try.func10, Try.ntmps10
  go_wp2_with fail
  refine cl.out.mono ?_
  rintro e w1 ⟨v1, rfl, hO, hb1⟩
  obtain ⟨A1, c1, rfl, _, _, hl1⟩ := hO.lie sendV_len
  have HL1 := hidd hl1
  have HB1 := hidd hb1
  have HO1 := hidd hO
  clear hl1 hb1 hO cl
  go_wp2_with fail
  go_loopg [5] (R.length + 1) (fun g s5 wr => ∃ i : Nat, i ≤ R.length ∧ i + g = R.length + 1 ∧ s5 = .int .i64 (i : Int) ∧ Below w1.heap.size w1 wr)
  case atStart => exact ⟨0, by omega, by omega, by first | rfl | simp, Below.refl _ _⟩
  case round =>
    obtain ⟨i, hi1, hg, rfl, hB⟩ := hrel
    have HG := hidd hg
    have HB := hidd hB
    clear hg hB
    by_cases hlt : i < R.length
    · obtain ⟨ad, rfl, hab, y0, y1⟩ := (HL1.out.below HB.out).send i hlt
      have hmi := HMR.out i hlt
      rw [(av_at hlt).1] at y0
      rw [(av_at hlt).2] at y1
      have cm := fun W => refMay_any (SM.av R i) (SM.sv R i) W
      rw [show mayB (SM.av R i, SM.sv R i) = true from hmi] at cm
      have CMM := hidd cm
      have hin2 : (i : Int) < (R.length : Int) := by omega
      have hi0 : (0 : Int) ≤ (i : Int) := by omega
      clear hmi cm
      generalize SM.av R i = p at *
      generalize SM.sv R i = q at *
      go_wp2_with fail
      refine (CMM.out _).mono ?_
      rintro e w2 ⟨rfl, hb2⟩
      have HB2 := hidd (below_step HB.out hb2)
      clear hb2
      go_wp2_with fail
      have hg := HG.out
      go_roundg (gk - 1)
      case measure => omega
      case rel => exact ⟨i + 1, by omega, by omega, by go_num, HB2.out⟩
    · obtain rfl : i = R.length := by omega
      cases ok
      · have hn : ¬ R.length ≤ 32 := fun h => absurd (HOK.out.2 h) Bool.false_ne_true
        have hn2 : (32 : Int) < (R.length : Int) := by omega
        have hn3 : 32 < R.length := by omega
        clear hn
        go_wp2_with fail
        go_ret2
        exact ⟨_, rfl, OwnL.nil _ _ _, below_step HB1.out HB.out⟩
      · have hn : R.length ≤ 32 := HOK.out.1 rfl
        have hn2 : ¬ (32 : Int) < (R.length : Int) := by omega
        have hn3 : ¬ 32 < R.length := by omega
        clear hn
        go_wp2_with fail
        go_ret2
        exact ⟨_, rfl, HO1.out.below HB.out, below_step HB1.out HB.out⟩
end Go.Proofs.Ytjifbcbbnjpcjaa
