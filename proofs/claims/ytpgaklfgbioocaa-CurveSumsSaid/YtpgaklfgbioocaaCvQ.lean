/- Curves: what is too long; the curve of lines; the least rate. -/
import Derived.Test.YtpgaklfgbioocaaCvP
namespace Go.Proofs.Ytpgaklfgbioocaa
set_option linter.unusedVariables false
open Go.RowKit Go.Proofs.Ytpgaklfgbioocaa.RowK

def boundP (L : List (Int × Int)) : Prop := L.length ≤ 32 ∧ SM.sv L 0 ≤ 1000000000 ∧ SM.av L (L.length - 1) ≤ 1000000000
set_option maxHeartbeats 2000000 in
theorem bounded_any (A : Option Addr) (L : List (Int × Int)) (c : Nat) (hL : L.length ≤ 1000000) (h0 : 0 < L.length) (w : World) (hA : Lie sendV 2 w w.heap.size A L) :
    (boundP L → Calls Try.prog 22 #[.slice A L.length c] w fun e w' => e = .returned (.tuple #[.slice A L.length c, .int .i64 0]) ∧ w' = w) ∧
    (¬ boundP L → Calls Try.prog 22 #[.slice A L.length c] w fun e w' => e = .returned (.tuple #[.slice none 0 0, .int .i64 3]) ∧ w' = w) := by
  obtain ⟨ad, rfl, hb, x0, x1⟩ := hA.send 0 h0
  obtain ⟨m, hm⟩ : ∃ m, L.length = m + 1 := ⟨L.length - 1, by omega⟩
  obtain ⟨ad', e', _, y0, y1⟩ := hA.send m (by omega)
  injection e' with e'
  subst e'
  rw [(av_at h0).2] at x1
  rw [(av_at (show m < L.length by omega)).1] at y0
  have hbp : boundP L ↔ ((m : Int) + 1 ≤ 32 ∧ SM.sv L 0 ≤ 1000000000 ∧ SM.av L m ≤ 1000000000) := by
    unfold boundP
    rw [hm, Nat.add_sub_cancel]
    constructor
    · rintro ⟨h1, h2, h3⟩; exact ⟨by omega, h2, h3⟩
    · rintro ⟨h1, h2, h3⟩; exact ⟨by omega, h2, h3⟩
  have e0 : ad.add (0 * 2) = ad := by simp [Addr.add]
  rw [e0] at x0 x1
  have hm1 : IntKind.i64.wrap ((m : Int) + 1 - 1) = (m : Int) := by rw [IntWalk.i64_in _ (by omega)]; omega
  have hm2 : (0 : Int) ≤ (m : Int) := by omega
  have hm3 : (m : Int) < (m : Int) + 1 := by omega
  have hm4 : (0 : Int) < (m : Int) + 1 := by omega
  have hm5 : IntKind.i64.wrap (m : Int) = (m : Int) := IntWalk.i64_in _ (by omega)
  have hm6 : (m : Int) ≤ 1000000 := by omega
  rw [hm]
  rw [hbp]
  clear hbp hA hm h0 hL x0 y1 e0
  generalize SM.sv L 0 = r at *
  generalize SM.av L m = b at *
  by_cases h1 : (m : Int) + 1 ≤ 32
  · by_cases h2 : r ≤ 1000000000
    · by_cases h3 : b ≤ 1000000000
      · refine ⟨fun _ => ?_, fun h => absurd ⟨h1, h2, h3⟩ h⟩
        go_enter Try.func22, Try.ntmps22
        go_wp2_with fail
        go_ret2
        exact ⟨rfl, rfl⟩
      · refine ⟨fun h => absurd h.2.2 h3, fun _ => ?_⟩
        have h3' : 1000000000 < b := by omega
        go_enter Try.func22, Try.ntmps22
        go_wp2_with fail
        go_ret2
        exact ⟨rfl, rfl⟩
    · refine ⟨fun h => absurd h.2.1 h2, fun _ => ?_⟩
      have h2' : 1000000000 < r := by omega
      go_enter Try.func22, Try.ntmps22
      go_wp2_with fail
      go_ret2
      exact ⟨rfl, rfl⟩
  · refine ⟨fun h => absurd h.1 h1, fun _ => ?_⟩
    have h1' : (32 : Int) < (m : Int) + 1 := by omega
    go_enter Try.func22, Try.ntmps22
    go_wp2_with fail
    go_ret2
    exact ⟨rfl, rfl⟩
theorem may_bound {L : List (Int × Int)} (hm : MayAll L) (h0 : 0 < L.length) (h32 : L.length ≤ 32) : boundP L := by
  have h1 := mayB_iff (hm 0 h0)
  have h2 := mayB_iff (hm (L.length - 1) (by omega))
  simp only at h1 h2
  exact ⟨h32, h1.2.2.2, h2.2.1⟩
theorem may_low {L : List (Int × Int)} (hm : MayAll L) : MayAll (CM.low L) := fun i hi => by
  have h := CM.low_mem (List.getElem_mem hi)
  obtain ⟨k, hk, e⟩ := List.mem_iff_getElem.1 h
  have := hm k hk
  rw [← (av_at hk).1, ← (av_at hk).2, e, (av_at hi).1, (av_at hi).2] at this
  exact this
theorem low_pos {L : List (Int × Int)} (h0 : 0 < L.length) : 0 < (CM.low L).length := (CM.low_nrm (fun e => by rw [e] at h0; simp at h0)).1
/-- what Make tells, of lines L: the curve; or an error's number. -/
def MakeEnd (L R : List (Int × Int)) (no : Int) (w : World) (e : Ending) (w' : World) : Prop :=
  ∃ v, e = .returned (.tuple #[v, .int .i64 no]) ∧ OwnL sendV 2 w' w.heap.size 44 v R ∧ Below w.heap.size w w'
theorem make_bad (A : Option Addr) (L : List (Int × Int)) (c : Nat) (hL : L.length ≤ 1000000) (w : World) (hA : Lie sendV 2 w w.heap.size A L) (hn : ¬ (MayAll L ∧ 0 < L.length)) :
    Calls Try.prog 17 #[.slice A L.length c] w (MakeEnd L [] 2 w) := by
  unfold MakeEnd
  by_cases h0 : L.length = 0
  · rw [h0]
    clear hn h0 hA
    go_enter Try.func17, Try.ntmps17
    go_wp2_with fail
    go_ret2
    exact ⟨_, rfl, OwnL.nil _ _ _, Below.refl _ _⟩
  · have cc := hidd (conL_any A L c hL w hA)
    have hm : ¬ MayAll L := fun h => hn ⟨h, by omega⟩
    have HM := hidd hm
    have h2 : ((L.length : Int) == 0) = false := beq_eq_false_iff_ne.2 (by omega)
    clear hn h0 hA hm
    go_enter Try.func17, Try.ntmps17
    go_wp2_with fail
    refine cc.out.mono ?_
    rintro e w1 ⟨R, rfl, hR, hb1⟩
    obtain rfl : R = true := hR.2 HM.out
    clear hR
    go_wp2_with fail
    go_ret2
    exact ⟨_, rfl, OwnL.nil _ _ _, hb1⟩
theorem make_good (A : Option Addr) (L : List (Int × Int)) (c : Nat) (hL : L.length ≤ 1000000) (w : World) (hA : Lie sendV 2 w w.heap.size A L) (hm : MayAll L) (h0 : 0 < L.length) :
    ((CM.low L).length ≤ 32 → Calls Try.prog 17 #[.slice A L.length c] w (MakeEnd L (CM.low L) 0 w)) ∧ (¬ (CM.low L).length ≤ 32 → Calls Try.prog 17 #[.slice A L.length c] w (MakeEnd L [] 3 w)) := by
  have cc := hidd (conL_any A L c hL w hA)
  have h2 : ((L.length : Int) == 0) = false := beq_eq_false_iff_ne.2 (by omega)
  have HA := hidd hA
  have cl := hidd (fun (W : World) (hW : Lie sendV 2 W W.heap.size A L) => lowest_any (some ⟨W.heap.size, 0, none⟩) 1 [(.slice A L.length c, L)] (by simp) (by simp; omega) (by rw [allLines_one]; omega) (by rw [allLines_one]; exact fun e => by rw [e] at h0; simp at h0) (by rw [allLines_one]; exact hm.ok) _ (curves_one hW 25))
  have hml := may_low hm
  have hpl := low_pos h0
  have hll := CM.low_len L
  have HM := hidd hm
  have cb := hidd (fun A2 c2 W (hW : Lie sendV 2 W W.heap.size A2 (CM.low L)) => bounded_any A2 (CM.low L) c2 (by omega) hpl W hW)
  have hbd : (CM.low L).length ≤ 32 ↔ boundP (CM.low L) := ⟨fun h => may_bound hml hpl h, fun h => h.1⟩
  have HBD := hidd hbd
  clear hA hm h0 hml hpl hll hbd
  constructor
  · intro h32
    have hbp := HBD.out.1 h32
    have HBP := hidd hbp
    clear h32 hbp
    unfold MakeEnd
    go_enter Try.func17, Try.ntmps17
    go_wp2_with fail
    refine cc.out.mono ?_
    rintro e w1 ⟨R, rfl, hR, hb1⟩
    obtain rfl : R = false := by cases R; rfl; exact absurd HM.out (hR.1 rfl)
    have ck := hidd (cl.out w1 (HA.out.below hb1))
    rw [allLines_one] at ck
    have HB1 := hidd hb1
    clear hR cl hb1
    go_wp2_with fail
    refine ck.out.mono ?_
    rintro e w2 ⟨v, rfl, hO, hb2⟩
    have hb3 := below_step (below_new HB1.out (.cells #[.slice A L.length c] 25)) hb2
    have HB3 := hidd hb3
    obtain ⟨A2, c2, rfl, _, _, hl2⟩ := hO.lie sendV_len
    have ce := hidd ((cb.out A2 c2 w2 hl2).1 HBP.out)
    have HO := hidd (hO.base (by have := HB1.out.size; simp; omega) : OwnL sendV 2 w2 w.heap.size 44 _ _)
    clear hO hl2 hb2 hb3 cb
    go_wp2_with fail
    refine ce.out.mono ?_
    rintro e w3 ⟨rfl, rfl⟩
    go_wp2_with fail
    go_ret2
    exact ⟨_, rfl, HO.out, HB3.out⟩
  · intro h32
    have hbp : ¬ boundP (CM.low L) := fun h => h32 (HBD.out.2 h)
    have HBP := hidd hbp
    clear h32 hbp
    unfold MakeEnd
    go_enter Try.func17, Try.ntmps17
    go_wp2_with fail
    refine cc.out.mono ?_
    rintro e w1 ⟨R, rfl, hR, hb1⟩
    obtain rfl : R = false := by cases R; rfl; exact absurd HM.out (hR.1 rfl)
    have ck := hidd (cl.out w1 (HA.out.below hb1))
    rw [allLines_one] at ck
    have HB1 := hidd hb1
    clear hR cl hb1
    go_wp2_with fail
    refine ck.out.mono ?_
    rintro e w2 ⟨v, rfl, hO, hb2⟩
    have hb3 := below_step (below_new HB1.out (.cells #[.slice A L.length c] 25)) hb2
    have HB3 := hidd hb3
    obtain ⟨A2, c2, rfl, _, _, hl2⟩ := hO.lie sendV_len
    have ce := hidd ((cb.out A2 c2 w2 hl2).2 HBP.out)
    clear hO hl2 hb2 hb3 cb
    go_wp2_with fail
    refine ce.out.mono ?_
    rintro e w3 ⟨rfl, rfl⟩
    go_wp2_with fail
    go_ret2
    exact ⟨_, rfl, OwnL.nil _ _ _, HB3.out⟩
end Go.Proofs.Ytpgaklfgbioocaa
