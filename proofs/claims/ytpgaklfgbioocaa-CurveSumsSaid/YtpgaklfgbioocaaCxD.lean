/- curve.Sum, of curves that may be: all together, one behind the other. -/
import Derived.Test.YtpgaklfgbioocaaCxC
import Derived.Test.YtpgaklfgbioocaaCwB
namespace Go.Proofs.Ytpgaklfgbioocaa
set_option linter.unusedVariables false
open Go.RowKit Go.Proofs.Ytpgaklfgbioocaa.RowK

instance (L : List (Int × Int)) : Decidable (boundP L) := by unfold boundP; infer_instance
theorem tog_rgt {L M : List (Int × Int)} (hL : RgtC L) (hM : RgtC M) (hb : boundP (CM.tog L M)) : RgtC (CM.tog L M) := by
  have hn := CM.tog_nrm hL.2.2 hM.2.2
  obtain ⟨b1, b2, b3⟩ := hb
  refine ⟨⟨hn.1, b1⟩, fun i hi => ?_, hn⟩
  have m1 := CM.nrm_mono hn.2 ((CM.tog L M).length - 1 - i) i (by omega)
  have m2 := CM.nrm_mono hn.2 i 0 (by omega)
  have e : i + ((CM.tog L M).length - 1 - i) = (CM.tog L M).length - 1 := by omega
  rw [e] at m1
  rw [Nat.zero_add] at m2
  obtain ⟨a, b, ha, hb, hx⟩ := CM.tog_mem hL.2.2 hM.2.2 _ (List.getElem_mem hi)
  have g := CM.at_get hi
  rw [hx] at g
  have u := mayB_iff (hL.2.1 a ha)
  have v := mayB_iff (hM.2.1 b hb)
  unfold CM.pr at g
  simp only at u v g
  refine decide_eq_true ?_
  simp only
  omega
def sumL : List (Int × Int) → List (List (Int × Int)) → Option (List (Int × Int))
  | T, [] => some T
  | T, c :: cs => if boundP (CM.tog T c) then sumL (CM.tog T c) cs else none
theorem sumL_cons (T c : List (Int × Int)) (cs : List (List (Int × Int))) : sumL T (c :: cs) = if boundP (CM.tog T c) then sumL (CM.tog T c) cs else none := rfl
def Caps (cs : List Crv) : Prop := ∀ c ∈ cs, ∃ A k, c.1 = .slice A c.2.length k ∧ c.2.length ≤ k ∧ k ≤ maxLen
theorem rgt_zero : RgtC [(0, 0)] := ⟨⟨by simp, by simp⟩, fun i hi => by
  obtain rfl : i = 0 := by simp at hi; omega
  decide, by simp, fun i h1 h2 => absurd h2 (by simp; omega)⟩
theorem drop_next (cs : List Crv) (i : Nat) (h : i < cs.length) : (cs.map (·.2)).drop i = (cs[i]).2 :: (cs.map (·.2)).drop (i + 1) := by
  rw [List.drop_eq_getElem_cons (by simpa using h)]
  simp
/-- together, of curves in any slices. -/
theorem together_two (A B : Option Addr) (L M : List (Int × Int)) (c d : Nat) (hL : RgtC L) (hM : RgtC M) (hc : L.length ≤ c) (hcm : c ≤ maxLen) (hd : M.length ≤ d) (hdm : d ≤ maxLen) (w : World) (hA : Lie sendV 2 w w.heap.size A L) (hB : Lie sendV 2 w w.heap.size B M) :
    Calls Try.prog 24 #[.slice A L.length c, .slice B M.length d] w fun e w' => ∃ v, e = .returned v ∧ OwnL sendV 2 w' w.heap.size 44 v (CM.tog L M) ∧ Below w.heap.size w w' := by
  obtain ⟨ad, rfl, _⟩ := hA hL.1.1
  obtain ⟨bd, rfl, _⟩ := hB hM.1.1
  exact together_any ad bd L M c d hL hM hc hcm hd hdm w hA hB
def SumEnd (cs : List Crv) (w : World) (e : Ending) (w' : World) : Prop :=
  (∃ T v, sumL [(0, 0)] (cs.map (·.2)) = some T ∧ RgtC T ∧ e = .returned (.tuple #[v, .int .i64 0]) ∧ OwnL sendV 2 w' w.heap.size 44 v T ∧ Below w.heap.size w w') ∨
  (sumL [(0, 0)] (cs.map (·.2)) = none ∧ e = .returned (.tuple #[.slice none 0 0, .int .i64 3]) ∧ Below w.heap.size w w')
set_option maxRecDepth 100000 in
set_option maxHeartbeats 8000000 in
theorem sum_good (A : Option Addr) (k : Nat) (cs : List Crv) (h0 : 0 < cs.length) (hlen : cs.length ≤ 1000000) (hlen2 : ∀ c ∈ cs, c.2.length ≤ 1000000) (hcap : Caps cs) (w : World) (hC : Curves w w.heap.size A cs) (hR : AllR cs) :
    Calls Try.prog 8 #[.slice A cs.length k] w (SumEnd cs w) := by
  have cc := hidd (areNone_any A k cs h0 hlen hlen2 w hC)
  have HC := hidd hC
  have HR := hidd hR
  have HCAP := hidd hcap
  have ct := hidd (fun A B L M c d hL hM hc hcm hd hdm W hA hB => together_two A B L M c d hL hM hc hcm hd hdm W hA hB)
  have cb := hidd (fun A2 (Z : List (Int × Int)) c2 hz hp W (hW : Lie sendV 2 W W.heap.size A2 Z) => bounded_any A2 Z c2 hz hp W hW)
  unfold MayEnd at cc
  clear hC hR hlen2 hcap h0
  go_enter Try.func8, Try.ntmps8
  go_wp2_with fail
  refine cc.out.mono ?_
  rintro e w1 ⟨R, rfl, hR, hb1⟩
  obtain rfl : R = false := by cases R; rfl; exact absurd HR.out (hR.1 rfl)
  have HB1 := hidd (below_new hb1 (.cells #[.int .i64 0, .int .i64 0] 44))
  have HO1 := hidd (own_one w1 w.heap.size hb1.size 44 0 0)
  clear hR hb1 cc
  go_wp2_with fail
  go_loopg [4, 5, 14] (cs.length + 2) (fun g s4 s5 s14 wr => ∃ (i : Nat) (T : List (Int × Int)), i ≤ cs.length ∧ i + g = cs.length + 2 ∧ s14 = .int .i64 (i : Int) ∧ s5 = .int .i64 0 ∧ OwnL sendV 2 wr w.heap.size 44 s4 T ∧ RgtC T ∧ sumL [(0, 0)] (cs.map (·.2)) = sumL T ((cs.map (·.2)).drop i) ∧ Below w.heap.size w wr)
  case atStart => exact ⟨0, [(0, 0)], by omega, by omega, rfl, rfl, HO1.out, rgt_zero, by rw [List.drop_zero], HB1.out⟩
  case round =>
    obtain ⟨i, T, hi1, hg, rfl, rfl, hO, hT, hs, hB⟩ := hrel
    have HG := hidd hg
    have HO := hidd hO
    have HT := hidd hT
    have HS := hidd hs
    have HB := hidd hB
    clear hg hO hT hs hB
    by_cases hin : i < cs.length
    · have hin2 : (i : Int) < (cs.length : Int) := by omega
      have hi0 : (0 : Int) ≤ (i : Int) := by omega
      obtain ⟨ad, rfl, ha, x0⟩ := (HC.out.keep HB.out).at_ i hin
      obtain ⟨A1, k1, e1, hk1, hk2⟩ := HCAP.out (cs[i]) (List.getElem_mem hin)
      obtain ⟨A2, k2, e2, hl⟩ := (HC.out.keep HB.out).2 (cs[i]) (List.getElem_mem hin)
      rw [e1] at e2
      injection e2 with e3 e4 e5
      subst e3
      subst e5
      rw [e1] at x0
      obtain ⟨B5, k5, rfl, hb5, hb6, hl5⟩ := HO.out.lie sendV_len
      have hM : RgtC (cs[i]).2 := HR.out i hin
      have CT := hidd (ct.out B5 A1 T (cs[i]).2 k5 k1 HT.out hM hb5 hb6 hk1 hk2 wr hl5 (hl.more HB.out.size))
      have hds := drop_next cs i hin
      have hs2 := HS.out
      rw [hds, sumL_cons] at hs2
      have HS2 := hidd hs2
      have htl := CM.tog_len T (cs[i]).2
      have htr := fun hb => tog_rgt HT.out hM hb
      have hTl := HT.out.1.2
      have hMl := hM.1.2
      obtain ⟨M, hMe⟩ : ∃ M, (cs[i]).2 = M := ⟨_, rfl⟩
      rw [hMe] at CT HS2 htl htr hMl x0
      obtain ⟨n1, hn1⟩ : ∃ n1, M.length = n1 := ⟨_, rfl⟩
      rw [hn1] at CT htl hMl x0
      obtain ⟨n2, hn2⟩ : ∃ n2, T.length = n2 := ⟨_, rfl⟩
      rw [hn2] at CT htl hTl ⊢
      obtain ⟨Z, hZ⟩ : ∃ Z, CM.tog T M = Z := ⟨_, rfl⟩
      have hZ0 : 0 < Z.length := by rw [← hZ]; exact CM.tog_pos T M
      rw [hZ] at CT HS2 htl htr
      have HTR := hidd htr
      clear hMe hn1 hn2 hZ hds hs2 e1 hl hk1 hk2 hb5 hb6 hl5 hM htr ha
      go_wp2_with fail
      refine (CT.out).mono ?_
      rintro e w2 ⟨v, rfl, hO2, hb2⟩
      have HB2 := hidd (below_step HB.out hb2)
      have HO2 := hidd (hO2.base HB.out.size : OwnL sendV 2 w2 w.heap.size 44 _ _)
      obtain ⟨A2, c2, rfl, _, _, hl2⟩ := hO2.lie sendV_len
      have hcb := cb.out A2 Z c2 (by omega) hZ0 w2 hl2
      by_cases hbp : boundP Z
      · have CB := hidd (hcb.1 hbp)
        have hs2 := HS2.out
        rw [if_pos hbp] at hs2
        have HS3 := hidd hs2
        have HT3 := hidd (HTR.out hbp)
        clear hcb hbp hs2 hO2 hb2 hl2 CT
        go_wp2_with fail
        refine CB.out.mono ?_
        rintro e w3 ⟨rfl, rfl⟩
        go_wp2_with fail
        have hg := HG.out
        go_roundg (gk - 1)
        case measure => omega
        case rel => exact ⟨i + 1, Z, by omega, by omega, by go_num, rfl, HO2.out, HT3.out, HS3.out, HB2.out⟩
      · have CB := hidd (hcb.2 hbp)
        have hs2 := HS2.out
        rw [if_neg hbp] at hs2
        have HS3 := hidd hs2
        clear hcb hbp hs2 hO2 hb2 hl2 CT
        go_wp2_with fail
        refine CB.out.mono ?_
        rintro e w3 ⟨rfl, rfl⟩
        go_wp2_with fail
        go_ret2
        exact .inr ⟨HS3.out, rfl, HB2.out⟩
    · obtain rfl : i = cs.length := by omega
      have hs := HS.out
      rw [List.drop_of_length_le (by simp)] at hs
      have HS2 := hidd hs
      have hin2 : ¬ (cs.length : Int) < (cs.length : Int) := by omega
      clear hs
      go_wp2_with fail
      go_ret2
      exact .inl ⟨T, _, HS2.out, HT.out, rfl, HO.out, HB.out⟩
end Go.Proofs.Ytpgaklfgbioocaa
