/- Whatever the curves and the time, CurveMins answers true; no conditions. -/
import Derived.Test.YtpgaklfgbioocaaMgCmB
namespace Go.Proofs.Ytpgaklfgbioocaa
set_option linter.unusedVariables false
open Go.RowKit Go.Proofs.Ytpgaklfgbioocaa.RowK

set_option maxRecDepth 100000 in
set_option maxHeartbeats 16000000 in
theorem mins_walk (A : Option Addr) (cs : List Crv) (k : Nat) (n d : Int) (hk : cs.length ≤ k) (hkm : k ≤ maxLen) (hcap : Caps cs) (n0 : -9223372036854775808 ≤ n) (n1 : n ≤ 9223372036854775807) (d0 : -9223372036854775808 ≤ d) (d1 : d ≤ 9223372036854775807) (w : World) (hC : Curves w w.heap.size A cs) :
    Calls Try.prog 3 #[.slice A cs.length k, .int .i64 n, .int .i64 d] w fun e w' => e = .returned (.bool true) ∧ Below w.heap.size w w' := by
  by_cases h6 : 6 < cs.length
  · exact mins_many A cs k n d h6 w
  obtain ⟨i0, hi0, hz0, hz1, hz2⟩ := info_parts lineInfo
  have ck := hidd (fun W => known3_any W)
  have cr := hidd (fun A' (M : List (Int × Int)) c' (h : M.length ≤ 1000000) W hW => right3_any A' M c' h W hW)
  have HC := hidd hC
  have HCAP := hidd hcap
  have HRN := hidd (fun i (hi : i < cs.length) => rightAt_next hi)
  have HAT := hidd (fun i (hi : i < cs.length) => allLines_take hi)
  have h6' : ¬ (6 : Int) < (cs.length : Int) := by omega
  clear hC hcap hk hkm
  go_enter Try.func3, Try.ntmps3
  go_wp2_with fail
  go_loopg [7, 8, 9] (cs.length + 2) (fun g s7 s8 s9 wr => ∃ (i : Nat) (R : Bool), i ≤ cs.length ∧ i + g = cs.length + 2 ∧ s9 = .int .i64 (i : Int) ∧ s7 = .bool R ∧ (R = true ↔ RightAt cs i) ∧ (∀ j (hj : j < cs.length), j < i → (cs[j]).2.length ≤ 8) ∧ OwnL sendV 2 wr w.heap.size 44 s8 (allLines (cs.take i)) ∧ Below w.heap.size w wr)
  case atStart => exact ⟨0, decide (0 < (cs.length : Int)), by omega, by omega, by first | rfl | simp, by first | rfl | simp, by simp [RightAt], fun j hj hl => absurd hl (by omega), by simpa [allLines] using OwnL.nil _ _ _, Below.refl _ _⟩
  case round =>
    obtain ⟨i, R, hi1, hg, rfl, rfl, hR, h8, hO, hB⟩ := hrel
    have HG := hidd hg
    have HR := hidd hR
    have H8 := hidd h8
    have HO := hidd hO
    have HB := hidd hB
    clear hg hR h8 hO hB
    by_cases hin : i < cs.length
    · have hin2 : (i : Int) < (cs.length : Int) := by omega
      have hi0' : (0 : Int) ≤ (i : Int) := by omega
      obtain ⟨ad, A1, k1, rfl, hab, x0, hk1, hk2, hl⟩ := crv_at (HC.out.keep HB.out) HCAP.out i hin
      have HL := hidd hl
      have HNX := hidd (HRN.out i hin)
      have HAX := hidd (HAT.out i hin)
      have H8X := hidd (fun (h : (cs[i]).2.length ≤ 8) j (hj : j < cs.length) (hl : j < i + 1) => (show (cs[j]).2.length ≤ 8 from by
        by_cases e : j = i
        · subst e; exact h
        · exact H8.out j hj (by omega)))
      obtain ⟨M, hM⟩ : ∃ M, (cs[i]).2 = M := ⟨_, rfl⟩
      have hMm : M.length ≤ maxLen := by rw [← hM]; exact Nat.le_trans hk1 hk2
      rw [hM] at x0 HL HNX HAX H8X
      clear hl hk1 hk2 hM
      by_cases h9 : 8 < M.length
      · have h9' : (8 : Int) < (M.length : Int) := by omega
        generalize M.length = nm at *
        go_wp2_with fail
        refine (ck.out _).mono ?_
        rintro e w1 ⟨rfl, hb1⟩
        have HB1 := hidd (below_step HB.out hb1)
        clear hb1
        go_wp2_with fail
        go_ret
        exact ⟨by first | rfl | simp, HB1.out⟩
      · have h9' : ¬ (8 : Int) < (M.length : Int) := by omega
        have H9 := hidd (H8X.out (by omega))
        have hM8 : M.length ≤ 8 := by omega
        have CR := hidd (fun W (hW : Below w.heap.size wr W) => cr.out A1 M k1 (by omega) W ((HL.out.keep hW).more (by have := HB.out.size; have := hW.size; omega)))
        have LX := hidd (fun W (hW : Below w.heap.size wr W) => HL.out.keep hW)
        have X0 := hidd (fun W' (hb : Below w.heap.size wr W') => (hb.cell (p := ad.add i) (by rw [block_of_add]; exact hab)).trans x0)
        have hbs := HB.out.size
        obtain ⟨RR, hRR⟩ : ∃ RR, allLines (cs.take i) = RR := ⟨_, rfl⟩
        have hRl : RR.length ≤ 1000 := by rw [← hRR]; exact Nat.le_trans (lines_take_len h6 hi1 H8.out) (by decide)
        rw [hRR] at HAX
        have hO2 := HO.out
        rw [hRR] at hO2
        have HO2 := hidd hO2
        clear hO2 hRR HO H8X H8
        unfold MayEnd at CR
        obtain ⟨nm, hnm⟩ : ∃ nm, M.length = nm := ⟨_, rfl⟩
        have HNM := hidd hnm
        rw [hnm] at x0 h9 h9' hM8 hMm CR X0
        clear hnm
        cases R
        · go_wp2_with (at_builtin; refine wpList_append_two (by rfl) (.tmp 49) (.tmp 53) _ _ _ (by rfl) Try.underlying25 w.heap.size 44 i0 _ 2 16 Try.underlying24 hi0 hz0 hz1 hz2 rfl (by omega) _ _ _ (by rfl) HO2.out A1 nm k1 (rowOf sendV M) (by rfl) (by rw [row_len sendV_len, HNM.out]) (by rw [← HNM.out]; exact lie_src (LX.out _ (Below.refl _ _))) (rowOf_one sendV_one _) (by simp only [maxLen]; omega) (by omega) hbs ?_; intro v1 wa hown1 hgrow1 hat1)
          have hO3 : OwnL sendV 2 wa w.heap.size 44 v1 (RR ++ M) := own_two hown1 (by rw [HNM.out]) rfl
          have hb3 : Below w.heap.size w wa := Below.grown HB.out hgrow1 hbs (fun k hk => (OwnL.lt HO2.out k hk).1)
          have HO3 := hidd hO3
          have HB3 := hidd hb3
          have hg := HG.out
          have hR2 := HR.out
          clear hown1 hgrow1 hat1 hO3 hb3
          go_roundg (gk - 1)
          case measure => omega
          case rel => exact ⟨i + 1, false, by omega, by omega, by go_num, by first | rfl | simp, ⟨fun h => absurd h Bool.false_ne_true, fun h => absurd (hR2.2 (HNX.out.1 h).1) Bool.false_ne_true⟩, H9.out, by rw [HAX.out]; exact HO3.out, HB3.out⟩
        · go_wp2_with fail
          refine (CR.out _ (Below.refl _ _)).mono ?_
          rintro e w4 ⟨RX, rfl, hRX, hb4⟩
          have HRX := hidd (show RX = true ↔ RightAt cs (i + 1) from ⟨fun h => HNX.out.2 ⟨HR.out.1 (by first | trivial | rfl), hRX.1 h⟩, fun h => hRX.2 (HNX.out.1 h).2⟩)
          have HB4 := hidd (hb4.mono hbs)
          have HB5 := hidd (below_step HB.out hb4)
          have HO4 := hidd (HO2.out.below hb4)
          have x4 := X0.out _ HB4.out
          clear hRX hb4
          go_wp2_with (at_builtin; refine wpList_append_two (by rfl) (.tmp 49) (.tmp 53) _ _ _ (by rfl) Try.underlying25 w.heap.size 44 i0 _ 2 16 Try.underlying24 hi0 hz0 hz1 hz2 rfl (by omega) _ _ _ (by rfl) HO4.out A1 nm k1 (rowOf sendV M) (by rfl) (by rw [row_len sendV_len, HNM.out]) (by rw [← HNM.out]; exact lie_src (LX.out _ HB4.out)) (rowOf_one sendV_one _) (by simp only [maxLen]; omega) (by omega) HB5.out.size ?_; intro v1 wa hown1 hgrow1 hat1)
          have hO3 : OwnL sendV 2 wa w.heap.size 44 v1 (RR ++ M) := own_two hown1 (by rw [HNM.out]) rfl
          have hb3 : Below w.heap.size w wa := Below.grown HB5.out hgrow1 HB5.out.size (fun k hk => (OwnL.lt HO4.out k hk).1)
          have HO3 := hidd hO3
          have HB3 := hidd hb3
          have hg := HG.out
          have hR2 := HR.out
          clear hown1 hgrow1 hat1 hO3 hb3
          go_roundg (gk - 1)
          case measure => omega
          case rel => exact ⟨i + 1, RX, by omega, by omega, by go_num, by first | rfl | simp, HRX.out, H9.out, by rw [HAX.out]; exact HO3.out, HB3.out⟩
    · obtain rfl : i = cs.length := by omega
      have hfe : R = true ↔ FineC cs := HR.out.trans rightAt_end
      have h8m := mem_small H8.out
      have hall := getL_len h8m (by omega)
      have hO2 := HO.out
      rw [List.take_length] at hO2
      have HO2 := hidd hO2
      have hlen2 : ∀ c ∈ cs, c.2.length ≤ 1000000 := fun c hc => Nat.le_trans (h8m c hc) (by decide)
      have CV := hidd (fun W (hW : Below w.heap.size w W) => (HC.out.keep hW).more hW.size)
      clear HO hO2 HR H8
      cases R
      · have hfn : ¬ FineC cs := fun h => absurd (hfe.2 h) Bool.false_ne_true
        have cm := hidd (fun W (hW : Below w.heap.size w W) => min_bad2 A k cs (by omega) hlen2 W (CV.out W hW) hfn)
        have csm := hidd (fun W (hW : Below w.heap.size w W) => sum_bad2 A k cs (by omega) hlen2 W (CV.out W hW) hfn)
        have ct := hidd (fun (A' : Option Addr) (c' : Nat) (W : World) (hW : Lie sendV 2 W W.heap.size A' []) => told3_any A' none [] [] c' 0 2 (by decide) (by decide) W hW Lie.nil)
        unfold MakeEnd at cm csm
        clear hfe h8m hall hlen2 hfn HO2
        go_wp2_with fail
        refine (cm.out _ HB.out).mono ?_
        rintro e w1 ⟨v1, rfl, hO1, hb1⟩
        obtain ⟨A1, c1, rfl, _, _, hl1⟩ := hO1.lie sendV_len
        have HL1 := hidd hl1
        have HB1 := hidd (below_step HB.out hb1)
        clear hO1 hb1 hl1
        go_wp2_with fail
        refine (csm.out _ HB1.out).mono ?_
        rintro e w2 ⟨v2, rfl, hO2, hb2⟩
        obtain ⟨A2, c2, rfl, _, _, hl2⟩ := hO2.lie sendV_len
        have HL2 := hidd hl2
        have HL12 := hidd (HL1.out.below hb2)
        have HB2 := hidd (below_step HB1.out hb2)
        clear hO2 hb2 hl2
        go_wp2_with fail
        refine (ct.out A1 c1 _ HL12.out).mono ?_
        rintro e w3 ⟨rfl, q, rfl⟩
        have hbq : Below w2.heap.size w2 (w2.drewN q) := by (repeat' (first | (with_reducible exact Below.refl _ _) | (with_reducible assumption) | (with_reducible apply Below.setCell) | (with_reducible apply Below.alloc) | (with_reducible apply Below.drew) | (with_reducible apply below_drewN) | (with_reducible refine Below.trans ?_ (Below.mono (by assumption) ?_)) | omega | (simp; done) | (simp; omega)))
        have HL3 := hidd (HL2.out.below hbq)
        have HB3 := hidd (below_step HB2.out hbq)
        clear hbq
        generalize w2.drewN q = w3 at *
        go_wp2_with fail
        refine (ct.out A2 c2 _ HL3.out).mono ?_
        rintro e w4 ⟨rfl, q2, rfl⟩
        have HB4 := hidd (show Below w.heap.size w (w3.drewN q2) by have := HB3.out; (repeat' (first | (with_reducible exact Below.refl _ _) | (with_reducible assumption) | (with_reducible apply Below.setCell) | (with_reducible apply Below.alloc) | (with_reducible apply Below.drew) | (with_reducible apply below_drewN) | (with_reducible refine Below.trans ?_ (Below.mono (by assumption) ?_)) | omega | (simp; done) | (simp; omega))))
        go_wp2_with fail
        refine (ck.out _).mono ?_
        rintro e w5 ⟨rfl, hb5⟩
        go_wp2_with fail
        go_ret
        exact ⟨by first | rfl | simp, below_step HB4.out hb5⟩
      · obtain ⟨h0, hAR⟩ : FineC cs := hfe.1 rfl
        have hm := allR_may hAR
        have hp := allR_pos hAR h0
        obtain ⟨ok, hok⟩ : ∃ ok : Bool, ok = true ↔ (CM.low (allLines cs)).length ≤ 32 := ⟨decide ((CM.low (allLines cs)).length ≤ 32), by simp⟩
        have cm := hidd (fun W (hW : Below w.heap.size w W) => min_good ok A k cs h0 (by omega) hlen2 (by omega) W (CV.out W hW) hAR hok)
        have csm := hidd (fun W (hW : Below w.heap.size w W) => sum_any A k cs h0 (by omega) hlen2 HCAP.out W (CV.out W hW) hAR)
        have cd := hidd (fun A' c' W (hW : Lie sendV 2 W W.heap.size A' (allLines cs)) => made_any ok A' (allLines cs) c' (by omega) hp hm hok W hW)
        have hzl : (if ok then CM.low (allLines cs) else []).length ≤ 1000000 := by
          split
          · exact Nat.le_trans (CM.low_len _) (by omega)
          · simp
        have HAR := hidd hAR
        have HF := hidd (sumAt_first h0 hAR)
        have hl0 := h8m _ (List.getElem_mem h0)
        have HL8 := hidd (fun i (hi : i < cs.length) => h8m _ (List.getElem_mem hi))
        have HNE := hidd (fun i T (hi : i < cs.length) hT hs (okk : Bool) hokk => sumAt_next (cs := cs) (i := i) (T := T) hi hAR hT hs okk hokk)
        have HEND := hidd (fun i T K h hi => sumAt_end (cs := cs) (i := i) (T := T) (K := K) h hi)
        have cSu := hidd (fun A B L M c d hL hM mL mM W hA hB => refSum_any A B L M c d hL hM mL mM W hA hB)
        have cMg := hidd (fun okk A L c hL h0 hm hok W hA => made_gen okk A L c hL h0 hm hok W hA)
        unfold MakeEnd at cm csm cd cMg
        obtain ⟨Z, hZ⟩ : ∃ Z, (if ok then CM.low (allLines cs) else []) = Z := ⟨_, rfl⟩
        obtain ⟨KZ, hKZ⟩ : ∃ KZ : Int, (if ok then (0 : Int) else 3) = KZ := ⟨_, rfl⟩
        rw [hZ] at cm cd hzl
        rw [hKZ] at cm cd
        have ct := hidd (fun (A' B' : Option Addr) (c' d' : Nat) (W : World) (hW : Lie sendV 2 W W.heap.size A' Z) (hV : Lie sendV 2 W W.heap.size B' Z) => told3_any A' B' Z Z c' d' KZ hzl hzl W hW hV)
        rw [decide_eq_true (rfl : Z = Z)] at ct
        have ct2 := hidd (fun (S : List (Int × Int)) (K : Int) (hS : S.length ≤ 1000000) (A' B' : Option Addr) (c' d' : Nat) (W : World) (hW : Lie sendV 2 W W.heap.size A' S) (hV : Lie sendV 2 W W.heap.size B' S) => told3_any A' B' S S c' d' K hS hS W hW hV)
        obtain ⟨ALL, hALL⟩ : ∃ X, allLines cs = X := ⟨_, rfl⟩
        have hO3 := HO2.out
        rw [hALL] at hO3 cd hall
        have HO3 := hidd hO3
        clear hfe hm hp hok hZ hKZ hAR hO3 HO2 hlen2 hzl hALL h8m
        go_wp2_with fail
        refine (cm.out _ HB.out).mono ?_
        rintro e w1 ⟨v1, rfl, hO1, hb1⟩
        obtain ⟨A1, c1, rfl, _, _, hl1⟩ := hO1.lie sendV_len
        have HL1 := hidd hl1
        have HB1 := hidd (below_step HB.out hb1)
        have HA1 := hidd (HO3.out.below hb1)
        clear hO1 hb1 hl1
        go_wp2_with fail
        refine (csm.out _ HB1.out).mono ?_
        rintro e w2 ⟨v2, rfl, hO2, hb2⟩
        obtain ⟨A2, c2, rfl, _, _, hl2⟩ := hO2.lie sendV_len
        have HL2 := hidd hl2
        have HL12 := hidd (HL1.out.below hb2)
        have HB2 := hidd (below_step HB1.out hb2)
        obtain ⟨AA, cA, rfl, _, _, hlA⟩ := (HA1.out.below hb2).lie sendV_len
        have CD := hidd (cd.out AA cA w2 hlA)
        clear hO2 hb2 hl2 hlA cd
        go_wp2_with fail
        refine (CD.out).mono ?_
        rintro e w3 ⟨v3, rfl, hO3, hb3⟩
        obtain ⟨A3, c3, rfl, _, _, hl3⟩ := hO3.lie sendV_len
        have HZ3 := hidd hl3
        have HZ1 := hidd (HL12.out.below hb3)
        have HS3 := hidd (HL2.out.below hb3)
        have HB3 := hidd (below_step HB2.out hb3)
        clear hO3 hb3 hl3
        obtain ⟨ad0, B0, k0, rfl, hab0, x00, hk00, hk01, hl00⟩ := crv_at (CV.out _ HB3.out) HCAP.out 0 h0
        have HL0 := hidd hl00
        have x01 : w3.cell? ad0 = some (.slice B0 (cs[0]).2.length k0) := by simpa [Addr.add] using x00
        obtain ⟨M0, hM0⟩ : ∃ M0, (cs[0]).2 = M0 := ⟨_, rfl⟩
        rw [hM0] at HF x01 HL0 hl0 x00
        clear hl00 hM0 hk00 hk01
        have hgp : ¬ cs.length ≤ 0 := by omega
        have hgp2 : ¬ (cs.length : Int) ≤ 0 := by omega
        have hgp3 : (0 : Int) < (cs.length : Int) := by omega
        go_wp2_with fail
        go_loopg [16, 17, 18] (cs.length + 2) (fun g s16 s17 s18 wr => ∃ (i : Nat) (T : List (Int × Int)) (K : Int) (B : Option Addr) (c : Nat), 1 ≤ i ∧ i ≤ cs.length ∧ i + g = cs.length + 3 ∧ s18 = .int .i64 (i : Int) ∧ s17 = .int .i64 K ∧ s16 = .slice B T.length c ∧ Lie sendV 2 wr wr.heap.size B T ∧ SumAt cs i T K ∧ Below w3.heap.size w3 wr)
        case atStart => exact ⟨1, M0, 0, B0, k0, by omega, by omega, by omega, by first | rfl | simp, rfl, rfl, HL0.out, HF.out, Below.refl _ _⟩
        case round =>
          obtain ⟨i, T, K, B, c, hi0x, hi1, hg, rfl, rfl, rfl, hl, hs, hB⟩ := hrel
          have HG := hidd hg
          have HT := hidd hl
          have HS := hidd hs
          have HBx := hidd (below_step HB3.out hB)
          have HB := hidd hB
          have hin0 : (0 : Int) ≤ (i : Int) := by omega
          clear hg hl hs hB
          by_cases hgo : i < cs.length ∧ K = 0
          · obtain ⟨hin, rfl⟩ := hgo
            have hin2 : (i : Int) < (cs.length : Int) := by omega
            obtain ⟨hTr, hsum⟩ : RgtC T ∧ sumL [(0, 0)] (cs.map (·.2)) = sumL T ((cs.map (·.2)).drop i) := by
              rcases HS.out with ⟨_, a, b⟩ | ⟨a, _⟩
              · exact ⟨a, b⟩
              · exact absurd a (by decide)
            have hMr : RgtC (cs[i]).2 := HAR.out i hin
            obtain ⟨adx, Ai, ki, hade, hab, x0, hki, hki2, hli⟩ := crv_at (CV.out _ HBx.out) HCAP.out i hin
            obtain rfl : ad0 = adx := by injection hade
            have hM8 := HL8.out i hin
            obtain ⟨ok2, hok2⟩ : ∃ ok : Bool, ok = true ↔ boundP (CM.tog T (cs[i]).2) := ⟨decide (boundP (CM.tog T (cs[i]).2)), by simp⟩
            have HNX := hidd (HNE.out i T hin hTr hsum ok2 hok2)
            have hok3 := hok2.trans (bound_iff hTr hMr)
            have hT32 := hTr.1.2
            have hpl : (CM.pairs T (cs[i]).2).length ≤ 256 := by
              rw [CM.pairs_len]
              exact Nat.mul_le_mul hT32 hM8
            have hpp : 0 < (CM.pairs T (cs[i]).2).length := by
              rw [CM.pairs_len]
              exact Nat.mul_pos hTr.2.2.1 hMr.2.2.1
            have CS := hidd (cSu.out B Ai T (cs[i]).2 c ki (by omega) (by omega) hTr.2.1 hMr.2.1 wr HT.out hli)
            have CM2 := hidd (fun (A' : Option Addr) (c' : Nat) (W : World) (hW : Lie sendV 2 W W.heap.size A' (CM.pairs T (cs[i]).2)) => cMg.out ok2 A' (CM.pairs T (cs[i]).2) c' (by omega) hpp (pairs_ok2 hTr.2.1 hMr.2.1) hok3 W hW)
            obtain ⟨M, hM⟩ : ∃ M, (cs[i]).2 = M := ⟨_, rfl⟩
            rw [hM] at x0 CS CM2 HNX
            obtain ⟨nm, hnm⟩ : ∃ nm, M.length = nm := ⟨_, rfl⟩
            rw [hnm] at x0 CS
            obtain ⟨nt, hnt⟩ : ∃ nt, T.length = nt := ⟨_, rfl⟩
            rw [hnt] at CS
            obtain ⟨PP, hPP⟩ : ∃ PP, CM.pairs T M = PP := ⟨_, rfl⟩
            rw [hPP] at CS CM2 HNX
            obtain ⟨PL, hPL⟩ : ∃ PL, (if ok2 then CM.low PP else []) = PL := ⟨_, rfl⟩
            obtain ⟨KL, hKL⟩ : ∃ KL : Int, (if ok2 then (0 : Int) else 3) = KL := ⟨_, rfl⟩
            rw [hPL, hKL] at CM2 HNX
            rw [hnt]
            clear hM hnm hnt hPP hPL hKL hok2 hok3 hpl hpp hMr hTr hsum hli hki hki2 HT HS
            go_wp2_with fail
            refine (CS.out).mono ?_
            rintro e w5 ⟨v5, rfl, hO5, hb5⟩
            obtain ⟨A5, c5, rfl, _, _, hl5⟩ := hO5.lie sendV_len
            have HC5 := hidd (CM2.out A5 c5 w5 hl5)
            have HB5 := hidd (below_step HB.out hb5)
            clear hO5 hb5 hl5
            go_wp2_with fail
            refine (HC5.out).mono ?_
            rintro e w6 ⟨v6, rfl, hO6, hb6⟩
            obtain ⟨A6, c6, rfl, _, _, hl6⟩ := hO6.lie sendV_len
            have HL6 := hidd hl6
            have HB6 := hidd (below_step HB5.out hb6)
            clear hO6 hb6 hl6
            go_wp2_with fail
            have hg := HG.out
            go_roundg (gk - 1)
            case measure => omega
            case rel => exact ⟨i + 1, PL, KL, A6, c6, by omega, by omega, by omega, by go_num, rfl, rfl, HL6.out, HNX.out, HB6.out⟩
          · have hend : ¬ K = 0 ∨ cs.length ≤ i := by
              by_cases h : K = 0
              · exact .inr (by have := fun g => hgo ⟨g, h⟩; omega)
              · exact .inl h
            obtain ⟨hTS, hKS, hTN⟩ := HEND.out i T K HS.out hend
            have hTl : T.length ≤ 1000000 := by
              rcases HS.out with ⟨_, a, _⟩ | ⟨_, a, _⟩
              · have := a.1.2; omega
              · rw [a]; simp
            have hK3 : K = 0 ∨ K = 3 := by
              rcases HS.out with ⟨a, _⟩ | ⟨a, _⟩
              · exact .inl a
              · exact .inr a
            have HTN := hidd hTN
            have HZ1 := hidd (HZ1.out.below HB.out)
            have HS3 := hidd (HS3.out.below HB.out)
            have HZ3 := hidd (HZ3.out.below HB.out)
            rw [← hTS] at HS3 ⊢
            rw [← hKS]
            have CT2 := hidd (fun A' B' c' d' W hW hV => ct2.out T K hTl A' B' c' d' W hW hV)
            have hcs : (i < cs.length ∧ ¬ K = 0) ∨ cs.length = i := by
              rcases hend with h | h
              · by_cases g : i < cs.length
                · exact .inl ⟨g, h⟩
                · exact .inr (by omega)
              · exact .inr (by omega)
            have hkk : (K = 3 ∧ (i < cs.length ∨ cs.length = i)) ∨ (K = 0 ∧ cs.length = i) := by omega
            clear hend hgo hTS hKS hTN HS hK3
            rcases hkk with ⟨rfl, hlt | hlt⟩ | ⟨rfl, hlt⟩
            · have hin2 : (i : Int) < (cs.length : Int) := by omega
              go_wp2_with fail
              refine (ct.out A1 A3 c1 c3 _ HZ1.out HZ3.out).mono ?_
              rintro e w4 ⟨rfl, q, rfl⟩
              have hbq : Below wr.heap.size wr (wr.drewN q) := by (repeat' (first | (with_reducible exact Below.refl _ _) | (with_reducible assumption) | (with_reducible apply Below.setCell) | (with_reducible apply Below.alloc) | (with_reducible apply Below.drew) | (with_reducible apply below_drewN) | (with_reducible refine Below.trans ?_ (Below.mono (by assumption) ?_)) | omega | (simp; done) | (simp; omega)))
              have HS4 := hidd (HS3.out.below hbq)
              have HT4 := hidd (HT.out.below hbq)
              have HB4 := hidd (below_step HBx.out hbq)
              clear hbq
              generalize wr.drewN q = w4 at *
              go_wp2_with fail
              refine (CT2.out A2 B c2 c _ HS4.out HT4.out).mono ?_
              rintro e w5 ⟨rfl, q2, rfl⟩
              have hbq : Below w4.heap.size w4 (w4.drewN q2) := by (repeat' (first | (with_reducible exact Below.refl _ _) | (with_reducible assumption) | (with_reducible apply Below.setCell) | (with_reducible apply Below.alloc) | (with_reducible apply Below.drew) | (with_reducible apply below_drewN) | (with_reducible refine Below.trans ?_ (Below.mono (by assumption) ?_)) | omega | (simp; done) | (simp; omega)))
              have HS5 := hidd (HS4.out.below hbq)
              have HB5 := hidd (below_step HB4.out hbq)
              clear hbq
              generalize w4.drewN q2 = w5 at *
              go_wp2_with fail
              refine (ck.out _).mono ?_
              rintro e w9 ⟨rfl, hb9⟩
              go_wp2_with fail
              go_ret
              exact ⟨by first | rfl | simp, below_step HB5.out hb9⟩
            · obtain rfl : i = cs.length := hlt.symm
              go_wp2_with fail
              refine (ct.out A1 A3 c1 c3 _ HZ1.out HZ3.out).mono ?_
              rintro e w4 ⟨rfl, q, rfl⟩
              have hbq : Below wr.heap.size wr (wr.drewN q) := by (repeat' (first | (with_reducible exact Below.refl _ _) | (with_reducible assumption) | (with_reducible apply Below.setCell) | (with_reducible apply Below.alloc) | (with_reducible apply Below.drew) | (with_reducible apply below_drewN) | (with_reducible refine Below.trans ?_ (Below.mono (by assumption) ?_)) | omega | (simp; done) | (simp; omega)))
              have HS4 := hidd (HS3.out.below hbq)
              have HT4 := hidd (HT.out.below hbq)
              have HB4 := hidd (below_step HBx.out hbq)
              clear hbq
              generalize wr.drewN q = w4 at *
              go_wp2_with fail
              refine (CT2.out A2 B c2 c _ HS4.out HT4.out).mono ?_
              rintro e w5 ⟨rfl, q2, rfl⟩
              have hbq : Below w4.heap.size w4 (w4.drewN q2) := by (repeat' (first | (with_reducible exact Below.refl _ _) | (with_reducible assumption) | (with_reducible apply Below.setCell) | (with_reducible apply Below.alloc) | (with_reducible apply Below.drew) | (with_reducible apply below_drewN) | (with_reducible refine Below.trans ?_ (Below.mono (by assumption) ?_)) | omega | (simp; done) | (simp; omega)))
              have HS5 := hidd (HS4.out.below hbq)
              have HB5 := hidd (below_step HB4.out hbq)
              clear hbq
              generalize w4.drewN q2 = w5 at *
              go_wp2_with fail
              refine (ck.out _).mono ?_
              rintro e w9 ⟨rfl, hb9⟩
              go_wp2_with fail
              go_ret
              exact ⟨by first | rfl | simp, below_step HB5.out hb9⟩
            · obtain rfl : i = cs.length := hlt.symm
              obtain ⟨hTr, hTsum⟩ := HTN.out rfl
              have HTR := hidd hTr
              have hTp := hTr.2.2.1
              have cat := hidd (fun (a : 0 ≤ n) (b : n ≤ 1000000) (e : 1 ≤ d) (f : d ≤ 100) (A' : Option Addr) (L : List (Int × Int)) (c' : Nat) (hL : L.length ≤ 1000000) (h0 : 0 < L.length) (hm : MayAll L) (W : World) (hW : Lie sendV 2 W W.heap.size A' L) => refAt_any A' L c' n d hL h0 hm a (by omega) e f W hW)
              unfold RefAtEnd at cat
              have HHF := hidd (high_first (n := n) (d := d) hTsum)
              have HHN := hidd (fun (a : 0 ≤ n) (b : n ≤ 1000000) (e : 1 ≤ d) (f : d ≤ 100) i (hi : i < cs.length) x y h hy => high_next (S := T) (i := i) (x := x) (y := y) hi HAR.out a b e f h hy)
              have HHE := hidd (fun x y h hy => high_end (n := n) (d := d) (S := T) (cs := cs) (x := x) (y := y) h hy)
              clear hTr hTsum
              go_wp2_with fail
              refine (ct.out A1 A3 c1 c3 _ HZ1.out HZ3.out).mono ?_
              rintro e w4 ⟨rfl, q, rfl⟩
              have hbq : Below wr.heap.size wr (wr.drewN q) := by (repeat' (first | (with_reducible exact Below.refl _ _) | (with_reducible assumption) | (with_reducible apply Below.setCell) | (with_reducible apply Below.alloc) | (with_reducible apply Below.drew) | (with_reducible apply below_drewN) | (with_reducible refine Below.trans ?_ (Below.mono (by assumption) ?_)) | omega | (simp; done) | (simp; omega)))
              have HS4 := hidd (HS3.out.below hbq)
              have HT4 := hidd (HT.out.below hbq)
              have HB4 := hidd (below_step HBx.out hbq)
              clear hbq
              generalize wr.drewN q = w4 at *
              go_wp2_with fail
              refine (CT2.out A2 B c2 c _ HS4.out HT4.out).mono ?_
              rintro e w5 ⟨rfl, q2, rfl⟩
              have hbq : Below w4.heap.size w4 (w4.drewN q2) := by (repeat' (first | (with_reducible exact Below.refl _ _) | (with_reducible assumption) | (with_reducible apply Below.setCell) | (with_reducible apply Below.alloc) | (with_reducible apply Below.drew) | (with_reducible apply below_drewN) | (with_reducible refine Below.trans ?_ (Below.mono (by assumption) ?_)) | omega | (simp; done) | (simp; omega)))
              have HS5 := hidd (HS4.out.below hbq)
              have HB5 := hidd (below_step HB4.out hbq)
              clear hbq
              generalize w4.drewN q2 = w5 at *
              have hsp : (n < 0 ∨ (¬ n < 0 ∧ 1000000 < n) ∨ (¬ n < 0 ∧ ¬ 1000000 < n ∧ d < 1) ∨ (¬ n < 0 ∧ ¬ 1000000 < n ∧ ¬ d < 1 ∧ 100 < d)) ∨ (¬ n < 0 ∧ ¬ 1000000 < n ∧ ¬ d < 1 ∧ ¬ 100 < d) := by omega
              rcases hsp with (s1 | ⟨s1, s2⟩ | ⟨s1, s2, s3⟩ | ⟨s1, s2, s3, s4⟩) | ⟨s1, s2, s3, s4⟩
              iterate 4
                · go_wp2_with fail
                  refine (ck.out _).mono ?_
                  rintro e w9 ⟨rfl, hb9⟩
                  go_wp2_with fail
                  go_ret
                  exact ⟨by first | rfl | simp, below_step HB5.out hb9⟩
              go_wp2_with fail
              obtain ⟨wo, hwo⟩ : ∃ wo : World, wo = w5 := ⟨_, rfl⟩
              go_loopg [19, 20] (cs.length + 2) (fun g s19 s20 wr => ∃ (i : Nat) (x : Int), i ≤ cs.length ∧ i + g = cs.length + 2 ∧ s20 = .int .i64 (i : Int) ∧ s19 = .int .i64 x ∧ HighAt n d T cs i x ∧ Below w5.heap.size w5 wr)
              case atStart => exact ⟨0, 0, by omega, by omega, by first | rfl | simp, by first | rfl | simp, HHF.out, Below.refl _ _⟩
              case round =>
                obtain ⟨i, x, hi1x, hg, rfl, rfl, hH, hB⟩ := hrel
                have HG3 := hidd hg
                have HH := hidd hH
                have HB6 := hidd hB
                have HB7 := hidd (below_step HB5.out hB)
                have hxb := hH.1
                have hin0x : (0 : Int) ≤ (i : Int) := by omega
                clear hg hH hB
                by_cases hin : i < cs.length
                · have hin2 : (i : Int) < (cs.length : Int) := by omega
                  have hMr : RgtC (cs[i]).2 := HAR.out i hin
                  obtain ⟨adx, Ai, ki, hade, hab, x0, hki, hki2, hli⟩ := crv_at (CV.out _ HB7.out) HCAP.out i hin
                  obtain rfl : ad0 = adx := by injection hade
                  have CA := hidd (cat.out (by omega) (by omega) (by omega) (by omega) Ai (cs[i]).2 ki (by have := hMr.1; omega) hMr.2.2.1 hMr.2.1 _ hli)
                  have HNX := hidd (fun y hy => HHN.out (by omega) (by omega) (by omega) (by omega) i hin x y HH.out hy)
                  obtain ⟨M, hM⟩ : ∃ M, (cs[i]).2 = M := ⟨_, rfl⟩
                  rw [hM] at x0 CA HNX
                  obtain ⟨nm, hnm⟩ : ∃ nm, M.length = nm := ⟨_, rfl⟩
                  rw [hnm] at x0 CA
                  clear hM hnm hMr hli hki hki2
                  go_wp2_with fail
                  refine (CA.out).mono ?_
                  rintro e w8 ⟨y, rfl, hy, hb8⟩
                  obtain ⟨hn1, hn2, hn3⟩ := HNX.out y hy
                  have HN1 := hidd hn1
                  have HB8 := hidd (below_step HB6.out hb8)
                  obtain ⟨e1, e1'⟩ := wrap_both (x := x + y) (by omega) (by omega)
                  clear hn1 hb8 hy
                  go_wp2_with fail
                  have hg := HG3.out
                  go_roundg (gk - 1)
                  case measure => omega
                  case rel => exact ⟨i + 1, x + y, by omega, by omega, by go_num, by first | rfl | simp, HN1.out, HB8.out⟩
                · obtain rfl : i = cs.length := by omega
                  have CA := hidd (cat.out (by omega) (by omega) (by omega) (by omega) A2 T c2 hTl hTp HTR.out.2.1 _ (HS5.out.below HB6.out))
                  go_wp2_with fail
                  refine (CA.out).mono ?_
                  rintro e w8 ⟨y, rfl, hy, hb8⟩
                  obtain rfl := HHE.out x y HH.out hy
                  have HB8 := hidd (below_step HB7.out hb8)
                  clear hy hb8
                  go_wp2_with fail
                  refine (ck.out _).mono ?_
                  rintro e w9 ⟨rfl, hb9⟩
                  go_wp2_with fail
                  go_ret
                  exact ⟨by first | rfl | simp, below_step HB8.out hb9⟩
end Go.Proofs.Ytpgaklfgbioocaa

namespace Go.Proofs.Ytpgaklfgbioocaa.curveMins
open Go.ChangeShapes Go.WideShapes Go.ChangeAt Go.RowKit Go.Joins Go.Proofs.Ytpgaklfgbioocaa.RowK
set_option linter.unusedVariables false
set_option maxRecDepth 100000 in
theorem lifted (os : Os) (started : os.Started) (H : Type) (enc : TypeId × Value → H) :
    ReturnsInHanded {} Try.checked os 3 .any (Rows.curveMinsSpec.pre6 enc Try.prog Try.f3 Rows.curveMinsRow.domain false) (Rows.curveMinsSpec.post enc Try.prog Try.f3 false true false false) := by
  refine returnsInHanded_of_change (C := Try.checked) own started (by kernel_rfl) Try.func3
    (ChangeSpec.witness6 (enc := enc) (C := Try.checked) false ⟨#[], #[.slice none 0 0, .int .i64 0, .int .i64 0], []⟩ 8 (by kernel_rfl) (by kernel_rfl) (by kernel_rfl) (by kernel_rfl)) ?_
  intro W base args ds gs before hval0 hW hcnd _
  have hval : ∀ (j : Nat) t v, Try.f3.params[j]? = some t → args[j]? = some v → Value.okWide Try.prog W .any base t v := hval0
  have hW' := hW
  obtain ⟨p, q, hA0, hV, rfl, hfz, hnd⟩ := hW
  have hA : DataW.TrodAll enc Try.prog W 0 (fun _ => true) true Try.f3.params.toList args.toList ds p := hA0
  rw [Try.params3] at hA hval
  obtain ⟨v0, vs0, d0, ds0, p0, q0, hargs, rfl, rfl, h0, r0⟩ := trodAll_cons hA
  obtain ⟨v1, vs1, d1, ds1, p1, q1, rfl, rfl, rfl, h1, r1⟩ := trodAll_cons r0
  obtain ⟨v2, vs2, d2, ds2, p2, q2, rfl, rfl, rfl, h2, r2⟩ := trodAll_cons r1
  obtain ⟨rfl, rfl, rfl⟩ := trodAll_nil r2
  obtain rfl : args = #[v0, v1, v2] := by cases args; simp_all
  obtain ⟨rfl, rfl⟩ := trodVars_none hV
  obtain ⟨A0, L0, c0, rfl, m0, n0, s0, l0⟩ : ∃ (A : Option Addr) (L : List Crv) (c : Nat), v0 = .slice A L.length c ∧ L.length ≤ c ∧ c ≤ maxLen ∧ Caps L ∧ Curves W W.heap.size A L := by
    obtain ⟨ptr, len, cap, rfl⟩ := okWide_slice Try.underlying22 (hval 0 22 v0 rfl rfl)
    obtain ⟨fuel, hf⟩ := h0
    obtain ⟨A, L, c, e, hh⟩ := open_curves hf
    exact ⟨A, L, c, by simpa [Value.cells] using e, hh⟩
  obtain ⟨a1, rfl, e1, f1, w1⟩ := open_int Try.underlying2 (hval 1 2 v1 rfl rfl) h1
  obtain ⟨a2, rfl, e2, f2, w2⟩ := open_int Try.underlying2 (hval 2 2 v2 rfl rfl) h2
  refine (Ytpgaklfgbioocaa.mins_walk A0 L0 c0 a1 a2 m0 n0 s0 (i64_bounds w1).1 (i64_bounds w1).2 (i64_bounds w2).1 (i64_bounds w2).2 W l0).mono fun e W' ⟨he, hg⟩ => ?_
  subst he
  exact ⟨_, rfl, post_law laidOut (by rw [Try.params3]; intro t ht; simp at ht; rcases ht with rfl | rfl <;> exact ⟨by kernel_rfl, of_decide_eq_true (by kernel_rfl)⟩) hW' hA0 rfl (fun _ _ _ => (trodAll_cons_mk (shut_bool Try.underlying4 _) trodAll_mk0)) (fun _ => rfl) hg (ok_one (by kernel_rfl) rfl (okWide_bool_mk Try.underlying4 _))⟩

theorem over : Rows.curveMinsRow.holds Try.pinned (OpenSpec.ofChange Rows.curveMinsSpec) :=
  OpenClaim.holds_of_wide 3 Try.f3 rfl rfl rfl rfl rfl rfl rfl ⟨rfl, rfl, rfl, rfl, rfl⟩ rfl rfl rfl rfl rfl (by kernel_rfl) Try.func3 (by kernel_rfl)
    (of_decide_eq_true (by kernel_rfl)) (by unfold Func.isWrapper; first | (rw [if_pos (by decide +kernel)]; kernel_rfl) | (rw [if_neg (by decide +kernel)]; exact ⟨rfl, rfl⟩))
    (fun os started H enc _ => lifted os started H enc)
end Go.Proofs.Ytpgaklfgbioocaa.curveMins
namespace Go.Proofs.Ytpgaklfgbioocaa
/-- the given statement. -/
theorem curveMins_proved : Rows.CurveMinsSaid := curveMins.over
end Go.Proofs.Ytpgaklfgbioocaa

