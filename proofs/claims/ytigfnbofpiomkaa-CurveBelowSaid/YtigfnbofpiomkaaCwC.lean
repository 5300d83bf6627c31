/- The walk of CurveBelow: one is nowhere above another just if the least of both is it. -/
import Derived.Test.YtigfnbofpiomkaaCwB
namespace Go.Proofs.Ytigfnbofpiomkaa
set_option linter.unusedVariables false
open Go.RowKit Go.Proofs.Ytigfnbofpiomkaa.RowK

theorem isMin_append {L M : List (Int × Int)} {n d x y : Int} (h : CM.IsMin L n d x) (g : CM.IsMin M n d y) : CM.IsMin (L ++ M) n d (min x y) := by
  obtain ⟨⟨a, ha, ea⟩, h2⟩ := h
  obtain ⟨⟨b, hb, eb⟩, g2⟩ := g
  refine ⟨?_, fun z hz => ?_⟩
  · rcases Int.le_total x y with hxy | hxy
    · exact ⟨a, List.mem_append_left _ ha, by omega⟩
    · exact ⟨b, List.mem_append_right _ hb, by omega⟩
  · rcases List.mem_append.1 hz with h | h
    · have := h2 z h; omega
    · have := g2 z h; omega
theorem allR_two {v u : Value} {L M : List (Int × Int)} : AllR [(v, L), (u, M)] ↔ RgtC L ∧ RgtC M := by
  constructor
  · intro h; exact ⟨h 0 (by simp), h 1 (by simp)⟩
  · rintro ⟨h, g⟩ j hj
    match j, hj with
    | 0, _ => exact h
    | 1, _ => exact g
def PairAt (b : Nat) (x y : Int) (w : World) : Prop := w.cell? ⟨b, 0, none⟩ = some (.int .i64 x) ∧ w.cell? ⟨b, 1, none⟩ = some (.int .i64 y) ∧ b < w.heap.size
theorem PairAt.keep {b : Nat} {x y : Int} {w w' : World} (h : PairAt b x y w) (hb : Below w.heap.size w w') : PairAt b x y w' :=
  ⟨(hb.cell (p := ⟨b, 0, none⟩) h.2.2).trans h.1, (hb.cell (p := ⟨b, 1, none⟩) h.2.2).trans h.2.1, by have := hb.size; have := h.2.2; omega⟩
theorem PairAt.new (w : World) (x y : Int) (t : TypeId) : PairAt w.heap.size x y (w.alloc (.cells #[.int .i64 x, .int .i64 y] t)) ∧ Below w.heap.size w (w.alloc (.cells #[.int .i64 x, .int .i64 y] t)) :=
  ⟨⟨by simp [go_sem], by simp [go_sem], by simp⟩, below_new (Below.refl w.heap.size w) _⟩
theorem low_swap {L M : List (Int × Int)} (h : L ++ M ≠ []) : CM.low (M ++ L) = CM.low (L ++ M) := (CM.low_mems h (fun x => by simp only [List.mem_append]; exact Or.comm)).symm

set_option maxRecDepth 100000 in
set_option maxHeartbeats 8000000 in
theorem below3_walk (A : Option Addr) (L : List (Int × Int)) (c : Nat) (B : Option Addr) (M : List (Int × Int)) (c' : Nat) (n d : Int) (hc : L.length ≤ c) (hcm : c ≤ maxLen) (hd : M.length ≤ c') (hdm : c' ≤ maxLen) (w : World) (hA : Lie sendV 2 w w.heap.size A L) (hB : Lie sendV 2 w w.heap.size B M) :
    Calls Try.prog 7 #[.slice A L.length c, .slice B M.length c', .agg #[.int .i64 n, .int .i64 d]] w fun e w' => e = .returned (.bool true) ∧ Below w.heap.size w w' := by
  have ck := hidd (fun W => known3_any W)
  have hLm : L.length ≤ maxLen := Nat.le_trans hc hcm
  have hMm : M.length ≤ maxLen := Nat.le_trans hd hdm
  unfold maxLen at hLm hMm
  have PN := hidd (PairAt.new w n d 46)
  by_cases h8 : ¬ 8 < L.length ∧ ¬ 8 < M.length
  case neg =>
    have hs : (8 : Int) < (L.length : Int) ∨ (¬ (8 : Int) < (L.length : Int) ∧ (8 : Int) < (M.length : Int)) := by omega
    clear h8 hA hB
    rcases hs with s1 | ⟨s1, s2⟩
    all_goals
      go_enter Try.func7, Try.ntmps7
      go_wp2_with fail
      refine (ck.out _).mono ?_
      rintro e w1 ⟨rfl, hb1⟩
      go_wp2_with fail
      go_ret
      exact ⟨rfl, below_step PN.out.2 hb1⟩
  obtain ⟨hl8, hm8⟩ := h8
  have hl8' : ¬ (8 : Int) < (L.length : Int) := by omega
  have hm8' : ¬ (8 : Int) < (M.length : Int) := by omega
  have HA := hidd hA
  have HB := hidd hB
  by_cases hrr : RgtC L ∧ RgtC M
  case neg =>
    have cb := hidd (fun W hW hV => below_no A B L M c c' (by omega) (by omega) W hW hV hrr)
    have cm1 := hidd (fun W hW hV => min_bad (some ⟨W.heap.size, 0, none⟩) 2 [(.slice A L.length c, L), (.slice B M.length c', M)] (by simp) (by simp) (by simp; omega) _ (curves_two (w := W) (c := c) (d := c') hW hV 24) (fun h => hrr (allR_two.1 h)))
    have cm2 := hidd (fun W hW hV => min_bad (some ⟨W.heap.size, 0, none⟩) 2 [(.slice B M.length c', M), (.slice A L.length c, L)] (by simp) (by simp) (by simp; omega) _ (curves_two (w := W) (c := c') (d := c) hW hV 24) (fun h => hrr (allR_two.1 h).symm))
    have csame := hidd (fun A' B' k k' W hA hB => same_any A' B' [] [] k k' (by simp) (by simp) W hA hB)
    unfold BelowEnd at cb
    unfold MakeEnd at cm1 cm2
    clear hrr hA hB hl8 hm8
    go_enter Try.func7, Try.ntmps7
    go_wp2_with fail
    refine (cb.out _ (HA.out.below PN.out.2) (HB.out.below PN.out.2)).mono ?_
    rintro e w1 ⟨rfl, hb1⟩
    have HP1 := hidd (PN.out.1.keep hb1)
    have HB1 := hidd (below_step PN.out.2 hb1)
    clear hb1
    go_wp2_with fail
    refine (cm1.out _ (HA.out.below HB1.out) (HB.out.below HB1.out)).mono ?_
    rintro e w2 ⟨v1, rfl, hO1, hb2⟩
    obtain ⟨A1, c1, rfl, _, _, hl1⟩ := hO1.lie sendV_len
    have hbb := below_step (below_new (Below.refl w1.heap.size w1) (.cells #[.slice A L.length c, .slice B M.length c'] 24)) hb2
    have HL1 := hidd hl1
    have HP2 := hidd (HP1.out.keep hbb)
    have HB2 := hidd (below_step HB1.out hbb)
    clear hO1 hb2 hbb hl1
    go_wp2_with fail
    refine (cm2.out _ (HB.out.below HB2.out) (HA.out.below HB2.out)).mono ?_
    rintro e w3 ⟨v2, rfl, hO2, hb3⟩
    obtain ⟨A2, c2, rfl, _, _, hl2⟩ := hO2.lie sendV_len
    have hbb := below_step (below_new (Below.refl w2.heap.size w2) (.cells #[.slice B M.length c', .slice A L.length c] 24)) hb3
    have HL2 := hidd hl2
    have HL1 := hidd (HL1.out.below hbb)
    have HP3 := hidd (HP2.out.keep hbb)
    have HB3 := hidd (below_step HB2.out hbb)
    clear hO2 hb3 hbb hl2
    go_wp2_with fail
    refine (csame.out A1 A2 c1 c2 _ HL1.out HL2.out).mono ?_
    rintro e w4 ⟨rfl, q, rfl⟩
    have hq : Below w3.heap.size w3 (w3.drewN q) := by (repeat' (first | (with_reducible exact Below.refl _ _) | (with_reducible assumption) | (with_reducible apply Below.setCell) | (with_reducible apply Below.alloc) | (with_reducible apply Below.drew) | (with_reducible apply below_drewN) | (with_reducible refine Below.trans ?_ (Below.mono (by assumption) ?_)) | omega | (simp; done) | (simp; omega)))
    have HB4 := hidd (below_step HB3.out hq)
    obtain ⟨k0, k1, k2⟩ := HP3.out
    clear hq
    go_wp2_with fail
    go_quiet (fail)
    go_wp2_with fail
    refine (ck.out _).mono ?_
    rintro e w5 ⟨rfl, hb5⟩
    go_wp2_with fail
    go_ret
    exact ⟨by first | rfl | simp, below_step (show Below w.heap.size w _ by have := HB3.out; (repeat' (first | (with_reducible exact Below.refl _ _) | (with_reducible assumption) | (with_reducible apply Below.setCell) | (with_reducible apply Below.alloc) | (with_reducible apply Below.drew) | (with_reducible apply below_drewN) | (with_reducible refine Below.trans ?_ (Below.mono (by assumption) ?_)) | omega | (simp; done) | (simp; omega)))) hb5⟩
  case pos =>
    obtain ⟨hr, hs⟩ := hrr
    have HR := hidd hr
    have HS := hidd hs
    have hne : L ++ M ≠ [] := fun e => by have := hr.1; rw [List.append_eq_nil_iff] at e; rw [e.1] at this; simp at this
    have hll := CM.low_len (L ++ M)
    rw [List.length_append] at hll
    have hsw := low_swap hne
    have hpos := low_pos (L := L ++ M) (List.length_pos_iff.2 hne)
    have hmz : MayAll (CM.low (L ++ M)) := may_low (by have h := allR_may (cs := [(.slice none 0 0, L), (.slice none 0 0, M)]) (allR_two.2 ⟨hr, hs⟩); rwa [allLines_two] at h)
    have cb := hidd (fun W hW hV => below_yes A B L M c c' (by omega) (by omega) W hW hV hr hs)
    have cm1 := hidd (fun W hW hV => min_good true (some ⟨W.heap.size, 0, none⟩) 2 [(.slice A L.length c, L), (.slice B M.length c', M)] (by simp) (by simp) (by simp; omega) (by rw [allLines_two, List.length_append]; omega) _ (curves_two (w := W) (c := c) (d := c') hW hV 24) (allR_two.2 ⟨hr, hs⟩) (by rw [allLines_two]; exact ⟨fun _ => by omega, fun _ => rfl⟩))
    have cm2 := hidd (fun W hW hV => min_good true (some ⟨W.heap.size, 0, none⟩) 2 [(.slice B M.length c', M), (.slice A L.length c, L)] (by simp) (by simp) (by simp; omega) (by rw [allLines_two, List.length_append]; omega) _ (curves_two (w := W) (c := c') (d := c) hW hV 24) (allR_two.2 ⟨hs, hr⟩) (by rw [allLines_two, hsw]; exact ⟨fun _ => by omega, fun _ => rfl⟩))
    have csame := hidd (fun A' B' k k' W hA hB => same_any A' B' (CM.low (L ++ M)) (CM.low (L ++ M)) k k' (by omega) (by omega) W hA hB)
    have csa := hidd (fun A' k W hA hB => same_any A' A (CM.low (L ++ M)) L k c (by omega) (by omega) W hA hB)
    have cfa := hidd (fun n0 n1 d0 d1 W hW => refAt_any A L c n d (by omega) hr.1.1 hr.2.1 n0 n1 d0 d1 W hW)
    have cfb := hidd (fun n0 n1 d0 d1 W hW => refAt_any B M c' n d (by omega) hs.1.1 hs.2.1 n0 n1 d0 d1 W hW)
    have cfz := hidd (fun A' k n0 n1 d0 d1 W hW => refAt_any A' (CM.low (L ++ M)) k n d (by omega) hpos hmz n0 n1 d0 d1 W hW)
    have hmin := fun (n0 : 0 ≤ n) (d0 : 0 ≤ d) (v : Int) => CM.low_min (l := L ++ M) (v := v) n0 d0
    have HMIN := hidd hmin
    simp only [if_true] at cm1 cm2
    rw [allLines_two] at cm1 cm2
    rw [hsw] at cm2
    have hl0 := hr.1.1
    have hm0 := hs.1.1
    have e1 : ((L.length : Int) == 0) = false := beq_eq_false_iff_ne.2 (by omega)
    have e2 : ((M.length : Int) == 0) = false := beq_eq_false_iff_ne.2 (by omega)
    have e3 : (((CM.low (L ++ M)).length : Int) == 0) = false := beq_eq_false_iff_ne.2 (by omega)
    have hZL : CM.low (L ++ M) = L → ∀ x, CM.IsMin L n d x → CM.IsMin (CM.low (L ++ M)) n d x := fun h x hx => by rw [h]; exact hx
    have HZL := hidd hZL
    unfold BelowEnd at cb
    unfold MakeEnd at cm1 cm2
    unfold RefAtEnd at cfa cfb cfz
    clear hr hs hA hB hl8 hm8 hmin hsw hll hne hpos hmz hZL hl0 hm0
    generalize CM.low (L ++ M) = Z at *
    obtain ⟨T, hT⟩ : ∃ T, decide (Z = L) = T := ⟨_, rfl⟩
    rw [hT] at cb csa
    have HT := hidd hT
    clear hT
    go_enter Try.func7, Try.ntmps7
    go_wp2_with fail
    refine (cb.out _ (HA.out.below PN.out.2) (HB.out.below PN.out.2)).mono ?_
    rintro e w1 ⟨rfl, hb1⟩
    have HP1 := hidd (PN.out.1.keep hb1)
    have HB1 := hidd (below_step PN.out.2 hb1)
    clear hb1
    go_wp2_with fail
    refine (cm1.out _ (HA.out.below HB1.out) (HB.out.below HB1.out)).mono ?_
    rintro e w2 ⟨v1, rfl, hO1, hb2⟩
    obtain ⟨A1, c1, rfl, _, _, hl1⟩ := hO1.lie sendV_len
    have hbb := below_step (below_new (Below.refl w1.heap.size w1) (.cells #[.slice A L.length c, .slice B M.length c'] 24)) hb2
    have HL1 := hidd hl1
    have HP2 := hidd (HP1.out.keep hbb)
    have HB2 := hidd (below_step HB1.out hbb)
    clear hO1 hb2 hbb hl1
    go_wp2_with fail
    refine (cm2.out _ (HB.out.below HB2.out) (HA.out.below HB2.out)).mono ?_
    rintro e w3 ⟨v2, rfl, hO2, hb3⟩
    obtain ⟨A2, c2, rfl, _, _, hl2⟩ := hO2.lie sendV_len
    have hbb := below_step (below_new (Below.refl w2.heap.size w2) (.cells #[.slice B M.length c', .slice A L.length c] 24)) hb3
    have HL2 := hidd hl2
    have HL3 := hidd (HL1.out.below hbb)
    have HP3 := hidd (HP2.out.keep hbb)
    have HB3 := hidd (below_step HB2.out hbb)
    clear hO2 hb3 hbb hl2
    go_wp2_with fail
    refine (csame.out A1 A2 c1 c2 _ HL3.out HL2.out).mono ?_
    rintro e w4 ⟨rfl, q, rfl⟩
    have hq : Below w3.heap.size w3 (w3.drewN q) := by (repeat' (first | (with_reducible exact Below.refl _ _) | (with_reducible assumption) | (with_reducible apply Below.setCell) | (with_reducible apply Below.alloc) | (with_reducible apply Below.drew) | (with_reducible apply below_drewN) | (with_reducible refine Below.trans ?_ (Below.mono (by assumption) ?_)) | omega | (simp; done) | (simp; omega)))
    have HB4 := hidd (below_step HB3.out hq)
    have HL4 := hidd (HL3.out.below hq)
    clear hq
    go_wp2_with fail
    refine (csa.out A1 c1 _ HL4.out (HA.out.below HB4.out)).mono ?_
    rintro e w5 ⟨rfl, q2, rfl⟩
    obtain ⟨k0, k1, k2⟩ := HP3.out
    by_cases hall : (0 ≤ n ∧ n ≤ 1000000) ∧ (1 ≤ d ∧ d ≤ 100)
    case neg =>
      have hs : n < 0 ∨ (¬ n < 0 ∧ 1000000 < n) ∨ (¬ n < 0 ∧ ¬ 1000000 < n ∧ d < 1) ∨ (¬ n < 0 ∧ ¬ 1000000 < n ∧ ¬ d < 1 ∧ 100 < d) := by omega
      clear hall cfa cfb cfz
      rcases hs with s1 | ⟨s1, s2⟩ | ⟨s1, s2, s3⟩ | ⟨s1, s2, s3, s4⟩
      all_goals
        go_wp2_with fail
        go_quiet (fail)
        go_wp2_with fail
        refine (ck.out _).mono ?_
        rintro e w6 ⟨rfl, hb6⟩
        go_wp2_with fail
        go_ret
        exact ⟨by first | rfl | simp, below_step (show Below w.heap.size w _ by have := HB3.out; (repeat' (first | (with_reducible exact Below.refl _ _) | (with_reducible assumption) | (with_reducible apply Below.setCell) | (with_reducible apply Below.alloc) | (with_reducible apply Below.drew) | (with_reducible apply below_drewN) | (with_reducible refine Below.trans ?_ (Below.mono (by assumption) ?_)) | omega | (simp; done) | (simp; omega)))) hb6⟩
    case pos =>
      obtain ⟨⟨n0, n1⟩, d0, d1⟩ := hall
      have ca := hidd (cfa.out n0 (by omega) d0 d1)
      have cb' := hidd (cfb.out n0 (by omega) d0 d1)
      have cz := hidd (fun W hW => cfz.out A1 c1 n0 (by omega) d0 d1 W hW)
      have hmin2 := fun v => HMIN.out n0 (by omega) v
      have HMIN2 := hidd hmin2
      clear cfa cfb cfz HMIN hmin2
      go_wp2_with fail
      go_quiet (fail)
      go_wp2_with fail
      refine (ca.out _ (HA.out.below (by have := HB3.out; (repeat' (first | (with_reducible exact Below.refl _ _) | (with_reducible assumption) | (with_reducible apply Below.setCell) | (with_reducible apply Below.alloc) | (with_reducible apply Below.drew) | (with_reducible apply below_drewN) | (with_reducible refine Below.trans ?_ (Below.mono (by assumption) ?_)) | omega | (simp; done) | (simp; omega)))))).mono ?_
      rintro e w6 ⟨x, rfl, hx, hb6⟩
      have HX := hidd hx
      have HB6 := hidd (below_step (show Below w.heap.size w _ by have := HB3.out; (repeat' (first | (with_reducible exact Below.refl _ _) | (with_reducible assumption) | (with_reducible apply Below.setCell) | (with_reducible apply Below.alloc) | (with_reducible apply Below.drew) | (with_reducible apply below_drewN) | (with_reducible refine Below.trans ?_ (Below.mono (by assumption) ?_)) | omega | (simp; done) | (simp; omega)))) hb6)
      have HL6 := hidd ((HL3.out.below (show Below w3.heap.size w3 _ by (repeat' (first | (with_reducible exact Below.refl _ _) | (with_reducible assumption) | (with_reducible apply Below.setCell) | (with_reducible apply Below.alloc) | (with_reducible apply Below.drew) | (with_reducible apply below_drewN) | (with_reducible refine Below.trans ?_ (Below.mono (by assumption) ?_)) | omega | (simp; done) | (simp; omega))))).below hb6)
      clear hx hb6
      go_wp2_with fail
      refine (cb'.out _ (HB.out.below HB6.out)).mono ?_
      rintro e w7 ⟨y, rfl, hy, hb7⟩
      have HY := hidd hy
      have HB7 := hidd (below_step HB6.out hb7)
      have HL7 := hidd (HL6.out.below hb7)
      clear hy hb7
      have hle : T = true → x ≤ y := fun h => by
        have hZ : Z = L := of_decide_eq_true (HT.out.trans h)
        have h1 := (HMIN2.out x).1 (HZL.out hZ x HX.out)
        have h2 := h1.same (isMin_append HX.out HY.out)
        omega
      have HLE := hidd hle
      clear hle
      have hmm : ∀ z, CM.IsMin Z n d z → z = min x y := fun z hz => ((HMIN2.out z).1 hz).same (isMin_append HX.out HY.out)
      have HMM := hidd hmm
      clear hmm
      cases T
      case false =>
        go_wp2_with fail
        refine (cz.out _ HL7.out).mono ?_
        rintro e w8 ⟨z, rfl, hz, hb8⟩
        obtain rfl := HMM.out z hz
        have HB8 := hidd (below_step HB7.out hb8)
        clear hz hb8
        go_wp2_with fail
        refine (ck.out _).mono ?_
        rintro e w9 ⟨rfl, hb9⟩
        go_wp2_with fail
        go_ret
        exact ⟨by first | rfl | simp, below_step HB8.out hb9⟩
      case true =>
        have hxy : x ≤ y := HLE.out rfl
        go_wp2_with fail
        refine (cz.out _ HL7.out).mono ?_
        rintro e w8 ⟨z, rfl, hz, hb8⟩
        obtain rfl := HMM.out z hz
        have HB8 := hidd (below_step HB7.out hb8)
        clear hz hb8
        go_wp2_with fail
        refine (ck.out _).mono ?_
        rintro e w9 ⟨rfl, hb9⟩
        go_wp2_with fail
        go_ret
        exact ⟨by first | rfl | simp, below_step HB8.out hb9⟩
end Go.Proofs.Ytigfnbofpiomkaa
