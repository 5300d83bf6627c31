/- The walk of CurveSums: the sum of a curve with itself is twice as high everywhere; the least rate of a sum. -/
import Derived.Test.YtpgaklfgbioocaaCxD
import Derived.Test.YtpgaklfgbioocaaCvV
namespace Go.Proofs.Ytpgaklfgbioocaa
set_option linter.unusedVariables false
open Go.RowKit Go.Proofs.Ytpgaklfgbioocaa.RowK

theorem allR_two {u v : Value} {L M : List (Int × Int)} (hL : RgtC L) (hM : RgtC M) : AllR [(u, L), (v, M)] := fun j h => by
  have h2 : j = 0 ∨ j = 1 := by simp at h; omega
  rcases h2 with rfl | rfl
  · exact hL
  · exact hM
theorem min_self (A : Option Addr) (L : List (Int × Int)) (c : Nat) (hL : RgtC L) (W : World) (hW : Lie sendV 2 W W.heap.size A L) (t : TypeId) :
    Calls Try.prog 7 #[.slice (some ⟨W.heap.size, 0, none⟩) 2 2] (W.alloc (.cells #[.slice A L.length c, .slice A L.length c] t)) fun e w' => ∃ v, e = .returned (.tuple #[v, .int .i64 0]) ∧ OwnL sendV 2 w' W.heap.size 44 v L ∧ Below (W.alloc (.cells #[.slice A L.length c, .slice A L.length c] t)).heap.size (W.alloc (.cells #[.slice A L.length c, .slice A L.length c] t)) w' := by
  have hl := hL.1.2
  have hne : L ≠ [] := fun e => by have := hL.1.1; rw [e] at this; simp at this
  have e : CM.low (allLines [((.slice A L.length c : Value), L), (.slice A L.length c, L)]) = L := by
    rw [allLines_two, CM.low_mems (m := L) (by simp [hne]) (fun x => by simp), CM.low_self hL.2.2]
  have h := min_good true (some ⟨W.heap.size, 0, none⟩) 2 [(.slice A L.length c, L), (.slice A L.length c, L)] (by simp) (by simp) (fun x hx => by simp at hx; subst hx; simp only; omega) (by rw [allLines_two]; simp; omega) (W.alloc (.cells #[.slice A L.length c, .slice A L.length c] t)) (curves_two hW hW t) (allR_two hL hL) (by rw [e]; simp [hl])
  rw [if_pos rfl, if_pos rfl, e] at h
  exact h.mono fun e w' ⟨v, h1, h2, h3⟩ => ⟨v, h1, OwnL.base h2 (by simp), h3⟩
theorem bound_self {L : List (Int × Int)} (hL : RgtC L) : boundP L := may_bound hL.2.1 hL.1.1 hL.1.2
theorem sum_two (A B : Option Addr) (L M : List (Int × Int)) (c d : Nat) (hL : RgtC L) (hM : RgtC M) (hc : L.length ≤ c) (hcm : c ≤ maxLen) (hd : M.length ≤ d) (hdm : d ≤ maxLen) (W : World) (hA : Lie sendV 2 W W.heap.size A L) (hB : Lie sendV 2 W W.heap.size B M) (t : TypeId) :
    Calls Try.prog 8 #[.slice (some ⟨W.heap.size, 0, none⟩) 2 2] (W.alloc (.cells #[.slice A L.length c, .slice B M.length d] t)) fun e w' => ((∃ v, e = .returned (.tuple #[v, .int .i64 0]) ∧ RgtC (CM.tog L M) ∧ OwnL sendV 2 w' W.heap.size 44 v (CM.tog L M)) ∨ e = .returned (.tuple #[.slice none 0 0, .int .i64 3])) ∧ Below (W.alloc (.cells #[.slice A L.length c, .slice B M.length d] t)).heap.size (W.alloc (.cells #[.slice A L.length c, .slice B M.length d] t)) w' := by
  have hl := hL.1.2
  have hm := hM.1.2
  have h := sum_good (some ⟨W.heap.size, 0, none⟩) 2 [(.slice A L.length c, L), (.slice B M.length d, M)] (by simp) (by simp) (fun x hx => by simp at hx; rcases hx with rfl | rfl <;> simp only <;> omega) (fun x hx => by simp at hx; rcases hx with rfl | rfl; exact ⟨_, _, rfl, hc, hcm⟩; exact ⟨_, _, rfl, hd, hdm⟩) (W.alloc (.cells #[.slice A L.length c, .slice B M.length d] t)) (curves_two hA hB t) (allR_two hL hM)
  have e : sumL [(0, 0)] ([((.slice A L.length c : Value), L), (.slice B M.length d, M)].map (·.2)) = if boundP (CM.tog L M) then some (CM.tog L M) else none := by
    show sumL [(0, 0)] [L, M] = _
    rw [sumL_cons, CM.tog_zero hL.2.2, if_pos (bound_self hL), sumL_cons]
    rfl
  refine h.mono fun en w' hh => ?_
  rcases hh with ⟨T, v, h1, h2, h3, h4, h5⟩ | ⟨h1, h2, h3⟩
  · rw [e] at h1
    by_cases hb : boundP (CM.tog L M)
    · rw [if_pos hb] at h1
      obtain rfl : CM.tog L M = T := by injection h1
      exact ⟨.inl ⟨v, h3, h2, OwnL.base h4 (by simp)⟩, h5⟩
    · rw [if_neg hb] at h1
      cases h1
  · exact ⟨.inr h2, h3⟩
theorem same_b (A B : Option Addr) (L : List (Int × Int)) (c d : Nat) (hL : L.length ≤ 1000000) (w : World) (hA : Lie sendV 2 w w.heap.size A L) (hB : Lie sendV 2 w w.heap.size B L) :
    Calls Try.prog 15 #[.slice A L.length c, .slice B L.length d] w fun e w' => e = .returned (.bool true) ∧ Below w.heap.size w w' :=
  (same_any A B L L c d hL hL w hA hB).mono fun e w' ⟨h, q, hq⟩ => ⟨by rw [h]; simp, by subst hq; exact below_drewN (Below.refl _ _) q⟩
theorem min_range {L : List (Int × Int)} (hm : MayAll L) {t x : Int} (h0 : 0 ≤ t) (h1 : t ≤ 1000000) (h : CM.IsMin L t 1 x) : 0 ≤ x ∧ x ≤ 2000000000000000 := by
  obtain ⟨⟨z, hz, rfl⟩, _⟩ := h
  obtain ⟨i, hi, rfl⟩ := List.getElem_of_mem hz
  have := may_at hm hi
  rw [(CM.at_get hi).1, (CM.at_get hi).2] at this
  unfold CM.val
  have k1 : 0 ≤ L[i].2 * t := Int.mul_nonneg (by omega) h0
  have k2 : L[i].2 * t ≤ 1000000000 * 1000000 := Int.mul_le_mul (by omega) h1 h0 (by decide)
  omega
set_option maxRecDepth 100000 in
set_option maxHeartbeats 8000000 in
theorem sums_main (A : Option Addr) (L : List (Int × Int)) (c : Nat) (hc : L.length ≤ c) (hcm : c ≤ maxLen) (B : Option Addr) (M : List (Int × Int)) (d : Nat) (hd : M.length ≤ d) (hdm : d ≤ maxLen) (t : Int) (hl8 : L.length ≤ 8) (hm8 : M.length ≤ 8) (hL : RgtC L) (hM : RgtC M) (t0 : 0 ≤ t) (t1 : t ≤ 1000000) (w : World) (hA : Lie sendV 2 w w.heap.size A L) (hB : Lie sendV 2 w w.heap.size B M) :
    Calls Try.prog 4 #[.slice A L.length c, .slice B M.length d, .int .i64 t] w fun e w' => e = .returned (.bool true) ∧ Below w.heap.size w w' := by
  have ck := hidd (fun W => known3_any W)
  have LA := hidd (fun W (hW : Below w.heap.size w W) => hA.below hW)
  have LB := hidd (fun W (hW : Below w.heap.size w W) => hB.below hW)
  have cA := hidd (fun W (hW : Below w.heap.size w W) => curveCheck_any A L c (by omega) W (hA.below hW))
  have cB := hidd (fun W (hW : Below w.heap.size w W) => curveCheck_any B M d (by omega) W (hB.below hW))
  have cMin := hidd (fun W (hW : Below w.heap.size w W) ty => min_self A L c hL W (hA.below hW) ty)
  have cS1 := hidd (fun W (hW : Below w.heap.size w W) ty => sum_two A A L L c c hL hL hc hcm hc hcm W (hA.below hW) (hA.below hW) ty)
  have cS2 := hidd (fun W (hW : Below w.heap.size w W) ty => sum_two A B L M c d hL hM hc hcm hd hdm W (hA.below hW) (hB.below hW) ty)
  have htk : tickB t = true := decide_eq_true ⟨t0, by omega⟩
  have cAt := hidd (fun W (hW : Below w.heap.size w W) => curveAt_yes A L c t hc hcm W (hA.below hW) hL htk)
  have cAt2 := hidd (fun (S : List (Int × Int)) A2 c2 (h : RgtC S) h1 h2 W hW => curveAt_yes A2 S c2 t h1 h2 W hW h htk)
  have cSm := hidd (fun A2 c2 W (h : Lie sendV 2 W W.heap.size A2 L) (hW : Below w.heap.size w W) => same_b A2 A L c2 c (by omega) W h (hA.below hW))
  have cP := hidd (fun W (hW : Below w.heap.size w W) => (slowest_any A L c (by omega) W (hA.below hW)).1 hL)
  have cQ := hidd (fun W (hW : Below w.heap.size w W) => (slowest_any B M d (by omega) W (hB.below hW)).1 hM)
  have cR := hidd (fun (S : List (Int × Int)) A2 c2 (h : RgtC S) W hW => (slowest_any A2 S c2 (by have := h.1; omega) W hW).1 h)
  have HDBL := hidd (fun x (h : CM.IsMin L t 1 x) y (g : CM.IsMin (CM.tog L L) t 1 y) => (show y = 2 * x from by
    rw [CM.tog_self hL.2.2] at g
    exact g.same (CM.min_dbl h)))
  have HRNG := hidd (fun x (h : CM.IsMin L t 1 x) => min_range hL.2.1 t0 t1 h)
  have HLAST := hidd (CM.tog_last hL.2.2 hM.2.2).2
  have u := may_at hL.2.1 (show L.length - 1 < L.length by have := hL.1; omega)
  have v := may_at hM.2.1 (show M.length - 1 < M.length by have := hM.1; omega)
  have HRL := hidd hL
  have HRM := hidd hM
  obtain ⟨P, hP⟩ : ∃ P, SM.sv L (L.length - 1) = P := ⟨_, rfl⟩
  obtain ⟨Q, hQ⟩ : ∃ Q, SM.sv M (M.length - 1) = Q := ⟨_, rfl⟩
  rw [hP] at cP HLAST u
  rw [hQ] at cQ HLAST v
  obtain ⟨e1, e1'⟩ : IntKind.i64.wrap (P + Q) = P + Q ∧ wrap64 (P + Q) = P + Q := by
    have e : IntKind.i64.wrap (P + Q) = P + Q := IntWalk.i64_in _ (by omega)
    exact ⟨e, by conv => { rhs; rw [← e] }; simp [IntKind.wrap_i64, wrap64]⟩
  obtain ⟨PQ, hPQ⟩ : ∃ x, P + Q = x := ⟨_, rfl⟩
  rw [hPQ] at HLAST
  replace e1 := e1.trans hPQ
  replace e1' := e1'.trans hPQ
  obtain ⟨nl, hnl⟩ : ∃ k, L.length = k := ⟨_, rfl⟩
  obtain ⟨nm, hnm⟩ : ∃ k, M.length = k := ⟨_, rfl⟩
  rw [hnl] at cA cMin cS1 cS2 cAt cSm cP hl8 ⊢
  rw [hnm] at cB cS2 cQ hm8 ⊢
  have k1 : ¬ (8 : Int) < (nl : Int) := by omega
  have k2 : ¬ (8 : Int) < (nm : Int) := by omega
  have k3 : ¬ t < 0 := by omega
  have k4 : ¬ 1000000 < t := by omega
  have HNL := hidd hnl
  have HB0 := hidd (Below.refl w.heap.size w)
  clear hc hcm hd hdm hL hM hA hB t0 t1 htk u v hP hQ hPQ hnl hnm
  unfold ChkEnd at cA cB
  unfold AtEnd at cAt cAt2
  go_enter Try.func4, Try.ntmps4
  go_wp2_with fail
  refine (cA.out _ HB0.out).mono ?_
  rintro e w1 ⟨R, rfl, hR, hb1⟩
  obtain rfl : R = true := hR.2 HRL.out
  have HB1 := hidd hb1
  clear hR hb1
  go_wp2_with fail
  refine (cB.out _ HB1.out).mono ?_
  rintro e w2 ⟨R, rfl, hR, hb2⟩
  obtain rfl : R = true := hR.2 HRM.out
  have HB2 := hidd (below_step HB1.out hb2)
  clear hR hb2
  go_wp2_with fail
  refine (cMin.out _ HB2.out _).mono ?_
  rintro e w3 ⟨vm, rfl, hO, hb3⟩
  have HB3 := hidd (below_step (below_new HB2.out _) hb3)
  have HM3 := hidd hO
  clear hO hb3
  go_wp2_with fail
  refine (cS1.out _ HB3.out _).mono ?_
  rintro e w4 ⟨hcs, hb4⟩
  have HB4 := hidd (below_step (below_new HB3.out _) hb4)
  have HM4 := hidd ((HM3.out.alloc _).below hb4)
  clear hb4
  rcases hcs with ⟨vs, rfl, hrs, hOs⟩ | rfl
  · have HOS := hidd hOs
    go_wp2_with fail
    refine (cAt.out _ HB4.out).mono ?_
    rintro e w5 ⟨x, rfl, hx, hb5⟩
    have HB5 := hidd (below_step HB4.out hb5)
    have HM5 := hidd (HM4.out.below hb5)
    have HS5 := hidd (hOs.below hb5)
    have HRS := hidd hrs
    have HX := hidd hx
    obtain ⟨x0, x1⟩ := HRNG.out x hx
    obtain ⟨A2, c2, rfl, _, _, hl2⟩ := HM5.out.lie sendV_len
    have CSM := hidd (cSm.out A2 c2 w5 hl2 HB5.out)
    rw [HNL.out]
    clear hx hb5 hl2 hrs hOs
    go_wp2_with fail
    refine (CSM.out).mono ?_
    rintro e w6 ⟨rfl, hb6⟩
    have HB6 := hidd (below_step HB5.out hb6)
    have HS6 := hidd (HS5.out.below hb6)
    obtain ⟨A3, c3, rfl, hc3, hc4, hl3⟩ := HS6.out.lie sendV_len
    have CA2 := hidd (cAt2.out (CM.tog L L) A3 c3 HRS.out hc3 hc4 w6 hl3)
    have HD := hidd (fun y h => HDBL.out x HX.out y h)
    obtain ⟨e2, e2'⟩ : IntKind.i64.wrap (2 * x) = 2 * x ∧ wrap64 (2 * x) = 2 * x := by
      have e : IntKind.i64.wrap (2 * x) = 2 * x := IntWalk.i64_in _ (by omega)
      exact ⟨e, by conv => { rhs; rw [← e] }; simp [IntKind.wrap_i64, wrap64]⟩
    obtain ⟨X2, hX2⟩ : ∃ y, 2 * x = y := ⟨_, rfl⟩
    rw [hX2] at HD
    replace e2 := e2.trans hX2
    replace e2' := e2'.trans hX2
    obtain ⟨TT, hTT⟩ : ∃ TT, CM.tog L L = TT := ⟨_, rfl⟩
    rw [hTT] at CA2 HD ⊢
    obtain ⟨nt, hnt⟩ : ∃ k, TT.length = k := ⟨_, rfl⟩
    rw [hnt] at CA2 ⊢
    clear hb6 hc3 hc4 hl3 hX2 hTT hnt x0 x1
    go_wp2_with fail
    refine (CA2.out).mono ?_
    rintro e w7 ⟨y, rfl, hy, hb7⟩
    obtain rfl : y = X2 := HD.out y hy
    have HB7 := hidd (below_step HB6.out hb7)
    clear hb7 hy
    go_wp2_with fail
    refine (cS2.out _ HB7.out _).mono ?_
    rintro e w8 ⟨hcs, hb8⟩
    have HB8 := hidd (below_step (below_new HB7.out _) hb8)
    clear hb8
    rcases hcs with ⟨vt, rfl, hrt, hOt⟩ | rfl
    · have HOt := hidd hOt
      have HRT := hidd hrt
      clear hrt hOt
      go_wp2_with fail
      refine (cP.out _ HB8.out).mono ?_
      rintro e wa ⟨rfl, hba⟩
      have HBa := hidd (below_step HB8.out hba)
      have HOa := hidd (HOt.out.below hba)
      clear hba
      go_wp2_with fail
      refine (cQ.out _ HBa.out).mono ?_
      rintro e wb ⟨rfl, hbb⟩
      have HBb := hidd (below_step HBa.out hbb)
      obtain ⟨A4, c4, rfl, _, _, hl4⟩ := (HOa.out.below hbb).lie sendV_len
      have CR := hidd (cR.out (CM.tog L M) A4 c4 HRT.out wb hl4)
      rw [HLAST.out] at CR
      obtain ⟨UU, hUU⟩ : ∃ UU, CM.tog L M = UU := ⟨_, rfl⟩
      rw [hUU] at CR ⊢
      obtain ⟨nu, hnu⟩ : ∃ k, UU.length = k := ⟨_, rfl⟩
      rw [hnu] at CR ⊢
      clear hbb hl4 hUU hnu
      go_wp2_with fail
      refine (CR.out).mono ?_
      rintro e wc ⟨rfl, hbc⟩
      have HBc := hidd (below_step HBb.out hbc)
      clear hbc
      go_wp2_with fail
      refine (ck.out _).mono ?_
      rintro e w9 ⟨rfl, hb9⟩
      have HB9 := hidd (below_step HBc.out hb9)
      clear hb9
      go_wp2_with fail
      go_ret
      exact ⟨by first | rfl | simp, HB9.out⟩
    · go_wp2_with fail
      refine (ck.out _).mono ?_
      rintro e w9 ⟨rfl, hb9⟩
      have HB9 := hidd (below_step HB8.out hb9)
      clear hb9
      go_wp2_with fail
      go_ret
      exact ⟨by first | rfl | simp, HB9.out⟩
  · go_wp2_with fail
    refine (cAt.out _ HB4.out).mono ?_
    rintro e w5 ⟨x, rfl, hx, hb5⟩
    have HB5 := hidd (below_step HB4.out hb5)
    have HM5 := hidd (HM4.out.below hb5)
    have HX := hidd hx
    obtain ⟨x0, x1⟩ := HRNG.out x hx
    obtain ⟨A2, c2, rfl, _, _, hl2⟩ := HM5.out.lie sendV_len
    have CSM := hidd (cSm.out A2 c2 w5 hl2 HB5.out)
    rw [HNL.out]
    clear hx hb5 hl2
    go_wp2_with fail
    refine (CSM.out).mono ?_
    rintro e w6 ⟨rfl, hb6⟩
    have HB6 := hidd (below_step HB5.out hb6)
    clear hb6 x0 x1
    go_wp2_with fail
    refine (cS2.out _ HB6.out _).mono ?_
    rintro e w8 ⟨hcs, hb8⟩
    have HB8 := hidd (below_step (below_new HB6.out _) hb8)
    clear hb8
    rcases hcs with ⟨vt, rfl, hrt, hOt⟩ | rfl
    · have HOt := hidd hOt
      have HRT := hidd hrt
      clear hrt hOt
      go_wp2_with fail
      refine (cP.out _ HB8.out).mono ?_
      rintro e wa ⟨rfl, hba⟩
      have HBa := hidd (below_step HB8.out hba)
      have HOa := hidd (HOt.out.below hba)
      clear hba
      go_wp2_with fail
      refine (cQ.out _ HBa.out).mono ?_
      rintro e wb ⟨rfl, hbb⟩
      have HBb := hidd (below_step HBa.out hbb)
      obtain ⟨A4, c4, rfl, _, _, hl4⟩ := (HOa.out.below hbb).lie sendV_len
      have CR := hidd (cR.out (CM.tog L M) A4 c4 HRT.out wb hl4)
      rw [HLAST.out] at CR
      obtain ⟨UU, hUU⟩ : ∃ UU, CM.tog L M = UU := ⟨_, rfl⟩
      rw [hUU] at CR ⊢
      obtain ⟨nu, hnu⟩ : ∃ k, UU.length = k := ⟨_, rfl⟩
      rw [hnu] at CR ⊢
      clear hbb hl4 hUU hnu
      go_wp2_with fail
      refine (CR.out).mono ?_
      rintro e wc ⟨rfl, hbc⟩
      have HBc := hidd (below_step HBb.out hbc)
      clear hbc
      go_wp2_with fail
      refine (ck.out _).mono ?_
      rintro e w9 ⟨rfl, hb9⟩
      have HB9 := hidd (below_step HBc.out hb9)
      clear hb9
      go_wp2_with fail
      go_ret
      exact ⟨by first | rfl | simp, HB9.out⟩
    · go_wp2_with fail
      refine (ck.out _).mono ?_
      rintro e w9 ⟨rfl, hb9⟩
      have HB9 := hidd (below_step HB8.out hb9)
      clear hb9
      go_wp2_with fail
      go_ret
      exact ⟨by first | rfl | simp, HB9.out⟩
set_option maxRecDepth 100000 in
set_option maxHeartbeats 8000000 in
theorem sums_long (A : Option Addr) (L : List (Int × Int)) (c : Nat) (hc : L.length ≤ c) (hcm : c ≤ maxLen) (B : Option Addr) (M : List (Int × Int)) (d : Nat) (hd : M.length ≤ d) (hdm : d ≤ maxLen) (t : Int) (hl : 8 < L.length ∨ 8 < M.length) (w : World) :
    Calls Try.prog 4 #[.slice A L.length c, .slice B M.length d, .int .i64 t] w fun e w' => e = .returned (.bool true) ∧ Below w.heap.size w w' := by
  have ck := hidd (fun W => known3_any W)
  have HB0 := hidd (Below.refl w.heap.size w)
  obtain ⟨nl, hnl⟩ : ∃ k, L.length = k := ⟨_, rfl⟩
  obtain ⟨nm, hnm⟩ : ∃ k, M.length = k := ⟨_, rfl⟩
  rw [hnl, hnm] at hl
  rw [hnl, hnm]
  clear hc hcm hd hdm hnl hnm
  by_cases h : 8 < nl
  · have k1 : (8 : Int) < (nl : Int) := by omega
    go_enter Try.func4, Try.ntmps4
    go_wp2_with fail
    refine (ck.out _).mono ?_
    rintro e w9 ⟨rfl, hb9⟩
    have HB9 := hidd (below_step HB0.out hb9)
    clear hb9
    go_wp2_with fail
    go_ret
    exact ⟨by first | rfl | simp, HB9.out⟩
  · have k1 : ¬ (8 : Int) < (nl : Int) := by omega
    have k2 : (8 : Int) < (nm : Int) := by omega
    go_enter Try.func4, Try.ntmps4
    go_wp2_with fail
    refine (ck.out _).mono ?_
    rintro e w9 ⟨rfl, hb9⟩
    have HB9 := hidd (below_step HB0.out hb9)
    clear hb9
    go_wp2_with fail
    go_ret
    exact ⟨by first | rfl | simp, HB9.out⟩
set_option maxRecDepth 100000 in
set_option maxHeartbeats 8000000 in
theorem sums_wrong (A : Option Addr) (L : List (Int × Int)) (c : Nat) (hc : L.length ≤ c) (hcm : c ≤ maxLen) (B : Option Addr) (M : List (Int × Int)) (d : Nat) (hd : M.length ≤ d) (hdm : d ≤ maxLen) (t : Int) (hl8 : L.length ≤ 8) (hm8 : M.length ≤ 8) (hn : ¬ (RgtC L ∧ RgtC M ∧ 0 ≤ t ∧ t ≤ 1000000)) (w : World) (hA : Lie sendV 2 w w.heap.size A L) (hB : Lie sendV 2 w w.heap.size B M) :
    Calls Try.prog 4 #[.slice A L.length c, .slice B M.length d, .int .i64 t] w fun e w' => e = .returned (.bool true) ∧ Below w.heap.size w w' := by
  have ck := hidd (fun W => known3_any W)
  have HB0 := hidd (Below.refl w.heap.size w)
  have cA := hidd (fun W (hW : Below w.heap.size w W) => curveCheck_any A L c (by omega) W (hA.below hW))
  have cB := hidd (fun W (hW : Below w.heap.size w W) => curveCheck_any B M d (by omega) W (hB.below hW))
  have HN := hidd hn
  obtain ⟨PL, hPL⟩ : ∃ P, RgtC L = P := ⟨_, rfl⟩
  obtain ⟨PM, hPM⟩ : ∃ P, RgtC M = P := ⟨_, rfl⟩
  rw [hPL] at cA HN
  rw [hPM] at cB HN
  obtain ⟨nl, hnl⟩ : ∃ k, L.length = k := ⟨_, rfl⟩
  obtain ⟨nm, hnm⟩ : ∃ k, M.length = k := ⟨_, rfl⟩
  rw [hnl] at cA hl8 ⊢
  rw [hnm] at cB hm8 ⊢
  have k1 : ¬ (8 : Int) < (nl : Int) := by omega
  have k2 : ¬ (8 : Int) < (nm : Int) := by omega
  clear hc hcm hd hdm hnl hnm hPL hPM hn hA hB
  unfold ChkEnd at cA cB
  go_enter Try.func4, Try.ntmps4
  go_wp2_with fail
  refine (cA.out _ HB0.out).mono ?_
  rintro e w1 ⟨R, rfl, hR, hb1⟩
  have HB1 := hidd hb1
  have HR := hidd hR
  clear hR hb1
  cases R
  · go_wp2_with fail
    refine (ck.out _).mono ?_
    rintro e w9 ⟨rfl, hb9⟩
    have HB9 := hidd (below_step HB1.out hb9)
    clear hb9
    go_wp2_with fail
    go_ret
    exact ⟨by first | rfl | simp, HB9.out⟩
  · go_wp2_with fail
    refine (cB.out _ HB1.out).mono ?_
    rintro e w2 ⟨R, rfl, hR, hb2⟩
    have HB2 := hidd (below_step HB1.out hb2)
    have HR2 := hidd hR
    clear hR hb2
    cases R
    · go_wp2_with fail
      refine (ck.out _).mono ?_
      rintro e w9 ⟨rfl, hb9⟩
      have HB9 := hidd (below_step HB2.out hb9)
      clear hb9
      go_wp2_with fail
      go_ret
      exact ⟨by first | rfl | simp, HB9.out⟩
    · by_cases h3 : t < 0
      · go_wp2_with fail
        refine (ck.out _).mono ?_
        rintro e w9 ⟨rfl, hb9⟩
        have HB9 := hidd (below_step HB2.out hb9)
        clear hb9
        go_wp2_with fail
        go_ret
        exact ⟨by first | rfl | simp, HB9.out⟩
      · have h4 : 1000000 < t := by
          rcases Int.lt_or_le 1000000 t with h | h
          · exact h
          · exact absurd ⟨HR.out.1 (by first | trivial | rfl), HR2.out.1 (by first | trivial | rfl), by omega, h⟩ HN.out
        go_wp2_with fail
        refine (ck.out _).mono ?_
        rintro e w9 ⟨rfl, hb9⟩
        have HB9 := hidd (below_step HB2.out hb9)
        clear hb9
        go_wp2_with fail
        go_ret
        exact ⟨by first | rfl | simp, HB9.out⟩
theorem sums_walk (A : Option Addr) (L : List (Int × Int)) (c : Nat) (B : Option Addr) (M : List (Int × Int)) (d : Nat) (t : Int) (hc : L.length ≤ c) (hcm : c ≤ maxLen) (hd : M.length ≤ d) (hdm : d ≤ maxLen) (_t0 : -9223372036854775808 ≤ t) (_t1 : t ≤ 9223372036854775807) (w : World) (hA : Lie sendV 2 w w.heap.size A L) (hB : Lie sendV 2 w w.heap.size B M) :
    Calls Try.prog 4 #[.slice A L.length c, .slice B M.length d, .int .i64 t] w fun e w' => e = .returned (.bool true) ∧ Below w.heap.size w w' := by
  by_cases hl : 8 < L.length ∨ 8 < M.length
  · exact sums_long A L c hc hcm B M d hd hdm t hl w
  · by_cases hn : RgtC L ∧ RgtC M ∧ 0 ≤ t ∧ t ≤ 1000000
    · exact sums_main A L c hc hcm B M d hd hdm t (by omega) (by omega) hn.1 hn.2.1 hn.2.2.1 hn.2.2.2 w hA hB
    · exact sums_wrong A L c hc hcm B M d hd hdm t (by omega) (by omega) hn w hA hB
end Go.Proofs.Ytpgaklfgbioocaa
