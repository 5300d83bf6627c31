/- Texts that the claim hangs on, in one. -/
import Derived.Test.YtokcalmmmfakcaaGreatMpF
import Derived.Test.YtokcalmmmfakcaaGreatZcA
/- minplus: how late, how much, where the bend is: the faces. -/
namespace Go.Proofs.YtokcalmmmfakcaaGreat
set_option linter.unusedVariables false
open Go.RowKit

theorem liesO_of {w : World} {A : Option Addr} {l : List (Int × Int)} (h : Zp.Lie Zp.sendV 2 w w.heap.size A l) : LiesO w A l := fun h0 => by
  obtain ⟨ad, e, hb, _, _⟩ := h.send 0 h0
  refine ⟨ad, e, hb, fun i hi => ?_⟩
  obtain ⟨ad', e', _, h1, h2⟩ := h.send i hi
  obtain rfl : ad = ad' := by rw [e] at e'; injection e'
  exact ⟨h1, h2⟩
theorem mayL_of {l : List (Int × Int)} (h : Zp.MayAll l) : MayL l := fun x hx => by
  obtain ⟨i, hi, rfl⟩ := List.mem_iff_getElem.1 hx
  have := Zp.mayB_iff (h i hi)
  rw [← (Zp.av_at hi).1, ← (Zp.av_at hi).2] at this
  simp only at this
  omega
theorem slope_of {l : List (Int × Int)} (h : Zp.Nrm l) : SlopeL l := fun i hi => by
  have := (h.2 (i + 1) (by omega) hi).1
  rw [← (Zp.av_at hi).1, ← (Zp.av_at hi).2] at this
  have e : i + 1 - 1 = i := by omega
  rw [e, ← (Zp.av_at (show i < l.length by omega)).1, ← (Zp.av_at (show i < l.length by omega)).2] at this
  exact this
theorem isCurve_any (A : Option Addr) (l : List (Int × Int)) (c : Nat) (hm : l.length ≤ 1000000) (R : Bool) (hR : R = true ↔ Zp.RgtC l) (w : World) (hl : Zp.Lie Zp.sendV 2 w w.heap.size A l) :
    Calls Tryz.prog 37 #[.slice A l.length c] w fun E w' => E = .returned (.bool R) ∧ Below w.heap.size w w' := by
  have cc := hidd (Zp.curveCheck_any A l c hm w hl)
  have HR := hidd hR
  unfold Zp.ChkEnd at cc
  clear hl hR
  go_enter Tryz.func37, Tryz.ntmps37
  go_wp2_with fail
  refine (cc.out).mono ?_
  rintro E w1 ⟨R2, rfl, hR2, hb⟩
  obtain rfl : R2 = R := by
    have h := hR2.trans HR.out.symm
    cases R2 <;> cases R <;> simp_all
  clear hR2
  cases R2
  · go_wp2_with fail
    go_ret
    exact ⟨by first | rfl | simp, hb⟩
  · go_wp2_with fail
    go_ret
    exact ⟨by first | rfl | simp, hb⟩
theorem NumEnd.told {r : Num3} {w w' : World} {E : Ending} (h : NumEnd r w E w') : E = endOf r ∧ Below w.heap.size w w' := by
  rcases h with ⟨N, D, rfl, rfl, _, hb⟩ | ⟨k, rfl, rfl, hk, hb⟩
  · exact ⟨(endOf_ok (N, D, 0) rfl).symm, hb⟩
  · exact ⟨(endOf_no (0, 0, k) hk).symm, hb⟩
theorem toldMR_any (K : Nat) (he : ∀ args w, (callFunc K args).run Tryz.prog w = .ok (.enter K args) w) (cap : Array Value) (w : World) (r : Num3) (hr : Tells r) (cs : ∀ W, Below w.heap.size w W → Calls Tryz.prog K cap W (NumEnd r W)) :
    Calls Tryz.prog 34 #[.func (Fn.func K) #[] cap] w fun e w' => e = .returned (pairOf r) ∧ Below w.heap.size w w' := by
  rcases hr with ⟨N, D, rfl, _⟩ | ⟨k, rfl, hk⟩
  · exact toldMR_ok K he cap w N D (fun W hW => (cs W hW).mono fun _ _ h => by have := h.told; rwa [endOf_ok _ rfl] at this)
  · exact toldMR_no K he cap w k (fun W hW => (cs W hW).mono fun _ _ h => by have := h.told; rwa [endOf_no _ hk] at this)
set_option maxRecDepth 100000 in
set_option maxHeartbeats 4000000 in
theorem bendHigh_any (N D b r : Int) (hb : Fit b 1) (hr : Fit r 1) (hn : Fit N D) (w : World) :
    Calls Tryz.prog 40 #[.agg #[.int .i64 N, .int .i64 D, .int .i64 b, .int .i64 r]] w (NumEnd (hgtR b r N D) w) := by
  have ch := hidd (fun W => height_any b r N D hb hr hn W)
  clear hb hr hn
  unfold NumEnd at ch ⊢
  go_enter Tryz.func40, Tryz.ntmps40
  go_wp2_with fail
  refine (ch.out _).mono ?_
  rintro E w1 (⟨P, Q, rfl, hP, hPr, hb1⟩ | ⟨k, rfl, hk, hk0, hb1⟩)
  case inr =>
    have HB1 := hidd (Below.trans (show Below w.heap.size w ((w.alloc (.cells #[.int .i64 N, .int .i64 D, .int .i64 b, .int .i64 r] 70)).alloc (.cells #[.int .i64 0, .int .i64 0] 66)) by (repeat' (first | (with_reducible exact Below.refl _ _) | (with_reducible assumption) | (with_reducible apply Below.setCell) | (with_reducible apply Below.alloc) | (with_reducible apply Below.drew) | (with_reducible apply below_drewN) | (with_reducible refine Below.trans ?_ (Below.mono (by assumption) ?_)) | omega | (simp; done) | (simp; omega)))) (hb1.mono (by simp; omega)))
    go_wp2_with fail
    exact ⟨rfl, .inr ⟨k, rfl, hk, hk0, HB1.out⟩⟩
  have HB1 := hidd (Below.trans (show Below w.heap.size w ((w.alloc (.cells #[.int .i64 N, .int .i64 D, .int .i64 b, .int .i64 r] 70)).alloc (.cells #[.int .i64 0, .int .i64 0] 66)) by (repeat' (first | (with_reducible exact Below.refl _ _) | (with_reducible assumption) | (with_reducible apply Below.setCell) | (with_reducible apply Below.alloc) | (with_reducible apply Below.drew) | (with_reducible apply below_drewN) | (with_reducible refine Below.trans ?_ (Below.mono (by assumption) ?_)) | omega | (simp; done) | (simp; omega)))) (hb1.mono (by simp; omega)))
  obtain ⟨g5, g0, g1, g2, g3⟩ := (GBox.new (w := w.alloc (.cells #[.int .i64 N, .int .i64 D, .int .i64 b, .int .i64 r] 70)) (b := w.heap.size + 1) (by simp) 66 0 0).step hb1
  have hs := HB1.out.size
  clear hb1
  go_wp2_with fail
  exact bodyPost_ret (v := .agg #[.int .i64 P, .int .i64 Q]) (by simp [results, Tryz.results40, go_sem, *]) rfl (.inl ⟨P, Q, rfl, hP, hPr, by have q := HB1.out; (repeat' (first | (with_reducible exact Below.refl _ _) | (with_reducible assumption) | (with_reducible apply Below.setCell) | (with_reducible apply Below.alloc) | (with_reducible apply Below.drew) | (with_reducible apply below_drewN) | (with_reducible refine Below.trans ?_ (Below.mono (by assumption) ?_)) | omega | (simp; done) | (simp; omega)))⟩)
/-- a curve and a service in two boxes. -/
def AskC (W : World) (a b : Nat) (A : Option Addr) (l : List (Int × Int)) (c : Nat) (rn rd ln ld : Int) : Prop :=
  (a < W.heap.size ∧ W.cell? ⟨a, 0, none⟩ = some (.slice A l.length c)) ∧ HasServ W b rn rd ln ld ∧ Zp.Lie Zp.sendV 2 W W.heap.size A l
theorem AskC.step {W W' : World} {a b : Nat} {A : Option Addr} {l : List (Int × Int)} {c : Nat} {rn rd ln ld : Int} (h : AskC W a b A l c rn rd ln ld) (hb : Below W.heap.size W W') : AskC W' a b A l c rn rd ln ld :=
  ⟨⟨Nat.lt_of_lt_of_le h.1.1 hb.size, (hb.cell (p := ⟨a, 0, none⟩) h.1.1).trans h.1.2⟩, h.2.1.step hb, h.2.2.below hb⟩
/-- how late, of a curve that may be. -/
def lateT (l : List (Int × Int)) (i : Nat) (rn rd ln ld : Int) : Num3 :=
  thenR (bendR l i) (fun tn td => thenR (hgtR (l.getD i (0, 0)).1 (l.getD i (0, 0)).2 tn td) (fun hn hd => thenR (divT hn hd rn rd) (fun x d => thenR (subT x d tn td) (fun y e => RM.plusR y e ln ld))))
def lateM (R : Bool) (l : List (Int × Int)) (rn rd ln ld : Int) : Num3 :=
  if R && servB rn rd ln ld then (if flatAt rn rd l < l.length then lateT l (flatAt rn rd l) rn rd ln ld else (0, 0, 140)) else (0, 0, 2)
theorem serv_fit {rn rd ln ld : Int} (h : servB rn rd ln ld = true) (hw : Word4 rn rd ln ld) : Fit rn rd ∧ Fit ln ld ∧ (0 < rn ∧ rn ≤ 1000000 * rd ∧ rd ≤ 1000) ∧ 0 ≤ ln ∧ ln ≤ 2147483647 * ld ∧ ld ≤ 1000000 := by
  unfold servB withB at h
  simp only [Bool.and_eq_true, decide_eq_true_eq] at h
  obtain ⟨⟨⟨⟨⟨⟨a, b⟩, c⟩, d⟩, e⟩, ⟨⟨f, g⟩, k⟩⟩, m⟩ := h
  exact ⟨⟨a, hw.1.1.1, hw.1.1.2, hw.1.2.1, hw.1.2.2⟩, ⟨f, hw.2.1.1, hw.2.1.2, hw.2.2.1, hw.2.2.2⟩, ⟨d, c, e⟩, g, k, m⟩
theorem getD_at {l : List (Int × Int)} {i : Nat} (h : i < l.length) : l.getD i (0, 0) = l[i] := by simp [List.getD_eq_getElem?_getD, h]
theorem entersDelay1 : ∀ args w, (callFunc 35 args).run Tryz.prog w = .ok (.enter 35 args) w := fun args w => by simp [callFunc, Tryz.func35, Tryz.f35, mark]
set_option maxRecDepth 100000 in
set_option maxHeartbeats 8000000 in
theorem delay1_any (R : Bool) (A : Option Addr) (l : List (Int × Int)) (c : Nat) (hm : l.length ≤ 1000000) (hR : R = true ↔ Zp.RgtC l) (rn rd ln ld : Int) (hw : Word4 rn rd ln ld) (a b : Nat) (W : World) (hA : AskC W a b A l c rn rd ln ld) :
    Calls Tryz.prog 35 #[.pointer (some ⟨a, 0, none⟩), .pointer (some ⟨b, 0, none⟩)] W (NumEnd (lateM R l rn rd ln ld) W) := by
  have cc := hidd (fun W' (hl : Zp.Lie Zp.sendV 2 W' W'.heap.size A l) => isCurve_any A l c hm R hR W' hl)
  have cs := hidd (fun W' => isService_any rn rd ln ld hw W')
  have cn := hidd (fun W' => need_no 2 W')
  have cy := hidd (fun W' => need_yes 2 W')
  have hA0 := hA.step (below_new (Below.refl _ _) (.cells #[.int .i64 0, .int .i64 0] 25))
  have HA := hidd hA0
  have hna : ¬ a = W.heap.size := by have := hA.1.1; omega
  have hnb : ¬ b = W.heap.size := by have := hA.2.1.1; omega
  have HG := hidd (GBox.new (w := W) rfl 25 0 0)
  have HW0 := hidd (show Below W.heap.size W (W.alloc (.cells #[.int .i64 0, .int .i64 0] 25)) by (repeat' (first | (with_reducible exact Below.refl _ _) | (with_reducible assumption) | (with_reducible apply Below.setCell) | (with_reducible apply Below.alloc) | (with_reducible apply Below.drew) | (with_reducible apply below_drewN) | (with_reducible refine Below.trans ?_ (Below.mono (by assumption) ?_)) | omega | (simp; done) | (simp; omega))))
  obtain ⟨⟨xa, x0⟩, ⟨xb, ⟨y0, y1⟩, y2, y3⟩, hl⟩ := hA0
  have C0 := hidd (cc.out _ hl)
  cases R
  · have e : lateM false l rn rd ln ld = (0, 0, 2) := by unfold lateM; rfl
    rw [e]
    clear hA hl cc hR e
    unfold NumEnd
    go_enter Tryz.func35, Tryz.ntmps35
    go_wp2_with fail
    refine (C0.out).mono ?_
    rintro E1 w1 ⟨rfl, hb1⟩
    have HB1 := hidd (below_step HW0.out hb1)
    clear hb1
    go_wp2_with fail
    refine (cn.out _).mono ?_
    rintro E2 w2 ⟨rfl, rfl⟩
    go_wp2_with fail
    exact ⟨rfl, .inr ⟨2, rfl, rfl, by decide, HB1.out⟩⟩
  · have hRg := hR.1 rfl
    obtain ⟨S, hS⟩ : ∃ S, servB rn rd ln ld = S := ⟨_, rfl⟩
    rw [hS] at cs
    cases S
    · have e : lateM true l rn rd ln ld = (0, 0, 2) := by unfold lateM; rw [hS]; rfl
      rw [e]
      clear hA hl cc hR e hRg hS
      unfold NumEnd
      go_enter Tryz.func35, Tryz.ntmps35
      go_wp2_with fail
      refine (C0.out).mono ?_
      rintro E1 w1 ⟨rfl, hb1⟩
      have HB1 := hidd (below_step HW0.out hb1)
      have HA1 := hidd (HA.out.step hb1)
      clear hb1 xa x0 xb y0 y1 y2 y3
      obtain ⟨⟨xa, x0⟩, ⟨xb, ⟨y0, y1⟩, y2, y3⟩, -⟩ := HA1.out
      go_wp2_with fail
      refine (cs.out _).mono ?_
      rintro E1 w2 ⟨rfl, hb2⟩
      have HB2 := hidd (below_step HB1.out hb2)
      clear hb2
      go_wp2_with fail
      refine (cn.out _).mono ?_
      rintro E2 w2 ⟨rfl, rfl⟩
      go_wp2_with fail
      exact ⟨rfl, .inr ⟨2, rfl, rfl, by decide, HB2.out⟩⟩
    · obtain ⟨hrf, hlf, hrn, hln⟩ := serv_fit hS hw
      have hmay := mayL_of hRg.2.1
      have hslo := slope_of hRg.2.2
      have e : lateM true l rn rd ln ld = if flatAt rn rd l < l.length then lateT l (flatAt rn rd l) rn rd ln ld else (0, 0, 140) := by unfold lateM; rw [hS]; rfl
      have CB := hidd (fun W' (hl : Zp.Lie Zp.sendV 2 W' W'.heap.size A l) => bendFor_any A l c hRg.1.1 hm hmay hslo rn rd hrf W' (liesO_of hl))
      rw [e]
      obtain ⟨i, hi⟩ : ∃ i, flatAt rn rd l = i := ⟨_, rfl⟩
      rw [hi] at CB ⊢
      have HIF := hidd (fun (h : i < l.length) => (show (if i < l.length then lateT l i rn rd ln ld else (0, 0, 140)) = lateT l i rn rd ln ld from if_pos h))
      have HIN := hidd (fun (h : ¬ i < l.length) => (show (if i < l.length then lateT l i rn rd ln ld else (0, 0, 140)) = (0, 0, 140) from if_neg h))
      obtain ⟨RES, hRES⟩ : ∃ X, (if i < l.length then lateT l i rn rd ln ld else (0, 0, 140)) = X := ⟨_, rfl⟩
      rw [hRES] at HIF HIN ⊢
      have HLT := hidd (fun (h : i < l.length) N D (hb : bendR l i = (N, D, 0)) => (show lateT l i rn rd ln ld = thenR (hgtR (l[i]).1 (l[i]).2 N D) (fun hn hd => thenR (divT hn hd rn rd) (fun x d => thenR (subT x d N D) (fun y e => RM.plusR y e ln ld))) from by
        unfold lateT
        rw [hb, thenR_ok, getD_at h]))
      have HMAY := hidd (fun (h : i < l.length) => hmay _ (List.getElem_mem h))
      have ch := hidd (fun N D b r (h1 : Fit b 1) (h2 : Fit r 1) (h3 : Fit N D) W' => bendHigh_any N D b r h1 h2 h3 W')
      have cby := hidd (fun N D (h3 : RM.Right N D) W' => by_num N D rn rd h3.fit hrf W')
      have cle := hidd (fun N D P Q (h3 : RM.Right N D) (h4 : RM.Right P Q) W' => less_num N D P Q h3.fit h4.fit W')
      have can := hidd (fun N D (h3 : RM.Right N D) W' => and_any N D ln ld h3.fit hlf W')
      unfold BendEnd at CB
      unfold NumEnd at ch cby cle can ⊢
      clear hA hl cc hR e hRg hS hrf hlf hrn hln hmay hslo hi hRES
      go_enter Tryz.func35, Tryz.ntmps35
      go_wp2_with fail
      refine (C0.out).mono ?_
      rintro E1 w1 ⟨rfl, hb1⟩
      have HB1 := hidd (below_step HW0.out hb1)
      have HA1 := hidd (HA.out.step hb1)
      have HG1 := hidd (HG.out.step hb1)
      clear hb1 xa x0 xb y0 y1 y2 y3
      obtain ⟨⟨xa, x0⟩, ⟨xb, ⟨y0, y1⟩, y2, y3⟩, -⟩ := HA1.out
      go_wp2_with fail
      refine (cs.out _).mono ?_
      rintro E1 w2 ⟨rfl, hb2⟩
      have HB2 := hidd (below_step HB1.out hb2)
      have HA2 := hidd (HA1.out.step hb2)
      have HG2 := hidd (HG1.out.step hb2)
      clear hb2 xa x0 xb y0 y1 y2 y3
      obtain ⟨⟨xa, x0⟩, ⟨xb, ⟨y0, y1⟩, y2, y3⟩, -⟩ := HA2.out
      go_wp2_with fail
      refine (cy.out _).mono ?_
      rintro E2 w2 ⟨rfl, rfl⟩
      go_wp2_with fail
      refine (CB.out _ HA2.out.2.2).mono ?_
      rintro E3 w3 (⟨hil, N, D, rfl, hN, hNr, hb3⟩ | ⟨hil, rfl, hb3⟩)
      case inr =>
        have HB3 := hidd (below_step HB2.out hb3)
        have HE := hidd (HIN.out hil)
        clear hb3
        go_wp2_with fail
        exact ⟨rfl, .inr ⟨140, rfl, HE.out, by decide, HB3.out⟩⟩
      have HE := hidd ((HIF.out hil).trans (HLT.out hil N D hN))
      have HM2 := HMAY.out hil
      have HNr := hidd hNr
      obtain ⟨x, hx⟩ : ∃ x, l[i]'hil = x := ⟨_, rfl⟩
      rw [hx] at HE HM2 ⊢
      obtain ⟨bb, r⟩ := x
      simp only at HM2
      have chh := hidd (fun W' => ch.out N D bb r (fit_whole (by omega) (by omega)) (fit_whole (by omega) (by omega)) hNr.fit W')
      have HB3 := hidd (below_new (below_step HB2.out hb3) (.cells #[.int .i64 N, .int .i64 D, .int .i64 bb, .int .i64 r] 70))
      have HA3 := hidd ((HA2.out.step hb3).step (below_new (Below.refl _ _) (.cells #[.int .i64 N, .int .i64 D, .int .i64 bb, .int .i64 r] 70)))
      have HG3 := hidd ((HG2.out.step hb3).past (.cells #[.int .i64 N, .int .i64 D, .int .i64 bb, .int .i64 r] 70))
      have HQ3 := hidd (QuadBox.new (w := w3) rfl 70 N D bb r)
      have hn3 : ¬ w3.heap.size = W.heap.size := by have := (HG2.out.step hb3).1; omega
      clear hb3 xa x0 xb y0 y1 y2 y3 hx hil hN hNr HM2
      obtain ⟨-, ⟨xb, ⟨q0, q1⟩, q2, q3⟩, -⟩ := HA3.out
      obtain ⟨d4, ⟨⟨q4, q5⟩, q6, q7⟩, -⟩ := HQ3.out
      have d0 := xb
      have d1 := xb
      have d2 := xb
      have d3 := xb
      have d5 := d4
      have d6 := d4
      have d7 := d4
      obtain ⟨dz, p0, p1, z0, z1⟩ := HG3.out
      have hBw := HB3.out
      have KEEP := hidd (fun (w' : World) (hb : Below (w3.alloc (.cells #[.int .i64 N, .int .i64 D, .int .i64 bb, .int .i64 r] 70)).heap.size (w3.alloc (.cells #[.int .i64 N, .int .i64 D, .int .i64 bb, .int .i64 r] 70)) w') => (show w'.cell? ⟨b, 0, none⟩ = some (.int .i64 rn) ∧ w'.cell? ⟨b, 1, none⟩ = some (.int .i64 rd) ∧ w'.cell? ⟨b, 2, none⟩ = some (.int .i64 ln) ∧ w'.cell? ⟨b, 3, none⟩ = some (.int .i64 ld) ∧ w'.cell? ⟨w3.heap.size, 0, none⟩ = some (.int .i64 N) ∧ w'.cell? ⟨w3.heap.size, 1, none⟩ = some (.int .i64 D) ∧ w'.cell? ⟨w3.heap.size, 2, none⟩ = some (.int .i64 bb) ∧ w'.cell? ⟨w3.heap.size, 3, none⟩ = some (.int .i64 r) from ⟨(hb.cell (p := ⟨b, 0, none⟩) d0).trans q0, (hb.cell (p := ⟨b, 1, none⟩) d1).trans q1, (hb.cell (p := ⟨b, 2, none⟩) d2).trans q2, (hb.cell (p := ⟨b, 3, none⟩) d3).trans q3, (hb.cell (p := ⟨w3.heap.size, 0, none⟩) d4).trans q4, (hb.cell (p := ⟨w3.heap.size, 1, none⟩) d5).trans q5, (hb.cell (p := ⟨w3.heap.size, 2, none⟩) d6).trans q6, (hb.cell (p := ⟨w3.heap.size, 3, none⟩) d7).trans q7⟩))
      have OUT := hidd (fun (w' : World) (hb : Below (w3.alloc (.cells #[.int .i64 N, .int .i64 D, .int .i64 bb, .int .i64 r] 70)).heap.size (w3.alloc (.cells #[.int .i64 N, .int .i64 D, .int .i64 bb, .int .i64 r] 70)) w') => (show (w'.cell? ⟨W.heap.size, 0, none⟩ = some (.int .i64 0) ∧ w'.cell? ⟨W.heap.size, 1, none⟩ = some (.int .i64 0)) ∧ (w'.frozen? ⟨W.heap.size, 0, none⟩ = false ∧ w'.frozen? ⟨W.heap.size, 1, none⟩ = false) ∧ W.heap.size < w'.heap.size ∧ Below W.heap.size W w' from ⟨⟨(hb.cell (p := ⟨W.heap.size, 0, none⟩) dz).trans p0, (hb.cell (p := ⟨W.heap.size, 1, none⟩) dz).trans p1⟩, ⟨(hb.frozen (p := ⟨W.heap.size, 0, none⟩) dz).trans z0, (hb.frozen (p := ⟨W.heap.size, 1, none⟩) dz).trans z1⟩, Nat.lt_of_lt_of_le dz hb.size, below_step hBw hb⟩))
      clear d0 d1 d2 d3 d4 d5 d6 d7 dz p0 p1 z0 z1 hBw
      have hfd := field_num
      obtain ⟨k0, k1, k2, k3, k4, k5, k6, k7⟩ := KEEP.out _ (Below.refl _ _)
      clear q0 q1 q2 q3 q4 q5 q6 q7
      go_wp2_with fail
      go_region_held (fun w' => w'.cell? ⟨b, 0, none⟩ = some (.int .i64 rn) ∧ w'.cell? ⟨b, 1, none⟩ = some (.int .i64 rd) ∧ w'.cell? ⟨b, 2, none⟩ = some (.int .i64 ln) ∧ w'.cell? ⟨b, 3, none⟩ = some (.int .i64 ld) ∧ w'.cell? ⟨w3.heap.size, 0, none⟩ = some (.int .i64 N) ∧ w'.cell? ⟨w3.heap.size, 1, none⟩ = some (.int .i64 D) ∧ w'.cell? ⟨w3.heap.size, 2, none⟩ = some (.int .i64 bb) ∧ w'.cell? ⟨w3.heap.size, 3, none⟩ = some (.int .i64 r))
        ((first | exact KEEP.out _ cum4 | exact KEEP.out _ cum3 | exact KEEP.out _ cum2 | exact KEEP.out _ cum1 | exact KEEP.out _ (Below.refl _ _) | exact KEEP.out _ (Below.drew (Below.refl _ _)) | (obtain ⟨j0, j1, j2, j3, j4, j5, j6, j7⟩ := KEEP.out _ cum4; refine ⟨?_, ?_, ?_, ?_, ?_, ?_, ?_, ?_⟩ <;> simp [go_sem, *]; done) | go_keep))
        ((first
          | (go_at_call 40; refine (chh.out _).mono ?_; rintro E1 v1 (⟨HN, HD, rfl, hHN, hHNr, l1⟩ | ⟨k, rfl, hk, hk0, l1⟩); rotate_left; exact ⟨rfl, .inr ⟨k, rfl, by rw [HE.out, hk, thenR_no hk0], hk0, (OUT.out _ (by first | exact below_step cum0 l1 | exact below_step (Below.drew (Below.refl _ _)) l1 | exact below_step (Below.refl _ _) l1)).2.2.2⟩⟩; have cum1 : Below (w3.alloc (.cells #[.int .i64 N, .int .i64 D, .int .i64 bb, .int .i64 r] 70)).heap.size (w3.alloc (.cells #[.int .i64 N, .int .i64 D, .int .i64 bb, .int .i64 r] 70)) v1 := (by first | exact below_step (Below.drew (Below.refl _ _)) l1 | exact below_step (Below.refl _ _) l1))
          | (go_at_call 41; refine (cby.out HN HD hHNr _).mono ?_; rintro E2 v2 (⟨XN, XD, rfl, hXN, hXNr, l2⟩ | ⟨k, rfl, hk, hk0, l2⟩); rotate_left; exact ⟨rfl, .inr ⟨k, rfl, by rw [HE.out, hHN, thenR_ok, hk, thenR_no hk0], hk0, (OUT.out _ (by first | exact below_step cum1 l2 | exact below_step (Below.drew (Below.refl _ _)) l2 | exact below_step (Below.refl _ _) l2)).2.2.2⟩⟩; have cum2 : Below (w3.alloc (.cells #[.int .i64 N, .int .i64 D, .int .i64 bb, .int .i64 r] 70)).heap.size (w3.alloc (.cells #[.int .i64 N, .int .i64 D, .int .i64 bb, .int .i64 r] 70)) v2 := (by exact below_step cum1 l2))
          | (go_at_call 42; refine (cle.out XN XD N D hXNr HNr.out _).mono ?_; rintro E3 v3 (⟨YN, YD, rfl, hYN, hYNr, l3⟩ | ⟨k, rfl, hk, hk0, l3⟩); rotate_left; exact ⟨rfl, .inr ⟨k, rfl, by rw [HE.out, hHN, thenR_ok, hXN, thenR_ok, hk, thenR_no hk0], hk0, (OUT.out _ (by first | exact below_step cum2 l3 | exact below_step (Below.drew (Below.refl _ _)) l3 | exact below_step (Below.refl _ _) l3)).2.2.2⟩⟩; have cum3 : Below (w3.alloc (.cells #[.int .i64 N, .int .i64 D, .int .i64 bb, .int .i64 r] 70)).heap.size (w3.alloc (.cells #[.int .i64 N, .int .i64 D, .int .i64 bb, .int .i64 r] 70)) v3 := (by exact below_step cum2 l3))
          | (go_at_call 43; refine (can.out YN YD hYNr _).mono ?_; rintro E4 v4 (⟨P, Q, rfl, hP, hPr, l4⟩ | ⟨k, rfl, hk, hk0, l4⟩); rotate_left; exact ⟨rfl, .inr ⟨k, rfl, by rw [HE.out, hHN, thenR_ok, hXN, thenR_ok, hYN, thenR_ok, hk], hk0, (OUT.out _ (by first | exact below_step cum3 l4 | exact below_step (Below.drew (Below.refl _ _)) l4 | exact below_step (Below.refl _ _) l4)).2.2.2⟩⟩; have cum4 : Below (w3.alloc (.cells #[.int .i64 N, .int .i64 D, .int .i64 bb, .int .i64 r] 70)).heap.size (w3.alloc (.cells #[.int .i64 N, .int .i64 D, .int .i64 bb, .int .i64 r] 70)) v4 := (by exact below_step cum3 l4); obtain ⟨⟨o0, o1⟩, ⟨f0, f1⟩, o5, _⟩ := OUT.out _ cum4)))
      all_goals go_wp2_with fail
      all_goals exact bodyPost_ret (v := .agg #[.int .i64 P, .int .i64 Q]) (by simp [results, Tryz.results35, go_sem, *]) rfl (.inl ⟨P, Q, rfl, by rw [HE.out, hHN, thenR_ok, hXN, thenR_ok, hYN, thenR_ok, hP], hPr, by have q := (OUT.out _ cum4).2.2.2; (repeat' (first | (with_reducible exact Below.refl _ _) | (with_reducible assumption) | (with_reducible apply Below.setCell) | (with_reducible apply Below.alloc) | (with_reducible apply Below.drew) | (with_reducible apply below_drewN) | (with_reducible refine Below.trans ?_ (Below.mono (by assumption) ?_)) | omega | (simp; done) | (simp; omega)))⟩)
end Go.Proofs.YtokcalmmmfakcaaGreat

/- minplus: Delay, At, High, Bend. -/
namespace Go.Proofs.YtokcalmmmfakcaaGreat
set_option linter.unusedVariables false
open Go.RowKit

theorem tells_highR {l : List (Int × Int)} (hl : 0 < l.length) {n d : Int} (hd : 1 ≤ d) : Tells (highR l n d) := by
  unfold highR
  rw [lowR_first hl]
  exact tells_then (tells_hgt _ _ n d hd) (fun N D h => tells_lowK _ (fun x _ => tells_hgt _ _ n d hd) N D h)
theorem tells_servR {rn rd ln ld n d : Int} (hr : 1 ≤ rd) (hl : 1 ≤ ld) (hd : 1 ≤ d) : Tells (servR rn rd ln ld n d) := by
  unfold servR
  split
  · exact .inl ⟨0, 1, rfl, ⟨by decide, by decide, by decide, by decide, by decide⟩⟩
  · exact tells_then (tells_plus n d (-ln) ld hd hl) (fun a b h => tells_times rn rd a b hr h.1)
theorem tells_err {k : Int} (h : ¬ k = 0) : Tells (0, 0, k) := .inr ⟨k, rfl, h⟩
theorem tells_lateM {R : Bool} {l : List (Int × Int)} (hR : R = true ↔ Zp.RgtC l) {rn rd ln ld : Int} (hw : Word4 rn rd ln ld) : Tells (lateM R l rn rd ln ld) := by
  unfold lateM
  by_cases h : (R && servB rn rd ln ld) = true
  · rw [if_pos h]
    obtain ⟨rfl, hS⟩ : R = true ∧ servB rn rd ln ld = true := by simpa using h
    have hRg := hR.1 rfl
    obtain ⟨hrf, hlf, _⟩ := serv_fit hS hw
    by_cases hi : flatAt rn rd l < l.length
    · rw [if_pos hi]
      obtain ⟨N, D, hN, hNr, hN2, hD2⟩ := bend_fits (mayL_of hRg.2.1) (slope_of hRg.2.2) hi
      unfold lateT
      rw [hN, thenR_ok]
      exact tells_then (tells_hgt _ _ N D hNr.1) (fun hn hd h => tells_then (tells_by hn hd rn rd h.1 hrf.right.1) (fun x d h => tells_then (tells_plus x d (-N) D h.1 hNr.1) (fun y e h => tells_plus y e ln ld h.1 hlf.right.1)))
    · rw [if_neg hi]; exact tells_err (by decide)
  · rw [if_neg h]; exact tells_err (by decide)
theorem askC_new (w : World) (A : Option Addr) (l : List (Int × Int)) (c : Nat) (rn rd ln ld : Int) (hl : Zp.Lie Zp.sendV 2 w w.heap.size A l) : AskC (((w.alloc (.cells #[.slice A l.length c] 23)).alloc (.cells #[.int .i64 rn, .int .i64 rd, .int .i64 ln, .int .i64 ld] 27)).alloc (.cells #[.int .i64 0, .int .i64 0] 25)) w.heap.size (w.heap.size + 1) A l c rn rd ln ld :=
  ⟨⟨by simp; omega, by simp [go_sem]⟩, ⟨by simp, ⟨by simp [go_sem], by simp [go_sem]⟩, by simp [go_sem], by simp [go_sem]⟩, hl.below (by (repeat' (first | (with_reducible exact Below.refl _ _) | (with_reducible assumption) | (with_reducible apply Below.setCell) | (with_reducible apply Below.alloc) | (with_reducible apply Below.drew) | (with_reducible apply below_drewN) | (with_reducible refine Below.trans ?_ (Below.mono (by assumption) ?_)) | omega | (simp; done) | (simp; omega))))⟩
set_option maxRecDepth 100000 in
set_option maxHeartbeats 4000000 in
theorem Delay_any (R : Bool) (A : Option Addr) (l : List (Int × Int)) (c : Nat) (hm : l.length ≤ 1000000) (hR : R = true ↔ Zp.RgtC l) (rn rd ln ld : Int) (hw : Word4 rn rd ln ld) (w : World) (hl : Zp.Lie Zp.sendV 2 w w.heap.size A l) :
    Calls Tryz.prog 10 #[.slice A l.length c, .agg #[.int .i64 rn, .int .i64 rd, .int .i64 ln, .int .i64 ld]] w fun e w' => e = .returned (pairOf (lateM R l rn rd ln ld)) ∧ Below w.heap.size w w' := by
  have hmf : ∀ (fn : Fn) (first cap : Array Value) (w : World), (Instr.makeFunc fn first cap).run Tryz.prog w = .ok (.func fn first cap) w := fun _ _ _ _ => rfl
  have V : ∀ W, W = (((w.alloc (.cells #[.slice A l.length c] 23)).alloc (.cells #[.int .i64 rn, .int .i64 rd, .int .i64 ln, .int .i64 ld] 27)).alloc (.cells #[.int .i64 0, .int .i64 0] 25)) → Calls Tryz.prog 34 #[.func (Fn.func 35) #[] #[.pointer (some ⟨w.heap.size, 0, none⟩), .pointer (some ⟨w.heap.size + 1, 0, none⟩)]] W fun e w' => e = .returned (pairOf (lateM R l rn rd ln ld)) ∧ Below W.heap.size W w' := fun W hW => by
    subst hW
    exact toldMR_any _ entersDelay1 _ _ _ (tells_lateM hR hw) (fun W' hW' => delay1_any R A l c hm hR rn rd ln ld hw _ _ W' ((askC_new w A l c rn rd ln ld hl).step hW'))
  have CV := hidd (V _ rfl)
  obtain ⟨⟨N, D, k⟩, hr⟩ : ∃ r, lateM R l rn rd ln ld = r := ⟨_, rfl⟩
  rw [hr] at CV ⊢
  clear V hr hl hR hm
  unfold pairOf at CV ⊢
  simp only at CV ⊢
  go_enter Tryz.func10, Tryz.ntmps10
  go_wp2_with fail
  refine (CV.out).mono ?_
  rintro E w1 ⟨rfl, hb1⟩
  have HB1 := hidd (Below.trans (show Below w.heap.size w (((w.alloc (.cells #[.slice A l.length c] 23)).alloc (.cells #[.int .i64 rn, .int .i64 rd, .int .i64 ln, .int .i64 ld] 27)).alloc (.cells #[.int .i64 0, .int .i64 0] 25)) by (repeat' (first | (with_reducible exact Below.refl _ _) | (with_reducible assumption) | (with_reducible apply Below.setCell) | (with_reducible apply Below.alloc) | (with_reducible apply Below.drew) | (with_reducible apply below_drewN) | (with_reducible refine Below.trans ?_ (Below.mono (by assumption) ?_)) | omega | (simp; done) | (simp; omega)))) (hb1.mono (by first | (simp; done) | (simp; omega))))
  obtain ⟨g5, g0, g1, g2, g3⟩ := (GBox.new (w := ((w.alloc (.cells #[.slice A l.length c] 23)).alloc (.cells #[.int .i64 rn, .int .i64 rd, .int .i64 ln, .int .i64 ld] 27))) (b := w.heap.size + 1 + 1) (by simp) 25 0 0).step hb1
  have hs := HB1.out.size
  clear hb1
  go_wp2_with fail
  exact bodyPost_ret (v := .tuple #[.agg #[.int .i64 N, .int .i64 D], .int .i64 k]) (by simp [results, Tryz.results10, go_sem, *]) rfl ⟨rfl, by have q := HB1.out; (repeat' (first | (with_reducible exact Below.refl _ _) | (with_reducible assumption) | (with_reducible apply Below.setCell) | (with_reducible apply Below.alloc) | (with_reducible apply Below.drew) | (with_reducible apply below_drewN) | (with_reducible refine Below.trans ?_ (Below.mono (by assumption) ?_)) | omega | (simp; done) | (simp; omega)))⟩
def servM (rn rd ln ld n d : Int) : Num3 := if servB rn rd ln ld && withB n d 2147483647 then servR rn rd ln ld n d else (0, 0, 2)
theorem with_fit {n d m : Int} (h : withB n d m = true) (hn : (-9223372036854775808 ≤ n ∧ n ≤ 9223372036854775807) ∧ -9223372036854775808 ≤ d ∧ d ≤ 9223372036854775807) : Fit n d := by
  unfold withB at h
  simp only [Bool.and_eq_true, decide_eq_true_eq] at h
  exact ⟨h.1.1, hn.1.1, hn.1.2, hn.2.1, hn.2.2⟩
theorem tells_servM {rn rd ln ld n d : Int} (hw : Word4 rn rd ln ld) (hn : (-9223372036854775808 ≤ n ∧ n ≤ 9223372036854775807) ∧ -9223372036854775808 ≤ d ∧ d ≤ 9223372036854775807) : Tells (servM rn rd ln ld n d) := by
  unfold servM
  by_cases h : (servB rn rd ln ld && withB n d 2147483647) = true
  · rw [if_pos h]
    obtain ⟨hS, hB⟩ : servB rn rd ln ld = true ∧ withB n d 2147483647 = true := by simpa using h
    obtain ⟨hrf, hlf, _⟩ := serv_fit hS hw
    have hnf := with_fit hB hn
    exact tells_servR hrf.right.1 hlf.right.1 hnf.right.1
  · rw [if_neg h]; exact tells_err (by decide)
theorem entersAt1 : ∀ args w, (callFunc 54 args).run Tryz.prog w = .ok (.enter 54 args) w := fun args w => by simp [callFunc, Tryz.func54, Tryz.f54, mark]
theorem entersHighF : ∀ args w, (callFunc 56 args).run Tryz.prog w = .ok (.enter 56 args) w := fun args w => by simp [callFunc, Tryz.func56, Tryz.f56, mark]
/-- a service and ticks in two boxes. -/
def AskT (W : World) (a b : Nat) (rn rd ln ld n d : Int) : Prop := HasServ W a rn rd ln ld ∧ HasRat W b n d
theorem AskT.step {W W' : World} {a b : Nat} {rn rd ln ld n d : Int} (h : AskT W a b rn rd ln ld n d) (hb : Below W.heap.size W W') : AskT W' a b rn rd ln ld n d := ⟨h.1.step hb, h.2.step hb⟩
/-- a curve and a fraction in two boxes. -/
def AskH (W : World) (a b : Nat) (A : Option Addr) (l : List (Int × Int)) (c : Nat) (n d : Int) : Prop :=
  (a < W.heap.size ∧ W.cell? ⟨a, 0, none⟩ = some (.slice A l.length c)) ∧ HasRat W b n d ∧ Zp.Lie Zp.sendV 2 W W.heap.size A l
theorem AskH.step {W W' : World} {a b : Nat} {A : Option Addr} {l : List (Int × Int)} {c : Nat} {n d : Int} (h : AskH W a b A l c n d) (hb : Below W.heap.size W W') : AskH W' a b A l c n d :=
  ⟨⟨Nat.lt_of_lt_of_le h.1.1 hb.size, (hb.cell (p := ⟨a, 0, none⟩) h.1.1).trans h.1.2⟩, h.2.1.step hb, h.2.2.below hb⟩
set_option maxRecDepth 100000 in
set_option maxHeartbeats 8000000 in
theorem At1_step (rn rd ln ld n d : Int) (hw : Word4 rn rd ln ld) (hn : (-9223372036854775808 ≤ n ∧ n ≤ 9223372036854775807) ∧ -9223372036854775808 ≤ d ∧ d ≤ 9223372036854775807) (a b : Nat) (W : World) (hA : AskT W a b rn rd ln ld n d) :
    Calls Tryz.prog 54 #[.pointer (some ⟨a, 0, none⟩), .pointer (some ⟨b, 0, none⟩)] W (NumEnd (servM rn rd ln ld n d) W) := by
  have cn := hidd (fun W' => need_no 2 W')
  have cy := hidd (fun W' => need_yes 2 W')
  have c1 := hidd (fun W' => isService_any rn rd ln ld hw W')
  have c2 := hidd (fun W' => isTicks_any n d hn.1.1 hn.1.2 hn.2.1 hn.2.2 W')
  have hna : ¬ a = W.heap.size := by have := hA.1.1; omega
  have hnb : ¬ b = W.heap.size := by have := hA.2.2.2; omega
  have HG0 := hidd (GBox.new (w := W) rfl 25 0 0)
  have HB0 := hidd (show Below W.heap.size W (W.alloc (.cells #[.int .i64 0, .int .i64 0] 25)) by (repeat' (first | (with_reducible exact Below.refl _ _) | (with_reducible assumption) | (with_reducible apply Below.setCell) | (with_reducible apply Below.alloc) | (with_reducible apply Below.drew) | (with_reducible apply below_drewN) | (with_reducible refine Below.trans ?_ (Below.mono (by assumption) ?_)) | omega | (simp; done) | (simp; omega))))
  have HA0 := hidd (hA.step (below_new (Below.refl _ _) (.cells #[.int .i64 0, .int .i64 0] 25)))
  obtain ⟨P, hP⟩ : ∃ P, servB rn rd ln ld = P := ⟨_, rfl⟩
  obtain ⟨Q, hQ⟩ : ∃ Q, withB n d 2147483647 = Q := ⟨_, rfl⟩
  rw [hP] at c1
  rw [hQ] at c2
  have hsp : (P = false ∧ servM rn rd ln ld n d = (0, 0, 2)) ∨ (P = true ∧ Q = false ∧ servM rn rd ln ld n d = (0, 0, 2)) ∨ (P = true ∧ Q = true ∧ servM rn rd ln ld n d = servR rn rd ln ld n d) := by
    unfold servM
    rw [hP, hQ]
    cases P <;> cases Q <;> simp
  rcases hsp with ⟨rfl, hres⟩ | ⟨rfl, rfl, hres⟩ | ⟨rfl, rfl, hres⟩
  · rw [hres]
    clear hres hA hP hQ
    obtain ⟨⟨xa, ⟨y0, y1⟩, y2, y3⟩, y4, y5, y6⟩ := HA0.out
    unfold NumEnd
    go_enter Tryz.func54, Tryz.ntmps54
    go_wp2_with fail
    refine (c1.out _).mono ?_
    rintro E1 w1 ⟨rfl, hb1⟩
    have HB1 := hidd (below_step HB0.out hb1)
    have HA1 := hidd (HA0.out.step hb1)
    have HG1 := hidd (HG0.out.step hb1)
    clear hb1
    go_wp2_with fail
    refine (cn.out _).mono ?_
    rintro E9 w9 ⟨rfl, rfl⟩
    go_wp2_with fail
    exact ⟨rfl, .inr ⟨2, rfl, rfl, by decide, HB1.out⟩⟩
  · rw [hres]
    clear hres hA hP hQ
    obtain ⟨⟨xa, ⟨y0, y1⟩, y2, y3⟩, y4, y5, y6⟩ := HA0.out
    unfold NumEnd
    go_enter Tryz.func54, Tryz.ntmps54
    go_wp2_with fail
    refine (c1.out _).mono ?_
    rintro E1 w1 ⟨rfl, hb1⟩
    have HB1 := hidd (below_step HB0.out hb1)
    have HA1 := hidd (HA0.out.step hb1)
    have HG1 := hidd (HG0.out.step hb1)
    clear hb1
    obtain ⟨⟨xa, ⟨y0, y1⟩, y2, y3⟩, y4, y5, y6⟩ := HA1.out
    go_wp2_with fail
    refine (c2.out _).mono ?_
    rintro E2 w2 ⟨rfl, hb2⟩
    have HB2 := hidd (below_step HB1.out hb2)
    have HA2 := hidd (HA1.out.step hb2)
    have HG2 := hidd (HG1.out.step hb2)
    clear hb2
    go_wp2_with fail
    refine (cn.out _).mono ?_
    rintro E9 w9 ⟨rfl, rfl⟩
    go_wp2_with fail
    exact ⟨rfl, .inr ⟨2, rfl, rfl, by decide, HB2.out⟩⟩
  · rw [hres]
    obtain ⟨hrf, hlf, _⟩ := serv_fit hP hw
    have hnf := with_fit hQ hn
    have CF := hidd (fun W' => served_any rn rd ln ld n d hrf hlf hnf W')
    clear hrf hlf hnf
    clear hres hA hP hQ
    obtain ⟨⟨xa, ⟨y0, y1⟩, y2, y3⟩, y4, y5, y6⟩ := HA0.out
    unfold NumEnd
    go_enter Tryz.func54, Tryz.ntmps54
    go_wp2_with fail
    refine (c1.out _).mono ?_
    rintro E1 w1 ⟨rfl, hb1⟩
    have HB1 := hidd (below_step HB0.out hb1)
    have HA1 := hidd (HA0.out.step hb1)
    have HG1 := hidd (HG0.out.step hb1)
    clear hb1
    obtain ⟨⟨xa, ⟨y0, y1⟩, y2, y3⟩, y4, y5, y6⟩ := HA1.out
    go_wp2_with fail
    refine (c2.out _).mono ?_
    rintro E2 w2 ⟨rfl, hb2⟩
    have HB2 := hidd (below_step HB1.out hb2)
    have HA2 := hidd (HA1.out.step hb2)
    have HG2 := hidd (HG1.out.step hb2)
    clear hb2
    obtain ⟨⟨xa, ⟨y0, y1⟩, y2, y3⟩, y4, y5, y6⟩ := HA2.out
    go_wp2_with fail
    refine (cy.out _).mono ?_
    rintro E9 w9 ⟨rfl, rfl⟩
    have hfd := field_num
    unfold NumEnd at CF
    go_wp2_with fail
    refine (CF.out _).mono ?_
    rintro E3 w3 (⟨N, D, rfl, hN, hNr, hb3⟩ | ⟨k, rfl, hk, hk0, hb3⟩)
    case inr =>
      have HB3 := hidd (below_step HB2.out hb3)
      go_wp2_with fail
      exact ⟨rfl, .inr ⟨k, rfl, hk, hk0, HB3.out⟩⟩
    have HB3 := hidd (below_step HB2.out hb3)
    obtain ⟨g5, g0, g1, g2, g3⟩ := (HG2.out.step hb3)
    clear hb3
    have hs := HB3.out.size
    go_wp2_with fail
    exact bodyPost_ret (v := .agg #[.int .i64 N, .int .i64 D]) (by simp [results, Tryz.results54, go_sem, *]) rfl (.inl ⟨N, D, rfl, hN, hNr, by have q := HB3.out; (repeat' (first | (with_reducible exact Below.refl _ _) | (with_reducible assumption) | (with_reducible apply Below.setCell) | (with_reducible apply Below.alloc) | (with_reducible apply Below.drew) | (with_reducible apply below_drewN) | (with_reducible refine Below.trans ?_ (Below.mono (by assumption) ?_)) | omega | (simp; done) | (simp; omega)))⟩)
theorem askT_new (w : World) (rn rd ln ld n d : Int) : AskT (((w.alloc (.cells #[.int .i64 rn, .int .i64 rd, .int .i64 ln, .int .i64 ld] 27)).alloc (.cells #[.int .i64 n, .int .i64 d] 25)).alloc (.cells #[.int .i64 0, .int .i64 0] 25)) w.heap.size (w.heap.size + 1) rn rd ln ld n d :=
  ⟨⟨by simp; omega, ⟨by simp [go_sem], by simp [go_sem]⟩, by simp [go_sem], by simp [go_sem]⟩, ⟨by simp [go_sem], by simp [go_sem], by simp⟩⟩
set_option maxRecDepth 100000 in
set_option maxHeartbeats 4000000 in
theorem At_any (rn rd ln ld n d : Int) (hw : Word4 rn rd ln ld) (hn : (-9223372036854775808 ≤ n ∧ n ≤ 9223372036854775807) ∧ -9223372036854775808 ≤ d ∧ d ≤ 9223372036854775807) (w : World) :
    Calls Tryz.prog 18 #[.agg #[.int .i64 rn, .int .i64 rd, .int .i64 ln, .int .i64 ld], .agg #[.int .i64 n, .int .i64 d]] w fun e w' => e = .returned (pairOf (servM rn rd ln ld n d)) ∧ Below w.heap.size w w' := by
  have hmf : ∀ (fn : Fn) (first cap : Array Value) (w : World), (Instr.makeFunc fn first cap).run Tryz.prog w = .ok (.func fn first cap) w := fun _ _ _ _ => rfl
  have V : ∀ W, W = (((w.alloc (.cells #[.int .i64 rn, .int .i64 rd, .int .i64 ln, .int .i64 ld] 27)).alloc (.cells #[.int .i64 n, .int .i64 d] 25)).alloc (.cells #[.int .i64 0, .int .i64 0] 25)) → Calls Tryz.prog 34 #[.func (Fn.func 54) #[] #[.pointer (some ⟨w.heap.size, 0, none⟩), .pointer (some ⟨w.heap.size + 1, 0, none⟩)]] W fun e w' => e = .returned (pairOf (servM rn rd ln ld n d)) ∧ Below W.heap.size W w' := fun W hW => by
    subst hW
    exact toldMR_any _ entersAt1 _ _ _ (tells_servM hw hn) (fun W' hW' => At1_step rn rd ln ld n d hw hn _ _ W' ((askT_new w rn rd ln ld n d).step hW'))
  have CV := hidd (V _ rfl)
  obtain ⟨⟨N, D, k⟩, hr⟩ : ∃ r, servM rn rd ln ld n d = r := ⟨_, rfl⟩
  rw [hr] at CV ⊢
  clear V hr hn hw
  unfold pairOf at CV ⊢
  simp only at CV ⊢
  go_enter Tryz.func18, Tryz.ntmps18
  go_wp2_with fail
  refine (CV.out).mono ?_
  rintro E w1 ⟨rfl, hb1⟩
  have HB1 := hidd (Below.trans (show Below w.heap.size w (((w.alloc (.cells #[.int .i64 rn, .int .i64 rd, .int .i64 ln, .int .i64 ld] 27)).alloc (.cells #[.int .i64 n, .int .i64 d] 25)).alloc (.cells #[.int .i64 0, .int .i64 0] 25)) by (repeat' (first | (with_reducible exact Below.refl _ _) | (with_reducible assumption) | (with_reducible apply Below.setCell) | (with_reducible apply Below.alloc) | (with_reducible apply Below.drew) | (with_reducible apply below_drewN) | (with_reducible refine Below.trans ?_ (Below.mono (by assumption) ?_)) | omega | (simp; done) | (simp; omega)))) (hb1.mono (by first | (simp; done) | (simp; omega))))
  obtain ⟨g5, g0, g1, g2, g3⟩ := (GBox.new (w := ((w.alloc (.cells #[.int .i64 rn, .int .i64 rd, .int .i64 ln, .int .i64 ld] 27)).alloc (.cells #[.int .i64 n, .int .i64 d] 25))) (b := w.heap.size + 1 + 1) (by simp) 25 0 0).step hb1
  have hs := HB1.out.size
  clear hb1
  go_wp2_with fail
  exact bodyPost_ret (v := .tuple #[.agg #[.int .i64 N, .int .i64 D], .int .i64 k]) (by simp [results, Tryz.results18, go_sem, *]) rfl ⟨rfl, by have q := HB1.out; (repeat' (first | (with_reducible exact Below.refl _ _) | (with_reducible assumption) | (with_reducible apply Below.setCell) | (with_reducible apply Below.alloc) | (with_reducible apply Below.drew) | (with_reducible apply below_drewN) | (with_reducible refine Below.trans ?_ (Below.mono (by assumption) ?_)) | omega | (simp; done) | (simp; omega)))⟩
def highM (R : Bool) (l : List (Int × Int)) (n d : Int) : Num3 := if R && withB n d 2147483647 then highR l n d else (0, 0, 2)
theorem tells_highM {R : Bool} {l : List (Int × Int)} (hR : R = true ↔ Zp.RgtC l) {n d : Int} (hn : (-9223372036854775808 ≤ n ∧ n ≤ 9223372036854775807) ∧ -9223372036854775808 ≤ d ∧ d ≤ 9223372036854775807) : Tells (highM R l n d) := by
  unfold highM
  by_cases h : (R && withB n d 2147483647) = true
  · rw [if_pos h]
    obtain ⟨rfl, hB⟩ : R = true ∧ withB n d 2147483647 = true := by simpa using h
    exact tells_highR (hR.1 rfl).1.1 (with_fit hB hn).right.1
  · rw [if_neg h]; exact tells_err (by decide)
set_option maxRecDepth 100000 in
set_option maxHeartbeats 8000000 in
theorem High1_step (R : Bool) (A : Option Addr) (l : List (Int × Int)) (c : Nat) (hm : l.length ≤ 1000000) (hR : R = true ↔ Zp.RgtC l) (hc : l.length ≤ c) (hcm : c ≤ maxLen) (n d : Int) (hn : (-9223372036854775808 ≤ n ∧ n ≤ 9223372036854775807) ∧ -9223372036854775808 ≤ d ∧ d ≤ 9223372036854775807) (a b : Nat) (W : World) (hA : AskH W a b A l c n d) :
    Calls Tryz.prog 56 #[.pointer (some ⟨a, 0, none⟩), .pointer (some ⟨b, 0, none⟩)] W (NumEnd (highM R l n d) W) := by
  have cn := hidd (fun W' => need_no 2 W')
  have cy := hidd (fun W' => need_yes 2 W')
  have c1 := hidd (fun W' (hl : Zp.Lie Zp.sendV 2 W' W'.heap.size A l) => isCurve_any A l c hm R hR W' hl)
  have c2 := hidd (fun W' => isTicks_any n d hn.1.1 hn.1.2 hn.2.1 hn.2.2 W')
  have hna : ¬ a = W.heap.size := by have := hA.1.1; omega
  have hnb : ¬ b = W.heap.size := by have := hA.2.1.2.2; omega
  have HG0 := hidd (GBox.new (w := W) rfl 25 0 0)
  have HB0 := hidd (show Below W.heap.size W (W.alloc (.cells #[.int .i64 0, .int .i64 0] 25)) by (repeat' (first | (with_reducible exact Below.refl _ _) | (with_reducible assumption) | (with_reducible apply Below.setCell) | (with_reducible apply Below.alloc) | (with_reducible apply Below.drew) | (with_reducible apply below_drewN) | (with_reducible refine Below.trans ?_ (Below.mono (by assumption) ?_)) | omega | (simp; done) | (simp; omega))))
  have HA0 := hidd (hA.step (below_new (Below.refl _ _) (.cells #[.int .i64 0, .int .i64 0] 25)))
  obtain ⟨P, hP⟩ : ∃ P, R = P := ⟨_, rfl⟩
  obtain ⟨Q, hQ⟩ : ∃ Q, withB n d 2147483647 = Q := ⟨_, rfl⟩
  rw [hQ] at c2
  have hsp : (P = false ∧ highM R l n d = (0, 0, 2)) ∨ (P = true ∧ Q = false ∧ highM R l n d = (0, 0, 2)) ∨ (P = true ∧ Q = true ∧ highM R l n d = highR l n d) := by
    unfold highM
    rw [hP, hQ]
    cases P <;> cases Q <;> simp
  subst hP
  rcases hsp with ⟨rfl, hres⟩ | ⟨rfl, rfl, hres⟩ | ⟨rfl, rfl, hres⟩
  · rw [hres]
    clear hres hA hQ hR
    obtain ⟨⟨xa, x0⟩, ⟨y4, y5, y6⟩, -⟩ := HA0.out
    unfold NumEnd
    go_enter Tryz.func56, Tryz.ntmps56
    go_wp2_with fail
    refine (c1.out _ HA0.out.2.2).mono ?_
    rintro E1 w1 ⟨rfl, hb1⟩
    have HB1 := hidd (below_step HB0.out hb1)
    have HA1 := hidd (HA0.out.step hb1)
    have HG1 := hidd (HG0.out.step hb1)
    clear hb1
    go_wp2_with fail
    refine (cn.out _).mono ?_
    rintro E9 w9 ⟨rfl, rfl⟩
    go_wp2_with fail
    exact ⟨rfl, .inr ⟨2, rfl, rfl, by decide, HB1.out⟩⟩
  · rw [hres]
    clear hres hA hQ hR
    obtain ⟨⟨xa, x0⟩, ⟨y4, y5, y6⟩, -⟩ := HA0.out
    unfold NumEnd
    go_enter Tryz.func56, Tryz.ntmps56
    go_wp2_with fail
    refine (c1.out _ HA0.out.2.2).mono ?_
    rintro E1 w1 ⟨rfl, hb1⟩
    have HB1 := hidd (below_step HB0.out hb1)
    have HA1 := hidd (HA0.out.step hb1)
    have HG1 := hidd (HG0.out.step hb1)
    clear hb1
    obtain ⟨⟨xa, x0⟩, ⟨y4, y5, y6⟩, -⟩ := HA1.out
    go_wp2_with fail
    refine (c2.out _).mono ?_
    rintro E2 w2 ⟨rfl, hb2⟩
    have HB2 := hidd (below_step HB1.out hb2)
    have HA2 := hidd (HA1.out.step hb2)
    have HG2 := hidd (HG1.out.step hb2)
    clear hb2
    go_wp2_with fail
    refine (cn.out _).mono ?_
    rintro E9 w9 ⟨rfl, rfl⟩
    go_wp2_with fail
    exact ⟨rfl, .inr ⟨2, rfl, rfl, by decide, HB2.out⟩⟩
  · rw [hres]
    have hRg := hR.1 rfl
    have hnf := with_fit hQ hn
    have CF := hidd (fun W' (hl : Zp.Lie Zp.sendV 2 W' W'.heap.size A l) => high_any A l c hRg.1.1 hm hc hcm (mayL_of hRg.2.1) n d hnf W' (liesO_of hl))
    clear hRg hnf
    clear hres hA hQ hR
    obtain ⟨⟨xa, x0⟩, ⟨y4, y5, y6⟩, -⟩ := HA0.out
    unfold NumEnd
    go_enter Tryz.func56, Tryz.ntmps56
    go_wp2_with fail
    refine (c1.out _ HA0.out.2.2).mono ?_
    rintro E1 w1 ⟨rfl, hb1⟩
    have HB1 := hidd (below_step HB0.out hb1)
    have HA1 := hidd (HA0.out.step hb1)
    have HG1 := hidd (HG0.out.step hb1)
    clear hb1
    obtain ⟨⟨xa, x0⟩, ⟨y4, y5, y6⟩, -⟩ := HA1.out
    go_wp2_with fail
    refine (c2.out _).mono ?_
    rintro E2 w2 ⟨rfl, hb2⟩
    have HB2 := hidd (below_step HB1.out hb2)
    have HA2 := hidd (HA1.out.step hb2)
    have HG2 := hidd (HG1.out.step hb2)
    clear hb2
    obtain ⟨⟨xa, x0⟩, ⟨y4, y5, y6⟩, -⟩ := HA2.out
    go_wp2_with fail
    refine (cy.out _).mono ?_
    rintro E9 w9 ⟨rfl, rfl⟩
    have hfd := field_num
    unfold NumEnd at CF
    go_wp2_with fail
    refine (CF.out _ HA2.out.2.2).mono ?_
    rintro E3 w3 (⟨N, D, rfl, hN, hNr, hb3⟩ | ⟨k, rfl, hk, hk0, hb3⟩)
    case inr =>
      have HB3 := hidd (below_step HB2.out hb3)
      go_wp2_with fail
      exact ⟨rfl, .inr ⟨k, rfl, hk, hk0, HB3.out⟩⟩
    have HB3 := hidd (below_step HB2.out hb3)
    obtain ⟨g5, g0, g1, g2, g3⟩ := (HG2.out.step hb3)
    clear hb3
    have hs := HB3.out.size
    go_wp2_with fail
    exact bodyPost_ret (v := .agg #[.int .i64 N, .int .i64 D]) (by simp [results, Tryz.results56, go_sem, *]) rfl (.inl ⟨N, D, rfl, hN, hNr, by have q := HB3.out; (repeat' (first | (with_reducible exact Below.refl _ _) | (with_reducible assumption) | (with_reducible apply Below.setCell) | (with_reducible apply Below.alloc) | (with_reducible apply Below.drew) | (with_reducible apply below_drewN) | (with_reducible refine Below.trans ?_ (Below.mono (by assumption) ?_)) | omega | (simp; done) | (simp; omega)))⟩)
theorem askH_new (w : World) (A : Option Addr) (l : List (Int × Int)) (c : Nat) (n d : Int) (hl : Zp.Lie Zp.sendV 2 w w.heap.size A l) : AskH (((w.alloc (.cells #[.slice A l.length c] 23)).alloc (.cells #[.int .i64 n, .int .i64 d] 25)).alloc (.cells #[.int .i64 0, .int .i64 0] 25)) w.heap.size (w.heap.size + 1) A l c n d :=
  ⟨⟨by simp; omega, by simp [go_sem]⟩, ⟨by simp [go_sem], by simp [go_sem], by simp⟩, hl.below (by (repeat' (first | (with_reducible exact Below.refl _ _) | (with_reducible assumption) | (with_reducible apply Below.setCell) | (with_reducible apply Below.alloc) | (with_reducible apply Below.drew) | (with_reducible apply below_drewN) | (with_reducible refine Below.trans ?_ (Below.mono (by assumption) ?_)) | omega | (simp; done) | (simp; omega))))⟩
set_option maxRecDepth 100000 in
set_option maxHeartbeats 4000000 in
theorem High_any (R : Bool) (A : Option Addr) (l : List (Int × Int)) (c : Nat) (hm : l.length ≤ 1000000) (hR : R = true ↔ Zp.RgtC l) (hc : l.length ≤ c) (hcm : c ≤ maxLen) (n d : Int) (hn : (-9223372036854775808 ≤ n ∧ n ≤ 9223372036854775807) ∧ -9223372036854775808 ≤ d ∧ d ≤ 9223372036854775807) (w : World) (hl : Zp.Lie Zp.sendV 2 w w.heap.size A l) :
    Calls Tryz.prog 19 #[.slice A l.length c, .agg #[.int .i64 n, .int .i64 d]] w fun e w' => e = .returned (pairOf (highM R l n d)) ∧ Below w.heap.size w w' := by
  have hmf : ∀ (fn : Fn) (first cap : Array Value) (w : World), (Instr.makeFunc fn first cap).run Tryz.prog w = .ok (.func fn first cap) w := fun _ _ _ _ => rfl
  have V : ∀ W, W = (((w.alloc (.cells #[.slice A l.length c] 23)).alloc (.cells #[.int .i64 n, .int .i64 d] 25)).alloc (.cells #[.int .i64 0, .int .i64 0] 25)) → Calls Tryz.prog 34 #[.func (Fn.func 56) #[] #[.pointer (some ⟨w.heap.size, 0, none⟩), .pointer (some ⟨w.heap.size + 1, 0, none⟩)]] W fun e w' => e = .returned (pairOf (highM R l n d)) ∧ Below W.heap.size W w' := fun W hW => by
    subst hW
    exact toldMR_any _ entersHighF _ _ _ (tells_highM hR hn) (fun W' hW' => High1_step R A l c hm hR hc hcm n d hn _ _ W' ((askH_new w A l c n d hl).step hW'))
  have CV := hidd (V _ rfl)
  obtain ⟨⟨N, D, k⟩, hr⟩ : ∃ r, highM R l n d = r := ⟨_, rfl⟩
  rw [hr] at CV ⊢
  clear V hr hl hR hm hn
  unfold pairOf at CV ⊢
  simp only at CV ⊢
  go_enter Tryz.func19, Tryz.ntmps19
  go_wp2_with fail
  refine (CV.out).mono ?_
  rintro E w1 ⟨rfl, hb1⟩
  have HB1 := hidd (Below.trans (show Below w.heap.size w (((w.alloc (.cells #[.slice A l.length c] 23)).alloc (.cells #[.int .i64 n, .int .i64 d] 25)).alloc (.cells #[.int .i64 0, .int .i64 0] 25)) by (repeat' (first | (with_reducible exact Below.refl _ _) | (with_reducible assumption) | (with_reducible apply Below.setCell) | (with_reducible apply Below.alloc) | (with_reducible apply Below.drew) | (with_reducible apply below_drewN) | (with_reducible refine Below.trans ?_ (Below.mono (by assumption) ?_)) | omega | (simp; done) | (simp; omega)))) (hb1.mono (by first | (simp; done) | (simp; omega))))
  obtain ⟨g5, g0, g1, g2, g3⟩ := (GBox.new (w := ((w.alloc (.cells #[.slice A l.length c] 23)).alloc (.cells #[.int .i64 n, .int .i64 d] 25))) (b := w.heap.size + 1 + 1) (by simp) 25 0 0).step hb1
  have hs := HB1.out.size
  clear hb1
  go_wp2_with fail
  exact bodyPost_ret (v := .tuple #[.agg #[.int .i64 N, .int .i64 D], .int .i64 k]) (by simp [results, Tryz.results19, go_sem, *]) rfl ⟨rfl, by have q := HB1.out; (repeat' (first | (with_reducible exact Below.refl _ _) | (with_reducible assumption) | (with_reducible apply Below.setCell) | (with_reducible apply Below.alloc) | (with_reducible apply Below.drew) | (with_reducible apply below_drewN) | (with_reducible refine Below.trans ?_ (Below.mono (by assumption) ?_)) | omega | (simp; done) | (simp; omega)))⟩
end Go.Proofs.YtokcalmmmfakcaaGreat

/- minplus: Bend, Backlog. -/
namespace Go.Proofs.YtokcalmmmfakcaaGreat
set_option linter.unusedVariables false
open Go.RowKit

set_option maxRecDepth 100000 in
theorem field_bend (a b c d : Value) (w : World) : (Instr.field 70 (.agg #[a, b, c, d]) 0).run Tryz.prog w = .ok (.agg #[a, b]) w := by
  first | rfl | kernel_rfl
def bendM (R : Bool) (l : List (Int × Int)) (rn rd : Int) : Num3 :=
  if R && servB rn rd 0 1 then (if flatAt rn rd l < l.length then bendR l (flatAt rn rd l) else (0, 0, 140)) else (0, 0, 2)
theorem word4_zero {rn rd : Int} (hn : (-9223372036854775808 ≤ rn ∧ rn ≤ 9223372036854775807) ∧ -9223372036854775808 ≤ rd ∧ rd ≤ 9223372036854775807) : Word4 rn rd 0 1 := ⟨hn, by decide⟩
theorem tells_bendM {R : Bool} {l : List (Int × Int)} (hR : R = true ↔ Zp.RgtC l) {rn rd : Int} : Tells (bendM R l rn rd) := by
  unfold bendM
  by_cases h : (R && servB rn rd 0 1) = true
  · rw [if_pos h]
    obtain ⟨rfl, hS⟩ : R = true ∧ servB rn rd 0 1 = true := by simpa using h
    have hRg := hR.1 rfl
    by_cases hi : flatAt rn rd l < l.length
    · rw [if_pos hi]
      obtain ⟨N, D, hN, hNr, _, _⟩ := bend_fits (mayL_of hRg.2.1) (slope_of hRg.2.2) hi
      exact .inl ⟨N, D, hN, hNr⟩
    · rw [if_neg hi]; exact tells_err (by decide)
  · rw [if_neg h]; exact tells_err (by decide)
theorem entersBendF : ∀ args w, (callFunc 51 args).run Tryz.prog w = .ok (.enter 51 args) w := fun args w => by simp [callFunc, Tryz.func51, Tryz.f51, mark]
set_option maxRecDepth 100000 in
set_option maxHeartbeats 8000000 in
theorem Bend1_step (R : Bool) (A : Option Addr) (l : List (Int × Int)) (c : Nat) (hm : l.length ≤ 1000000) (hR : R = true ↔ Zp.RgtC l) (rn rd : Int) (hn : (-9223372036854775808 ≤ rn ∧ rn ≤ 9223372036854775807) ∧ -9223372036854775808 ≤ rd ∧ rd ≤ 9223372036854775807) (a b : Nat) (W : World) (hA : AskH W a b A l c rn rd) :
    Calls Tryz.prog 51 #[.pointer (some ⟨b, 0, none⟩), .pointer (some ⟨a, 0, none⟩)] W (NumEnd (bendM R l rn rd) W) := by
  have c1 := hidd (fun W' (hl : Zp.Lie Zp.sendV 2 W' W'.heap.size A l) => isCurve_any A l c hm R hR W' hl)
  have c2 := hidd (fun W' => isService_any rn rd 0 1 (word4_zero hn) W')
  have cn := hidd (fun W' => need_no 2 W')
  have cy := hidd (fun W' => need_yes 2 W')
  have cw := hidd (fun W' => whole_any 0 W')
  have hna : ¬ a = W.heap.size := by have := hA.1.1; omega
  have hnb : ¬ b = W.heap.size := by have := hA.2.1.2.2; omega
  have hfd := field_num
  have hfb := field_bend
  have hA0 := hA.step (below_new (Below.refl _ _) (.cells #[.int .i64 0, .int .i64 0] 25))
  have HA0 := hidd hA0
  have HG0 := hidd (GBox.new (w := W) rfl 25 0 0)
  have HB0 := hidd (show Below W.heap.size W (W.alloc (.cells #[.int .i64 0, .int .i64 0] 25)) by (repeat' (first | (with_reducible exact Below.refl _ _) | (with_reducible assumption) | (with_reducible apply Below.setCell) | (with_reducible apply Below.alloc) | (with_reducible apply Below.drew) | (with_reducible apply below_drewN) | (with_reducible refine Below.trans ?_ (Below.mono (by assumption) ?_)) | omega | (simp; done) | (simp; omega))))
  obtain ⟨⟨xa, x0⟩, ⟨q0, q1, d0⟩, hl⟩ := hA0
  have d1 := d0
  have hBw := HB0.out
  have CRV := hidd (fun (h : R = true) => (hR.1 h))
  obtain ⟨S, hS⟩ : ∃ S, servB rn rd 0 1 = S := ⟨_, rfl⟩
  have HS := hidd hS
  rw [hS] at c2
  have HR2 := hidd (show R = false → bendM R l rn rd = (0, 0, 2) from fun h => by unfold bendM; rw [h]; rfl)
  have HR3 := hidd (show S = false → bendM R l rn rd = (0, 0, 2) from fun h => by unfold bendM; rw [hS, h]; cases R <;> rfl)
  have HR4 := hidd (show R = true → S = true → bendM R l rn rd = (if flatAt rn rd l < l.length then bendR l (flatAt rn rd l) else (0, 0, 140)) from fun h g => by unfold bendM; rw [hS, h, g]; rfl)
  obtain ⟨RES, hRES⟩ : ∃ X, bendM R l rn rd = X := ⟨_, rfl⟩
  rw [hRES] at HR2 HR3 HR4 ⊢
  have KEEP := hidd (fun (w' : World) (hb : Below (W.alloc (.cells #[.int .i64 0, .int .i64 0] 25)).heap.size (W.alloc (.cells #[.int .i64 0, .int .i64 0] 25)) w') => (show w'.cell? ⟨b, 0, none⟩ = some (.int .i64 rn) ∧ w'.cell? ⟨b, 1, none⟩ = some (.int .i64 rd) from ⟨(hb.cell (p := ⟨b, 0, none⟩) d0).trans q0, (hb.cell (p := ⟨b, 1, none⟩) d1).trans q1⟩))
  have OUT := hidd (fun (w' : World) (hb : Below (W.alloc (.cells #[.int .i64 0, .int .i64 0] 25)).heap.size (W.alloc (.cells #[.int .i64 0, .int .i64 0] 25)) w') => (show True ∧ True ∧ True ∧ Below W.heap.size W w' from ⟨trivial, trivial, trivial, below_step hBw hb⟩))
  clear hA hl xa x0 d0 d1 hBw hRES hS hR
  unfold NumEnd
  go_enter Tryz.func51, Tryz.ntmps51
  go_wp2_with fail
  go_cut [3] (fun s3 wx => ∃ q : Nat, s3 = .pointer (some ⟨q, 0, none⟩) ∧ W.heap.size < q ∧ HasServ wx q rn rd 0 1 ∧ Below (W.alloc (.cells #[.int .i64 0, .int .i64 0] 25)).heap.size (W.alloc (.cells #[.int .i64 0, .int .i64 0] 25)) wx)
  case first =>
    go_region_held (fun w' => w'.cell? ⟨b, 0, none⟩ = some (.int .i64 rn) ∧ w'.cell? ⟨b, 1, none⟩ = some (.int .i64 rd))
      ((first | exact KEEP.out _ cum1 | exact KEEP.out _ (Below.refl _ _) | exact KEEP.out _ (Below.drew (Below.refl _ _)) | exact KEEP.out _ (below_new cum1 _) | exact KEEP.out _ (below_new (below_new cum1 _) _) | exact KEEP.out _ (below_new (Below.drew (Below.refl _ _)) _) | exact KEEP.out _ (by have qq := cum1; (repeat' (first | (with_reducible exact Below.refl _ _) | (with_reducible assumption) | (with_reducible apply Below.setCell) | (with_reducible apply Below.alloc) | (with_reducible apply Below.drew) | (with_reducible apply below_drewN) | (with_reducible refine Below.trans ?_ (Below.mono (by assumption) ?_)) | omega | (simp; done) | (simp; omega)))) | exact KEEP.out _ (by (repeat' (first | (with_reducible exact Below.refl _ _) | (with_reducible assumption) | (with_reducible apply Below.setCell) | (with_reducible apply Below.alloc) | (with_reducible apply Below.drew) | (with_reducible apply below_drewN) | (with_reducible refine Below.trans ?_ (Below.mono (by assumption) ?_)) | omega | (simp; done) | (simp; omega)))) | (obtain ⟨j0, j1⟩ := KEEP.out _ cum1; refine ⟨?_, ?_⟩ <;> simp [go_sem, *]; done) | go_keep))
      ((first
        | (go_at_call 52; refine (cw.out _).mono ?_; rintro E1 v1 ⟨rfl, l1⟩; have cum1 : Below (W.alloc (.cells #[.int .i64 0, .int .i64 0] 25)).heap.size (W.alloc (.cells #[.int .i64 0, .int .i64 0] 25)) v1 := (by first | exact below_step (Below.drew (Below.refl _ _)) l1 | exact below_step (Below.refl _ _) l1 | (refine below_step ?_ l1; (repeat' (first | (with_reducible exact Below.refl _ _) | (with_reducible assumption) | (with_reducible apply Below.setCell) | (with_reducible apply Below.alloc) | (with_reducible apply Below.drew) | (with_reducible apply below_drewN) | (with_reducible refine Below.trans ?_ (Below.mono (by assumption) ?_)) | omega | (simp; done) | (simp; omega))))); obtain ⟨bc1, bf1⟩ := bcell l1; (try have ec10 : v1.cell? ⟨W.heap.size + 1, 0, none⟩ = some (.int .i64 0) := (by rw [bc1 _ _ (by first | (simp; done) | (simp; omega))]; simp [go_sem])); (try have ef10 : v1.frozen? ⟨W.heap.size + 1, 0, none⟩ = false := (by rw [bf1 _ _ (by first | (simp; done) | (simp; omega))]; simp [go_sem])); (try have ec11 : v1.cell? ⟨W.heap.size + 1, 1, none⟩ = some (.int .i64 0) := (by rw [bc1 _ _ (by first | (simp; done) | (simp; omega))]; simp [go_sem])); (try have ef11 : v1.frozen? ⟨W.heap.size + 1, 1, none⟩ = false := (by rw [bf1 _ _ (by first | (simp; done) | (simp; omega))]; simp [go_sem])); (try have ec12 : v1.cell? ⟨W.heap.size + 1, 2, none⟩ = some (.int .i64 0) := (by rw [bc1 _ _ (by first | (simp; done) | (simp; omega))]; simp [go_sem])); (try have ef12 : v1.frozen? ⟨W.heap.size + 1, 2, none⟩ = false := (by rw [bf1 _ _ (by first | (simp; done) | (simp; omega))]; simp [go_sem])); (try have ec13 : v1.cell? ⟨W.heap.size + 1, 3, none⟩ = some (.int .i64 0) := (by rw [bc1 _ _ (by first | (simp; done) | (simp; omega))]; simp [go_sem])); (try have ef13 : v1.frozen? ⟨W.heap.size + 1, 3, none⟩ = false := (by rw [bf1 _ _ (by first | (simp; done) | (simp; omega))]; simp [go_sem])); (try have es1 : W.heap.size + 1 < v1.heap.size := (by have := Below.size l1; simp at this; omega)); clear bc1 bf1)))
    all_goals go_wp2_with fail
    all_goals go_meet
    all_goals have hsz := Below.size cum1
    all_goals simp only [World.size_alloc] at hsz
    all_goals exact ⟨_, rfl, by first | (simp; done) | omega | (simp; omega), ⟨by first | omega | (simp; done) | (simp; omega), ⟨by simp [go_sem, *], by simp [go_sem, *]⟩, by simp [go_sem, *], by simp [go_sem, *]⟩, by have qq := cum1; (repeat' (first | (with_reducible exact Below.refl _ _) | (with_reducible assumption) | (with_reducible apply Below.setCell) | (with_reducible apply Below.alloc) | (with_reducible apply Below.drew) | (with_reducible apply below_drewN) | (with_reducible refine Below.trans ?_ (Below.mono (by assumption) ?_)) | omega | (simp; done) | (simp; omega)))⟩
  case rest =>
    obtain ⟨q, rfl, hq, hSv, hB⟩ := hcut
    have HBc := hidd (below_step HB0.out hB)
    have HAc := hidd (HA0.out.step hB)
    have HGc := hidd (HG0.out.step hB)
    have HSc := hidd hSv
    have hnq : ¬ q = W.heap.size := by omega
    clear hB hSv
    obtain ⟨⟨xa, x0⟩, ⟨y0, y1, y2⟩, -⟩ := HAc.out
    obtain ⟨s5, ⟨s0, s1⟩, s2, s3⟩ := HSc.out
    cases R
    · have HE := hidd (HR2.out rfl)
      clear HR2 HR3 HR4
      go_wp2_with fail
      refine (c1.out _ HAc.out.2.2).mono ?_
      rintro E1 w1 ⟨rfl, hb1⟩
      have HB1 := hidd (below_step HBc.out hb1)
      clear hb1
      go_wp2_with fail
      refine (cn.out _).mono ?_
      rintro E9 w9 ⟨rfl, rfl⟩
      go_wp2_with fail
      exact ⟨rfl, .inr ⟨2, rfl, HE.out, by decide, HB1.out⟩⟩
    · cases S
      · have HE := hidd (HR3.out rfl)
        clear HR2 HR3 HR4
        go_wp2_with fail
        refine (c1.out _ HAc.out.2.2).mono ?_
        rintro E1 w1 ⟨rfl, hb1⟩
        have HB1 := hidd (below_step HBc.out hb1)
        have HS1 := hidd (HSc.out.step hb1)
        clear hb1 s0 s1 s2 s3 s5
        obtain ⟨s5, ⟨s0, s1⟩, s2, s3⟩ := HS1.out
        go_wp2_with fail
        refine (c2.out _).mono ?_
        rintro E2 w2 ⟨rfl, hb2⟩
        have HB2 := hidd (below_step HB1.out hb2)
        clear hb2
        go_wp2_with fail
        refine (cn.out _).mono ?_
        rintro E9 w9 ⟨rfl, rfl⟩
        go_wp2_with fail
        exact ⟨rfl, .inr ⟨2, rfl, HE.out, by decide, HB2.out⟩⟩
      · have hRg := CRV.out rfl
        obtain ⟨hrf, -, -⟩ := serv_fit HS.out (word4_zero hn)
        have HE := hidd (HR4.out rfl rfl)
        have CB := hidd (fun W' (hl : Zp.Lie Zp.sendV 2 W' W'.heap.size A l) => bendFor_any A l c hRg.1.1 hm (mayL_of hRg.2.1) (slope_of hRg.2.2) rn rd hrf W' (liesO_of hl))
        obtain ⟨i, hi⟩ : ∃ i, flatAt rn rd l = i := ⟨_, rfl⟩
        rw [hi] at CB HE
        unfold BendEnd at CB
        clear HR2 HR3 HR4 hRg hrf hi
        go_wp2_with fail
        refine (c1.out _ HAc.out.2.2).mono ?_
        rintro E1 w1 ⟨rfl, hb1⟩
        have HB1 := hidd (below_step HBc.out hb1)
        have HA1 := hidd (HAc.out.step hb1)
        have HG1 := hidd (HGc.out.step hb1)
        have HS1 := hidd (HSc.out.step hb1)
        clear hb1 s0 s1 s2 s3 s5 xa x0 y0 y1 y2
        obtain ⟨s5, ⟨s0, s1⟩, s2, s3⟩ := HS1.out
        go_wp2_with fail
        refine (c2.out _).mono ?_
        rintro E2 w2 ⟨rfl, hb2⟩
        have HB2 := hidd (below_step HB1.out hb2)
        have HA2 := hidd (HA1.out.step hb2)
        have HG2 := hidd (HG1.out.step hb2)
        clear hb2 s0 s1 s2 s3 s5
        obtain ⟨⟨xa, x0⟩, ⟨y0, y1, y2⟩, -⟩ := HA2.out
        go_wp2_with fail
        refine (cy.out _).mono ?_
        rintro E9 w9 ⟨rfl, rfl⟩
        go_wp2_with fail
        refine (CB.out _ HA2.out.2.2).mono ?_
        rintro E3 w3 (⟨hil, N, D, rfl, hN, hNr, hb3⟩ | ⟨hil, rfl, hb3⟩)
        case inr =>
          have HB3 := hidd (below_step HB2.out hb3)
          have HE2 := hidd (HE.out.trans (if_neg hil))
          clear hb3
          go_wp2_with fail
          exact ⟨rfl, .inr ⟨140, rfl, HE2.out, by decide, HB3.out⟩⟩
        have HE2 := hidd ((HE.out.trans (if_pos hil)).trans hN)
        have HB3 := hidd (below_step HB2.out hb3)
        obtain ⟨g5, g0, g1, g2, g3⟩ := (HG2.out.step hb3)
        have hs := HB3.out.size
        clear hb3 hN xa x0 y0 y1 y2
        go_wp2_with fail
        exact bodyPost_ret (v := .agg #[.int .i64 N, .int .i64 D]) (by simp [results, Tryz.results51, go_sem, *]) rfl (.inl ⟨N, D, rfl, HE2.out, hNr, by have q := HB3.out; (repeat' (first | (with_reducible exact Below.refl _ _) | (with_reducible assumption) | (with_reducible apply Below.setCell) | (with_reducible apply Below.alloc) | (with_reducible apply Below.drew) | (with_reducible apply below_drewN) | (with_reducible refine Below.trans ?_ (Below.mono (by assumption) ?_)) | omega | (simp; done) | (simp; omega)))⟩)
set_option maxRecDepth 100000 in
set_option maxHeartbeats 4000000 in
theorem Bend_any (R : Bool) (A : Option Addr) (l : List (Int × Int)) (c : Nat) (hm : l.length ≤ 1000000) (hR : R = true ↔ Zp.RgtC l) (rn rd : Int) (hn : (-9223372036854775808 ≤ rn ∧ rn ≤ 9223372036854775807) ∧ -9223372036854775808 ≤ rd ∧ rd ≤ 9223372036854775807) (w : World) (hl : Zp.Lie Zp.sendV 2 w w.heap.size A l) :
    Calls Tryz.prog 15 #[.slice A l.length c, .agg #[.int .i64 rn, .int .i64 rd]] w fun e w' => e = .returned (pairOf (bendM R l rn rd)) ∧ Below w.heap.size w w' := by
  have hmf : ∀ (fn : Fn) (first cap : Array Value) (w : World), (Instr.makeFunc fn first cap).run Tryz.prog w = .ok (.func fn first cap) w := fun _ _ _ _ => rfl
  have V : ∀ W, W = (((w.alloc (.cells #[.slice A l.length c] 23)).alloc (.cells #[.int .i64 rn, .int .i64 rd] 25)).alloc (.cells #[.int .i64 0, .int .i64 0] 25)) → Calls Tryz.prog 34 #[.func (Fn.func 51) #[] #[.pointer (some ⟨w.heap.size + 1, 0, none⟩), .pointer (some ⟨w.heap.size, 0, none⟩)]] W fun e w' => e = .returned (pairOf (bendM R l rn rd)) ∧ Below W.heap.size W w' := fun W hW => by
    subst hW
    exact toldMR_any _ entersBendF _ _ _ (tells_bendM hR) (fun W' hW' => Bend1_step R A l c hm hR rn rd hn _ _ W' ((askH_new w A l c rn rd hl).step hW'))
  have CV := hidd (V _ rfl)
  obtain ⟨⟨N, D, k⟩, hr⟩ : ∃ r, bendM R l rn rd = r := ⟨_, rfl⟩
  rw [hr] at CV ⊢
  clear V hr hl hR hm hn
  unfold pairOf at CV ⊢
  simp only at CV ⊢
  go_enter Tryz.func15, Tryz.ntmps15
  go_wp2_with fail
  refine (CV.out).mono ?_
  rintro E w1 ⟨rfl, hb1⟩
  have HB1 := hidd (Below.trans (show Below w.heap.size w (((w.alloc (.cells #[.slice A l.length c] 23)).alloc (.cells #[.int .i64 rn, .int .i64 rd] 25)).alloc (.cells #[.int .i64 0, .int .i64 0] 25)) by (repeat' (first | (with_reducible exact Below.refl _ _) | (with_reducible assumption) | (with_reducible apply Below.setCell) | (with_reducible apply Below.alloc) | (with_reducible apply Below.drew) | (with_reducible apply below_drewN) | (with_reducible refine Below.trans ?_ (Below.mono (by assumption) ?_)) | omega | (simp; done) | (simp; omega)))) (hb1.mono (by first | (simp; done) | (simp; omega))))
  obtain ⟨g5, g0, g1, g2, g3⟩ := (GBox.new (w := ((w.alloc (.cells #[.slice A l.length c] 23)).alloc (.cells #[.int .i64 rn, .int .i64 rd] 25))) (b := w.heap.size + 1 + 1) (by simp) 25 0 0).step hb1
  have hs := HB1.out.size
  clear hb1
  go_wp2_with fail
  exact bodyPost_ret (v := .tuple #[.agg #[.int .i64 N, .int .i64 D], .int .i64 k]) (by simp [results, Tryz.results15, go_sem, *]) rfl ⟨rfl, by have q := HB1.out; (repeat' (first | (with_reducible exact Below.refl _ _) | (with_reducible assumption) | (with_reducible apply Below.setCell) | (with_reducible apply Below.alloc) | (with_reducible apply Below.drew) | (with_reducible apply below_drewN) | (with_reducible refine Below.trans ?_ (Below.mono (by assumption) ?_)) | omega | (simp; done) | (simp; omega)))⟩
end Go.Proofs.YtokcalmmmfakcaaGreat

/- minplus: Backlog. -/
namespace Go.Proofs.YtokcalmmmfakcaaGreat
set_option linter.unusedVariables false
open Go.RowKit

/-- the later of two. -/
def laterP (n d ln ld : Int) : Int × Int := if n * ld < ln * d then (ln, ld) else (n, d)
theorem laterP_right {n d ln ld : Int} (h : RM.Right n d) (g : RM.Right ln ld) : RM.Right (laterP n d ln ld).1 (laterP n d ln ld).2 := by
  unfold laterP; split
  · exact g
  · exact h
/-- how much waits, of a curve that may be. -/
def waitT (l : List (Int × Int)) (i : Nat) (rn rd ln ld : Int) : Num3 :=
  thenR (bendR l i) (fun tn td => thenR (highR l (laterP tn td ln ld).1 (laterP tn td ln ld).2) (fun a b => thenR (servR rn rd ln ld (laterP tn td ln ld).1 (laterP tn td ln ld).2) (fun x e => subT a b x e)))
def waitM (R : Bool) (l : List (Int × Int)) (rn rd ln ld : Int) : Num3 :=
  if R && servB rn rd ln ld then (if flatAt rn rd l < l.length then waitT l (flatAt rn rd l) rn rd ln ld else (0, 0, 140)) else (0, 0, 2)
theorem tells_waitM {R : Bool} {l : List (Int × Int)} (hR : R = true ↔ Zp.RgtC l) {rn rd ln ld : Int} (hw : Word4 rn rd ln ld) : Tells (waitM R l rn rd ln ld) := by
  unfold waitM
  by_cases h : (R && servB rn rd ln ld) = true
  · rw [if_pos h]
    obtain ⟨rfl, hS⟩ : R = true ∧ servB rn rd ln ld = true := by simpa using h
    have hRg := hR.1 rfl
    obtain ⟨hrf, hlf, _⟩ := serv_fit hS hw
    by_cases hi : flatAt rn rd l < l.length
    · rw [if_pos hi]
      obtain ⟨N, D, hN, hNr, hN2, hD2⟩ := bend_fits (mayL_of hRg.2.1) (slope_of hRg.2.2) hi
      have hk := laterP_right hNr hlf.right
      unfold waitT
      rw [hN, thenR_ok]
      exact tells_then (tells_highR hRg.1.1 hk.1) (fun a b h => tells_then (tells_servR hrf.right.1 hlf.right.1 hk.1) (fun x e g => tells_plus a b (-x) e h.1 g.1))
    · rw [if_neg hi]; exact tells_err (by decide)
  · rw [if_neg h]; exact tells_err (by decide)
theorem greatest_two {n d ln ld : Int} (h : RM.Right n d) (g : RM.Right ln ld) : GreatestR [(n, d), (ln, ld)] = ((laterP n d ln ld).1, (laterP n d ln ld).2, 0) := by
  have e1 : allRight [(n, d), (ln, ld)] = true := by simp [allRight, h.fit.1, g.fit.1]
  unfold GreatestR
  rw [if_pos e1]
  have e2 : moreB (ln, ld) (n, d) = decide (n * ld < ln * d) := by
    unfold moreB
    exact ord_above _ _
  show foldR (pickF moreB) (n, d) [(ln, ld)] = _
  unfold foldR
  rw [if_pos (pickF_ok _ _ _)]
  unfold foldR pickF laterP
  rw [e2]
  by_cases hh : n * ld < ln * d
  · simp [hh]
  · simp [hh]
theorem lies2J (V : World) (T : TypeId) (b : Nat) (hb : V.heap.size = b) (a c d e : Int) : LiesO (V.alloc (.cells #[.int .i64 a, .int .i64 c, .int .i64 d, .int .i64 e] T)) (some ⟨b, 0, none⟩) [(a, c), (d, e)] := fun _ => by
  subst hb
  refine ⟨_, rfl, by simp, fun i hi => ?_⟩
  match i, hi with
  | 0, _ => exact ⟨by simp [go_sem, Addr.add], by simp [go_sem, Addr.add]⟩
  | 1, _ => exact ⟨by simp [go_sem, Addr.add], by simp [go_sem, Addr.add]⟩
  | i + 2, hi => exact absurd (show i + 2 < 2 from hi) (by omega)
theorem entersBacklog1 : ∀ args w, (callFunc 44 args).run Tryz.prog w = .ok (.enter 44 args) w := fun args w => by simp [callFunc, Tryz.func44, Tryz.f44, mark]
set_option maxRecDepth 100000 in
theorem field_bendJ (a b c d : Value) (w : World) : (Instr.field 70 (.agg #[a, b, c, d]) 0).run Tryz.prog w = .ok (.agg #[a, b]) w := by
  first | rfl | kernel_rfl
set_option maxRecDepth 100000 in
set_option maxHeartbeats 8000000 in
theorem backlog1_any (R : Bool) (A : Option Addr) (l : List (Int × Int)) (c : Nat) (hm : l.length ≤ 1000000) (hR : R = true ↔ Zp.RgtC l) (hc : l.length ≤ c) (hcm : c ≤ maxLen) (rn rd ln ld : Int) (hw : Word4 rn rd ln ld) (a b : Nat) (W : World) (hA : AskC W a b A l c rn rd ln ld) :
    Calls Tryz.prog 44 #[.pointer (some ⟨a, 0, none⟩), .pointer (some ⟨b, 0, none⟩)] W (NumEnd (waitM R l rn rd ln ld) W) := by
  have cc := hidd (fun W' (hl : Zp.Lie Zp.sendV 2 W' W'.heap.size A l) => isCurve_any A l c hm R hR W' hl)
  have cs := hidd (fun W' => isService_any rn rd ln ld hw W')
  have cn := hidd (fun W' => need_no 2 W')
  have cy := hidd (fun W' => need_yes 2 W')
  have hA0 := hA.step (below_new (Below.refl _ _) (.cells #[.int .i64 0, .int .i64 0] 25))
  have HA := hidd hA0
  have hna : ¬ a = W.heap.size := by have := hA.1.1; omega
  have hnb : ¬ b = W.heap.size := by have := hA.2.1.1; omega
  have HG := hidd (GBox.new (w := W) rfl 25 0 0)
  have HW0 := hidd (show Below W.heap.size W (W.alloc (.cells #[.int .i64 0, .int .i64 0] 25)) by (repeat' (first | (with_reducible exact Below.refl _ _) | (with_reducible assumption) | (with_reducible apply Below.setCell) | (with_reducible apply Below.alloc) | (with_reducible apply Below.drew) | (with_reducible apply below_drewN) | (with_reducible refine Below.trans ?_ (Below.mono (by assumption) ?_)) | omega | (simp; done) | (simp; omega))))
  obtain ⟨⟨xa, x0⟩, ⟨xb, ⟨y0, y1⟩, y2, y3⟩, hl⟩ := hA0
  have C0 := hidd (cc.out _ hl)
  cases R
  · have e : waitM false l rn rd ln ld = (0, 0, 2) := by unfold waitM; rfl
    rw [e]
    clear hA hl cc hR e
    unfold NumEnd
    go_enter Tryz.func44, Tryz.ntmps44
    go_wp2_with fail
    refine (C0.out).mono ?_
    rintro E1 w1 ⟨rfl, hb1⟩
    have HB1 := hidd (below_step HW0.out hb1)
    clear hb1
    go_wp2_with fail
    refine (cn.out _).mono ?_
    rintro E2 w2 ⟨rfl, rfl⟩
    go_wp2_with fail
    exact ⟨rfl, .inr ⟨2, rfl, rfl, by decide, HB1.out⟩⟩
  · have hRg := hR.1 rfl
    obtain ⟨S, hS⟩ : ∃ S, servB rn rd ln ld = S := ⟨_, rfl⟩
    rw [hS] at cs
    cases S
    · have e : waitM true l rn rd ln ld = (0, 0, 2) := by unfold waitM; rw [hS]; rfl
      rw [e]
      clear hA hl cc hR e hRg hS
      unfold NumEnd
      go_enter Tryz.func44, Tryz.ntmps44
      go_wp2_with fail
      refine (C0.out).mono ?_
      rintro E1 w1 ⟨rfl, hb1⟩
      have HB1 := hidd (below_step HW0.out hb1)
      have HA1 := hidd (HA.out.step hb1)
      clear hb1 xa x0 xb y0 y1 y2 y3
      obtain ⟨⟨xa, x0⟩, ⟨xb, ⟨y0, y1⟩, y2, y3⟩, -⟩ := HA1.out
      go_wp2_with fail
      refine (cs.out _).mono ?_
      rintro E1 w2 ⟨rfl, hb2⟩
      have HB2 := hidd (below_step HB1.out hb2)
      clear hb2
      go_wp2_with fail
      refine (cn.out _).mono ?_
      rintro E2 w2 ⟨rfl, rfl⟩
      go_wp2_with fail
      exact ⟨rfl, .inr ⟨2, rfl, rfl, by decide, HB2.out⟩⟩
    · obtain ⟨hrf, hlf, hrn, hln⟩ := serv_fit hS hw
      have hmay := mayL_of hRg.2.1
      have hslo := slope_of hRg.2.2
      have e : waitM true l rn rd ln ld = if flatAt rn rd l < l.length then waitT l (flatAt rn rd l) rn rd ln ld else (0, 0, 140) := by unfold waitM; rw [hS]; rfl
      have CB := hidd (fun W' (hl : Zp.Lie Zp.sendV 2 W' W'.heap.size A l) => bendFor_any A l c hRg.1.1 hm hmay hslo rn rd hrf W' (liesO_of hl))
      rw [e]
      obtain ⟨i, hi⟩ : ∃ i, flatAt rn rd l = i := ⟨_, rfl⟩
      rw [hi] at CB ⊢
      have HIF := hidd (fun (h : i < l.length) => (show (if i < l.length then waitT l i rn rd ln ld else (0, 0, 140)) = waitT l i rn rd ln ld from if_pos h))
      have HIN := hidd (fun (h : ¬ i < l.length) => (show (if i < l.length then waitT l i rn rd ln ld else (0, 0, 140)) = (0, 0, 140) from if_neg h))
      obtain ⟨RES, hRES⟩ : ∃ X, (if i < l.length then waitT l i rn rd ln ld else (0, 0, 140)) = X := ⟨_, rfl⟩
      rw [hRES] at HIF HIN ⊢
      have HLT := hidd (fun N D (hb : bendR l i = (N, D, 0)) => (show waitT l i rn rd ln ld = thenR (highR l (laterP N D ln ld).1 (laterP N D ln ld).2) (fun a b => thenR (servR rn rd ln ld (laterP N D ln ld).1 (laterP N D ln ld).2) (fun x e => subT a b x e)) from by
        unfold waitT
        rw [hb, thenR_ok]))
      have chi := hidd (fun n d (hn : RM.Right n d) W' (hl : Zp.Lie Zp.sendV 2 W' W'.heap.size A l) => high_any A l c hRg.1.1 hm hc hcm hmay n d hn.fit W' (liesO_of hl))
      have cse := hidd (fun n d (hn : RM.Right n d) W' => served_any rn rd ln ld n d hrf hlf hn.fit W')
      have cle := hidd (fun N D P Q (h3 : RM.Right N D) (h4 : RM.Right P Q) W' => less_num N D P Q h3.fit h4.fit W')
      have hlr := hlf.right
      have cg := hidd (fun N D (hN : RM.Right N D) => (show ∃ K1 K2, laterP N D ln ld = (K1, K2) ∧ RM.Right K1 K2 ∧ ∀ A' W', LiesO W' A' [(N, D), (ln, ld)] → Calls Tryz.prog 46 #[.slice A' 2 2] W' fun E w' => E = .returned (.tuple #[.agg #[.int .i64 K1, .int .i64 K2], .int .i64 0]) ∧ Below W'.heap.size W' w' from by
        refine ⟨(laterP N D ln ld).1, (laterP N D ln ld).2, rfl, laterP_right hN hlr, fun A' W' hl => ?_⟩
        have hN' := hN.fit
        have hl' := hlr.fit
        have := Greatest_any A' [(N, D), (ln, ld)] 2 (by intro x hx; simp at hx; rcases hx with rfl | rfl; exact ⟨hN'.2.1, hN'.2.2.1, hN'.2.2.2.1, hN'.2.2.2.2⟩; exact ⟨hl'.2.1, hl'.2.2.1, hl'.2.2.2.1, hl'.2.2.2.2⟩) (by simp) (by simp) (by simp [maxLen]) W' hl
        rw [greatest_two hN hlr] at this
        exact this))
      have cmu := hidd (fun N D W' => mustR_ok N D W')
      unfold BendEnd at CB
      unfold NumEnd at chi cse cle ⊢
      clear hA hl cc hR e hRg hS hrf hlf hrn hln hmay hslo hi hRES hlr
      go_enter Tryz.func44, Tryz.ntmps44
      go_wp2_with fail
      refine (C0.out).mono ?_
      rintro E1 w1 ⟨rfl, hb1⟩
      have HB1 := hidd (below_step HW0.out hb1)
      have HA1 := hidd (HA.out.step hb1)
      have HG1 := hidd (HG.out.step hb1)
      clear hb1 xa x0 xb y0 y1 y2 y3
      obtain ⟨⟨xa, x0⟩, ⟨xb, ⟨y0, y1⟩, y2, y3⟩, -⟩ := HA1.out
      go_wp2_with fail
      refine (cs.out _).mono ?_
      rintro E1 w2 ⟨rfl, hb2⟩
      have HB2 := hidd (below_step HB1.out hb2)
      have HA2 := hidd (HA1.out.step hb2)
      have HG2 := hidd (HG1.out.step hb2)
      clear hb2 xa x0 xb y0 y1 y2 y3
      obtain ⟨⟨xa, x0⟩, ⟨xb, ⟨y0, y1⟩, y2, y3⟩, -⟩ := HA2.out
      go_wp2_with fail
      refine (cy.out _).mono ?_
      rintro E2 w2 ⟨rfl, rfl⟩
      have CBB := hidd (fun W' (hW : Below w2.heap.size w2 W') => CB.out W' (HA2.out.2.2.below hW))
      have q0 := x0
      have q1 := y0
      have q2 := y1
      have q3 := y2
      have q4 := y3
      have d0 := xa
      have d1 := xb
      have d2 := xb
      have d3 := xb
      have d4 := xb
      have hBw := HB2.out
      have hw2 : W.heap.size < w2.heap.size := HG2.out.1
      have KEEP := hidd (fun (w' : World) (hb : Below w2.heap.size w2 w') => (show w'.cell? ⟨a, 0, none⟩ = some (.slice A l.length c) ∧ w'.cell? ⟨b, 0, none⟩ = some (.int .i64 rn) ∧ w'.cell? ⟨b, 1, none⟩ = some (.int .i64 rd) ∧ w'.cell? ⟨b, 2, none⟩ = some (.int .i64 ln) ∧ w'.cell? ⟨b, 3, none⟩ = some (.int .i64 ld) from ⟨(hb.cell (p := ⟨a, 0, none⟩) d0).trans q0, (hb.cell (p := ⟨b, 0, none⟩) d1).trans q1, (hb.cell (p := ⟨b, 1, none⟩) d2).trans q2, (hb.cell (p := ⟨b, 2, none⟩) d3).trans q3, (hb.cell (p := ⟨b, 3, none⟩) d4).trans q4⟩))
      have OUT := hidd (fun (w' : World) (hb : Below w2.heap.size w2 w') => (show True ∧ True ∧ True ∧ Below W.heap.size W w' from ⟨trivial, trivial, trivial, below_step hBw hb⟩))
      clear q0 q1 q2 q3 q4 d0 d1 d2 d3 d4 hBw xa x0 xb y0 y1 y2 y3
      obtain ⟨k0, k1, k2, k3, k4⟩ := KEEP.out _ (Below.refl _ _)
      have hfd := field_num
      have hfb := field_bendJ
      go_wp2_with fail
      go_cut [3] (fun s3 wx => ∃ (q : Nat) (N D K1 K2 : Int), s3 = .pointer (some ⟨q, 0, none⟩) ∧ (i < l.length ∧ bendR l i = (N, D, 0)) ∧ (laterP N D ln ld = (K1, K2) ∧ RM.Right K1 K2) ∧ w2.heap.size ≤ q ∧ HasRat wx q K1 K2 ∧ Below w2.heap.size w2 wx)
      case first =>
        go_region_held (fun w' => w'.cell? ⟨a, 0, none⟩ = some (.slice A l.length c) ∧ w'.cell? ⟨b, 0, none⟩ = some (.int .i64 rn) ∧ w'.cell? ⟨b, 1, none⟩ = some (.int .i64 rd) ∧ w'.cell? ⟨b, 2, none⟩ = some (.int .i64 ln) ∧ w'.cell? ⟨b, 3, none⟩ = some (.int .i64 ld))
          ((first | exact KEEP.out _ cum3 | exact KEEP.out _ cum2 | exact KEEP.out _ cum1 | exact KEEP.out _ (Below.refl _ _) | exact KEEP.out _ (Below.drew (Below.refl _ _)) | exact KEEP.out _ (below_new cum3 _) | exact KEEP.out _ (below_new (below_new cum3 _) _) | exact KEEP.out _ (below_new (Below.drew (Below.refl _ _)) _) | (refine KEEP.out _ ?_; have qq := cum3; (repeat' (first | (with_reducible exact Below.refl _ _) | (with_reducible assumption) | (with_reducible apply Below.setCell) | (with_reducible apply Below.alloc) | (with_reducible apply Below.drew) | (with_reducible apply below_drewN) | (with_reducible refine Below.trans ?_ (Below.mono (by assumption) ?_)) | omega | (simp; done) | (simp; omega))); done) | (refine KEEP.out _ ?_; (repeat' (first | (with_reducible exact Below.refl _ _) | (with_reducible assumption) | (with_reducible apply Below.setCell) | (with_reducible apply Below.alloc) | (with_reducible apply Below.drew) | (with_reducible apply below_drewN) | (with_reducible refine Below.trans ?_ (Below.mono (by assumption) ?_)) | omega | (simp; done) | (simp; omega))); done) | (obtain ⟨j0, j1, j2, j3, j4⟩ := KEEP.out _ cum3; refine ⟨?_, ?_, ?_, ?_, ?_⟩ <;> simp [go_sem, *]; done) | go_keep))
          ((first
            | (go_at_call 39; refine (CBB.out _ (by (repeat' (first | (with_reducible exact Below.refl _ _) | (with_reducible assumption) | (with_reducible apply Below.setCell) | (with_reducible apply Below.alloc) | (with_reducible apply Below.drew) | (with_reducible apply below_drewN) | (with_reducible refine Below.trans ?_ (Below.mono (by assumption) ?_)) | omega | (simp; done) | (simp; omega))))).mono ?_; rintro E1 v1 (⟨hil, N, D, rfl, hN, hNr, l1⟩ | ⟨hil, rfl, l1⟩); rotate_left; exact ⟨rfl, .inr ⟨140, rfl, HIN.out hil, by decide, (OUT.out _ (by first | exact below_step (Below.drew (Below.refl _ _)) l1 | exact below_step (Below.refl _ _) l1 | (refine below_step ?_ l1; (repeat' (first | (with_reducible exact Below.refl _ _) | (with_reducible assumption) | (with_reducible apply Below.setCell) | (with_reducible apply Below.alloc) | (with_reducible apply Below.drew) | (with_reducible apply below_drewN) | (with_reducible refine Below.trans ?_ (Below.mono (by assumption) ?_)) | omega | (simp; done) | (simp; omega)))))).2.2.2⟩⟩; have cum1 : Below w2.heap.size w2 v1 := (by first | exact below_step (Below.drew (Below.refl _ _)) l1 | exact below_step (Below.refl _ _) l1 | (refine below_step ?_ l1; (repeat' (first | (with_reducible exact Below.refl _ _) | (with_reducible assumption) | (with_reducible apply Below.setCell) | (with_reducible apply Below.alloc) | (with_reducible apply Below.drew) | (with_reducible apply below_drewN) | (with_reducible refine Below.trans ?_ (Below.mono (by assumption) ?_)) | omega | (simp; done) | (simp; omega))))); have cz1 := Below.size cum1; obtain ⟨bc1, bf1⟩ := bcell l1; (try (have ec10 : v1.cell? ⟨w2.heap.size, 0, none⟩ = some (.int .i64 0) := ?_; rotate_left; focus (refine (bc1 _ _ ?_).trans ?_; all_goals (first | (simp [go_sem]; done) | (simp; omega) | (simp [go_sem, *]; done))))); (try (have ef10 : v1.frozen? ⟨w2.heap.size, 0, none⟩ = false := ?_; rotate_left; focus (refine (bf1 _ _ ?_).trans ?_; all_goals (first | (simp [go_sem]; done) | (simp; omega) | (simp [go_sem, *]; done))))); (try (have ec11 : v1.cell? ⟨w2.heap.size, 1, none⟩ = some (.int .i64 0) := ?_; rotate_left; focus (refine (bc1 _ _ ?_).trans ?_; all_goals (first | (simp [go_sem]; done) | (simp; omega) | (simp [go_sem, *]; done))))); (try (have ef11 : v1.frozen? ⟨w2.heap.size, 1, none⟩ = false := ?_; rotate_left; focus (refine (bf1 _ _ ?_).trans ?_; all_goals (first | (simp [go_sem]; done) | (simp; omega) | (simp [go_sem, *]; done))))); (try (have en1 : ¬ w2.heap.size = v1.heap.size := ?_; rotate_left; focus (have this := Below.size l1; (try simp at this); omega))); (try (have es1 : w2.heap.size < v1.heap.size := ?_; rotate_left; focus (have this := Below.size l1; (try simp at this); omega))); clear bc1 bf1)
            | (go_at_call 46; obtain ⟨K1, K2, hK, hKr, cgg⟩ := cg.out N D hNr; refine (cgg _ _ (by first | exact lies2J _ _ _ (by first | rfl | simp) _ _ _ _ | exact (lies2J _ _ _ (by first | rfl | simp) _ _ _ _).below (by (repeat' (first | (with_reducible exact Below.refl _ _) | (with_reducible assumption) | (with_reducible apply Below.setCell) | (with_reducible apply Below.alloc) | (with_reducible apply Below.drew) | (with_reducible apply below_drewN) | (with_reducible refine Below.trans ?_ (Below.mono (by assumption) ?_)) | omega | (simp; done) | (simp; omega)))))).mono ?_; rintro E2 v2 ⟨rfl, l2⟩; have cum2 : Below w2.heap.size w2 v2 := (by first | exact below_step cum1 l2 | (refine below_step ?_ l2; have qq := cum1; (repeat' (first | (with_reducible exact Below.refl _ _) | (with_reducible assumption) | (with_reducible apply Below.setCell) | (with_reducible apply Below.alloc) | (with_reducible apply Below.drew) | (with_reducible apply below_drewN) | (with_reducible refine Below.trans ?_ (Below.mono (by assumption) ?_)) | omega | (simp; done) | (simp; omega))))); have cz2 := Below.size cum2; obtain ⟨bc2, bf2⟩ := bcell l2; (try (have ea20 : v2.cell? ⟨w2.heap.size, 0, none⟩ = some (.int .i64 0) := ?_; rotate_left; focus (refine (bc2 _ _ ?_).trans ?_; all_goals (first | (simp [go_sem]; done) | (simp; omega) | (simp [go_sem, *]; done))))); (try (have eb20 : v2.frozen? ⟨w2.heap.size, 0, none⟩ = false := ?_; rotate_left; focus (refine (bf2 _ _ ?_).trans ?_; all_goals (first | (simp [go_sem]; done) | (simp; omega) | (simp [go_sem, *]; done))))); (try (have ea21 : v2.cell? ⟨w2.heap.size, 1, none⟩ = some (.int .i64 0) := ?_; rotate_left; focus (refine (bc2 _ _ ?_).trans ?_; all_goals (first | (simp [go_sem]; done) | (simp; omega) | (simp [go_sem, *]; done))))); (try (have eb21 : v2.frozen? ⟨w2.heap.size, 1, none⟩ = false := ?_; rotate_left; focus (refine (bf2 _ _ ?_).trans ?_; all_goals (first | (simp [go_sem]; done) | (simp; omega) | (simp [go_sem, *]; done))))); (try (have en2 : ¬ w2.heap.size = v2.heap.size := ?_; rotate_left; focus (have this := Below.size l2; (try simp at this); omega))); (try (have et2 : w2.heap.size < v2.heap.size := ?_; rotate_left; focus (have this := Below.size l2; (try simp at this); omega))); (try (have ec2u0 : v2.cell? ⟨v1.heap.size, 0, none⟩ = some (.int .i64 0) := ?_; rotate_left; focus (refine (bc2 _ _ ?_).trans ?_; all_goals (first | (simp [go_sem]; done) | (simp; omega) | (simp [go_sem, *]; done))))); (try (have ef2u0 : v2.frozen? ⟨v1.heap.size, 0, none⟩ = false := ?_; rotate_left; focus (refine (bf2 _ _ ?_).trans ?_; all_goals (first | (simp [go_sem]; done) | (simp; omega) | (simp [go_sem, *]; done))))); (try (have ec2u1 : v2.cell? ⟨v1.heap.size, 1, none⟩ = some (.int .i64 0) := ?_; rotate_left; focus (refine (bc2 _ _ ?_).trans ?_; all_goals (first | (simp [go_sem]; done) | (simp; omega) | (simp [go_sem, *]; done))))); (try (have ef2u1 : v2.frozen? ⟨v1.heap.size, 1, none⟩ = false := ?_; rotate_left; focus (refine (bf2 _ _ ?_).trans ?_; all_goals (first | (simp [go_sem]; done) | (simp; omega) | (simp [go_sem, *]; done))))); (try (have en2u : ¬ v1.heap.size = v2.heap.size := ?_; rotate_left; focus (have this := Below.size l2; (try simp at this); omega))); (try (have es2u : v1.heap.size < v2.heap.size := ?_; rotate_left; focus (have this := Below.size l2; (try simp at this); omega))); (try (have ec2w0 : v2.cell? ⟨v1.heap.size + 1, 0, none⟩ = some (.int .i64 0) := ?_; rotate_left; focus (refine (bc2 _ _ ?_).trans ?_; all_goals (first | (simp [go_sem]; done) | (simp; omega) | (simp [go_sem, *]; done))))); (try (have ef2w0 : v2.frozen? ⟨v1.heap.size + 1, 0, none⟩ = false := ?_; rotate_left; focus (refine (bf2 _ _ ?_).trans ?_; all_goals (first | (simp [go_sem]; done) | (simp; omega) | (simp [go_sem, *]; done))))); (try (have ec2w1 : v2.cell? ⟨v1.heap.size + 1, 1, none⟩ = some (.int .i64 0) := ?_; rotate_left; focus (refine (bc2 _ _ ?_).trans ?_; all_goals (first | (simp [go_sem]; done) | (simp; omega) | (simp [go_sem, *]; done))))); (try (have ef2w1 : v2.frozen? ⟨v1.heap.size + 1, 1, none⟩ = false := ?_; rotate_left; focus (refine (bf2 _ _ ?_).trans ?_; all_goals (first | (simp [go_sem]; done) | (simp; omega) | (simp [go_sem, *]; done))))); (try (have en2w : ¬ v1.heap.size + 1 = v2.heap.size := ?_; rotate_left; focus (have this := Below.size l2; (try simp at this); omega))); (try (have es2w : v1.heap.size + 1 < v2.heap.size := ?_; rotate_left; focus (have this := Below.size l2; (try simp at this); omega))); clear bc2 bf2)
            | (go_at_call 45; refine (cmu.out K1 K2 _).mono ?_; rintro E3 v3 ⟨rfl, l3⟩; have cum3 : Below w2.heap.size w2 v3 := (by first | exact below_step cum2 l3 | (refine below_step ?_ l3; have qq := cum2; (repeat' (first | (with_reducible exact Below.refl _ _) | (with_reducible assumption) | (with_reducible apply Below.setCell) | (with_reducible apply Below.alloc) | (with_reducible apply Below.drew) | (with_reducible apply below_drewN) | (with_reducible refine Below.trans ?_ (Below.mono (by assumption) ?_)) | omega | (simp; done) | (simp; omega))))); have cz3 := Below.size cum3; obtain ⟨bc3, bf3⟩ := bcell l3; (try (have ec3p0 : v3.cell? ⟨w2.heap.size, 0, none⟩ = some (.int .i64 0) := ?_; rotate_left; focus (refine (bc3 _ _ ?_).trans ?_; all_goals (first | (simp [go_sem]; done) | (simp; omega) | (simp [go_sem, *]; done))))); (try (have ef3p0 : v3.frozen? ⟨w2.heap.size, 0, none⟩ = false := ?_; rotate_left; focus (refine (bf3 _ _ ?_).trans ?_; all_goals (first | (simp [go_sem]; done) | (simp; omega) | (simp [go_sem, *]; done))))); (try (have ec3p1 : v3.cell? ⟨w2.heap.size, 1, none⟩ = some (.int .i64 0) := ?_; rotate_left; focus (refine (bc3 _ _ ?_).trans ?_; all_goals (first | (simp [go_sem]; done) | (simp; omega) | (simp [go_sem, *]; done))))); (try (have ef3p1 : v3.frozen? ⟨w2.heap.size, 1, none⟩ = false := ?_; rotate_left; focus (refine (bf3 _ _ ?_).trans ?_; all_goals (first | (simp [go_sem]; done) | (simp; omega) | (simp [go_sem, *]; done))))); (try (have en3p : ¬ w2.heap.size = v3.heap.size := ?_; rotate_left; focus (have this := Below.size l3; (try simp at this); omega))); (try (have es3p : w2.heap.size < v3.heap.size := ?_; rotate_left; focus (have this := Below.size l3; (try simp at this); omega))); (try (have ec3u0 : v3.cell? ⟨v1.heap.size, 0, none⟩ = some (.int .i64 0) := ?_; rotate_left; focus (refine (bc3 _ _ ?_).trans ?_; all_goals (first | (simp [go_sem]; done) | (simp; omega) | (simp [go_sem, *]; done))))); (try (have ef3u0 : v3.frozen? ⟨v1.heap.size, 0, none⟩ = false := ?_; rotate_left; focus (refine (bf3 _ _ ?_).trans ?_; all_goals (first | (simp [go_sem]; done) | (simp; omega) | (simp [go_sem, *]; done))))); (try (have ec3u1 : v3.cell? ⟨v1.heap.size, 1, none⟩ = some (.int .i64 0) := ?_; rotate_left; focus (refine (bc3 _ _ ?_).trans ?_; all_goals (first | (simp [go_sem]; done) | (simp; omega) | (simp [go_sem, *]; done))))); (try (have ef3u1 : v3.frozen? ⟨v1.heap.size, 1, none⟩ = false := ?_; rotate_left; focus (refine (bf3 _ _ ?_).trans ?_; all_goals (first | (simp [go_sem]; done) | (simp; omega) | (simp [go_sem, *]; done))))); (try (have en3u : ¬ v1.heap.size = v3.heap.size := ?_; rotate_left; focus (have this := Below.size l3; (try simp at this); omega))); (try (have es3u : v1.heap.size < v3.heap.size := ?_; rotate_left; focus (have this := Below.size l3; (try simp at this); omega))); (try (have ec3w0 : v3.cell? ⟨v1.heap.size + 1, 0, none⟩ = some (.int .i64 0) := ?_; rotate_left; focus (refine (bc3 _ _ ?_).trans ?_; all_goals (first | (simp [go_sem]; done) | (simp; omega) | (simp [go_sem, *]; done))))); (try (have ef3w0 : v3.frozen? ⟨v1.heap.size + 1, 0, none⟩ = false := ?_; rotate_left; focus (refine (bf3 _ _ ?_).trans ?_; all_goals (first | (simp [go_sem]; done) | (simp; omega) | (simp [go_sem, *]; done))))); (try (have ec3w1 : v3.cell? ⟨v1.heap.size + 1, 1, none⟩ = some (.int .i64 0) := ?_; rotate_left; focus (refine (bc3 _ _ ?_).trans ?_; all_goals (first | (simp [go_sem]; done) | (simp; omega) | (simp [go_sem, *]; done))))); (try (have ef3w1 : v3.frozen? ⟨v1.heap.size + 1, 1, none⟩ = false := ?_; rotate_left; focus (refine (bf3 _ _ ?_).trans ?_; all_goals (first | (simp [go_sem]; done) | (simp; omega) | (simp [go_sem, *]; done))))); (try (have en3w : ¬ v1.heap.size + 1 = v3.heap.size := ?_; rotate_left; focus (have this := Below.size l3; (try simp at this); omega))); (try (have es3w : v1.heap.size + 1 < v3.heap.size := ?_; rotate_left; focus (have this := Below.size l3; (try simp at this); omega))); (try (have ec3x0 : v3.cell? ⟨v2.heap.size, 0, none⟩ = some (.int .i64 0) := ?_; rotate_left; focus (refine (bc3 _ _ ?_).trans ?_; all_goals (first | (simp [go_sem]; done) | (simp; omega) | (simp [go_sem, *]; done))))); (try (have ef3x0 : v3.frozen? ⟨v2.heap.size, 0, none⟩ = false := ?_; rotate_left; focus (refine (bf3 _ _ ?_).trans ?_; all_goals (first | (simp [go_sem]; done) | (simp; omega) | (simp [go_sem, *]; done))))); (try (have ec3x1 : v3.cell? ⟨v2.heap.size, 1, none⟩ = some (.int .i64 0) := ?_; rotate_left; focus (refine (bc3 _ _ ?_).trans ?_; all_goals (first | (simp [go_sem]; done) | (simp; omega) | (simp [go_sem, *]; done))))); (try (have ef3x1 : v3.frozen? ⟨v2.heap.size, 1, none⟩ = false := ?_; rotate_left; focus (refine (bf3 _ _ ?_).trans ?_; all_goals (first | (simp [go_sem]; done) | (simp; omega) | (simp [go_sem, *]; done))))); (try (have en3x : ¬ v2.heap.size = v3.heap.size := ?_; rotate_left; focus (have this := Below.size l3; (try simp at this); omega))); (try (have es3x : v2.heap.size < v3.heap.size := ?_; rotate_left; focus (have this := Below.size l3; (try simp at this); omega))); clear bc3 bf3)))
        all_goals go_wp2_with fail
        all_goals go_meet
        all_goals exact ⟨_, N, D, K1, K2, rfl, ⟨hil, hN⟩, ⟨hK, hKr⟩, by first | omega | (simp; omega) | (simp; done), ⟨by simp [go_sem, *], by simp [go_sem, *], by first | (simp; omega) | (simp; done) | omega⟩, by have qq := cum3; (repeat' (first | (with_reducible exact Below.refl _ _) | (with_reducible assumption) | (with_reducible apply Below.setCell) | (with_reducible apply Below.alloc) | (with_reducible apply Below.drew) | (with_reducible apply below_drewN) | (with_reducible refine Below.trans ?_ (Below.mono (by assumption) ?_)) | omega | (simp; done) | (simp; omega)))⟩
      case rest =>
        obtain ⟨q, N, D, K1, K2, rfl, ⟨hil, hN⟩, ⟨hK, hKr⟩, hq, hQ, hB⟩ := hcut
        have HBc := hidd (below_step HB2.out hB)
        have HAc := hidd (HA2.out.step hB)
        have HGc := hidd (HG2.out.step hB)
        have HQc := hidd hQ
        have HE := hidd ((HIF.out hil).trans (HLT.out N D hN))
        have HEK := hidd hK
        have CHI := hidd (fun W' (hW : Below wc.heap.size wc W') => chi.out K1 K2 hKr W' (HAc.out.2.2.below hW))
        have CSE := hidd (fun W' => cse.out K1 K2 hKr W')
        have hnq : ¬ q = W.heap.size := by omega
        clear hB hQ hN hil hKr KEEP OUT k0 k1 k2 k3 k4
        obtain ⟨⟨d0, q0⟩, ⟨d1, ⟨q1, q2⟩, q3, q4⟩, -⟩ := HAc.out
        obtain ⟨q5, q6, d5⟩ := HQc.out
        have d2 := d1
        have d3 := d1
        have d4 := d1
        have d6 := d5
        obtain ⟨dz, p0, p1, z0, z1⟩ := HGc.out
        have hBw := HBc.out
        have KEEP := hidd (fun (w' : World) (hb : Below wc.heap.size wc w') => (show w'.cell? ⟨a, 0, none⟩ = some (.slice A l.length c) ∧ w'.cell? ⟨b, 0, none⟩ = some (.int .i64 rn) ∧ w'.cell? ⟨b, 1, none⟩ = some (.int .i64 rd) ∧ w'.cell? ⟨b, 2, none⟩ = some (.int .i64 ln) ∧ w'.cell? ⟨b, 3, none⟩ = some (.int .i64 ld) ∧ w'.cell? ⟨q, 0, none⟩ = some (.int .i64 K1) ∧ w'.cell? ⟨q, 1, none⟩ = some (.int .i64 K2) from ⟨(hb.cell (p := ⟨a, 0, none⟩) d0).trans q0, (hb.cell (p := ⟨b, 0, none⟩) d1).trans q1, (hb.cell (p := ⟨b, 1, none⟩) d2).trans q2, (hb.cell (p := ⟨b, 2, none⟩) d3).trans q3, (hb.cell (p := ⟨b, 3, none⟩) d4).trans q4, (hb.cell (p := ⟨q, 0, none⟩) d5).trans q5, (hb.cell (p := ⟨q, 1, none⟩) d6).trans q6⟩))
        have OUT := hidd (fun (w' : World) (hb : Below wc.heap.size wc w') => (show (w'.cell? ⟨W.heap.size, 0, none⟩ = some (.int .i64 0) ∧ w'.cell? ⟨W.heap.size, 1, none⟩ = some (.int .i64 0)) ∧ (w'.frozen? ⟨W.heap.size, 0, none⟩ = false ∧ w'.frozen? ⟨W.heap.size, 1, none⟩ = false) ∧ W.heap.size < w'.heap.size ∧ Below W.heap.size W w' from ⟨⟨(hb.cell (p := ⟨W.heap.size, 0, none⟩) dz).trans p0, (hb.cell (p := ⟨W.heap.size, 1, none⟩) dz).trans p1⟩, ⟨(hb.frozen (p := ⟨W.heap.size, 0, none⟩) dz).trans z0, (hb.frozen (p := ⟨W.heap.size, 1, none⟩) dz).trans z1⟩, Nat.lt_of_lt_of_le dz hb.size, below_step hBw hb⟩))
        clear q0 q1 q2 q3 q4 q5 q6 d0 d1 d2 d3 d4 d5 d6 dz p0 p1 z0 z1 hBw
        obtain ⟨k0, k1, k2, k3, k4, k5, k6⟩ := KEEP.out _ (Below.refl _ _)
        go_wp2_with fail
        go_region_held (fun w' => w'.cell? ⟨a, 0, none⟩ = some (.slice A l.length c) ∧ w'.cell? ⟨b, 0, none⟩ = some (.int .i64 rn) ∧ w'.cell? ⟨b, 1, none⟩ = some (.int .i64 rd) ∧ w'.cell? ⟨b, 2, none⟩ = some (.int .i64 ln) ∧ w'.cell? ⟨b, 3, none⟩ = some (.int .i64 ld) ∧ w'.cell? ⟨q, 0, none⟩ = some (.int .i64 K1) ∧ w'.cell? ⟨q, 1, none⟩ = some (.int .i64 K2))
          ((first | exact KEEP.out _ cum3 | exact KEEP.out _ cum2 | exact KEEP.out _ cum1 | exact KEEP.out _ (Below.refl _ _) | exact KEEP.out _ (Below.drew (Below.refl _ _)) | exact KEEP.out _ (below_new cum3 _) | exact KEEP.out _ (below_new (below_new cum3 _) _) | exact KEEP.out _ (below_new (Below.drew (Below.refl _ _)) _) | (refine KEEP.out _ ?_; have qq := cum3; (repeat' (first | (with_reducible exact Below.refl _ _) | (with_reducible assumption) | (with_reducible apply Below.setCell) | (with_reducible apply Below.alloc) | (with_reducible apply Below.drew) | (with_reducible apply below_drewN) | (with_reducible refine Below.trans ?_ (Below.mono (by assumption) ?_)) | omega | (simp; done) | (simp; omega))); done) | (refine KEEP.out _ ?_; (repeat' (first | (with_reducible exact Below.refl _ _) | (with_reducible assumption) | (with_reducible apply Below.setCell) | (with_reducible apply Below.alloc) | (with_reducible apply Below.drew) | (with_reducible apply below_drewN) | (with_reducible refine Below.trans ?_ (Below.mono (by assumption) ?_)) | omega | (simp; done) | (simp; omega))); done) | (obtain ⟨j0, j1, j2, j3, j4, j5, j6⟩ := KEEP.out _ cum3; refine ⟨?_, ?_, ?_, ?_, ?_, ?_, ?_⟩ <;> simp [go_sem, *]; done) | go_keep))
          ((first
            | (go_at_call 47; refine (CHI.out _ (by (repeat' (first | (with_reducible exact Below.refl _ _) | (with_reducible assumption) | (with_reducible apply Below.setCell) | (with_reducible apply Below.alloc) | (with_reducible apply Below.drew) | (with_reducible apply below_drewN) | (with_reducible refine Below.trans ?_ (Below.mono (by assumption) ?_)) | omega | (simp; done) | (simp; omega))))).mono ?_; rintro E1 v1 (⟨HN, HD, rfl, hHN, hHNr, l1⟩ | ⟨k, rfl, hk, hk0, l1⟩); rotate_left; exact ⟨rfl, .inr ⟨k, rfl, by rw [HE.out, HEK.out, hk, thenR_no hk0], hk0, (OUT.out _ (by first | exact below_step cum0 l1 | exact below_step (Below.drew (Below.refl _ _)) l1 | exact below_step (Below.refl _ _) l1 | (refine below_step ?_ l1; have qq := cum0; (repeat' (first | (with_reducible exact Below.refl _ _) | (with_reducible assumption) | (with_reducible apply Below.setCell) | (with_reducible apply Below.alloc) | (with_reducible apply Below.drew) | (with_reducible apply below_drewN) | (with_reducible refine Below.trans ?_ (Below.mono (by assumption) ?_)) | omega | (simp; done) | (simp; omega)))) | (refine below_step ?_ l1; (repeat' (first | (with_reducible exact Below.refl _ _) | (with_reducible assumption) | (with_reducible apply Below.setCell) | (with_reducible apply Below.alloc) | (with_reducible apply Below.drew) | (with_reducible apply below_drewN) | (with_reducible refine Below.trans ?_ (Below.mono (by assumption) ?_)) | omega | (simp; done) | (simp; omega)))))).2.2.2⟩⟩; have cum1 : Below wc.heap.size wc v1 := (by first | exact below_step (Below.drew (Below.refl _ _)) l1 | exact below_step (Below.refl _ _) l1 | (refine below_step ?_ l1; (repeat' (first | (with_reducible exact Below.refl _ _) | (with_reducible assumption) | (with_reducible apply Below.setCell) | (with_reducible apply Below.alloc) | (with_reducible apply Below.drew) | (with_reducible apply below_drewN) | (with_reducible refine Below.trans ?_ (Below.mono (by assumption) ?_)) | omega | (simp; done) | (simp; omega))))); have cz1 := Below.size cum1)
            | (go_at_call 48; refine (CSE.out _).mono ?_; rintro E2 v2 (⟨XN, XD, rfl, hXN, hXNr, l2⟩ | ⟨k, rfl, hk, hk0, l2⟩); rotate_left; exact ⟨rfl, .inr ⟨k, rfl, by rw [HE.out, HEK.out, hHN, thenR_ok, hk, thenR_no hk0], hk0, (OUT.out _ (by first | exact below_step cum1 l2 | exact below_step (Below.drew (Below.refl _ _)) l2 | exact below_step (Below.refl _ _) l2 | (refine below_step ?_ l2; have qq := cum1; (repeat' (first | (with_reducible exact Below.refl _ _) | (with_reducible assumption) | (with_reducible apply Below.setCell) | (with_reducible apply Below.alloc) | (with_reducible apply Below.drew) | (with_reducible apply below_drewN) | (with_reducible refine Below.trans ?_ (Below.mono (by assumption) ?_)) | omega | (simp; done) | (simp; omega)))) | (refine below_step ?_ l2; (repeat' (first | (with_reducible exact Below.refl _ _) | (with_reducible assumption) | (with_reducible apply Below.setCell) | (with_reducible apply Below.alloc) | (with_reducible apply Below.drew) | (with_reducible apply below_drewN) | (with_reducible refine Below.trans ?_ (Below.mono (by assumption) ?_)) | omega | (simp; done) | (simp; omega)))))).2.2.2⟩⟩; have cum2 : Below wc.heap.size wc v2 := (by first | exact below_step cum1 l2 | (refine below_step ?_ l2; have qq := cum1; (repeat' (first | (with_reducible exact Below.refl _ _) | (with_reducible assumption) | (with_reducible apply Below.setCell) | (with_reducible apply Below.alloc) | (with_reducible apply Below.drew) | (with_reducible apply below_drewN) | (with_reducible refine Below.trans ?_ (Below.mono (by assumption) ?_)) | omega | (simp; done) | (simp; omega))))); have cz2 := Below.size cum2)
            | (go_at_call 42; refine (cle.out HN HD XN XD hHNr hXNr _).mono ?_; rintro E3 v3 (⟨P, Q, rfl, hP, hPr, l3⟩ | ⟨k, rfl, hk, hk0, l3⟩); rotate_left; exact ⟨rfl, .inr ⟨k, rfl, by rw [HE.out, HEK.out, hHN, thenR_ok, hXN, thenR_ok, hk], hk0, (OUT.out _ (by first | exact below_step cum2 l3 | exact below_step (Below.drew (Below.refl _ _)) l3 | exact below_step (Below.refl _ _) l3 | (refine below_step ?_ l3; have qq := cum2; (repeat' (first | (with_reducible exact Below.refl _ _) | (with_reducible assumption) | (with_reducible apply Below.setCell) | (with_reducible apply Below.alloc) | (with_reducible apply Below.drew) | (with_reducible apply below_drewN) | (with_reducible refine Below.trans ?_ (Below.mono (by assumption) ?_)) | omega | (simp; done) | (simp; omega)))) | (refine below_step ?_ l3; (repeat' (first | (with_reducible exact Below.refl _ _) | (with_reducible assumption) | (with_reducible apply Below.setCell) | (with_reducible apply Below.alloc) | (with_reducible apply Below.drew) | (with_reducible apply below_drewN) | (with_reducible refine Below.trans ?_ (Below.mono (by assumption) ?_)) | omega | (simp; done) | (simp; omega)))))).2.2.2⟩⟩; have cum3 : Below wc.heap.size wc v3 := (by first | exact below_step cum2 l3 | (refine below_step ?_ l3; have qq := cum2; (repeat' (first | (with_reducible exact Below.refl _ _) | (with_reducible assumption) | (with_reducible apply Below.setCell) | (with_reducible apply Below.alloc) | (with_reducible apply Below.drew) | (with_reducible apply below_drewN) | (with_reducible refine Below.trans ?_ (Below.mono (by assumption) ?_)) | omega | (simp; done) | (simp; omega))))); have cz3 := Below.size cum3; obtain ⟨⟨o0, o1⟩, ⟨f0, f1⟩, o5, _⟩ := OUT.out _ cum3)))
        all_goals go_wp2_with fail
        all_goals exact bodyPost_ret (v := .agg #[.int .i64 P, .int .i64 Q]) (by simp [results, Tryz.results44, go_sem, *]) rfl (.inl ⟨P, Q, rfl, by rw [HE.out, HEK.out, hHN, thenR_ok, hXN, thenR_ok, hP], hPr, by have q := (OUT.out _ cum3).2.2.2; (repeat' (first | (with_reducible exact Below.refl _ _) | (with_reducible assumption) | (with_reducible apply Below.setCell) | (with_reducible apply Below.alloc) | (with_reducible apply Below.drew) | (with_reducible apply below_drewN) | (with_reducible refine Below.trans ?_ (Below.mono (by assumption) ?_)) | omega | (simp; done) | (simp; omega)))⟩)
set_option maxRecDepth 100000 in
set_option maxHeartbeats 4000000 in
theorem Backlog_any (R : Bool) (A : Option Addr) (l : List (Int × Int)) (c : Nat) (hm : l.length ≤ 1000000) (hR : R = true ↔ Zp.RgtC l) (hc : l.length ≤ c) (hcm : c ≤ maxLen) (rn rd ln ld : Int) (hw : Word4 rn rd ln ld) (w : World) (hl : Zp.Lie Zp.sendV 2 w w.heap.size A l) :
    Calls Tryz.prog 11 #[.slice A l.length c, .agg #[.int .i64 rn, .int .i64 rd, .int .i64 ln, .int .i64 ld]] w fun e w' => e = .returned (pairOf (waitM R l rn rd ln ld)) ∧ Below w.heap.size w w' := by
  have hmf : ∀ (fn : Fn) (first cap : Array Value) (w : World), (Instr.makeFunc fn first cap).run Tryz.prog w = .ok (.func fn first cap) w := fun _ _ _ _ => rfl
  have V : ∀ W, W = (((w.alloc (.cells #[.slice A l.length c] 23)).alloc (.cells #[.int .i64 rn, .int .i64 rd, .int .i64 ln, .int .i64 ld] 27)).alloc (.cells #[.int .i64 0, .int .i64 0] 25)) → Calls Tryz.prog 34 #[.func (Fn.func 44) #[] #[.pointer (some ⟨w.heap.size, 0, none⟩), .pointer (some ⟨w.heap.size + 1, 0, none⟩)]] W fun e w' => e = .returned (pairOf (waitM R l rn rd ln ld)) ∧ Below W.heap.size W w' := fun W hW => by
    subst hW
    exact toldMR_any _ entersBacklog1 _ _ _ (tells_waitM hR hw) (fun W' hW' => backlog1_any R A l c hm hR hc hcm rn rd ln ld hw _ _ W' ((askC_new w A l c rn rd ln ld hl).step hW'))
  have CV := hidd (V _ rfl)
  obtain ⟨⟨N, D, k⟩, hr⟩ : ∃ r, waitM R l rn rd ln ld = r := ⟨_, rfl⟩
  rw [hr] at CV ⊢
  clear V hr hl hR hm
  unfold pairOf at CV ⊢
  simp only at CV ⊢
  go_enter Tryz.func11, Tryz.ntmps11
  go_wp2_with fail
  refine (CV.out).mono ?_
  rintro E w1 ⟨rfl, hb1⟩
  have HB1 := hidd (Below.trans (show Below w.heap.size w (((w.alloc (.cells #[.slice A l.length c] 23)).alloc (.cells #[.int .i64 rn, .int .i64 rd, .int .i64 ln, .int .i64 ld] 27)).alloc (.cells #[.int .i64 0, .int .i64 0] 25)) by (repeat' (first | (with_reducible exact Below.refl _ _) | (with_reducible assumption) | (with_reducible apply Below.setCell) | (with_reducible apply Below.alloc) | (with_reducible apply Below.drew) | (with_reducible apply below_drewN) | (with_reducible refine Below.trans ?_ (Below.mono (by assumption) ?_)) | omega | (simp; done) | (simp; omega)))) (hb1.mono (by first | (simp; done) | (simp; omega))))
  obtain ⟨g5, g0, g1, g2, g3⟩ := (GBox.new (w := ((w.alloc (.cells #[.slice A l.length c] 23)).alloc (.cells #[.int .i64 rn, .int .i64 rd, .int .i64 ln, .int .i64 ld] 27))) (b := w.heap.size + 1 + 1) (by simp) 25 0 0).step hb1
  have hs := HB1.out.size
  clear hb1
  go_wp2_with fail
  exact bodyPost_ret (v := .tuple #[.agg #[.int .i64 N, .int .i64 D], .int .i64 k]) (by simp [results, Tryz.results11, go_sem, *]) rfl ⟨rfl, by have q := HB1.out; (repeat' (first | (with_reducible exact Below.refl _ _) | (with_reducible assumption) | (with_reducible apply Below.setCell) | (with_reducible apply Below.alloc) | (with_reducible apply Below.drew) | (with_reducible apply below_drewN) | (with_reducible refine Below.trans ?_ (Below.mono (by assumption) ?_)) | omega | (simp; done) | (simp; omega)))⟩
end Go.Proofs.YtokcalmmmfakcaaGreat

