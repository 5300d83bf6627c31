/- Curves: the least rate; how high a curve is. -/
import Derived.Test.YtpgaklfgbioocaaCvQ
namespace Go.Proofs.Ytpgaklfgbioocaa
set_option linter.unusedVariables false
open Go.RowKit Go.Proofs.Ytpgaklfgbioocaa.RowK

theorem isMin_one (x : Int × Int) (N D : Int) : CM.IsMin [x] N D (CM.val x N D) := by
  refine ⟨⟨x, by simp, rfl⟩, fun y hy => ?_⟩
  have : y = x := by simpa using hy
  subst this
  exact Int.le_refl _
theorem isMin_snoc {L : List (Int × Int)} {x : Int × Int} {N D v : Int} (h : CM.IsMin L N D v) : CM.IsMin (L ++ [x]) N D (if CM.val x N D < v then CM.val x N D else v) := by
  obtain ⟨⟨y, hy, e⟩, h2⟩ := h
  by_cases hl : CM.val x N D < v
  · rw [if_pos hl]
    refine ⟨⟨x, by simp, rfl⟩, fun z hz => ?_⟩
    rcases List.mem_append.1 hz with h | h
    · have := h2 z h; omega
    · have : z = x := by simpa using h
      subst this; exact Int.le_refl _
  · rw [if_neg hl]
    refine ⟨⟨y, by simp [hy], e⟩, fun z hz => ?_⟩
    rcases List.mem_append.1 hz with h | h
    · exact h2 z h
    · have : z = x := by simpa using h
      subst this; omega
theorem val_at (L : List (Int × Int)) (i : Nat) (N D : Int) : CM.val (SM.av L i, SM.sv L i) N D = CM.vl L i N D := rfl
theorem isMin_step {L : List (Int × Int)} {i : Nat} (hi : i < L.length) {N D v : Int} (h : CM.IsMin (L.take i) N D v) : CM.IsMin (L.take (i + 1)) N D (if CM.vl L i N D < v then CM.vl L i N D else v) := by
  rw [take_one hi]
  exact isMin_snoc h
theorem isMin_first {L : List (Int × Int)} (h : 0 < L.length) (N D : Int) : CM.IsMin (L.take 1) N D (CM.vl L 0 N D) := by
  rw [take_one h]
  exact isMin_one _ _ _
theorem Lie.tail2 {w : World} {B : Nat} {ad : Addr} {L : List (Int × Int)} (h : Lie sendV 2 w B (some ad) L) : Lie sendV 2 w B (some ⟨ad.block, ad.off + 2, none⟩) L.tail := fun hl => by
  obtain ⟨ad', e, hB, hc⟩ := h (by cases L <;> simp_all)
  obtain rfl : ad = ad' := by injection e
  refine ⟨_, rfl, hB, fun i x hx j v hv => ?_⟩
  have e2 : Addr.add ⟨ad.block, ad.off + 2, none⟩ (i * 2 + j) = ad.add ((i + 1) * 2 + j) := by
    have : (⟨ad.block, ad.off + 2, none⟩ : Addr) = ad.add 2 := rfl
    rw [this, add_of_add]; congr 1; omega
  rw [e2]
  exact hc (i + 1) x (by rw [← hx]; cases L <;> simp) j v hv
theorem tail_at (L : List (Int × Int)) (i : Nat) : SM.av L.tail i = SM.av L (i + 1) ∧ SM.sv L.tail i = SM.sv L (i + 1) := by
  cases L <;> simp [SM.av, SM.sv, List.getD_eq_getElem?_getD]
set_option maxHeartbeats 2000000 in
theorem slowest_any (A : Option Addr) (L : List (Int × Int)) (c : Nat) (hL : L.length ≤ 1000000) (w : World) (hA : Lie sendV 2 w w.heap.size A L) :
    (RgtC L → Calls Try.prog 16 #[.slice A L.length c] w fun e w' => e = .returned (.tuple #[.int .i64 (SM.sv L (L.length - 1)), .int .i64 0]) ∧ Below w.heap.size w w') ∧
    (¬ RgtC L → Calls Try.prog 16 #[.slice A L.length c] w fun e w' => e = .returned (.tuple #[.int .i64 0, .int .i64 2]) ∧ Below w.heap.size w w') := by
  have cn := hidd (isNone_any A L c hL w hA)
  constructor
  · intro hr
    obtain ⟨m, hm⟩ : ∃ m, L.length = m + 1 := ⟨L.length - 1, by have := hr.1; omega⟩
    have HR := hidd hr
    have HA := hidd hA
    have HM := hidd hm
    have hm2 : (0 : Int) ≤ (m : Int) := by omega
    have hm3 : (m : Int) < (m : Int) + 1 := by omega
    have hm5 : IntKind.i64.wrap (m : Int) = (m : Int) := IntWalk.i64_in _ (by omega)
    have hm6 : IntKind.i64.wrap ((m : Int) + 1 - 1) = (m : Int) := by rw [IntWalk.i64_in _ (by omega)]; omega
    rw [hm, Nat.add_sub_cancel]
    rw [hm] at cn hL
    clear hr hA hm
    go_enter Try.func16, Try.ntmps16
    go_wp2_with fail
    refine cn.out.mono ?_
    rintro e w1 ⟨R, rfl, hR, hb1⟩
    obtain rfl : R = false := by cases R; rfl; exact absurd HR.out (hR.1 rfl)
    obtain ⟨ad, rfl, _, y0, y1⟩ := (HA.out.below hb1).send m (by rw [HM.out]; omega)
    rw [(av_at (show m < L.length by rw [HM.out]; omega)).2] at y1
    have HB1 := hidd hb1
    clear hR hb1 y0
    go_wp2_with fail
    go_ret2
    exact ⟨rfl, HB1.out⟩
  · intro hr
    have HR := hidd hr
    clear hr hA
    go_enter Try.func16, Try.ntmps16
    go_wp2_with fail
    refine cn.out.mono ?_
    rintro e w1 ⟨R, rfl, hR, hb1⟩
    obtain rfl : R = true := hR.2 HR.out
    clear hR
    go_wp2_with fail
    go_ret2
    exact ⟨rfl, hb1⟩
def AtEnd (L : List (Int × Int)) (t : Int) (w : World) (e : Ending) (w' : World) : Prop := ∃ x : Int, e = .returned (.tuple #[.int .i64 x, .int .i64 0]) ∧ CM.IsMin L t 1 x ∧ Below w.heap.size w w'
set_option maxHeartbeats 2000000 in
theorem curveAt_no (A : Option Addr) (L : List (Int × Int)) (c : Nat) (t : Int) (hL : L.length ≤ 1000000) (w : World) (hA : Lie sendV 2 w w.heap.size A L) (hn : ¬ (RgtC L ∧ tickB t = true)) :
    Calls Try.prog 14 #[.slice A L.length c, .int .i64 t] w fun e w' => e = .returned (.tuple #[.int .i64 0, .int .i64 2]) ∧ Below w.heap.size w w' := by
  have cn := hidd (isNone_any A L c hL w hA)
  have ct := hidd (fun W => curveTick_any t W)
  by_cases hr : RgtC L
  · have ht : tickB t = false := by cases h : tickB t; rfl; exact absurd ⟨hr, h⟩ hn
    have HR := hidd hr
    rw [ht] at ct
    clear hn hr ht hA
    go_enter Try.func14, Try.ntmps14
    go_wp2_with fail
    refine cn.out.mono ?_
    rintro e w1 ⟨R, rfl, hR, hb1⟩
    obtain rfl : R = false := by cases R; rfl; exact absurd HR.out (hR.1 rfl)
    clear hR
    go_wp2_with fail
    refine (ct.out _).mono ?_
    rintro e w2 ⟨rfl, rfl⟩
    go_wp2_with fail
    go_ret2
    exact ⟨rfl, hb1⟩
  · have HR := hidd hr
    clear hn hr hA
    go_enter Try.func14, Try.ntmps14
    go_wp2_with fail
    refine cn.out.mono ?_
    rintro e w1 ⟨R, rfl, hR, hb1⟩
    obtain rfl : R = true := hR.2 HR.out
    clear hR
    go_wp2_with fail
    go_ret2
    exact ⟨rfl, hb1⟩
set_option maxRecDepth 100000 in
set_option maxHeartbeats 4000000 in
theorem curveAt_yes (A : Option Addr) (L : List (Int × Int)) (c : Nat) (t : Int) (hc : L.length ≤ c) (hcm : c ≤ maxLen) (w : World) (hA : Lie sendV 2 w w.heap.size A L) (hr : RgtC L) (ht : tickB t = true) :
    Calls Try.prog 14 #[.slice A L.length c, .int .i64 t] w (AtEnd L t w) := by
  unfold maxLen at hcm
  have cn := hidd (isNone_any A L c (by have := hr.1; omega) w hA)
  have ct := hidd (fun W => curveTick_any t W)
  obtain ⟨ht0, ht1⟩ : 0 ≤ t ∧ t ≤ 2147483647 := of_decide_eq_true ht
  rw [ht] at ct
  obtain ⟨n, hn⟩ : ∃ n, L.length = n + 1 := ⟨L.length - 1, by have := hr.1; omega⟩
  have hn32 : n ≤ 31 := by have := hr.1; omega
  have HM := hidd hr.2.1
  have HR := hidd hr
  have HN := hidd hn
  obtain ⟨ad, rfl, hab, x0, x1⟩ := hA.send 0 (by omega)
  rw [(av_at (show 0 < L.length by omega)).1] at x0
  rw [(av_at (show 0 < L.length by omega)).2] at x1
  have e0 : ad.add (0 * 2) = ad := by simp [Addr.add]
  rw [e0] at x0 x1
  have HA := hidd hA
  have ch := hidd (fun i (hi : i < L.length) W => by
    have h := mayB_iff (HM.out i hi)
    simp only at h
    exact height_any (SM.av L i) (SM.sv L i) t h.1 h.2.1 h.2.2.1 h.2.2.2 ht0 ht1 W)
  have hbd : ∀ i, i < L.length → 0 ≤ SM.av L i + SM.sv L i * t ∧ SM.av L i + SM.sv L i * t ≤ 2147483648000000000 := fun i hi => by
    have h := mayB_iff (HM.out i hi)
    simp only at h
    have := high_bd h.1 h.2.1 h.2.2.1 h.2.2.2 ht0 ht1
    omega
  have HBD := hidd hbd
  have hv : ∀ i, CM.vl L i t 1 = SM.av L i + SM.sv L i * t := fun i => by unfold CM.vl; omega
  have HV := hidd hv
  have hF := isMin_first (L := L) (by omega) t 1
  rw [hv] at hF
  have HF := hidd hF
  have hSt := fun i (hi : i < L.length) v (h : CM.IsMin (L.take i) t 1 v) => isMin_step hi h
  have HSt := hidd hSt
  have c0 := hidd (fun W => ch.out 0 (by omega) W)
  unfold AtEnd
  rw [hn]
  rw [hn] at cn
  have hb0 := hbd 0 (by omega)
  clear hbd hv hF hSt hA hr ht e0 hn
  generalize hx0 : SM.av L 0 + SM.sv L 0 * t = X at *
  have HX0 := hidd hx0
  clear hx0
  generalize SM.av L 0 = a0 at *
  generalize SM.sv L 0 = a1 at *
  by_cases hc1 : c = 1
  · obtain rfl : n = 0 := by have := HN.out; omega
    subst hc1
    go_enter Try.func14, Try.ntmps14
    go_wp2_with fail
    refine cn.out.mono ?_
    rintro e w1 ⟨R, rfl, hR, hb1⟩
    obtain rfl : R = false := by cases R; rfl; exact absurd HR.out (hR.1 rfl)
    have z0 := (hb1.cell (p := ad) hab).trans x0
    have z1 := (hb1.cell (p := ⟨ad.block, ad.off + 1, none⟩) hab).trans x1
    have HB1 := hidd hb1
    clear hR hb1 x0 x1
    go_wp2_with fail
    refine (ct.out _).mono ?_
    rintro e w2 ⟨rfl, rfl⟩
    go_wp2_with fail
    refine (c0.out _).mono ?_
    rintro e w2 ⟨rfl, hb2⟩
    go_wp2_with fail
    refine wp_loop_rounds 1 ?_
    rw [rounds_succ]
    go_wp2_with fail
    go_ret2
    refine ⟨_, rfl, ?_, below_step HB1.out hb2⟩
    have := HF.out
    rwa [List.take_of_length_le (by rw [HN.out]; omega)] at this
  · have HT := hidd (HA.out.tail2)
    go_enter Try.func14, Try.ntmps14
    go_wp2_with fail
    refine cn.out.mono ?_
    rintro e w1 ⟨R, rfl, hR, hb1⟩
    obtain rfl : R = false := by cases R; rfl; exact absurd HR.out (hR.1 rfl)
    have z0 := (hb1.cell (p := ad) hab).trans x0
    have z1 := (hb1.cell (p := ⟨ad.block, ad.off + 1, none⟩) hab).trans x1
    have HB1 := hidd hb1
    clear hR hb1 x0 x1
    go_wp2_with fail
    refine (ct.out _).mono ?_
    rintro e w2 ⟨rfl, rfl⟩
    go_wp2_with fail
    refine (c0.out _).mono ?_
    rintro e w2 ⟨rfl, hb2⟩
    have HB2 := hidd (below_step HB1.out hb2)
    clear hb2
    go_wp2_with fail
    go_loopg [6, 24] (n + 1) (fun g s6 s24 wr => ∃ (i : Nat) (x : Int), i ≤ n ∧ i + g = n + 1 ∧ s24 = .int .i64 (i : Int) ∧ s6 = .int .i64 x ∧ CM.IsMin (L.take (i + 1)) t 1 x ∧ (0 ≤ x ∧ x ≤ 2147483648000000000) ∧ Below w.heap.size w wr)
    case atStart => exact ⟨0, _, by omega, by omega, rfl, rfl, HF.out, hb0, HB2.out⟩
    case round =>
      obtain ⟨i, x, hi, hk, rfl, rfl, hx, ⟨hx0, hx1⟩, hB⟩ := hrel
      have HK := hidd hk
      have HX := hidd hx
      have HB := hidd hB
      clear hk hx hB
      by_cases hlt : i < n
      · obtain ⟨ad', e', hb', y0, y1⟩ := (HT.out.keep HB.out).send i (by rw [List.length_tail, HN.out]; exact hlt)
        obtain rfl : (⟨ad.block, ad.off + 2, none⟩ : Addr) = ad' := by injection e'
        have hlt2 : i < L.tail.length := by rw [List.length_tail, HN.out]; exact hlt
        rw [(av_at hlt2).1, (tail_at L i).1, add_plain] at y0
        rw [(av_at hlt2).2, (tail_at L i).2, add_plain] at y1
        dsimp only at y0 y1
        have hi1 : i + 1 < L.length := by rw [HN.out]; omega
        have cs := hidd (fun W => ch.out (i + 1) hi1 W)
        have hst := HSt.out (i + 1) hi1 x HX.out
        rw [HV.out] at hst
        have HST := hidd hst
        obtain ⟨u0, u1⟩ := HBD.out (i + 1) hi1
        have hin2 : (i : Int) < (n : Int) := by omega
        have hi0 : (0 : Int) ≤ (i : Int) := by omega
        clear e' hst hb' hlt2
        generalize hY : SM.av L (i + 1) + SM.sv L (i + 1) * t = Y at *
        clear hY
        generalize SM.av L (i + 1) = b0 at *
        generalize SM.sv L (i + 1) = b1 at *
        go_wp2_with fail
        refine (cs.out _).mono ?_
        rintro e w3 ⟨rfl, hb3⟩
        have HB3 := hidd (below_step (below_new HB.out _) hb3)
        clear hb3 y0 y1
        obtain ⟨Z, hZ⟩ : ∃ Z, (if Y < x then Y else x) = Z := ⟨_, rfl⟩
        have hZ2 : 0 ≤ Z ∧ Z ≤ 2147483648000000000 := by rw [← hZ]; split <;> omega
        have hmin : min x Y = Z := by rw [← hZ, Int.min_def]; split <;> split <;> omega
        rw [hZ] at HST
        have HMIN := hidd hmin
        clear hmin hZ
        go_wp2_with fail
        have hk := HK.out
        go_roundg (gk - 1)
        case measure => omega
        case rel => exact ⟨i + 1, Z, by omega, by omega, by go_num, by rw [HMIN.out], HST.out, hZ2, HB3.out⟩
      · obtain rfl : i = n := by omega
        go_wp2_with fail
        go_ret2
        refine ⟨_, rfl, ?_, HB.out⟩
        have := HX.out
        rwa [List.take_of_length_le (by rw [HN.out]; omega)] at this
end Go.Proofs.Ytpgaklfgbioocaa
