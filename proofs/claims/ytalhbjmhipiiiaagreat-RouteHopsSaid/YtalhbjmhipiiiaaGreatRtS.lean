/- Routes: RouteHops. -/
import Derived.Test.YtalhbjmhipiiiaaGreatRtT
namespace Go.Proofs.YtalhbjmhipiiiaaGreat.Tp
set_option linter.unusedVariables false
open Go.RowKit Go.Maps

/-- behind the first link of a way is the way from there. -/
theorem hop {n : Int} {L : List Lk} (hV : Valid n L) {x t : Int} {k : Nat} (hok : okB n x t = true) (hk : k + 1 < 16) (hd : dist n L t x = k + 1) :
    ∃ (j : Nat) (y : Int), j < L.length ∧ fr (lkAt L j) = x ∧ tw (lkAt L j) = y ∧ okB n y t = true ∧ dist n L t y = k ∧ wayL n L t (k + 1) x = (j : Int) :: wayL n L t k y ∧ nxI n L x t = (j : Int) ∧ neI n L x t = 0 ∧ fkI n L x t = (k : Int) + 1 ∧ erI n L x t = 0 := by
  obtain ⟨⟨hx0, hx1⟩, ht0, ht1⟩ := okB_iff.1 hok
  obtain ⟨j, hj, hfj, hfr, hdj⟩ := first_is hV hx0 hx1 hk hd
  have he := (hV.ends hj).2
  have hw : wayL n L t (k + 1) x = (j : Int) :: wayL n L t k (tw (lkAt L j)) := by rw [wayL, hfj, toF_nat hj]
  have her : erI n L x t = 0 := er_iff.2 ⟨hok, by omega⟩
  have hls : lsI n L x t = (j : Int) :: wayL n L t k (tw (lkAt L j)) := by
    unfold lsI
    rw [if_pos hok, if_neg (by omega), hd, hw]
  refine ⟨j, tw (lkAt L j), hj, hfr, rfl, okB_iff.2 ⟨he, ht0, ht1⟩, hdj, hw, ?_, ?_, ?_, her⟩
  · unfold nxI
    rw [if_pos her, hls]
    rfl
  · unfold neI
    rw [if_pos her, hls, if_neg (by simp)]
  · unfold fkI
    rw [if_pos her, hd]
    omega
/-- the way that is left behind so many links. -/
theorem way_drop {n : Int} {L : List Lk} {t x : Int} (l : List Int) (i : Nat) (j : Int) (m : List Int) (h : l.drop i = j :: m) : l[i]? = some j ∧ l.drop (i + 1) = m ∧ i < l.length := by
  have h1 : l[i]? = some j := by
    have := List.getElem?_drop (xs := l) (i := i) (j := 0)
    rw [h] at this
    simpa using this.symm
  refine ⟨h1, ?_, (List.getElem?_eq_some_iff.1 h1).1⟩
  have : (l.drop i).drop 1 = m := by rw [h]; rfl
  rw [List.drop_drop] at this
  exact this
set_option maxRecDepth 100000 in
set_option maxHeartbeats 16000000 in
theorem routeHops_walk (n : Int) (A : Option Addr) (L : List Lk) (c : Nat) (p0 p1 : Int) (hn : I64 n) (hc : L.length ≤ c) (hc2 : c ≤ maxLen) (hI : WideL L) (h0 : I64 p0) (h1 : I64 p1) (w : World) (hA : Lie linkV 8 w w.heap.size A L) :
    Calls Tryz.prog 4 #[.int .i64 n, .slice A L.length c, .agg #[.int .i64 p0, .int .i64 p1]] w fun e w' => e = .returned (.bool true) ∧ Below w.heap.size w w' := by
  have cK := hidd (fun W => known10_any W)
  by_cases hlen : 60 < L.length
  · have hl2 : (60 : Int) < (L.length : Int) := by omega
    have hl3 : (L.length : Int) ≤ 9223372036854775807 := by unfold maxLen at hc2; omega
    clear hlen hc hc2 hI hA hn h0 h1
    go_enter Tryz.func4, Tryz.ntmps4
    go_wp2_with fail
    refine (cK.out _).mono ?_
    rintro e w1 ⟨rfl, hb⟩
    go_wp2_with fail
    go_ret
    exact ⟨rfl, by (repeat' (first | (with_reducible exact Below.refl _ _) | (with_reducible assumption) | (with_reducible apply Below.setCell) | (with_reducible apply Below.alloc) | (with_reducible apply Below.drew) | (with_reducible apply below_drewN) | (with_reducible refine Below.trans ?_ (Below.mono (by assumption) ?_)) | omega | (simp; done) | (simp; omega)))⟩
  have hl2 : ¬ (60 : Int) < (L.length : Int) := by omega
  obtain ⟨W0, hW0⟩ : ∃ W0, w.alloc (.cells #[.int .i64 p0, .int .i64 p1] 23) = W0 := ⟨_, rfl⟩
  have hz : W0.heap.size = w.heap.size + 1 := by rw [← hW0]; simp
  have hb0 : Below w.heap.size w W0 := by rw [← hW0]; (repeat' (first | (with_reducible exact Below.refl _ _) | (with_reducible assumption) | (with_reducible apply Below.setCell) | (with_reducible apply Below.alloc) | (with_reducible apply Below.drew) | (with_reducible apply below_drewN) | (with_reducible refine Below.trans ?_ (Below.mono (by assumption) ?_)) | omega | (simp; done) | (simp; omega)))
  have q0 : W0.cell? ⟨w.heap.size, 0, none⟩ = some (.int .i64 p0) := by rw [← hW0]; simp [go_sem]
  have q1 : W0.cell? ⟨w.heap.size, 1, none⟩ = some (.int .i64 p1) := by rw [← hW0]; simp [go_sem]
  have hlt : w.heap.size < W0.heap.size := by omega
  have AT := hidd (fun W (h : Below W0.heap.size W0 W) => show W.cell? ⟨w.heap.size, 0, none⟩ = some (.int .i64 p0) ∧ W.cell? ⟨w.heap.size, 1, none⟩ = some (.int .i64 p1) from ⟨(h.cell (p := ⟨w.heap.size, 0, none⟩) hlt).trans q0, (h.cell (p := ⟨w.heap.size, 1, none⟩) hlt).trans q1⟩)
  have HB0 := hidd hb0
  have HW := hidd hW0
  have HI := hidd hI
  have CN := hidd (New_any n A L c (by omega) hI W0 (hA.below hb0))
  have hfin : Hid (∀ W, Below W0.heap.size W0 W → Below w.heap.size w W) := hidd (fun W h => hb0.trans (h.mono hb0.size))
  clear hz hb0 q0 q1 hW0 hA hc hc2 hlen hI hn hlt h0 h1
  go_enter Tryz.func4, Tryz.ntmps4
  go_wp2_with fail
  rw [HW.out]
  refine CN.out.mono ?_
  rintro e w1 (⟨hE, rfl, hb1⟩ | ⟨hE, m, rfl, hm1, hmz, hb1⟩)
  · have HB1 := hidd hb1
    clear hb1
    generalize errN n L = R at *
    have hR2 : (R != 0) = true := by simp [hE]
    go_wp2_with fail
    refine (cK.out _).mono ?_
    rintro e w4 ⟨rfl, hb4⟩
    have HB4 := hidd (below_step HB1.out hb4)
    clear hb4
    go_wp2_with fail
    go_ret
    exact ⟨rfl, hfin.out _ HB4.out⟩
  · have hv := valid_of hE
    have HV := hidd hv
    have HM1 := hidd hm1
    have HB1 := hidd hb1
    have CR := hidd (NewR_yes m n L HV.out HI.out w1 hm1)
    clear hb1 hm1 hE hv
    go_wp2_with fail
    refine CR.out.mono ?_
    rintro e w2 ⟨r, bw, m', rfl, hr, hb2⟩
    have HR2 := hidd hr
    have HB2 := hidd (below_step HB1.out hb2)
    have HS1 := hidd HB1.out.size
    have HS2 := hidd hb2.size
    have HBm2 := hidd hb2
    obtain ⟨c0, c1⟩ := AT.out _ HB2.out
    clear hr hb2
    go_wp2_with fail
    refine (Far_all w1.heap.size r bw m' n L HV.out false p0 p1 w2 HR2.out HS2.out).mono ?_
    rintro e w3 ⟨⟨d3, hr3, hrd3, hb3, _, _⟩, rfl⟩
    have HR3 := hidd hr3
    have HRD3 := hidd hrd3
    have HB3 := hidd (HB2.out.trans (hb3.mono HS1.out))
    have HBm3 := hidd (HBm2.out.trans hb3)
    have HS3 := hidd (Nat.le_trans HS2.out hb3.size)
    clear hr3 hb3 c0 c1 hrd3
    obtain ⟨c0, c1⟩ := AT.out _ HB3.out
    go_wp2_with fail
    refine (Way_all w1.heap.size r bw m' n L HV.out d3 p0 p1 w3 HR3.out HS3.out).mono ?_
    rintro e w4 ⟨⟨d4, hr4, hrd4, hb4, _, hdd⟩, A4, k4, rfl, hl4⟩
    have HR4 := hidd hr4
    have HRD4 := hidd hrd4
    have HB4 := hidd (HB3.out.trans (hb4.mono HS1.out))
    have HBm4 := hidd (HBm3.out.trans hb4)
    have HS4 := hidd (Nat.le_trans HS3.out hb4.size)
    have HL4 := hidd hl4
    clear hr4 hb4 c0 c1 hrd4 hl4 hdd
    by_cases hg : erI n L p0 p1 = 0
    · obtain ⟨hok, h16⟩ := er_iff.1 hg
      have hd := dist_le HV.out p0 p1
      have hn16 := HV.out.hi
      have hfk : fkI n L p0 p1 = (dist n L p1 p0 : Int) := by unfold fkI; rw [if_pos hg]
      have hls : lsI n L p0 p1 = wayL n L p1 (dist n L p1 p0) p0 := by unfold lsI; rw [if_pos hok, if_neg h16]
      have hd4 : d4 = true := HRD4.out.resolve_right (by rw [hok]; simp)
      subst hd4
      rw [hg, hfk, hls]
      rw [hls] at HL4
      have hwl : (wayL n L p1 (dist n L p1 p0) p0).length = dist n L p1 p0 := wayL_len _ _ _ _ _
      obtain ⟨D, hD⟩ : ∃ D, dist n L p1 p0 = D := ⟨_, rfl⟩
      rw [hD] at hwl hd h16 HL4 ⊢
      have HWD := hidd (show (wayL n L p1 D p0).drop 0 = wayL n L p1 D p0 from rfl)
      have HD := hidd hD
      have HOK := hidd hok
      have hD15 : D ≤ 15 := by omega
      generalize hWY : wayL n L p1 D p0 = WY at *
      have HWY := hidd hWY
      rw [hwl]
      clear hfk hls hg hD hok hd h16 hWY
      obtain ⟨c0, c1⟩ := AT.out _ HB4.out
      go_wp2_with fail
      go_loopg [15, 16] 20 (fun g s15 s16 wr => ∃ (i : Nat) (x : Int), i ≤ D ∧ i + g = 20 ∧ s15 = .int .i64 x ∧ s16 = .int .i64 (i : Int) ∧ okB n x p1 = true ∧ dist n L p1 x = D - i ∧ WY.drop i = wayL n L p1 (D - i) x ∧ Below w4.heap.size w4 wr)
      case atStart => exact ⟨0, p0, by omega, by omega, rfl, rfl, HOK.out, HD.out, by rw [Nat.sub_zero, HWY.out]; rfl, Below.refl _ _⟩
      case round =>
        obtain ⟨i, x, hi, hgk, rfl, rfl, hxok, hxd, hdrop, hb⟩ := hrel
        have HG := hidd hgk
        have HBW := hidd hb
        have HB5 := hidd (HB4.out.trans (hb.mono HB4.out.size))
        clear hgk hb c0 c1
        obtain ⟨c0, c1⟩ := AT.out _ HB5.out
        by_cases hlt : i < D
        · have hlt2 : (i : Int) < (D : Int) := by omega
          obtain ⟨k, hk⟩ : ∃ k, D - i = k + 1 := ⟨D - i - 1, by omega⟩
          rw [hk] at hxd hdrop
          obtain ⟨j, y, hj, hfr, htw, hyok, hyd, hway, hnx, hne, hfk, her⟩ := hop HV.out hxok (by omega) hxd
          rw [hway] at hdrop
          obtain ⟨hget, hdrop2, hil⟩ := way_drop (n := n) (L := L) (t := p1) (x := x) WY i _ _ hdrop
          obtain ⟨ad, rfl, _, hcell⟩ := (HL4.out.below HBW.out).int i hil
          have hav : av WY i = (j : Int) := by rw [av_at hil]; exact (List.getElem?_eq_some_iff.1 hget).2
          rw [hav] at hcell
          have HR5 := hidd (HR4.out.below HBW.out)
          have HS5 := hidd (Nat.le_trans HS4.out HBW.out.size)
          have hX := hidd (Next_all w1.heap.size r bw m' n L HV.out true x p1 wr HR5.out HS5.out)
          rw [hnx, hne] at hX
          have HM5 := hidd (HM1.out.below (HBm4.out.trans (HBW.out.mono HS4.out)))
          have hdi : (D : Int) - (i : Int) = (k : Int) + 1 := by omega
          have hi15 : (i : Int) ≤ 15 := by omega
          have hge : ¬ (D : Int) ≤ (i : Int) := by omega
          have hi0 : (0 : Int) ≤ (i : Int) := by omega
          have hk0 : -9223372036854775808 ≤ (D : Int) - (i : Int) := by omega
          have hk1 : (D : Int) - (i : Int) ≤ 9223372036854775807 := by omega
          have HNX := hidd (show (i + 1 ≤ D) ∧ okB n y p1 = true ∧ dist n L p1 y = D - (i + 1) ∧ WY.drop (i + 1) = wayL n L p1 (D - (i + 1)) y from ⟨hlt, hyok, by rw [hyd]; omega, by rw [hdrop2]; congr 1; omega⟩)
          have hlk := hidd (fun W (h : MapAt W m n L) => Link_in m n HV.out.lo L (by have := HV.out.len; omega) j hj W h)
          have hff := hidd (fun d W (h : RoutesAt W w1.heap.size r bw m' n L d) hB => Far_all w1.heap.size r bw m' n L HV.out d x p1 W h hB)
          rw [hfk, her] at hff
          unfold linkA at hlk
          rw [hfr, htw] at hlk
          clear hnx hne hfk her hway hdrop hdrop2 hget hav hfr htw hyok hyd hxok hxd hk hlt
          generalize rt (lkAt L j) = a2 at *
          generalize sh (lkAt L j) = a3 at *
          generalize fa (lkAt L j) = a4 at *
          generalize mo (lkAt L j) = a5 at *
          generalize ro (lkAt L j) = a6 at *
          generalize fi (lkAt L j) = a7 at *
          go_wp2_with fail
          refine hX.out.mono ?_
          rintro e w5 ⟨⟨d5, hr5, hrd5, _, hk5, hdd5⟩, rfl⟩
          have hb5 := hk5 (.inl rfl)
          have hd5 := hdd5 rfl
          subst hd5
          have HR6 := hidd hr5
          have HBW5 := hidd (below_step HBW.out hb5)
          have HM6 := hidd (HM5.out.below hb5)
          have hcell5 := (hb5.cell (p := ad.add i) (World.block_lt_of_cell? wr _ hcell)).trans hcell
          obtain ⟨c0, c1⟩ := AT.out _ (HB5.out.trans (hb5.mono HB5.out.size))
          have HBB5 := hidd (HB5.out.trans (hb5.mono HB5.out.size))
          clear hr5 hrd5 hk5 hdd5 hcell
          go_wp2_with fail
          refine (hlk.out _ HM6.out).mono ?_
          rintro e w6 ⟨rfl, hb6⟩
          obtain ⟨W7, hW7⟩ : ∃ W7, w6.alloc (.cells #[.int .i64 x, .int .i64 y, .int .i64 a2, .int .i64 a3, .int .i64 a4, .int .i64 a5, .int .i64 a6, .int .i64 a7] 51) = W7 := ⟨_, rfl⟩
          have hb7 : Below w5.heap.size w5 W7 := by rw [← hW7]; exact below_new hb6 _
          have e0 : W7.cell? ⟨w6.heap.size, 0, none⟩ = some (.int .i64 x) := by rw [← hW7]; simp [go_sem]
          have e1 : W7.cell? ⟨w6.heap.size, 1, none⟩ = some (.int .i64 y) := by rw [← hW7]; simp [go_sem]
          have z7 : w6.heap.size < W7.heap.size := by rw [← hW7]; simp
          have HR7 := hidd (HR6.out.below hb7)
          have HBW7 := hidd (below_step HBW5.out hb7)
          have hcell7 := (hb7.cell (p := ad.add i) (World.block_lt_of_cell? w5 _ hcell5)).trans hcell5
          have HBB7 := hidd (HBB5.out.trans (hb7.mono HBB5.out.size))
          have HS7 := hidd (Nat.le_trans HS4.out HBW7.out.size)
          have HW7 := hidd hW7
          clear c0 c1
          obtain ⟨c0, c1⟩ := AT.out w6 (HBB5.out.trans (hb6.mono HBB5.out.size))
          have hw6 : w.heap.size < w6.heap.size := World.block_lt_of_cell? w6 _ c0
          clear hcell5 hb6 hb7 hW7 hb5
          go_wp2_with fail
          rw [HW7.out]
          refine (hff.out true _ HR7.out HS7.out).mono ?_
          rintro e w8 ⟨⟨d8, _, _, _, hk8, _⟩, rfl⟩
          have hb8 := hk8 (.inl rfl)
          have f0 := (hb8.cell (p := ⟨w6.heap.size, 0, none⟩) z7).trans e0
          have f1 := (hb8.cell (p := ⟨w6.heap.size, 1, none⟩) z7).trans e1
          have hcell8 := (hb8.cell (p := ad.add i) (World.block_lt_of_cell? W7 _ hcell7)).trans hcell7
          have HBW8 := hidd (below_step HBW7.out hb8)
          clear hk8 hb8 hcell7 c0 c1 e0 e1 hw6
          go_wp2_with fail
          go_roundg (gk - 1)
          case measure => have := HG.out; omega
          case rel => exact ⟨i + 1, y, HNX.out.1, by have := HG.out; omega, rfl, by go_num, HNX.out.2.1, HNX.out.2.2.1, HNX.out.2.2.2, HBW8.out⟩
        · have hid : i = D := by omega
          subst hid
          obtain ⟨⟨hx0, hx1⟩, _⟩ := okB_iff.1 hxok
          have hxp := dist_zero HV.out hx0 hx1 (hxd.trans (Nat.sub_self _))
          subst hxp
          have hlt2 : ¬ (i : Int) < (i : Int) := by omega
          clear hxok hxd hdrop
          go_wp2_with fail
          refine (cK.out _).mono ?_
          rintro e w7 ⟨rfl, hb7⟩
          have HB7 := hidd (below_step HB5.out hb7)
          clear hb7
          go_wp2_with fail
          go_ret
          exact ⟨rfl, hfin.out _ HB7.out⟩
    · have hgb : (erI n L p0 p1 != 0) = true := by simp [hg]
      generalize erI n L p0 p1 = g at *
      go_wp2_with fail
      refine (cK.out _).mono ?_
      rintro e w7 ⟨rfl, hb7⟩
      have HB7 := hidd (below_step HB4.out hb7)
      clear hb7
      go_wp2_with fail
      go_ret
      exact ⟨rfl, hfin.out _ HB7.out⟩
end Go.Proofs.YtalhbjmhipiiiaaGreat.Tp
