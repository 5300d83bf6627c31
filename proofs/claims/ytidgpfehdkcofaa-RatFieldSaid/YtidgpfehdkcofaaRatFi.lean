/- The walk of the law on what is added and taken away again. -/
import Derived.Test.YtidgpfehdkcofaaRatFm
namespace Go.Proofs.Ytidgpfehdkcofaa
open Go.RowKit

set_option maxRecDepth 100000 in
set_option maxHeartbeats 8000000 in
theorem field_walk (a1 a2 b1 b2 c1 c2 : Int) (ha0 : -9223372036854775808 ≤ a1) (ha1 : a1 ≤ 9223372036854775807) (ha2 : -9223372036854775808 ≤ a2) (ha3 : a2 ≤ 9223372036854775807)
    (hb0 : -9223372036854775808 ≤ b1) (hb1 : b1 ≤ 9223372036854775807) (hb2 : -9223372036854775808 ≤ b2) (hb3 : b2 ≤ 9223372036854775807)
    (hc0 : -9223372036854775808 ≤ c1) (hc1 : c1 ≤ 9223372036854775807) (hc2 : -9223372036854775808 ≤ c2) (hc3 : c2 ≤ 9223372036854775807) (w : World) :
    Calls Try.prog 7 #[.agg #[.int .i64 a1, .int .i64 a2], .agg #[.int .i64 b1, .int .i64 b2], .agg #[.int .i64 c1, .int .i64 c2]] w fun e w' => e = .returned (.bool true) ∧ Below w.heap.size w w' := by
  have ck := hidd (fun W => known_any W)
  have kS := fun W => add_any a1 a2 b1 b2 ha0 ha1 ha2 ha3 hb0 hb1 hb2 hb3 W
  have kT := fun W => add_any b1 b2 a1 a2 hb0 hb1 hb2 hb3 ha0 ha1 ha2 ha3 W
  have kP := fun W => mul_any a1 a2 b1 b2 ha0 ha1 ha2 ha3 hb0 hb1 hb2 hb3 W
  have kQ := fun W => mul_any b1 b2 a1 a2 hb0 hb1 hb2 hb3 ha0 ha1 ha2 ha3 W
  have kV := fun W => mul_any a1 a2 c1 c2 ha0 ha1 ha2 ha3 hc0 hc1 hc2 hc3 W
  have kW := fun W => mul_any b1 b2 c1 c2 hb0 hb1 hb2 hb3 hc0 hc1 hc2 hc3 W
  have kZ := fun W => add_any b1 b2 c1 c2 hb0 hb1 hb2 hb3 hc0 hc1 hc2 hc3 W
  rw [addR_comm b1 b2 a1 a2] at kT
  rw [mulR_comm b1 b2 a1 a2] at kQ
  obtain ⟨iS0, iS1, iS2, iS3⟩ := addR_in a1 a2 b1 b2
  obtain ⟨iP0, iP1, iP2, iP3⟩ := mulR_in a1 a2 b1 b2
  obtain ⟨iV0, iV1, iV2, iV3⟩ := mulR_in a1 a2 c1 c2
  obtain ⟨iW0, iW1, iW2, iW3⟩ := mulR_in b1 b2 c1 c2
  obtain ⟨iZ0, iZ1, iZ2, iZ3⟩ := addR_in b1 b2 c1 c2
  generalize hS : addR a1 a2 b1 b2 = S at *
  obtain ⟨s1, s2, se⟩ := S
  generalize hP : mulR a1 a2 b1 b2 = P at *
  obtain ⟨p1, p2, pe⟩ := P
  generalize hV : mulR a1 a2 c1 c2 = V at *
  obtain ⟨v1, v2, ve⟩ := V
  generalize hW : mulR b1 b2 c1 c2 = WW at *
  obtain ⟨x1, x2, xe⟩ := WW
  generalize hZ : addR b1 b2 c1 c2 = Z at *
  obtain ⟨z1, z2, ze⟩ := Z
  dsimp only at iS0 iS1 iS2 iS3 iP0 iP1 iP2 iP3 iV0 iV1 iV2 iV3 iW0 iW1 iW2 iW3 iZ0 iZ1 iZ2 iZ3
  have kX := fun W => sub_any s1 s2 b1 b2 (by omega) iS1 (by omega) iS3 hb0 hb1 hb2 hb3 W
  have kD := fun W => div_any p1 p2 b1 b2 (by omega) iP1 (by omega) iP3 hb0 hb1 hb2 hb3 W
  have kU := fun W => mul_any s1 s2 c1 c2 (by omega) iS1 (by omega) iS3 hc0 hc1 hc2 hc3 W
  have kM := fun W => add_any s1 s2 c1 c2 (by omega) iS1 (by omega) iS3 hc0 hc1 hc2 hc3 W
  have kY := fun W => add_any v1 v2 x1 x2 (by omega) iV1 (by omega) iV3 (by omega) iW1 (by omega) iW3 W
  have kR := fun W => add_any a1 a2 z1 z2 ha0 ha1 ha2 ha3 (by omega) iZ1 (by omega) iZ3 W
  generalize hU : mulR s1 s2 c1 c2 = U at *
  obtain ⟨u1, u2, ue⟩ := U
  generalize hM : addR s1 s2 c1 c2 = M at *
  obtain ⟨m1, m2, me⟩ := M
  generalize hY : addR v1 v2 x1 x2 = Y at *
  obtain ⟨y1, y2, ye⟩ := Y
  generalize hR : addR a1 a2 z1 z2 = R at *
  obtain ⟨r1, r2, re⟩ := R
  have tX : se = 0 → subR s1 s2 b1 b2 = (a1, a2, 0) := fun h => sub_back a1 a2 b1 b2 s1 s2 ha0 ha1 ha3 (by rw [hS, h])
  have tD : pe = 0 → ¬ b1 = 0 → divR p1 p2 b1 b2 = (a1, a2, 0) := fun h h2 => div_back a1 a2 b1 b2 p1 p2 ha0 ha1 ha3 h2 (by rw [hP, h])
  have tU : se = 0 → ue = 0 → ve = 0 → xe = 0 → ye = 0 → u1 = y1 ∧ u2 = y2 := by
    rintro rfl rfl rfl rfl rfl
    exact dist_of a1 a2 b1 b2 c1 c2 s1 s2 u1 u2 v1 v2 x1 x2 y1 y2 hS hU hV hW hY
  have tM : se = 0 → me = 0 → ze = 0 → re = 0 → m1 = r1 ∧ m2 = r2 := by
    rintro rfl rfl rfl rfl
    exact assoc_of a1 a2 b1 b2 c1 c2 s1 s2 m1 m2 z1 z2 r1 r2 hS hM hZ hR
  clear hS hP hV hW hZ hU hM hY hR iS0 iS1 iS2 iS3 iP0 iP1 iP2 iP3 iV0 iV1 iV2 iV3 iW0 iW1 iW2 iW3 iZ0 iZ1 iZ2 iZ3 ha0 ha1 ha2 ha3 hb0 hb1 hb2 hb3 hc0 hc1 hc2 hc3
  have TX := hidd tX
  have TD := hidd tD
  have TU := hidd tU
  have TM := hidd tM
  have cS := hidd kS
  have cT := hidd kT
  have cP := hidd kP
  have cQ := hidd kQ
  have cV := hidd kV
  have cW := hidd kW
  have cZ := hidd kZ
  have cX := hidd kX
  have cD := hidd kD
  have cU := hidd kU
  have cM := hidd kM
  have cY := hidd kY
  have cR := hidd kR
  clear tX tD tU tM kS kT kP kQ kV kW kZ kX kD kU kM kY kR
  go_enter Try.func7, Try.ntmps7
  go_wp2_with fail
  refine (cS.out _).mono ?_
  unfold pairOf
  rintro e w1 ⟨rfl, hw1⟩
  have Haw1 : HasRat w1 w.heap.size a1 a2 := ⟨by rw [hw1.cell (by (first | omega | (simp; done) | (simp; omega)))]; simp [go_sem], by rw [hw1.cell (by (first | omega | (simp; done) | (simp; omega)))]; simp [go_sem], by have := hw1.size; simp at this; omega⟩
  have Hbw1 : HasRat w1 (w.heap.size + 1) b1 b2 := ⟨by rw [hw1.cell (by (first | omega | (simp; done) | (simp; omega)))]; simp [go_sem], by rw [hw1.cell (by (first | omega | (simp; done) | (simp; omega)))]; simp [go_sem], by have := hw1.size; simp at this; omega⟩
  have Hcw1 : HasRat w1 (w.heap.size + 1 + 1) c1 c2 := ⟨by rw [hw1.cell (by (first | omega | (simp; done) | (simp; omega)))]; simp [go_sem], by rw [hw1.cell (by (first | omega | (simp; done) | (simp; omega)))]; simp [go_sem], by have := hw1.size; simp at this; omega⟩
  have L1 := below_step (below_new (below_new (below_new (Below.refl w.heap.size w) _) _) _) hw1
  obtain ⟨a0w1, a1w1, a2w1⟩ := id Haw1
  obtain ⟨b0w1, b1w1, b2w1⟩ := id Hbw1
  go_wp2_with fail
  refine (cT.out _).mono ?_
  unfold pairOf
  rintro e w2 ⟨rfl, hw2⟩
  have Haw2 := (Haw1.past _).step hw2
  have Hbw2 := (Hbw1.past _).step hw2
  have Hcw2 := (Hcw1.past _).step hw2
  have Hsw2 := (HasRat.new w1 s1 s2 23).step hw2
  have L2 := below_step (below_new L1 _) hw2
  obtain ⟨a0w2, a1w2, a2w2⟩ := id Haw2
  obtain ⟨b0w2, b1w2, b2w2⟩ := id Hbw2
  go_wp2_with fail
  refine (cP.out _).mono ?_
  unfold pairOf
  rintro e w3 ⟨rfl, hw3⟩
  have Haw3 := (Haw2.past _).step hw3
  have Hbw3 := (Hbw2.past _).step hw3
  have Hcw3 := (Hcw2.past _).step hw3
  have Hsw3 := (Hsw2.past _).step hw3
  have Htw3 := (HasRat.new w2 s1 s2 23).step hw3
  have L3 := below_step (below_new L2 _) hw3
  obtain ⟨a0w3, a1w3, a2w3⟩ := id Haw3
  obtain ⟨b0w3, b1w3, b2w3⟩ := id Hbw3
  go_wp2_with fail
  refine (cQ.out _).mono ?_
  unfold pairOf
  rintro e w4 ⟨rfl, hw4⟩
  have Haw4 := (Haw3.past _).step hw4
  have Hbw4 := (Hbw3.past _).step hw4
  have Hcw4 := (Hcw3.past _).step hw4
  have Hsw4 := (Hsw3.past _).step hw4
  have Htw4 := (Htw3.past _).step hw4
  have Hpw4 := (HasRat.new w3 p1 p2 23).step hw4
  have L4 := below_step (below_new L3 _) hw4
  obtain ⟨a0w4, a1w4, a2w4⟩ := id Haw4
  obtain ⟨b0w4, b1w4, b2w4⟩ := id Hbw4
  obtain ⟨s0w4, s1w4, s2w4⟩ := id Hsw4
  obtain ⟨t0w4, t1w4, t2w4⟩ := id Htw4
  obtain ⟨p0w4, p1w4, p2w4⟩ := id Hpw4
  go_upto_if 76 with fail
  go_cut [8] (fun s wx => s = .int .i64 se ∧ Below w.heap.size w wx ∧ HasRat wx w.heap.size a1 a2 ∧ HasRat wx (w.heap.size + 1) b1 b2 ∧ HasRat wx (w.heap.size + 1 + 1) c1 c2 ∧ HasRat wx w1.heap.size s1 s2 ∧ HasRat wx w3.heap.size p1 p2)
  case first =>
    by_cases hse : se = 0
    · have cX1 := cX.out
      rw [TX.out hse] at cX1
      have CX := hidd cX1
      have g1 : (se == 0) = true := by simp [hse]
      have HSE := hidd hse
      clear cX1 hse
      go_wp2_with fail
      refine (CX.out _).mono ?_
      unfold pairOf
      rintro e w5 ⟨rfl, hw5⟩
      have Haw5 := (Haw4.past _).step hw5
      obtain ⟨a0w5, a1w5, a2w5⟩ := id Haw5
      go_wp2_with fail
      go_meet
      exact ⟨rfl, below_new (below_step (below_new L4 _) hw5) _, Haw5.past _, ((Hbw4.past _).step hw5).past _, ((Hcw4.past _).step hw5).past _, ((Hsw4.past _).step hw5).past _, ((Hpw4.past _).step hw5).past _⟩
    · have g1 : (se == 0) = false := beq_eq_false_iff_ne.2 hse
      clear hse
      go_wp2_with fail
      go_meet
      exact ⟨rfl, below_new L4 _, Haw4.past _, Hbw4.past _, Hcw4.past _, Hsw4.past _, Hpw4.past _⟩
  case rest =>
  obtain ⟨rfl, L5, Ha5, Hb5, Hc5, Hs5, Hp5⟩ := hcut
  obtain ⟨wA, rfl⟩ : ∃ wA : World, wA = wc := ⟨_, rfl⟩
  obtain ⟨q1, q2, q3⟩ := id Ha5
  obtain ⟨q4, q5, q6⟩ := id Hb5
  obtain ⟨q7, q8, q9⟩ := id Hp5
  obtain ⟨q10, q11, q12⟩ := id Hs5
  obtain ⟨q13, q14, q15⟩ := id Hc5
  go_upto_region 11 with fail
  go_cut [96] (fun t wx => t = .bool (decide (pe = 0 ∧ ¬ b1 = 0)) ∧ wx = wA)
  case first =>
    by_cases hpe : pe = 0
    · have g1 : (pe == 0) = true := by simp [hpe]
      by_cases hb1 : b1 = 0
      · have hd : decide (pe = 0 ∧ ¬ b1 = 0) = false := decide_eq_false (fun h => h.2 hb1)
        have g2 : (b1 != 0) = false := by simp [hb1]
        have HD := hidd hd
        have H1 := hidd hpe
        have H2 := hidd hb1
        clear hd hpe hb1
        go_wp2_with fail
        go_meet
        exact ⟨by rw [HD.out], rfl⟩
      · have hd : decide (pe = 0 ∧ ¬ b1 = 0) = true := decide_eq_true ⟨hpe, hb1⟩
        have g2 : (b1 != 0) = true := by simp [hb1]
        have HD := hidd hd
        have H1 := hidd hpe
        have H2 := hidd hb1
        clear hd hpe hb1
        go_wp2_with fail
        go_meet
        exact ⟨by rw [HD.out], rfl⟩
    · have hd : decide (pe = 0 ∧ ¬ b1 = 0) = false := decide_eq_false (fun h => hpe h.1)
      have g1 : (pe == 0) = false := beq_eq_false_iff_ne.2 hpe
      have HD := hidd hd
      clear hd hpe
      go_wp2_with fail
      go_meet
      exact ⟨by rw [HD.out], rfl⟩
  case rest =>
  obtain ⟨rfl, rfl⟩ := hcut
  go_upto_if 96 with fail
  go_cut [8] (fun s wx => s = .int .i64 se ∧ Below w.heap.size w wx ∧ HasRat wx w.heap.size a1 a2 ∧ HasRat wx (w.heap.size + 1) b1 b2 ∧ HasRat wx (w.heap.size + 1 + 1) c1 c2 ∧ HasRat wx w1.heap.size s1 s2)
  case first =>
    by_cases hd : pe = 0 ∧ ¬ b1 = 0
    · have cD1 := cD.out
      rw [TD.out hd.1 hd.2] at cD1
      have CD := hidd cD1
      have g1 : decide (pe = 0 ∧ ¬ b1 = 0) = true := decide_eq_true hd
      rw [g1]
      clear cD1 hd g1
      go_wp2_with fail
      refine (CD.out _).mono ?_
      unfold pairOf
      rintro e w6 ⟨rfl, hw6⟩
      have Ha6 := Ha5.step hw6
      obtain ⟨a06, a16, a26⟩ := id Ha6
      go_wp2_with fail
      go_meet
      exact ⟨rfl, below_new (below_step L5 hw6) _, Ha6.past _, (Hb5.step hw6).past _, (Hc5.step hw6).past _, (Hs5.step hw6).past _⟩
    · have g1 : decide (pe = 0 ∧ ¬ b1 = 0) = false := decide_eq_false hd
      rw [g1]
      clear hd g1
      go_wp2_with fail
      go_meet
      exact ⟨rfl, L5, Ha5, Hb5, Hc5, Hs5⟩
  case rest =>
  obtain ⟨rfl, L6, Haw6, Hbw6, Hcw6, Hsw6⟩ := hcut
  obtain ⟨w6, rfl⟩ : ∃ w6 : World, w6 = wc := ⟨_, rfl⟩
  obtain ⟨a0w6, a1w6, a2w6⟩ := id Haw6
  obtain ⟨b0w6, b1w6, b2w6⟩ := id Hbw6
  obtain ⟨c0w6, c1w6, c2w6⟩ := id Hcw6
  obtain ⟨s0w6, s1w6, s2w6⟩ := id Hsw6
  clear cT cX cP cQ cD TX TD L1 L2 L3 L4 L5
  go_wp2_with fail
  refine (cU.out _).mono ?_
  unfold pairOf
  rintro e w7 ⟨rfl, hw7⟩
  have Haw7 := Haw6.step hw7
  have Hbw7 := Hbw6.step hw7
  have Hcw7 := Hcw6.step hw7
  have Hsw7 := Hsw6.step hw7
  have L7 := below_step L6 hw7
  obtain ⟨a0w7, a1w7, a2w7⟩ := id Haw7
  obtain ⟨b0w7, b1w7, b2w7⟩ := id Hbw7
  obtain ⟨c0w7, c1w7, c2w7⟩ := id Hcw7
  obtain ⟨s0w7, s1w7, s2w7⟩ := id Hsw7
  go_wp2_with fail
  refine (cV.out _).mono ?_
  unfold pairOf
  rintro e w8 ⟨rfl, hw8⟩
  have Haw8 := (Haw7.past _).step hw8
  have Hbw8 := (Hbw7.past _).step hw8
  have Hcw8 := (Hcw7.past _).step hw8
  have Hsw8 := (Hsw7.past _).step hw8
  have Huw8 := (HasRat.new w7 u1 u2 23).step hw8
  have L8 := below_step (below_new L7 _) hw8
  obtain ⟨a0w8, a1w8, a2w8⟩ := id Haw8
  obtain ⟨b0w8, b1w8, b2w8⟩ := id Hbw8
  obtain ⟨c0w8, c1w8, c2w8⟩ := id Hcw8
  go_wp2_with fail
  refine (cW.out _).mono ?_
  unfold pairOf
  rintro e w9 ⟨rfl, hw9⟩
  have Haw9 := (Haw8.past _).step hw9
  have Hbw9 := (Hbw8.past _).step hw9
  have Hcw9 := (Hcw8.past _).step hw9
  have Hsw9 := (Hsw8.past _).step hw9
  have Huw9 := (Huw8.past _).step hw9
  have Hvw9 := (HasRat.new w8 v1 v2 23).step hw9
  have L9 := below_step (below_new L8 _) hw9
  obtain ⟨v0w9, v1w9, v2w9⟩ := id Hvw9
  go_wp2_with fail
  refine (cY.out _).mono ?_
  unfold pairOf
  rintro e w10 ⟨rfl, hw10⟩
  have Haw10 := (Haw9.past _).step hw10
  have Hbw10 := (Hbw9.past _).step hw10
  have Hcw10 := (Hcw9.past _).step hw10
  have Hsw10 := (Hsw9.past _).step hw10
  have Huw10 := (Huw9.past _).step hw10
  have Hvw10 := (Hvw9.past _).step hw10
  have Hxw10 := (HasRat.new w9 x1 x2 23).step hw10
  have L10 := below_step (below_new L9 _) hw10
  obtain ⟨u0w10, u1w10, u2w10⟩ := id Huw10
  go_upto_region 19 with fail
  go_cut [156] (fun t wx => t = .bool false ∧ wx = w10.alloc (.cells #[.int .i64 y1, .int .i64 y2] 23))
  case first =>
    by_cases hse : se = 0
    · have g0 : (se == 0) = true := by simp [hse]
      have H0 := hidd hse
      clear hse
      by_cases hue : ue = 0
      · have g1 : (ue == 0) = true := by simp [hue]
        have H1 := hidd hue
        clear hue
        by_cases hve : ve = 0
        · have g2 : (ve == 0) = true := by simp [hve]
          have H2 := hidd hve
          clear hve
          by_cases hxe : xe = 0
          · have g3 : (xe == 0) = true := by simp [hxe]
            have H3 := hidd hxe
            clear hxe
            by_cases hye : ye = 0
            · have g4 : (ye == 0) = true := by simp [hye]
              have H4 := hidd hye
              clear hye
              obtain ⟨h1, h2⟩ := TU.out H0.out H1.out H2.out H3.out H4.out
              subst h1 h2
              clear TU TM
              go_wp2_with fail
              go_meet
              exact ⟨rfl, rfl⟩
            · have g4 : (ye == 0) = false := beq_eq_false_iff_ne.2 hye
              clear hye
              go_wp2_with fail
              go_meet
              exact ⟨rfl, rfl⟩
          · have g3 : (xe == 0) = false := beq_eq_false_iff_ne.2 hxe
            clear hxe
            go_wp2_with fail
            go_meet
            exact ⟨rfl, rfl⟩
        · have g2 : (ve == 0) = false := beq_eq_false_iff_ne.2 hve
          clear hve
          go_wp2_with fail
          go_meet
          exact ⟨rfl, rfl⟩
      · have g1 : (ue == 0) = false := beq_eq_false_iff_ne.2 hue
        clear hue
        go_wp2_with fail
        go_meet
        exact ⟨rfl, rfl⟩
    · have g0 : (se == 0) = false := beq_eq_false_iff_ne.2 hse
      clear hse
      go_wp2_with fail
      go_meet
      exact ⟨rfl, rfl⟩
  case rest =>
  obtain ⟨rfl, rfl⟩ := hcut
  have raa := (Haw10.past (.cells #[.int .i64 y1, .int .i64 y2] 23))
  have rab := (Hbw10.past (.cells #[.int .i64 y1, .int .i64 y2] 23))
  have rac := (Hcw10.past (.cells #[.int .i64 y1, .int .i64 y2] 23))
  have ras := (Hsw10.past (.cells #[.int .i64 y1, .int .i64 y2] 23))
  obtain ⟨a0w10, a1w10, a2w10⟩ := id Haw10
  obtain ⟨b0w10, b1w10, b2w10⟩ := id Hbw10
  obtain ⟨c0w10, c1w10, c2w10⟩ := id Hcw10
  obtain ⟨s0w10, s1w10, s2w10⟩ := id Hsw10
  clear cU cV cW cY TU
  go_wp2_with fail
  refine (cM.out _).mono ?_
  unfold pairOf
  rintro e w11 ⟨rfl, hw11⟩
  have Haw11 := (Haw10.past _).step hw11
  have Hbw11 := (Hbw10.past _).step hw11
  have Hcw11 := (Hcw10.past _).step hw11
  have Hsw11 := (Hsw10.past _).step hw11
  have L11 := below_step (below_new L10 _) hw11
  obtain ⟨a0w11, a1w11, a2w11⟩ := id Haw11
  obtain ⟨b0w11, b1w11, b2w11⟩ := id Hbw11
  obtain ⟨c0w11, c1w11, c2w11⟩ := id Hcw11
  go_wp2_with fail
  refine (cZ.out _).mono ?_
  unfold pairOf
  rintro e w12 ⟨rfl, hw12⟩
  have Haw12 := (Haw11.past _).step hw12
  have Hbw12 := (Hbw11.past _).step hw12
  have Hcw12 := (Hcw11.past _).step hw12
  have Hsw12 := (Hsw11.past _).step hw12
  have Hmw12 := (HasRat.new w11 m1 m2 23).step hw12
  have L12 := below_step (below_new L11 _) hw12
  obtain ⟨a0w12, a1w12, a2w12⟩ := id Haw12
  go_wp2_with fail
  refine (cR.out _).mono ?_
  unfold pairOf
  rintro e w13 ⟨rfl, hw13⟩
  have Haw13 := (Haw12.past _).step hw13
  have Hbw13 := (Hbw12.past _).step hw13
  have Hcw13 := (Hcw12.past _).step hw13
  have Hsw13 := (Hsw12.past _).step hw13
  have Hmw13 := (Hmw12.past _).step hw13
  have Hzw13 := (HasRat.new w12 z1 z2 23).step hw13
  have L13 := below_step (below_new L12 _) hw13
  obtain ⟨m0w13, m1w13, m2w13⟩ := id Hmw13
  by_cases hse : se = 0
  · have g0 : (se != 0) = false := by simp [hse]
    have H0 := hidd hse
    clear hse
    by_cases hme : me = 0
    · have g1 : (me != 0) = false := by simp [hme]
      have H1 := hidd hme
      clear hme
      by_cases hze : ze = 0
      · have g2 : (ze != 0) = false := by simp [hze]
        have H2 := hidd hze
        clear hze
        by_cases hre : re = 0
        · have g3 : (re != 0) = false := by simp [hre]
          have H3 := hidd hre
          clear hre
          obtain ⟨h1, h2⟩ := TM.out H0.out H1.out H2.out H3.out
          subst h1 h2
          clear TM
          go_wp2_with fail
          refine (ck.out _).mono ?_
          rintro e w14 ⟨rfl, hw14⟩
          go_wp2_with fail
          go_ret
          exact ⟨by simp, below_step (below_new L13 _) hw14⟩
        · have g3 : (re != 0) = true := by simp [hre]
          clear hre
          go_wp2_with fail
          refine (ck.out _).mono ?_
          rintro e w14 ⟨rfl, hw14⟩
          go_wp2_with fail
          go_ret
          exact ⟨by simp, below_step (below_new L13 _) hw14⟩
      · have g2 : (ze != 0) = true := by simp [hze]
        clear hze
        go_wp2_with fail
        refine (ck.out _).mono ?_
        rintro e w14 ⟨rfl, hw14⟩
        go_wp2_with fail
        go_ret
        exact ⟨by simp, below_step (below_new L13 _) hw14⟩
    · have g1 : (me != 0) = true := by simp [hme]
      clear hme
      go_wp2_with fail
      refine (ck.out _).mono ?_
      rintro e w14 ⟨rfl, hw14⟩
      go_wp2_with fail
      go_ret
      exact ⟨by simp, below_step (below_new L13 _) hw14⟩
  · have g0 : (se != 0) = true := by simp [hse]
    clear hse
    go_wp2_with fail
    refine (ck.out _).mono ?_
    rintro e w14 ⟨rfl, hw14⟩
    go_wp2_with fail
    go_ret
    exact ⟨by simp, below_step (below_new L13 _) hw14⟩
end Go.Proofs.Ytidgpfehdkcofaa
