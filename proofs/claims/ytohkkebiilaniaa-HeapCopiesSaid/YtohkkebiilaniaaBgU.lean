/- The document's comparison of two fractions, and what it rounds down and up. -/
import Derived.Test.YtohkkebiilaniaaBgPa
import Derived.Test.YtohkkebiilaniaaRatPq
namespace Go.Proofs.Ytohkkebiilaniaa
set_option linter.unusedVariables false
open Go.RowKit

theorem cmp_parts (a1 a2 b1 b2 : Int) (h1 : 1 ≤ a2) (h2 : 1 ≤ b2) (X Y : Nat) (hX : X = a1.natAbs * b2.natAbs) (hY : Y = b1.natAbs * a2.natAbs) :
    (a1 < 0 → ¬ b1 < 0 → ordZ (a1 * b2) (b1 * a2) = -1) ∧ (¬ a1 < 0 → b1 < 0 → ordZ (a1 * b2) (b1 * a2) = 1) ∧
    (a1 < 0 → b1 < 0 → ordZ (a1 * b2) (b1 * a2) = if Y < X then -1 else if X < Y then 1 else 0) ∧ (¬ a1 < 0 → ¬ b1 < 0 → ordZ (a1 * b2) (b1 * a2) = if X < Y then -1 else if Y < X then 1 else 0) := by
  obtain ⟨d, hd⟩ : ∃ d : Nat, a2 = (d : Int) := ⟨a2.natAbs, by omega⟩
  obtain ⟨e, he⟩ : ∃ e : Nat, b2 = (e : Int) := ⟨b2.natAbs, by omega⟩
  subst hd he
  simp only [Int.natAbs_natCast] at hX hY
  refine ⟨fun a b => ?_, fun a b => ?_, fun a b => ?_, fun a b => ?_⟩
  · rw [ord_signs a1 b1 d e (by omega) (by omega) (by simp [a, b])]; simp [sgnOf, a]
  · rw [ord_signs a1 b1 d e (by omega) (by omega) (by simp [a, b])]; simp [sgnOf, a]
  · rw [ord_same a1 b1 d e (by simp [a, b]) X Y hX hY]
    by_cases h1 : X = Y
    · simp [h1]
    · by_cases h2 : X < Y
      · simp [h1, h2, a, sgnOf]; omega
      · simp [h1, h2, a, sgnOf]; omega
  · rw [ord_same a1 b1 d e (by simp [a, b]) X Y hX hY]
    by_cases h1 : X = Y
    · simp [h1]
    · by_cases h2 : X < Y
      · simp [h1, h2, a, sgnOf]
      · simp [h1, h2, a, sgnOf]; omega
theorem boxes2 (w : World) (a1 a2 b1 b2 : Int) : RatBox ((w.alloc (.cells #[.int .i64 a1, .int .i64 a2] 32)).alloc (.cells #[.int .i64 b1, .int .i64 b2] 32)) w.heap.size a1 a2 ∧ RatBox ((w.alloc (.cells #[.int .i64 a1, .int .i64 a2] 32)).alloc (.cells #[.int .i64 b1, .int .i64 b2] 32)) (w.heap.size + 1) b1 b2 ∧ Below w.heap.size w ((w.alloc (.cells #[.int .i64 a1, .int .i64 a2] 32)).alloc (.cells #[.int .i64 b1, .int .i64 b2] 32)) := by
  refine ⟨?_, ?_, ?_⟩
  · exact (RatBox.new w 32 a1 a2).step (below_new (Below.refl _ _) _)
  · have h := RatBox.new (w.alloc (.cells #[.int .i64 a1, .int .i64 a2] 32)) 32 b1 b2
    simpa using h
  · exact below_new (below_new (Below.refl _ _) _) _
set_option maxRecDepth 100000 in
set_option maxHeartbeats 8000000 in
theorem refCmp_any (a1 a2 b1 b2 : Int) (ha1 : -9223372036854775807 ≤ a1) (ha2 : a1 ≤ 9223372036854775807) (ha3 : 1 ≤ a2) (ha4 : a2 ≤ 9223372036854775807) (hb1 : -9223372036854775807 ≤ b1) (hb2 : b1 ≤ 9223372036854775807) (hb3 : 1 ≤ b2) (hb4 : b2 ≤ 9223372036854775807) (w : World) :
    Calls Try.prog 58 #[.agg #[.int .i64 a1, .int .i64 a2], .agg #[.int .i64 b1, .int .i64 b2]] w fun e w' => e = .returned (.int .i64 (ordZ (a1 * b2) (b1 * a2))) ∧ Below w.heap.size w w' := by
  have sa := hidd (fun W => size_big a1 (by omega) ha2 W)
  have sb := hidd (fun W => size_big b1 (by omega) hb2 W)
  have oNA := hidd (fun W => (of_any a1.natAbs (by omega) W).mono fun _ _ h => h.one)
  have oNB := hidd (fun W => (of_any b1.natAbs (by omega) W).mono fun _ _ h => h.one)
  have oDA := hidd (fun W => (of_any a2.natAbs (by omega) W).mono fun _ _ h => h.one)
  have oDB := hidd (fun W => (of_any b2.natAbs (by omega) W).mono fun _ _ h => h.one)
  have e1 : ((a2.natAbs : Nat) : Int) = a2 := by omega
  have e2 : ((b2.natAbs : Nat) : Int) = b2 := by omega
  rw [e1] at oDA
  rw [e2] at oDB
  have mX := hidd (fun u v W h h' => mul_two a1.natAbs b2.natAbs (by omega) (by omega) u v W h h')
  have mY := hidd (fun u v W h h' => mul_two b1.natAbs a2.natAbs (by omega) (by omega) u v W h h')
  have q1 := nat_mul (x := a1.natAbs) (y := b2.natAbs) (by omega) (by omega)
  have q2 := nat_mul (x := b1.natAbs) (y := a2.natAbs) (by omega) (by omega)
  have hcp := cmp_parts a1 a2 b1 b2 ha3 hb3 _ _ rfl rfl
  generalize ordZ (a1 * b2) (b1 * a2) = r at *
  generalize a1.natAbs * b2.natAbs = X at *
  generalize b1.natAbs * a2.natAbs = Y at *
  generalize a1.natAbs = NA at *
  generalize b1.natAbs = NB at *
  generalize a2.natAbs = DA at *
  generalize b2.natAbs = DB at *
  have HCP := hidd hcp
  clear e1 e2 hcp
  generalize (NA : Int) = NAi at *
  generalize (NB : Int) = NBi at *
  have wa : IntKind.u64.wrap a2 = a2 := by rw [IntKind.wrap_u64]; omega
  have wb : IntKind.u64.wrap b2 = b2 := by rw [IntKind.wrap_u64]; omega
  have X15 : X < 65536 ^ 14 := by omega
  have Y15 : Y < 65536 ^ 14 := by omega
  obtain ⟨B1, B2, BW⟩ := boxes2 w a1 a2 b1 b2
  have KEEP := hidd (two_keep B1 B2)
  have HBW := hidd BW
  obtain ⟨k0, k1, k2, k3⟩ := KEEP.out _ (Below.refl _ _)
  have X15' := hidd X15
  have Y15' := hidd Y15
  clear B1 B2 BW q1 q2 X15 Y15
  go_enter Try.func58, Try.ntmps58
  go_wp2_with fail
  go_cut [5, 6] (fun s6 s7 wx => BigAt X wx s6 ∧ BigAt Y wx s7 ∧ Below ((w.alloc (.cells #[.int .i64 a1, .int .i64 a2] 32)).alloc (.cells #[.int .i64 b1, .int .i64 b2] 32)).heap.size ((w.alloc (.cells #[.int .i64 a1, .int .i64 a2] 32)).alloc (.cells #[.int .i64 b1, .int .i64 b2] 32)) wx)
  case first =>
        go_region_held3 (fun w' => w'.cell? ⟨w.heap.size, 0, none⟩ = some (.int .i64 a1) ∧ w'.cell? ⟨w.heap.size, 1, none⟩ = some (.int .i64 a2) ∧ w'.cell? ⟨w.heap.size + 1, 0, none⟩ = some (.int .i64 b1) ∧ w'.cell? ⟨w.heap.size + 1, 1, none⟩ = some (.int .i64 b2))
          ((first | exact KEEP.out _ cum6 | exact KEEP.out _ cum5 | exact KEEP.out _ cum4 | exact KEEP.out _ cum3 | exact KEEP.out _ cum2 | exact KEEP.out _ cum1 | exact ⟨k0, k1, k2, k3⟩ | go_keep))
          ((first
            | (go_at_call_of 73 (Value.int IntKind.i64 a1); refine (sa.out _).mono ?_; rintro E0 ws ⟨rfl, rfl⟩)
            | (go_at_call_of 75 (Value.int IntKind.u64 NAi); refine (oNA.out _).mono ?_; rintro E1 x1 ⟨u1, rfl, h1, l1⟩; have cum1 : Below ((w.alloc (.cells #[.int .i64 a1, .int .i64 a2] 32)).alloc (.cells #[.int .i64 b1, .int .i64 b2] 32)).heap.size ((w.alloc (.cells #[.int .i64 a1, .int .i64 a2] 32)).alloc (.cells #[.int .i64 b1, .int .i64 b2] 32)) x1 := (by first | exact below_step (Below.drew (Below.refl _ _)) l1 | exact below_step (Below.refl _ _) l1))
            | (go_at_call_of 75 (Value.int IntKind.u64 b2); refine (oDB.out _).mono ?_; rintro E2 x2 ⟨u2, rfl, h2, l2⟩; have cum2 : Below ((w.alloc (.cells #[.int .i64 a1, .int .i64 a2] 32)).alloc (.cells #[.int .i64 b1, .int .i64 b2] 32)).heap.size ((w.alloc (.cells #[.int .i64 a1, .int .i64 a2] 32)).alloc (.cells #[.int .i64 b1, .int .i64 b2] 32)) x2 := (by first | exact below_step cum1 l2 | exact below_step (Below.drew (Below.refl _ _)) l2 | exact below_step (Below.refl _ _) l2))
            | (go_at_call_of 76 u1; refine (mX.out _ _ _ (h1.below l2) (h2)).mono ?_; rintro E3 x3 ⟨p1, rfl, h3, l3⟩; have cum3 : Below ((w.alloc (.cells #[.int .i64 a1, .int .i64 a2] 32)).alloc (.cells #[.int .i64 b1, .int .i64 b2] 32)).heap.size ((w.alloc (.cells #[.int .i64 a1, .int .i64 a2] 32)).alloc (.cells #[.int .i64 b1, .int .i64 b2] 32)) x3 := (by first | exact below_step cum2 l3 | exact below_step cum1 l3 | exact below_step (Below.drew (Below.refl _ _)) l3 | exact below_step (Below.refl _ _) l3))
            | (go_at_call_of 73 (Value.int IntKind.i64 b1); refine (sb.out _).mono ?_; rintro E4 ws ⟨rfl, rfl⟩)
            | (go_at_call_of 75 (Value.int IntKind.u64 NBi); refine (oNB.out _).mono ?_; rintro E5 x4 ⟨u3, rfl, h4, l4⟩; have cum4 : Below ((w.alloc (.cells #[.int .i64 a1, .int .i64 a2] 32)).alloc (.cells #[.int .i64 b1, .int .i64 b2] 32)).heap.size ((w.alloc (.cells #[.int .i64 a1, .int .i64 a2] 32)).alloc (.cells #[.int .i64 b1, .int .i64 b2] 32)) x4 := (by first | exact below_step cum3 l4 | exact below_step cum2 l4 | exact below_step cum1 l4 | exact below_step (Below.drew (Below.refl _ _)) l4 | exact below_step (Below.refl _ _) l4))
            | (go_at_call_of 75 (Value.int IntKind.u64 a2); refine (oDA.out _).mono ?_; rintro E6 x5 ⟨u4, rfl, h5, l5⟩; have cum5 : Below ((w.alloc (.cells #[.int .i64 a1, .int .i64 a2] 32)).alloc (.cells #[.int .i64 b1, .int .i64 b2] 32)).heap.size ((w.alloc (.cells #[.int .i64 a1, .int .i64 a2] 32)).alloc (.cells #[.int .i64 b1, .int .i64 b2] 32)) x5 := (by first | exact below_step cum4 l5 | exact below_step cum3 l5 | exact below_step cum2 l5 | exact below_step cum1 l5 | exact below_step (Below.drew (Below.refl _ _)) l5 | exact below_step (Below.refl _ _) l5))
            | (go_at_call_of 76 u3; refine (mY.out _ _ _ (h4.below l5) (h5)).mono ?_; rintro E7 x6 ⟨p2, rfl, h6, l6⟩; have cum6 : Below ((w.alloc (.cells #[.int .i64 a1, .int .i64 a2] 32)).alloc (.cells #[.int .i64 b1, .int .i64 b2] 32)).heap.size ((w.alloc (.cells #[.int .i64 a1, .int .i64 a2] 32)).alloc (.cells #[.int .i64 b1, .int .i64 b2] 32)) x6 := (by first | exact below_step cum5 l6 | exact below_step cum4 l6 | exact below_step cum3 l6 | exact below_step cum2 l6 | exact below_step cum1 l6 | exact below_step (Below.drew (Below.refl _ _)) l6 | exact below_step (Below.refl _ _) l6))))
        all_goals go_wp2_with fail
        all_goals go_meet
        all_goals exact ⟨((h3.below l4).below l5).below l6, h6, cum6⟩
  case rest =>
    obtain ⟨hX, hY, hW⟩ := hcut
    have HX := hidd hX
    have HY := hidd hY
    have HW := hidd hW
    obtain ⟨k0, k1, k2, k3⟩ := KEEP.out _ hW
    clear hX hY hW
    by_cases ga : a1 < 0
    · by_cases gb : b1 < 0
      · have HR := HCP.out.2.2.1 ga gb
        have ga2 : decide (a1 < 0) = true := decide_eq_true ga
        have gb2 : decide (0 ≤ b1) = false := decide_eq_false (by omega)
        by_cases hlt : Y < X
        · have hE := hidd (show r = -1 by rw [HR]; rw [if_pos hlt])
          have c1 := hidd (fun u v W h h' => less_two Y X (by have := X15'.out; have := Y15'.out; omega) (by have := X15'.out; have := Y15'.out; omega) u v W h h')
          rw [decide_eq_true hlt] at c1
          clear hlt
          go_wp2_with fail
          refine (c1.out _ _ _ HY.out HX.out).mono ?_
          rintro e wl ⟨rfl, l0⟩
          have HWl := hidd (HBW.out.trans ((below_step HW.out l0).mono HBW.out.size))
          clear l0
          go_wp2_with fail
          go_ret
          exact ⟨by rw [hE.out]; first | rfl | simp, HWl.out⟩
        · have c1 := hidd (fun u v W h h' => less_two Y X (by have := X15'.out; have := Y15'.out; omega) (by have := X15'.out; have := Y15'.out; omega) u v W h h')
          rw [decide_eq_false hlt] at c1
          by_cases hlt2 : X < Y
          · have hE := hidd (show r = 1 by rw [HR]; rw [if_neg hlt, if_pos hlt2])
            have c2 := hidd (fun u v W h h' => less_two X Y (by have := X15'.out; have := Y15'.out; omega) (by have := X15'.out; have := Y15'.out; omega) u v W h h')
            rw [decide_eq_true hlt2] at c2
            clear hlt hlt2
            go_wp2_with fail
            refine (c1.out _ _ _ HY.out HX.out).mono ?_
            rintro e wl ⟨rfl, l0⟩
            have HWl := hidd (below_step HW.out l0)
            have HA1 := hidd (HY.out.below l0)
            have HB1 := hidd (HX.out.below l0)
            clear l0
            go_wp2_with fail
            refine (c2.out _ _ _ HB1.out HA1.out).mono ?_
            rintro e wm ⟨rfl, l0⟩
            have HWm := hidd (HBW.out.trans ((below_step HWl.out l0).mono HBW.out.size))
            clear l0
            go_wp2_with fail
            go_ret
            exact ⟨by rw [hE.out]; first | rfl | simp, HWm.out⟩
          · have hE := hidd (show r = 0 by rw [HR]; rw [if_neg hlt, if_neg hlt2])
            have c2 := hidd (fun u v W h h' => less_two X Y (by have := X15'.out; have := Y15'.out; omega) (by have := X15'.out; have := Y15'.out; omega) u v W h h')
            rw [decide_eq_false hlt2] at c2
            clear hlt hlt2
            go_wp2_with fail
            refine (c1.out _ _ _ HY.out HX.out).mono ?_
            rintro e wl ⟨rfl, l0⟩
            have HWl := hidd (below_step HW.out l0)
            have HA1 := hidd (HY.out.below l0)
            have HB1 := hidd (HX.out.below l0)
            clear l0
            go_wp2_with fail
            refine (c2.out _ _ _ HB1.out HA1.out).mono ?_
            rintro e wm ⟨rfl, l0⟩
            have HWm := hidd (HBW.out.trans ((below_step HWl.out l0).mono HBW.out.size))
            clear l0
            go_wp2_with fail
            go_ret
            exact ⟨by rw [hE.out]; first | rfl | simp, HWm.out⟩
      · have hE := hidd (HCP.out.1 ga (by omega))
        have ga2 : decide (a1 < 0) = true := decide_eq_true ga
        have gb2 : decide (0 ≤ b1) = true := decide_eq_true (by omega)
        go_wp2_with fail
        go_ret
        exact ⟨by rw [hE.out]; first | rfl | simp, HBW.out.trans (HW.out.mono HBW.out.size)⟩
    · have ga2 : decide (a1 < 0) = false := decide_eq_false ga
      have ga3 : decide (0 ≤ a1) = true := decide_eq_true (by omega)
      by_cases gb : b1 < 0
      · have hE := hidd (HCP.out.2.1 (by omega) gb)
        have gb2 : decide (b1 < 0) = true := decide_eq_true gb
        go_wp2_with fail
        go_ret
        exact ⟨by rw [hE.out]; first | rfl | simp, HBW.out.trans (HW.out.mono HBW.out.size)⟩
      · have HR := HCP.out.2.2.2 (by omega) (by omega)
        have gb2 : decide (b1 < 0) = false := decide_eq_false gb
        by_cases hlt : X < Y
        · have hE := hidd (show r = -1 by rw [HR]; rw [if_pos hlt])
          have c1 := hidd (fun u v W h h' => less_two X Y (by have := X15'.out; have := Y15'.out; omega) (by have := X15'.out; have := Y15'.out; omega) u v W h h')
          rw [decide_eq_true hlt] at c1
          clear hlt
          go_wp2_with fail
          refine (c1.out _ _ _ HX.out HY.out).mono ?_
          rintro e wl ⟨rfl, l0⟩
          have HWl := hidd (HBW.out.trans ((below_step HW.out l0).mono HBW.out.size))
          clear l0
          go_wp2_with fail
          go_ret
          exact ⟨by rw [hE.out]; first | rfl | simp, HWl.out⟩
        · have c1 := hidd (fun u v W h h' => less_two X Y (by have := X15'.out; have := Y15'.out; omega) (by have := X15'.out; have := Y15'.out; omega) u v W h h')
          rw [decide_eq_false hlt] at c1
          by_cases hlt2 : Y < X
          · have hE := hidd (show r = 1 by rw [HR]; rw [if_neg hlt, if_pos hlt2])
            have c2 := hidd (fun u v W h h' => less_two Y X (by have := X15'.out; have := Y15'.out; omega) (by have := X15'.out; have := Y15'.out; omega) u v W h h')
            rw [decide_eq_true hlt2] at c2
            clear hlt hlt2
            go_wp2_with fail
            refine (c1.out _ _ _ HX.out HY.out).mono ?_
            rintro e wl ⟨rfl, l0⟩
            have HWl := hidd (below_step HW.out l0)
            have HA1 := hidd (HX.out.below l0)
            have HB1 := hidd (HY.out.below l0)
            clear l0
            go_wp2_with fail
            refine (c2.out _ _ _ HB1.out HA1.out).mono ?_
            rintro e wm ⟨rfl, l0⟩
            have HWm := hidd (HBW.out.trans ((below_step HWl.out l0).mono HBW.out.size))
            clear l0
            go_wp2_with fail
            go_ret
            exact ⟨by rw [hE.out]; first | rfl | simp, HWm.out⟩
          · have hE := hidd (show r = 0 by rw [HR]; rw [if_neg hlt, if_neg hlt2])
            have c2 := hidd (fun u v W h h' => less_two Y X (by have := X15'.out; have := Y15'.out; omega) (by have := X15'.out; have := Y15'.out; omega) u v W h h')
            rw [decide_eq_false hlt2] at c2
            clear hlt hlt2
            go_wp2_with fail
            refine (c1.out _ _ _ HX.out HY.out).mono ?_
            rintro e wl ⟨rfl, l0⟩
            have HWl := hidd (below_step HW.out l0)
            have HA1 := hidd (HX.out.below l0)
            have HB1 := hidd (HY.out.below l0)
            clear l0
            go_wp2_with fail
            refine (c2.out _ _ _ HB1.out HA1.out).mono ?_
            rintro e wm ⟨rfl, l0⟩
            have HWm := hidd (HBW.out.trans ((below_step HWl.out l0).mono HBW.out.size))
            clear l0
            go_wp2_with fail
            go_ret
            exact ⟨by rw [hE.out]; first | rfl | simp, HWm.out⟩
theorem mul_fits {q d x : Int} (h : (q * d).natAbs ≤ x.natAbs) (h0 : -9223372036854775807 ≤ x) (h1 : x ≤ 9223372036854775807) : -9223372036854775807 ≤ q * d ∧ q * d ≤ 9223372036854775807 := by omega
theorem tdiv_facts (x d : Int) (hd : 1 ≤ d) (hd1 : d ≤ 9223372036854775807) (h0 : -9223372036854775807 ≤ x) (h1 : x ≤ 9223372036854775807) :
    (-9223372036854775807 ≤ x.tdiv d ∧ x.tdiv d ≤ 9223372036854775807) ∧ (-9223372036854775807 ≤ x.tdiv d * d ∧ x.tdiv d * d ≤ 9223372036854775807) ∧
    ((x < x.tdiv d * d ∧ x / d = x.tdiv d - 1 ∧ -9223372036854775807 ≤ x.tdiv d - 1) ∨ (¬ x < x.tdiv d * d ∧ x / d = x.tdiv d)) ∧
    ((x.tdiv d * d < x ∧ -(-x / d) = x.tdiv d + 1 ∧ x.tdiv d + 1 ≤ 9223372036854775807) ∨ (¬ x.tdiv d * d < x ∧ -(-x / d) = x.tdiv d)) := by
  have e := Int.mul_tdiv_add_tmod x d
  have hm := Int.mul_comm d (x.tdiv d)
  rw [hm] at e
  clear hm
  have hlt : (x.tmod d).natAbs < d.natAbs := by rw [Int.natAbs_tmod]; exact Nat.mod_lt _ (by omega)
  have hsg : (0 ≤ x → 0 ≤ x.tmod d) ∧ (x ≤ 0 → x.tmod d ≤ 0) := by
    refine ⟨fun h => Int.tmod_nonneg d h, fun h => ?_⟩
    have := Int.tmod_nonneg d (show 0 ≤ -x by omega)
    rw [Int.neg_tmod] at this
    omega
  have hq : (x.tdiv d).natAbs ≤ x.natAbs := by rw [Int.natAbs_tdiv]; exact Nat.div_le_self _ _
  have hdv : ∀ q r : Int, x = q * d + r → 0 ≤ r → r < d → x / d = q := fun q r h1 h2 h3 => ((Int.ediv_emod_unique (show 0 < d by omega)).2 ⟨by rw [h1, Int.mul_comm]; omega, h2, h3⟩).1
  have hdn : ∀ q r : Int, -x = q * d + r → 0 ≤ r → r < d → -x / d = q := fun q r h1 h2 h3 => ((Int.ediv_emod_unique (show 0 < d by omega)).2 ⟨by rw [h1, Int.mul_comm]; omega, h2, h3⟩).1
  generalize x.tdiv d = q at *
  generalize x.tmod d = t at *
  have m1 : (q - 1) * d = q * d - d := by rw [Int.sub_mul]; omega
  have m2 : (-q) * d = -(q * d) := Int.neg_mul _ _
  have m3 : (-q - 1) * d = -(q * d) - d := by rw [Int.sub_mul]; omega
  refine ⟨by omega, by omega, ?_, ?_⟩
  · by_cases ht : t < 0
    · exact .inl ⟨by omega, hdv (q - 1) (t + d) (by omega) (by omega) (by omega), by
        by_cases h2 : 2 ≤ d
        · have hq2 : q ≤ 0 ∧ x < 0 := ⟨by
            by_cases hp : 0 < q
            · have : 1 * d ≤ q * d := Int.mul_le_mul_of_nonneg_right (by omega) (by omega)
              omega
            · omega, by omega⟩
          have h5 : (-q) * 2 ≤ (-q) * d := Int.mul_le_mul_of_nonneg_left h2 (by omega)
          rw [m2] at h5
          omega
        · omega⟩
    · exact .inr ⟨by omega, hdv q t (by omega) (by omega) (by omega)⟩
  · by_cases ht : 0 < t
    · refine .inl ⟨by omega, by rw [hdn (-q - 1) (d - t) (by omega) (by omega) (by omega)]; omega, ?_⟩
      by_cases h2 : 2 ≤ d
      · by_cases hp : 0 ≤ q
        · have : q * 2 ≤ q * d := Int.mul_le_mul_of_nonneg_left h2 hp
          omega
        · omega
      · omega
    · exact .inr ⟨by omega, by rw [hdn (-q) (-t) (by omega) (by omega) (by omega)]; omega⟩
end Go.Proofs.Ytohkkebiilaniaa
