/- The document's sum of two fractions. -/
import Derived.Test.YtokcalmmmfakcaaGreatBgPa
namespace Go.Proofs.YtokcalmmmfakcaaGreat
set_option linter.unusedVariables false
open Go.RowKit

set_option maxRecDepth 100000 in
set_option maxHeartbeats 8000000 in
theorem refPlus_any (a1 a2 b1 b2 : Int) (ha1 : -9223372036854775807 ≤ a1) (ha2 : a1 ≤ 9223372036854775807) (ha3 : 1 ≤ a2) (ha4 : a2 ≤ 9223372036854775807) (hb1 : -9223372036854775807 ≤ b1) (hb2 : b1 ≤ 9223372036854775807) (hb3 : 1 ≤ b2) (hb4 : b2 ≤ 9223372036854775807) (w : World) :
    Calls Tryz.prog 66 #[.agg #[.int .i64 a1, .int .i64 a2], .agg #[.int .i64 b1, .int .i64 b2]] w fun e w' => e = .returned (pairOf (RM.plusR a1 a2 b1 b2)) ∧ Below w.heap.size w w' := by
  have sa := hidd (fun W => size_big a1 (by omega) ha2 W)
  have sb := hidd (fun W => size_big b1 (by omega) hb2 W)
  have oNA := hidd (fun W => (of_any a1.natAbs (by omega) W).mono fun _ _ h => h.one)
  have oNB := hidd (fun W => (of_any b1.natAbs (by omega) W).mono fun _ _ h => h.one)
  have oDA := hidd (fun W => (of_any a2.natAbs (by omega) W).mono fun _ _ h => h.one)
  have oDB := hidd (fun W => (of_any b2.natAbs (by omega) W).mono fun _ _ h => h.one)
  have e1 : ((a2.natAbs : Nat) : Int) = a2 := by omega
  have e2 : ((b2.natAbs : Nat) : Int) = b2 := by omega
  rw [e1] at oDA
  rw [e2] at oDB
  have mX := hidd (fun u v W h h' => mul_two a1.natAbs b2.natAbs (by omega) (by omega) u v W h h')
  have mY := hidd (fun u v W h h' => mul_two b1.natAbs a2.natAbs (by omega) (by omega) u v W h h')
  have mD := hidd (fun u v W h h' => mul_two a2.natAbs b2.natAbs (by omega) (by omega) u v W h h')
  have q1 := nat_mul (x := a1.natAbs) (y := b2.natAbs) (by omega) (by omega)
  have q2 := nat_mul (x := b1.natAbs) (y := a2.natAbs) (by omega) (by omega)
  have q3 := nat_mul (x := a2.natAbs) (y := b2.natAbs) (by omega) (by omega)
  have hr : RM.plusR a1 a2 b1 b2 = RM.fracN (RM.tog2 (decide (a1 < 0)) (a1.natAbs * b2.natAbs) (decide (b1 < 0)) (b1.natAbs * a2.natAbs)).1 (RM.tog2 (decide (a1 < 0)) (a1.natAbs * b2.natAbs) (decide (b1 < 0)) (b1.natAbs * a2.natAbs)).2 (a2.natAbs * b2.natAbs) := rfl
  unfold pairOf
  generalize hrg : RM.plusR a1 a2 b1 b2 = r at *
  generalize a1.natAbs * b2.natAbs = X at *
  generalize b1.natAbs * a2.natAbs = Y at *
  generalize a2.natAbs * b2.natAbs = Z at *
  generalize a1.natAbs = NA at *
  generalize b1.natAbs = NB at *
  generalize a2.natAbs = DA at *
  generalize b2.natAbs = DB at *
  have HRR := hidd hr
  clear e1 e2 hr hrg
  generalize (NA : Int) = NAi at *
  generalize (NB : Int) = NBi at *
  have wa : IntKind.u64.wrap a2 = a2 := by rw [IntKind.wrap_u64]; omega
  have wb : IntKind.u64.wrap b2 = b2 := by rw [IntKind.wrap_u64]; omega
  have X15 : X < 65536 ^ 14 := by omega
  have Y15 : Y < 65536 ^ 14 := by omega
  have Z15 : Z < 65536 ^ 14 := by omega
  obtain ⟨B1, B2, B3, BW⟩ := boxes3 w a1 a2 b1 b2
  have KEEP := hidd (two_keep B1 B2)
  have HB3 := hidd B3
  have HBW := hidd BW
  obtain ⟨k0, k1, k2, k3⟩ := KEEP.out _ (Below.refl _ _)
  have cf := hidd (fun b n (hn : n < 65536 ^ 15) u v W h h' => frac_big b n Z hn (by omega) u v W h h')
  have cadd := hidd (fun u v W h h' => add_two X Y (by omega) (by omega) u v W h h')
  have csxy := hidd (fun hle u v W h h' => sub_two X Y (by omega) hle u v W h h')
  have csyx := hidd (fun hle u v W h h' => sub_two Y X (by omega) hle u v W h h')
  have cls := hidd (fun u v W h h' => less_two X Y (by omega) (by omega) u v W h h')
  unfold pairOf at cf
  have X15' := hidd X15
  have Y15' := hidd Y15
  clear B1 B2 B3 BW q1 q2 q3 X15 Y15 Z15
  go_enter Tryz.func66, Tryz.ntmps66
  go_wp2_with fail
  go_cut [6, 7] (fun s6 s7 wx => BigAt X wx s6 ∧ BigAt Y wx s7 ∧ Below (((w.alloc (.cells #[.int .i64 a1, .int .i64 a2] 25)).alloc (.cells #[.int .i64 b1, .int .i64 b2] 25)).alloc (.cells #[.int .i64 0, .int .i64 0] 25)).heap.size (((w.alloc (.cells #[.int .i64 a1, .int .i64 a2] 25)).alloc (.cells #[.int .i64 b1, .int .i64 b2] 25)).alloc (.cells #[.int .i64 0, .int .i64 0] 25)) wx)
  case first =>

        go_region_held3 (fun w' => w'.cell? ⟨w.heap.size, 0, none⟩ = some (.int .i64 a1) ∧ w'.cell? ⟨w.heap.size, 1, none⟩ = some (.int .i64 a2) ∧ w'.cell? ⟨w.heap.size + 1, 0, none⟩ = some (.int .i64 b1) ∧ w'.cell? ⟨w.heap.size + 1, 1, none⟩ = some (.int .i64 b2))
          ((first | exact KEEP.out _ cum6 | exact KEEP.out _ cum5 | exact KEEP.out _ cum4 | exact KEEP.out _ cum3 | exact KEEP.out _ cum2 | exact KEEP.out _ cum1 | exact ⟨k0, k1, k2, k3⟩ | go_keep))
          ((first
            | (go_at_call_of 68 (Value.int IntKind.i64 a1); refine (sa.out _).mono ?_; rintro E0 ws ⟨rfl, rfl⟩)
            | (go_at_call_of 70 (Value.int IntKind.u64 NAi); refine (oNA.out _).mono ?_; rintro E1 x1 ⟨u1, rfl, h1, l1⟩; have cum1 : Below (((w.alloc (.cells #[.int .i64 a1, .int .i64 a2] 25)).alloc (.cells #[.int .i64 b1, .int .i64 b2] 25)).alloc (.cells #[.int .i64 0, .int .i64 0] 25)).heap.size (((w.alloc (.cells #[.int .i64 a1, .int .i64 a2] 25)).alloc (.cells #[.int .i64 b1, .int .i64 b2] 25)).alloc (.cells #[.int .i64 0, .int .i64 0] 25)) x1 := (by first | exact below_step (Below.drew (Below.refl _ _)) l1 | exact below_step (Below.refl _ _) l1))
            | (go_at_call_of 70 (Value.int IntKind.u64 b2); refine (oDB.out _).mono ?_; rintro E2 x2 ⟨u2, rfl, h2, l2⟩; have cum2 : Below (((w.alloc (.cells #[.int .i64 a1, .int .i64 a2] 25)).alloc (.cells #[.int .i64 b1, .int .i64 b2] 25)).alloc (.cells #[.int .i64 0, .int .i64 0] 25)).heap.size (((w.alloc (.cells #[.int .i64 a1, .int .i64 a2] 25)).alloc (.cells #[.int .i64 b1, .int .i64 b2] 25)).alloc (.cells #[.int .i64 0, .int .i64 0] 25)) x2 := (by first | exact below_step cum1 l2 | exact below_step (Below.drew (Below.refl _ _)) l2 | exact below_step (Below.refl _ _) l2))
            | (go_at_call_of 91 u1; refine (mX.out _ _ _ (h1.below l2) (h2)).mono ?_; rintro E3 x3 ⟨p1, rfl, h3, l3⟩; have cum3 : Below (((w.alloc (.cells #[.int .i64 a1, .int .i64 a2] 25)).alloc (.cells #[.int .i64 b1, .int .i64 b2] 25)).alloc (.cells #[.int .i64 0, .int .i64 0] 25)).heap.size (((w.alloc (.cells #[.int .i64 a1, .int .i64 a2] 25)).alloc (.cells #[.int .i64 b1, .int .i64 b2] 25)).alloc (.cells #[.int .i64 0, .int .i64 0] 25)) x3 := (by first | exact below_step cum2 l3 | exact below_step cum1 l3 | exact below_step (Below.drew (Below.refl _ _)) l3 | exact below_step (Below.refl _ _) l3))
            | (go_at_call_of 68 (Value.int IntKind.i64 b1); refine (sb.out _).mono ?_; rintro E4 ws ⟨rfl, rfl⟩)
            | (go_at_call_of 70 (Value.int IntKind.u64 NBi); refine (oNB.out _).mono ?_; rintro E5 x4 ⟨u3, rfl, h4, l4⟩; have cum4 : Below (((w.alloc (.cells #[.int .i64 a1, .int .i64 a2] 25)).alloc (.cells #[.int .i64 b1, .int .i64 b2] 25)).alloc (.cells #[.int .i64 0, .int .i64 0] 25)).heap.size (((w.alloc (.cells #[.int .i64 a1, .int .i64 a2] 25)).alloc (.cells #[.int .i64 b1, .int .i64 b2] 25)).alloc (.cells #[.int .i64 0, .int .i64 0] 25)) x4 := (by first | exact below_step cum3 l4 | exact below_step cum2 l4 | exact below_step cum1 l4 | exact below_step (Below.drew (Below.refl _ _)) l4 | exact below_step (Below.refl _ _) l4))
            | (go_at_call_of 70 (Value.int IntKind.u64 a2); refine (oDA.out _).mono ?_; rintro E6 x5 ⟨u4, rfl, h5, l5⟩; have cum5 : Below (((w.alloc (.cells #[.int .i64 a1, .int .i64 a2] 25)).alloc (.cells #[.int .i64 b1, .int .i64 b2] 25)).alloc (.cells #[.int .i64 0, .int .i64 0] 25)).heap.size (((w.alloc (.cells #[.int .i64 a1, .int .i64 a2] 25)).alloc (.cells #[.int .i64 b1, .int .i64 b2] 25)).alloc (.cells #[.int .i64 0, .int .i64 0] 25)) x5 := (by first | exact below_step cum4 l5 | exact below_step cum3 l5 | exact below_step cum2 l5 | exact below_step cum1 l5 | exact below_step (Below.drew (Below.refl _ _)) l5 | exact below_step (Below.refl _ _) l5))
            | (go_at_call_of 91 u3; refine (mY.out _ _ _ (h4.below l5) (h5)).mono ?_; rintro E7 x6 ⟨p2, rfl, h6, l6⟩; have cum6 : Below (((w.alloc (.cells #[.int .i64 a1, .int .i64 a2] 25)).alloc (.cells #[.int .i64 b1, .int .i64 b2] 25)).alloc (.cells #[.int .i64 0, .int .i64 0] 25)).heap.size (((w.alloc (.cells #[.int .i64 a1, .int .i64 a2] 25)).alloc (.cells #[.int .i64 b1, .int .i64 b2] 25)).alloc (.cells #[.int .i64 0, .int .i64 0] 25)) x6 := (by first | exact below_step cum5 l6 | exact below_step cum4 l6 | exact below_step cum3 l6 | exact below_step cum2 l6 | exact below_step cum1 l6 | exact below_step (Below.drew (Below.refl _ _)) l6 | exact below_step (Below.refl _ _) l6))))
        all_goals go_wp2_with fail
        all_goals go_meet
        all_goals exact ⟨((h3.below l4).below l5).below l6, h6, cum6⟩
  case rest =>
    obtain ⟨hX, hY, hW⟩ := hcut
    have HX := hidd hX
    have HY := hidd hY
    have HW := hidd hW
    obtain ⟨k0, k1, k2, k3⟩ := KEEP.out _ hW
    clear hX hY hW
    obtain ⟨wz, hwz⟩ : ∃ wz, wz = wc := ⟨_, rfl⟩
    go_wp2_with fail
    go_cut [6, 7, 8] (fun s6 s7 s8 wx => BigAt X wx s6 ∧ BigAt Y wx s7 ∧ BigAt Z wx s8 ∧ Below (((w.alloc (.cells #[.int .i64 a1, .int .i64 a2] 25)).alloc (.cells #[.int .i64 b1, .int .i64 b2] 25)).alloc (.cells #[.int .i64 0, .int .i64 0] 25)).heap.size (((w.alloc (.cells #[.int .i64 a1, .int .i64 a2] 25)).alloc (.cells #[.int .i64 b1, .int .i64 b2] 25)).alloc (.cells #[.int .i64 0, .int .i64 0] 25)) wx)
    case first =>
        go_region_held3 (fun w' => w'.cell? ⟨w.heap.size, 0, none⟩ = some (.int .i64 a1) ∧ w'.cell? ⟨w.heap.size, 1, none⟩ = some (.int .i64 a2) ∧ w'.cell? ⟨w.heap.size + 1, 0, none⟩ = some (.int .i64 b1) ∧ w'.cell? ⟨w.heap.size + 1, 1, none⟩ = some (.int .i64 b2))
          ((first | exact KEEP.out _ cum3 | exact KEEP.out _ cum2 | exact KEEP.out _ cum1 | exact ⟨k0, k1, k2, k3⟩ | go_keep))
          ((first
            | (go_at_call_of 70 (Value.int IntKind.u64 a2); refine (oDA.out _).mono ?_; rintro E0 x1 ⟨u1, rfl, h1, l1⟩; have cum1 : Below (((w.alloc (.cells #[.int .i64 a1, .int .i64 a2] 25)).alloc (.cells #[.int .i64 b1, .int .i64 b2] 25)).alloc (.cells #[.int .i64 0, .int .i64 0] 25)).heap.size (((w.alloc (.cells #[.int .i64 a1, .int .i64 a2] 25)).alloc (.cells #[.int .i64 b1, .int .i64 b2] 25)).alloc (.cells #[.int .i64 0, .int .i64 0] 25)) x1 := (by first | exact below_step (Below.drew HW.out) l1 | exact below_step HW.out l1))
            | (go_at_call_of 70 (Value.int IntKind.u64 b2); refine (oDB.out _).mono ?_; rintro E1 x2 ⟨u2, rfl, h2, l2⟩; have cum2 : Below (((w.alloc (.cells #[.int .i64 a1, .int .i64 a2] 25)).alloc (.cells #[.int .i64 b1, .int .i64 b2] 25)).alloc (.cells #[.int .i64 0, .int .i64 0] 25)).heap.size (((w.alloc (.cells #[.int .i64 a1, .int .i64 a2] 25)).alloc (.cells #[.int .i64 b1, .int .i64 b2] 25)).alloc (.cells #[.int .i64 0, .int .i64 0] 25)) x2 := (by first | exact below_step cum1 l2 | exact below_step (Below.drew (Below.refl _ _)) l2 | exact below_step (Below.refl _ _) l2))
            | (go_at_call_of 91 u1; refine (mD.out _ _ _ (h1.below l2) (h2)).mono ?_; rintro E2 x3 ⟨p1, rfl, h3, l3⟩; have cum3 : Below (((w.alloc (.cells #[.int .i64 a1, .int .i64 a2] 25)).alloc (.cells #[.int .i64 b1, .int .i64 b2] 25)).alloc (.cells #[.int .i64 0, .int .i64 0] 25)).heap.size (((w.alloc (.cells #[.int .i64 a1, .int .i64 a2] 25)).alloc (.cells #[.int .i64 b1, .int .i64 b2] 25)).alloc (.cells #[.int .i64 0, .int .i64 0] 25)) x3 := (by first | exact below_step cum2 l3 | exact below_step cum1 l3 | exact below_step (Below.drew (Below.refl _ _)) l3 | exact below_step (Below.refl _ _) l3))))
        all_goals go_wp2_with fail
        all_goals go_meet
        all_goals exact ⟨((HX.out.drew.below l1).below l2).below l3, ((HY.out.drew.below l1).below l2).below l3, h3, cum3⟩
    case rest =>
      obtain ⟨hX, hY, hZ, hW⟩ := hcut
      have HX := hidd hX
      have HY := hidd hY
      have HZ := hidd hZ
      have HW := hidd hW
      obtain ⟨k0, k1, k2, k3⟩ := KEEP.out _ hW
      clear hX hY hZ hW
      have hne1 : ¬ w.heap.size + 1 + 1 = w.heap.size := by omega
      have hne2 : ¬ w.heap.size = w.heap.size + 1 + 1 := by omega
      by_cases ga : a1 < 0
      · have dA : decide (a1 < 0) = true := decide_eq_true ga
        by_cases gb : b1 < 0
        · have dB : decide (b1 < 0) = true := decide_eq_true gb
          have hrr : r = RM.fracN true (X + Y) Z := by rw [HRR.out, dA, dB]; unfold RM.tog2; rw [if_pos rfl]
          go_wp2_with fail
          go_region_held3 (fun w' => w'.cell? ⟨w.heap.size, 0, none⟩ = some (.int .i64 a1) ∧ w'.cell? ⟨w.heap.size, 1, none⟩ = some (.int .i64 a2) ∧ w'.cell? ⟨w.heap.size + 1, 0, none⟩ = some (.int .i64 b1) ∧ w'.cell? ⟨w.heap.size + 1, 1, none⟩ = some (.int .i64 b2))
            ((first | exact KEEP.out _ cum2 | exact KEEP.out _ cum1 | exact ⟨k0, k1, k2, k3⟩ | go_keep))
            ((first
              | (go_at_call 96; refine (cadd.out _ _ _ HX.out.drew HY.out.drew).mono ?_; rintro E0 x1 ⟨v1, rfl, h1, l1⟩; have cum1 : Below (((w.alloc (.cells #[.int .i64 a1, .int .i64 a2] 25)).alloc (.cells #[.int .i64 b1, .int .i64 b2] 25)).alloc (.cells #[.int .i64 0, .int .i64 0] 25)).heap.size (((w.alloc (.cells #[.int .i64 a1, .int .i64 a2] 25)).alloc (.cells #[.int .i64 b1, .int .i64 b2] 25)).alloc (.cells #[.int .i64 0, .int .i64 0] 25)) x1 := (by first | exact below_step (Below.drew HW.out) l1 | exact below_step HW.out l1))
              | (go_at_call 95; refine (cf.out true (X + Y) (by have := X15'.out; have := Y15'.out; omega) _ _ _ h1 (HZ.out.drew.below l1)).mono ?_; rintro E1 x2 ⟨rfl, l2⟩; have cum2 : Below (((w.alloc (.cells #[.int .i64 a1, .int .i64 a2] 25)).alloc (.cells #[.int .i64 b1, .int .i64 b2] 25)).alloc (.cells #[.int .i64 0, .int .i64 0] 25)).heap.size (((w.alloc (.cells #[.int .i64 a1, .int .i64 a2] 25)).alloc (.cells #[.int .i64 b1, .int .i64 b2] 25)).alloc (.cells #[.int .i64 0, .int .i64 0] 25)) x2 := (by first | exact below_step cum1 l2 | exact below_step (Below.drew (Below.refl _ _)) l2 | exact below_step (Below.refl _ _) l2); obtain ⟨z3, y0, y1, y2, y3⟩ := HB3.out.step cum2; obtain ⟨j0, j1, j2, j3⟩ := KEEP.out _ cum2)))
          all_goals go_wp2_with fail
          all_goals (have hlast := HBW.out.trans (cum2.mono HBW.out.size); have HLAST := hidd hlast; have HRX := hidd hrr; clear hlast hrr; refine bodyPost_ret (v := .tuple #[.agg #[.int .i64 (RM.fracN true (X + Y) Z).1, .int .i64 (RM.fracN true (X + Y) Z).2.1], .int .i64 (RM.fracN true (X + Y) Z).2.2]) ?_ rfl ⟨?_, ?_⟩)
          all_goals first | (rw [HRX.out]; done) | exact Below.setCell (Below.setCell HLAST.out (by simp; omega) _) (by simp; omega) _ | exact Below.drew (Below.setCell (Below.setCell HLAST.out (by simp; omega) _) (by simp; omega) _) | (simp [results, Tryz.results66, go_sem, *]; done)
        · have dB : decide (b1 < 0) = false := decide_eq_false gb
          go_wp2_with fail
          refine (cls.out _ _ _ HX.out HY.out).mono ?_
          rintro e wl ⟨rfl, l0⟩
          have HXl := hidd (HX.out.below l0)
          have HYl := hidd (HY.out.below l0)
          have HZl := hidd (HZ.out.below l0)
          have HWl := hidd (below_step HW.out l0)
          obtain ⟨k0, k1, k2, k3⟩ := KEEP.out _ HWl.out
          clear HX HY HZ HW l0
          by_cases hlt : X < Y
          · have hrr : r = RM.fracN false (Y - X) Z := by rw [HRR.out, dA, dB]; unfold RM.tog2; rw [if_neg (by decide), if_pos hlt]
            have hdec : decide (X < Y) = true := decide_eq_true hlt
            have cS := hidd (csyx.out (by omega))
            go_wp2_with fail
            go_region_held3 (fun w' => w'.cell? ⟨w.heap.size, 0, none⟩ = some (.int .i64 a1) ∧ w'.cell? ⟨w.heap.size, 1, none⟩ = some (.int .i64 a2) ∧ w'.cell? ⟨w.heap.size + 1, 0, none⟩ = some (.int .i64 b1) ∧ w'.cell? ⟨w.heap.size + 1, 1, none⟩ = some (.int .i64 b2))
              ((first | exact KEEP.out _ cum2 | exact KEEP.out _ cum1 | exact ⟨k0, k1, k2, k3⟩ | go_keep))
              ((first
                | (go_at_call 97; refine (cS.out _ _ _ HYl.out.drew HXl.out.drew).mono ?_; rintro E0 x1 ⟨v1, rfl, h1, l1⟩; have cum1 : Below (((w.alloc (.cells #[.int .i64 a1, .int .i64 a2] 25)).alloc (.cells #[.int .i64 b1, .int .i64 b2] 25)).alloc (.cells #[.int .i64 0, .int .i64 0] 25)).heap.size (((w.alloc (.cells #[.int .i64 a1, .int .i64 a2] 25)).alloc (.cells #[.int .i64 b1, .int .i64 b2] 25)).alloc (.cells #[.int .i64 0, .int .i64 0] 25)) x1 := (by first | exact below_step (Below.drew HWl.out) l1 | exact below_step HWl.out l1))
                | (go_at_call 95; refine (cf.out false (Y - X) (by have := X15'.out; have := Y15'.out; omega) _ _ _ h1 (HZl.out.drew.below l1)).mono ?_; rintro E1 x2 ⟨rfl, l2⟩; have cum2 : Below (((w.alloc (.cells #[.int .i64 a1, .int .i64 a2] 25)).alloc (.cells #[.int .i64 b1, .int .i64 b2] 25)).alloc (.cells #[.int .i64 0, .int .i64 0] 25)).heap.size (((w.alloc (.cells #[.int .i64 a1, .int .i64 a2] 25)).alloc (.cells #[.int .i64 b1, .int .i64 b2] 25)).alloc (.cells #[.int .i64 0, .int .i64 0] 25)) x2 := (by first | exact below_step cum1 l2 | exact below_step (Below.drew (Below.refl _ _)) l2 | exact below_step (Below.refl _ _) l2); obtain ⟨z3, y0, y1, y2, y3⟩ := HB3.out.step cum2; obtain ⟨j0, j1, j2, j3⟩ := KEEP.out _ cum2)))
            all_goals go_wp2_with fail
            all_goals (have hlast := HBW.out.trans (cum2.mono HBW.out.size); have HLAST := hidd hlast; have HRX := hidd hrr; clear hlast hrr; refine bodyPost_ret (v := .tuple #[.agg #[.int .i64 (RM.fracN false (Y - X) Z).1, .int .i64 (RM.fracN false (Y - X) Z).2.1], .int .i64 (RM.fracN false (Y - X) Z).2.2]) ?_ rfl ⟨?_, ?_⟩)
            all_goals first | (rw [HRX.out]; done) | exact Below.setCell (Below.setCell HLAST.out (by simp; omega) _) (by simp; omega) _ | exact Below.drew (Below.setCell (Below.setCell HLAST.out (by simp; omega) _) (by simp; omega) _) | (simp [results, Tryz.results66, go_sem, *]; done)
          · have hdec : decide (X < Y) = false := decide_eq_false hlt
            go_wp2_with fail
            refine (csxy.out (by omega) _ _ _ HXl.out HYl.out).mono ?_
            rintro e x1 ⟨v1, rfl, h1, l1⟩
            have cum1 := below_step HWl.out l1
            have HV := hidd h1
            have HZ1 := hidd (HZl.out.below l1)
            have CUM1 := hidd cum1
            obtain ⟨Av, n9, cv, rfl, n90, n91⟩ := h1.slice
            obtain ⟨k0, k1, k2, k3⟩ := KEEP.out _ cum1
            clear l1 cum1
            by_cases hz : X - Y = 0
            · have hrr : r = RM.fracN false (X - Y) Z := by rw [HRR.out, dA, dB]; unfold RM.tog2; rw [if_neg (by decide), if_neg hlt, hz]; exact RM.fracN_zero _ _ _
              have hl1 : n9 = 0 := n90 hz
              subst hl1
              have HV2 := hidd (cf.out false (X - Y) (by have := X15'.out; have := Y15'.out; omega) _ _ _ HV.out HZ1.out)
              clear n90 n91 hz hdec hlt
              go_wp2_with fail
              refine HV2.out.mono ?_
              rintro e x2 ⟨rfl, l2⟩
              have cum2 := below_step CUM1.out l2
              obtain ⟨z3, y0, y1, y2, y3⟩ := HB3.out.step cum2
              all_goals go_wp2_with fail
              all_goals (have hlast := HBW.out.trans (cum2.mono HBW.out.size); have HLAST := hidd hlast; have HRX := hidd hrr; clear hlast hrr; refine bodyPost_ret (v := .tuple #[.agg #[.int .i64 (RM.fracN false (X - Y) Z).1, .int .i64 (RM.fracN false (X - Y) Z).2.1], .int .i64 (RM.fracN false (X - Y) Z).2.2]) ?_ rfl ⟨?_, ?_⟩)
              all_goals first | (rw [HRX.out]; done) | exact Below.setCell (Below.setCell HLAST.out (by simp; omega) _) (by simp; omega) _ | exact Below.drew (Below.setCell (Below.setCell HLAST.out (by simp; omega) _) (by simp; omega) _) | (simp [results, Tryz.results66, go_sem, *]; done)
            · have hrr : r = RM.fracN true (X - Y) Z := by rw [HRR.out, dA, dB]; unfold RM.tog2; rw [if_neg (by decide), if_neg hlt]
              have hl2 : 0 < n9 := n91 hz
              have hl1 : (0 : Int) < (n9 : Int) := by omega
              have HV2 := hidd (cf.out true (X - Y) (by have := X15'.out; have := Y15'.out; omega) _ _ _ HV.out HZ1.out)
              clear n90 n91 hz hdec hlt
              go_wp2_with fail
              refine HV2.out.mono ?_
              rintro e x2 ⟨rfl, l2⟩
              have cum2 := below_step CUM1.out l2
              obtain ⟨z3, y0, y1, y2, y3⟩ := HB3.out.step cum2
              all_goals go_wp2_with fail
              all_goals (have hlast := HBW.out.trans (cum2.mono HBW.out.size); have HLAST := hidd hlast; have HRX := hidd hrr; clear hlast hrr; refine bodyPost_ret (v := .tuple #[.agg #[.int .i64 (RM.fracN true (X - Y) Z).1, .int .i64 (RM.fracN true (X - Y) Z).2.1], .int .i64 (RM.fracN true (X - Y) Z).2.2]) ?_ rfl ⟨?_, ?_⟩)
              all_goals first | (rw [HRX.out]; done) | exact Below.setCell (Below.setCell HLAST.out (by simp; omega) _) (by simp; omega) _ | exact Below.drew (Below.setCell (Below.setCell HLAST.out (by simp; omega) _) (by simp; omega) _) | (simp [results, Tryz.results66, go_sem, *]; done)
      · have dA : decide (a1 < 0) = false := decide_eq_false ga
        by_cases gb : b1 < 0
        · have dB : decide (b1 < 0) = true := decide_eq_true gb
          go_wp2_with fail
          refine (cls.out _ _ _ HX.out HY.out).mono ?_
          rintro e wl ⟨rfl, l0⟩
          have HXl := hidd (HX.out.below l0)
          have HYl := hidd (HY.out.below l0)
          have HZl := hidd (HZ.out.below l0)
          have HWl := hidd (below_step HW.out l0)
          obtain ⟨k0, k1, k2, k3⟩ := KEEP.out _ HWl.out
          clear HX HY HZ HW l0
          by_cases hlt : X < Y
          · have hrr : r = RM.fracN true (Y - X) Z := by rw [HRR.out, dA, dB]; unfold RM.tog2; rw [if_neg (by decide), if_pos hlt]
            have hdec : decide (X < Y) = true := decide_eq_true hlt
            have cS := hidd (csyx.out (by omega))
            go_wp2_with fail
            go_region_held3 (fun w' => w'.cell? ⟨w.heap.size, 0, none⟩ = some (.int .i64 a1) ∧ w'.cell? ⟨w.heap.size, 1, none⟩ = some (.int .i64 a2) ∧ w'.cell? ⟨w.heap.size + 1, 0, none⟩ = some (.int .i64 b1) ∧ w'.cell? ⟨w.heap.size + 1, 1, none⟩ = some (.int .i64 b2))
              ((first | exact KEEP.out _ cum2 | exact KEEP.out _ cum1 | exact ⟨k0, k1, k2, k3⟩ | go_keep))
              ((first
                | (go_at_call 97; refine (cS.out _ _ _ HYl.out.drew HXl.out.drew).mono ?_; rintro E0 x1 ⟨v1, rfl, h1, l1⟩; have cum1 : Below (((w.alloc (.cells #[.int .i64 a1, .int .i64 a2] 25)).alloc (.cells #[.int .i64 b1, .int .i64 b2] 25)).alloc (.cells #[.int .i64 0, .int .i64 0] 25)).heap.size (((w.alloc (.cells #[.int .i64 a1, .int .i64 a2] 25)).alloc (.cells #[.int .i64 b1, .int .i64 b2] 25)).alloc (.cells #[.int .i64 0, .int .i64 0] 25)) x1 := (by first | exact below_step (Below.drew HWl.out) l1 | exact below_step HWl.out l1))
                | (go_at_call 95; refine (cf.out true (Y - X) (by have := X15'.out; have := Y15'.out; omega) _ _ _ h1 (HZl.out.drew.below l1)).mono ?_; rintro E1 x2 ⟨rfl, l2⟩; have cum2 : Below (((w.alloc (.cells #[.int .i64 a1, .int .i64 a2] 25)).alloc (.cells #[.int .i64 b1, .int .i64 b2] 25)).alloc (.cells #[.int .i64 0, .int .i64 0] 25)).heap.size (((w.alloc (.cells #[.int .i64 a1, .int .i64 a2] 25)).alloc (.cells #[.int .i64 b1, .int .i64 b2] 25)).alloc (.cells #[.int .i64 0, .int .i64 0] 25)) x2 := (by first | exact below_step cum1 l2 | exact below_step (Below.drew (Below.refl _ _)) l2 | exact below_step (Below.refl _ _) l2); obtain ⟨z3, y0, y1, y2, y3⟩ := HB3.out.step cum2; obtain ⟨j0, j1, j2, j3⟩ := KEEP.out _ cum2)))
            all_goals go_wp2_with fail
            all_goals (have hlast := HBW.out.trans (cum2.mono HBW.out.size); have HLAST := hidd hlast; have HRX := hidd hrr; clear hlast hrr; refine bodyPost_ret (v := .tuple #[.agg #[.int .i64 (RM.fracN true (Y - X) Z).1, .int .i64 (RM.fracN true (Y - X) Z).2.1], .int .i64 (RM.fracN true (Y - X) Z).2.2]) ?_ rfl ⟨?_, ?_⟩)
            all_goals first | (rw [HRX.out]; done) | exact Below.setCell (Below.setCell HLAST.out (by simp; omega) _) (by simp; omega) _ | exact Below.drew (Below.setCell (Below.setCell HLAST.out (by simp; omega) _) (by simp; omega) _) | (simp [results, Tryz.results66, go_sem, *]; done)
          · have hdec : decide (X < Y) = false := decide_eq_false hlt
            go_wp2_with fail
            refine (csxy.out (by omega) _ _ _ HXl.out HYl.out).mono ?_
            rintro e x1 ⟨v1, rfl, h1, l1⟩
            have cum1 := below_step HWl.out l1
            have HV := hidd h1
            have HZ1 := hidd (HZl.out.below l1)
            have CUM1 := hidd cum1
            obtain ⟨Av, n9, cv, rfl, n90, n91⟩ := h1.slice
            obtain ⟨k0, k1, k2, k3⟩ := KEEP.out _ cum1
            clear l1 cum1
            have hrr : r = RM.fracN false (X - Y) Z := by rw [HRR.out, dA, dB]; unfold RM.tog2; rw [if_neg (by decide), if_neg hlt]
            have HV2 := hidd (cf.out false (X - Y) (by have := X15'.out; have := Y15'.out; omega) _ _ _ HV.out HZ1.out)
            go_wp2_with fail
            refine HV2.out.mono ?_
            rintro e x2 ⟨rfl, l2⟩
            have cum2 := below_step CUM1.out l2
            obtain ⟨z3, y0, y1, y2, y3⟩ := HB3.out.step cum2
            all_goals go_wp2_with fail
            all_goals (have hlast := HBW.out.trans (cum2.mono HBW.out.size); have HLAST := hidd hlast; have HRX := hidd hrr; clear hlast hrr; refine bodyPost_ret (v := .tuple #[.agg #[.int .i64 (RM.fracN false (X - Y) Z).1, .int .i64 (RM.fracN false (X - Y) Z).2.1], .int .i64 (RM.fracN false (X - Y) Z).2.2]) ?_ rfl ⟨?_, ?_⟩)
            all_goals first | (rw [HRX.out]; done) | exact Below.setCell (Below.setCell HLAST.out (by simp; omega) _) (by simp; omega) _ | exact Below.drew (Below.setCell (Below.setCell HLAST.out (by simp; omega) _) (by simp; omega) _) | (simp [results, Tryz.results66, go_sem, *]; done)
        · have dB : decide (b1 < 0) = false := decide_eq_false gb
          have hrr : r = RM.fracN false (X + Y) Z := by rw [HRR.out, dA, dB]; unfold RM.tog2; rw [if_pos rfl]
          go_wp2_with fail
          go_region_held3 (fun w' => w'.cell? ⟨w.heap.size, 0, none⟩ = some (.int .i64 a1) ∧ w'.cell? ⟨w.heap.size, 1, none⟩ = some (.int .i64 a2) ∧ w'.cell? ⟨w.heap.size + 1, 0, none⟩ = some (.int .i64 b1) ∧ w'.cell? ⟨w.heap.size + 1, 1, none⟩ = some (.int .i64 b2))
            ((first | exact KEEP.out _ cum2 | exact KEEP.out _ cum1 | exact ⟨k0, k1, k2, k3⟩ | go_keep))
            ((first
              | (go_at_call 96; refine (cadd.out _ _ _ HX.out.drew HY.out.drew).mono ?_; rintro E0 x1 ⟨v1, rfl, h1, l1⟩; have cum1 : Below (((w.alloc (.cells #[.int .i64 a1, .int .i64 a2] 25)).alloc (.cells #[.int .i64 b1, .int .i64 b2] 25)).alloc (.cells #[.int .i64 0, .int .i64 0] 25)).heap.size (((w.alloc (.cells #[.int .i64 a1, .int .i64 a2] 25)).alloc (.cells #[.int .i64 b1, .int .i64 b2] 25)).alloc (.cells #[.int .i64 0, .int .i64 0] 25)) x1 := (by first | exact below_step (Below.drew HW.out) l1 | exact below_step HW.out l1))
              | (go_at_call 95; refine (cf.out false (X + Y) (by have := X15'.out; have := Y15'.out; omega) _ _ _ h1 (HZ.out.drew.below l1)).mono ?_; rintro E1 x2 ⟨rfl, l2⟩; have cum2 : Below (((w.alloc (.cells #[.int .i64 a1, .int .i64 a2] 25)).alloc (.cells #[.int .i64 b1, .int .i64 b2] 25)).alloc (.cells #[.int .i64 0, .int .i64 0] 25)).heap.size (((w.alloc (.cells #[.int .i64 a1, .int .i64 a2] 25)).alloc (.cells #[.int .i64 b1, .int .i64 b2] 25)).alloc (.cells #[.int .i64 0, .int .i64 0] 25)) x2 := (by first | exact below_step cum1 l2 | exact below_step (Below.drew (Below.refl _ _)) l2 | exact below_step (Below.refl _ _) l2); obtain ⟨z3, y0, y1, y2, y3⟩ := HB3.out.step cum2; obtain ⟨j0, j1, j2, j3⟩ := KEEP.out _ cum2)))
          all_goals go_wp2_with fail
          all_goals (have hlast := HBW.out.trans (cum2.mono HBW.out.size); have HLAST := hidd hlast; have HRX := hidd hrr; clear hlast hrr; refine bodyPost_ret (v := .tuple #[.agg #[.int .i64 (RM.fracN false (X + Y) Z).1, .int .i64 (RM.fracN false (X + Y) Z).2.1], .int .i64 (RM.fracN false (X + Y) Z).2.2]) ?_ rfl ⟨?_, ?_⟩)
          all_goals first | (rw [HRX.out]; done) | exact Below.setCell (Below.setCell HLAST.out (by simp; omega) _) (by simp; omega) _ | exact Below.drew (Below.setCell (Below.setCell HLAST.out (by simp; omega) _) (by simp; omega) _) | (simp [results, Tryz.results66, go_sem, *]; done)
end Go.Proofs.YtokcalmmmfakcaaGreat
