/- The document's quotient of two fractions; a fraction, turned round. -/
import Derived.Test.YtokcalmmmfakcaaGreatBgQ
import Derived.Test.YtokcalmmmfakcaaGreatRatPo
namespace Go.Proofs.YtokcalmmmfakcaaGreat
set_option linter.unusedVariables false
open Go.RowKit
attribute [local go_sem ↓] Go.wp_at_zero Go.wp_at_succ

theorem divT_frac (a1 a2 b1 b2 : Int) (h0 : ¬ b1 = 0) (h2 : 1 ≤ b2) : divT a1 a2 b1 b2 = RM.fracN (decide (a1 < 0) != decide (b1 < 0)) (a1.natAbs * b2.natAbs) (a2.natAbs * b1.natAbs) := by
  unfold divT RM.timesR
  rw [if_neg h0]
  by_cases h : b1 < 0
  · rw [if_pos h, Int.natAbs_neg, Int.natAbs_neg]
    have e1 : decide (-b2 < 0) = decide (b1 < 0) := by rw [decide_eq_true h]; exact decide_eq_true (by omega)
    rw [e1]
  · rw [if_neg h]
    have e1 : decide (b2 < 0) = decide (b1 < 0) := by rw [decide_eq_false h]; exact decide_eq_false (by omega)
    rw [e1]
set_option maxRecDepth 100000 in
set_option maxHeartbeats 8000000 in
theorem refBy_pos (a1 a2 b1 b2 : Int) (ha1 : -9223372036854775807 ≤ a1) (ha2 : a1 ≤ 9223372036854775807) (ha3 : 1 ≤ a2) (ha4 : a2 ≤ 9223372036854775807) (hb1 : -9223372036854775807 ≤ b1) (hb2 : b1 ≤ 9223372036854775807) (hb3 : 1 ≤ b2) (hb4 : b2 ≤ 9223372036854775807) (hb0 : ¬ b1 = 0) (w : World) :
    Calls Tryz.prog 89 #[.agg #[.int .i64 a1, .int .i64 a2], .agg #[.int .i64 b1, .int .i64 b2]] w fun e w' => e = .returned (pairOf (divT a1 a2 b1 b2)) ∧ Below w.heap.size w w' := by
  have sa := hidd (fun W => size_big a1 (by omega) ha2 W)
  have sb := hidd (fun W => size_big b1 (by omega) hb2 W)
  have oNA := hidd (fun W => (of_any a1.natAbs (by omega) W).mono fun _ _ h => h.one)
  have oNB := hidd (fun W => (of_any b1.natAbs (by omega) W).mono fun _ _ h => h.one)
  have oDA := hidd (fun W => (of_any a2.natAbs (by omega) W).mono fun _ _ h => h.one)
  have oDB := hidd (fun W => (of_any b2.natAbs (by omega) W).mono fun _ _ h => h.one)
  have e1 : ((a2.natAbs : Nat) : Int) = a2 := by omega
  have e2 : ((b2.natAbs : Nat) : Int) = b2 := by omega
  rw [e1] at oDA
  rw [e2] at oDB
  have mX := hidd (fun u v W h h' => mul_two a1.natAbs b2.natAbs (by omega) (by omega) u v W h h')
  have mD := hidd (fun u v W h h' => mul_two a2.natAbs b1.natAbs (by omega) (by omega) u v W h h')
  have q1 := nat_mul (x := a1.natAbs) (y := b2.natAbs) (by omega) (by omega)
  have q3 := nat_mul (x := a2.natAbs) (y := b1.natAbs) (by omega) (by omega)
  have hr : divT a1 a2 b1 b2 = RM.fracN (decide (a1 < 0) != decide (b1 < 0)) (a1.natAbs * b2.natAbs) (a2.natAbs * b1.natAbs) := divT_frac a1 a2 b1 b2 hb0 hb3
  unfold pairOf
  generalize hrg : divT a1 a2 b1 b2 = r at *
  generalize a1.natAbs * b2.natAbs = X at *
  generalize a2.natAbs * b1.natAbs = Z at *
  generalize a1.natAbs = NA at *
  generalize b1.natAbs = NB at *
  generalize a2.natAbs = DA at *
  generalize b2.natAbs = DB at *
  have HRR := hidd hr
  clear e1 e2 hr hrg
  generalize (NA : Int) = NAi at *
  generalize (NB : Int) = NBi at *
  have wa : IntKind.u64.wrap a2 = a2 := by rw [IntKind.wrap_u64]; omega
  have wb : IntKind.u64.wrap b2 = b2 := by rw [IntKind.wrap_u64]; omega
  have X15 : X < 65536 ^ 14 := by omega
  have Z15 : Z < 65536 ^ 14 := by omega
  clear q1 q3
  obtain ⟨B1, B2, B3, BW⟩ := boxes3 w a1 a2 b1 b2
  have KEEP := hidd (two_keep B1 B2)
  have HB3 := hidd B3
  have HBW := hidd BW
  obtain ⟨k0, k1, k2, k3⟩ := KEEP.out _ (Below.refl _ _)
  have cf := hidd (fun b u v W h h' => frac_big b X Z (by omega) (by omega) u v W h h')
  unfold pairOf at cf
  have X15' := hidd X15
  clear B1 B2 B3 BW X15 Z15
  go_enter Tryz.func89, Tryz.ntmps89
  go_wp2_with fail
  go_cut [6] (fun s6 wx => BigAt X wx s6 ∧ Below (((w.alloc (.cells #[.int .i64 a1, .int .i64 a2] 25)).alloc (.cells #[.int .i64 b1, .int .i64 b2] 25)).alloc (.cells #[.int .i64 0, .int .i64 0] 25)).heap.size (((w.alloc (.cells #[.int .i64 a1, .int .i64 a2] 25)).alloc (.cells #[.int .i64 b1, .int .i64 b2] 25)).alloc (.cells #[.int .i64 0, .int .i64 0] 25)) wx)
  case first =>
    go_region_held3 (fun w' => w'.cell? ⟨w.heap.size, 0, none⟩ = some (.int .i64 a1) ∧ w'.cell? ⟨w.heap.size, 1, none⟩ = some (.int .i64 a2) ∧ w'.cell? ⟨w.heap.size + 1, 0, none⟩ = some (.int .i64 b1) ∧ w'.cell? ⟨w.heap.size + 1, 1, none⟩ = some (.int .i64 b2))
      ((first | exact KEEP.out _ cum3 | exact KEEP.out _ cum2 | exact KEEP.out _ cum1 | exact ⟨k0, k1, k2, k3⟩ | go_keep))
      ((first
        | (go_at_call_of 68 (Value.int IntKind.i64 a1); refine (sa.out _).mono ?_; rintro E0 ws ⟨rfl, rfl⟩)
        | (go_at_call_of 70 (Value.int IntKind.u64 NAi); refine (oNA.out _).mono ?_; rintro E1 x1 ⟨u1, rfl, h1, l1⟩; have cum1 : Below (((w.alloc (.cells #[.int .i64 a1, .int .i64 a2] 25)).alloc (.cells #[.int .i64 b1, .int .i64 b2] 25)).alloc (.cells #[.int .i64 0, .int .i64 0] 25)).heap.size (((w.alloc (.cells #[.int .i64 a1, .int .i64 a2] 25)).alloc (.cells #[.int .i64 b1, .int .i64 b2] 25)).alloc (.cells #[.int .i64 0, .int .i64 0] 25)) x1 := (by first | exact below_step (Below.drew (Below.refl _ _)) l1 | exact below_step (Below.refl _ _) l1))
        | (go_at_call_of 70 (Value.int IntKind.u64 b2); refine (oDB.out _).mono ?_; rintro E2 x2 ⟨u2, rfl, h2, l2⟩; have cum2 : Below (((w.alloc (.cells #[.int .i64 a1, .int .i64 a2] 25)).alloc (.cells #[.int .i64 b1, .int .i64 b2] 25)).alloc (.cells #[.int .i64 0, .int .i64 0] 25)).heap.size (((w.alloc (.cells #[.int .i64 a1, .int .i64 a2] 25)).alloc (.cells #[.int .i64 b1, .int .i64 b2] 25)).alloc (.cells #[.int .i64 0, .int .i64 0] 25)) x2 := (by first | exact below_step cum1 l2 | exact below_step (Below.drew (Below.refl _ _)) l2 | exact below_step (Below.refl _ _) l2))
        | (go_at_call_of 91 u1; refine (mX.out _ _ _ (h1.below l2) (h2)).mono ?_; rintro E3 x3 ⟨p1, rfl, h3, l3⟩; have cum3 : Below (((w.alloc (.cells #[.int .i64 a1, .int .i64 a2] 25)).alloc (.cells #[.int .i64 b1, .int .i64 b2] 25)).alloc (.cells #[.int .i64 0, .int .i64 0] 25)).heap.size (((w.alloc (.cells #[.int .i64 a1, .int .i64 a2] 25)).alloc (.cells #[.int .i64 b1, .int .i64 b2] 25)).alloc (.cells #[.int .i64 0, .int .i64 0] 25)) x3 := (by first | exact below_step cum2 l3 | exact below_step cum1 l3 | exact below_step (Below.drew (Below.refl _ _)) l3 | exact below_step (Below.refl _ _) l3))))
    all_goals go_wp2_with fail
    all_goals go_meet
    all_goals exact ⟨h3, cum3⟩
  case rest =>
    obtain ⟨hX, hW⟩ := hcut
    obtain ⟨Av, n9, cv, rfl, n90, n91⟩ := hX.slice
    have HX := hidd hX
    have HW := hidd hW
    obtain ⟨k0, k1, k2, k3⟩ := KEEP.out _ hW
    clear hX hW
    have hne1 : ¬ w.heap.size + 1 + 1 = w.heap.size := by omega
    have hne2 : ¬ w.heap.size = w.heap.size + 1 + 1 := by omega
    by_cases hz : X = 0
    · have hrr : r = RM.fracN false X Z := by rw [HRR.out, hz]; exact RM.fracN_zero _ _ _
      have hl1 : n9 = 0 := n90 hz
      subst hl1
      have HRR2 := hidd hrr
      clear n90 n91 hz hrr
      go_wp2_with fail
      refine wp_region_held_drew (S := fun w' => w'.cell? ⟨w.heap.size, 0, none⟩ = some (.int .i64 a1) ∧ w'.cell? ⟨w.heap.size, 1, none⟩ = some (.int .i64 a2) ∧ w'.cell? ⟨w.heap.size + 1, 0, none⟩ = some (.int .i64 b1) ∧ w'.cell? ⟨w.heap.size + 1, 1, none⟩ = some (.int .i64 b2)) (by kernel_rfl) (by exact ⟨k0, k1, k2, k3⟩) (fun hHeld => ?_)
      refine wpAnyH_take (i := 0) (v := ?v0) (by (conv => lhs; simp only [List.getElem?_toArray, List.getElem?_cons_succ, List.getElem?_cons_zero])) (by kernel_rfl) (by kernel_rfl) (by kernel_rfl) ?hQ (Or.inl ⟨by rfl, ?hy0⟩) (by assumption) ?rest0
      case hQ => exact fun _ _ _ h => h
      case hy0 => (intro w hSw; (try dsimp only at hSw); go_simp; try (with_reducible rfl))
      try simp only [Act.put, List.setIfInBounds_toArray, List.set_cons_zero, List.set_cons_succ]
      refine wpAnyH_take (i := 1) (v := ?v1) (by (conv => lhs; simp only [List.getElem?_toArray, List.getElem?_cons_succ, List.getElem?_cons_zero])) (by kernel_rfl) (by kernel_rfl) (by kernel_rfl) ?hQ (Or.inl ⟨by rfl, ?hy1⟩) (by assumption) ?rest1
      case hQ => exact fun _ _ _ h => h
      case hy1 => (intro w hSw; (try dsimp only at hSw); go_simp; try (with_reducible rfl))
      try simp only [Act.put, List.setIfInBounds_toArray, List.set_cons_zero, List.set_cons_succ]
      refine wpAnyH_take (i := 2) (v := ?v2) (by (conv => lhs; simp only [List.getElem?_toArray, List.getElem?_cons_succ, List.getElem?_cons_zero])) (by kernel_rfl) (by kernel_rfl) (by kernel_rfl) ?hQ (Or.inl ⟨by rfl, ?hy2⟩) (by assumption) ?rest2
      case hQ => exact fun _ _ _ h => h
      case hy2 => (intro w hSw; (try dsimp only at hSw); go_simp; try (with_reducible rfl))
      try simp only [Act.put, List.setIfInBounds_toArray, List.set_cons_zero, List.set_cons_succ]
      refine wpAnyH_take (i := 3) (v := ?v3) (by (conv => lhs; simp only [List.getElem?_toArray, List.getElem?_cons_succ, List.getElem?_cons_zero])) (by kernel_rfl) (by kernel_rfl) (by kernel_rfl) ?hQ (Or.inl ⟨by rfl, ?hy3⟩) (by assumption) ?rest3
      case hQ => exact fun _ _ _ h => h
      case hy3 => (intro w hSw; (try dsimp only at hSw); go_simp; try (with_reducible rfl))
      try simp only [Act.put, List.setIfInBounds_toArray, List.set_cons_zero, List.set_cons_succ]
      refine wpAnyH_take (i := 4) (v := ?v4) (by (conv => lhs; simp only [List.getElem?_toArray, List.getElem?_cons_succ, List.getElem?_cons_zero])) (by kernel_rfl) (by kernel_rfl) (by kernel_rfl) ?hQ (Or.inl ⟨by rfl, ?hy4⟩) (by assumption) ?rest4
      case hQ => exact fun _ _ _ h => h
      case hy4 => (intro w hSw; (try dsimp only at hSw); go_simp; try (with_reducible rfl))
      try simp only [Act.put, List.setIfInBounds_toArray, List.set_cons_zero, List.set_cons_succ]
      refine wpAnyH_take (i := 5) (v := undef) (by (conv => lhs; simp only [List.getElem?_toArray, List.getElem?_cons_succ, List.getElem?_cons_zero])) (by kernel_rfl) (by kernel_rfl) (by kernel_rfl) ?hQ (Or.inr ⟨by rfl, rfl⟩) (by assumption) ?_
      case hQ => exact fun _ _ _ h => h
      try simp only [Act.put, List.setIfInBounds_toArray, List.set_cons_zero, List.set_cons_succ]
      refine wpAnyH_take (i := 6) (v := undef) (by (conv => lhs; simp only [List.getElem?_toArray, List.getElem?_cons_succ, List.getElem?_cons_zero])) (by kernel_rfl) (by kernel_rfl) (by kernel_rfl) ?hQ (Or.inr ⟨by rfl, rfl⟩) (by assumption) ?_
      case hQ => exact fun _ _ _ h => h
      try simp only [Act.put, List.setIfInBounds_toArray, List.set_cons_zero, List.set_cons_succ]
      refine wpAnyH_take (i := 7) (v := undef) (by (conv => lhs; simp only [List.getElem?_toArray, List.getElem?_cons_succ, List.getElem?_cons_zero])) (by kernel_rfl) (by kernel_rfl) (by kernel_rfl) ?hQ (Or.inr ⟨by rfl, rfl⟩) (by assumption) ?_
      case hQ => exact fun _ _ _ h => h
      try simp only [Act.put, List.setIfInBounds_toArray, List.set_cons_zero, List.set_cons_succ]
      refine wpAnyH_take (i := 8) (v := undef) (by (conv => lhs; simp only [List.getElem?_toArray, List.getElem?_cons_succ, List.getElem?_cons_zero])) (by kernel_rfl) (by kernel_rfl) (by kernel_rfl) ?hQ (Or.inr ⟨by rfl, rfl⟩) (by assumption) ?_
      case hQ => exact fun _ _ _ h => h
      try simp only [Act.put, List.setIfInBounds_toArray, List.set_cons_zero, List.set_cons_succ]
      refine wpAnyH_take (i := 9) (v := undef) (by (conv => lhs; simp only [List.getElem?_toArray, List.getElem?_cons_succ, List.getElem?_cons_zero])) (by kernel_rfl) (by kernel_rfl) (by kernel_rfl) ?hQ (Or.inr ⟨by rfl, rfl⟩) (by assumption) ?_
      case hQ => exact fun _ _ _ h => h
      try simp only [Act.put, List.setIfInBounds_toArray, List.set_cons_zero, List.set_cons_succ]
      refine wpAnyH_take (i := 10) (v := undef) (by (conv => lhs; simp only [List.getElem?_toArray, List.getElem?_cons_succ, List.getElem?_cons_zero])) (by kernel_rfl) (by kernel_rfl) (by kernel_rfl) ?hQ (Or.inr ⟨by rfl, rfl⟩) (by assumption) ?_
      case hQ => exact fun _ _ _ h => h
      try simp only [Act.put, List.setIfInBounds_toArray, List.set_cons_zero, List.set_cons_succ]
      refine wpAnyH_take (i := 11) (v := undef) (by (conv => lhs; simp only [List.getElem?_toArray, List.getElem?_cons_succ, List.getElem?_cons_zero])) (by kernel_rfl) (by kernel_rfl) (by kernel_rfl) ?hQ (Or.inr ⟨by rfl, rfl⟩) (by assumption) ?_
      case hQ => exact fun _ _ _ h => h
      try simp only [Act.put, List.setIfInBounds_toArray, List.set_cons_zero, List.set_cons_succ]
      refine wpAnyH_take (i := 12) (v := ?v12) (by (conv => lhs; simp only [List.getElem?_toArray, List.getElem?_cons_succ, List.getElem?_cons_zero])) (by kernel_rfl) (by kernel_rfl) (by kernel_rfl) ?hQ (Or.inl ⟨by rfl, ?hy12⟩) (by assumption) ?rest12
      case hQ => exact fun _ _ _ h => h
      case hy12 => (intro w hSw; (try dsimp only at hSw); go_simp; try (with_reducible rfl))
      try simp only [Act.put, List.setIfInBounds_toArray, List.set_cons_zero, List.set_cons_succ]
      refine wpAnyH_take (i := 13) (v := ?v13) (by (conv => lhs; simp only [List.getElem?_toArray, List.getElem?_cons_succ, List.getElem?_cons_zero])) (by kernel_rfl) (by kernel_rfl) (by kernel_rfl) ?hQ (Or.inl ⟨by rfl, ?hy13⟩) (by assumption) ?rest13
      case hQ => exact fun _ _ _ h => h
      case hy13 => (intro w hSw; (try dsimp only at hSw); go_simp; try (with_reducible rfl))
      try simp only [Act.put, List.setIfInBounds_toArray, List.set_cons_zero, List.set_cons_succ]
      refine wpAnyH_take (i := 14) (v := ?v14) (by (conv => lhs; simp only [List.getElem?_toArray, List.getElem?_cons_succ, List.getElem?_cons_zero])) (by kernel_rfl) (by kernel_rfl) (by kernel_rfl) ?hQ (Or.inl ⟨by rfl, ?hy14⟩) (by assumption) ?rest14
      case hQ => exact fun _ _ _ h => h
      case hy14 => (intro w hSw; (try dsimp only at hSw); go_simp; try (with_reducible rfl))
      try simp only [Act.put, List.setIfInBounds_toArray, List.set_cons_zero, List.set_cons_succ]
      refine wpAnyH_take (i := 15) (v := ?v15) (by (conv => lhs; simp only [List.getElem?_toArray, List.getElem?_cons_succ, List.getElem?_cons_zero])) (by kernel_rfl) (by kernel_rfl) (by kernel_rfl) ?hQ (Or.inl ⟨by rfl, ?hy15⟩) (by assumption) ?rest15
      case hQ => exact fun _ _ _ h => h
      case hy15 => (intro w hSw; (try dsimp only at hSw); go_simp; try (with_reducible rfl))
      try simp only [Act.put, List.setIfInBounds_toArray, List.set_cons_zero, List.set_cons_succ]
      refine wpAnyH_take (i := 17) (v := ?v17) (by (conv => lhs; simp only [List.getElem?_toArray, List.getElem?_cons_succ, List.getElem?_cons_zero])) (by kernel_rfl) (by kernel_rfl) (by kernel_rfl) ?hQ (Or.inl ⟨by rfl, ?hy17⟩) (by assumption) ?rest17
      case hQ => exact fun _ _ _ h => h
      case hy17 => (intro w hSw; (try dsimp only at hSw); go_simp; try (with_reducible rfl))
      try simp only [Act.put, List.setIfInBounds_toArray, List.set_cons_zero, List.set_cons_succ]
      refine wpAnyH_take (i := 18) (v := ?v18) (by (conv => lhs; simp only [List.getElem?_toArray, List.getElem?_cons_succ, List.getElem?_cons_zero])) (by kernel_rfl) (by kernel_rfl) (by kernel_rfl) ?hQ (Or.inl ⟨by rfl, ?hy18⟩) (by assumption) ?rest18
      case hQ => exact fun _ _ _ h => h
      case hy18 => (intro w hSw; (try dsimp only at hSw); go_simp; try (with_reducible rfl))
      try simp only [Act.put, List.setIfInBounds_toArray, List.set_cons_zero, List.set_cons_succ]
      refine wpAnyH_ready (rs := [16]) (by kernel_rfl) (by simp) ?_
      refine AllReadyH.cons (by (conv => lhs; simp only [List.getElem?_toArray, List.getElem?_cons_succ, List.getElem?_cons_zero])) (fun K hK => ?_) AllReadyH.nil
      go_simp
      go_at_call_of 70 (Value.int IntKind.u64 a2); refine (oDA.out _).mono ?_; rintro E0 x1 ⟨u1, rfl, h1, l1⟩; have cum1 : Below (((w.alloc (.cells #[.int .i64 a1, .int .i64 a2] 25)).alloc (.cells #[.int .i64 b1, .int .i64 b2] 25)).alloc (.cells #[.int .i64 0, .int .i64 0] 25)).heap.size (((w.alloc (.cells #[.int .i64 a1, .int .i64 a2] 25)).alloc (.cells #[.int .i64 b1, .int .i64 b2] 25)).alloc (.cells #[.int .i64 0, .int .i64 0] 25)) x1 := (by first | exact below_step (Below.drew HW.out) l1 | exact below_step HW.out l1); obtain ⟨j0, j1, j2, j3⟩ := KEEP.out _ cum1
      refine hK.out _ _ (by (try dsimp only); exact KEEP.out _ cum1) (fun hHeld1 => ?_)
      clear hK K
      try simp only [Act.put, List.setIfInBounds_toArray, List.set_cons_zero, List.set_cons_succ]
      refine wpAnyH_ready (rs := [19]) (by kernel_rfl) (by simp) ?_
      refine AllReadyH.cons (by (conv => lhs; simp only [List.getElem?_toArray, List.getElem?_cons_succ, List.getElem?_cons_zero])) (fun K hK => ?_) AllReadyH.nil
      go_simp
      go_at_call_of 68 (Value.int IntKind.i64 b1); refine (sb.out _).mono ?_; rintro E1 ws ⟨rfl, rfl⟩
      refine hK.out _ _ (by (try dsimp only); assumption) (fun hHeld2 => ?_)
      clear hK K
      try simp only [Act.put, List.setIfInBounds_toArray, List.set_cons_zero, List.set_cons_succ]
      refine wpAnyH_ready (rs := [20]) (by kernel_rfl) (by simp) ?_
      refine AllReadyH.cons (by (conv => lhs; simp only [List.getElem?_toArray, List.getElem?_cons_succ, List.getElem?_cons_zero])) (fun K hK => ?_) AllReadyH.nil
      go_simp
      go_at_call_of 70 (Value.int IntKind.u64 NBi); refine (oNB.out _).mono ?_; rintro E2 x2 ⟨u2, rfl, h2, l2⟩; have cum2 : Below (((w.alloc (.cells #[.int .i64 a1, .int .i64 a2] 25)).alloc (.cells #[.int .i64 b1, .int .i64 b2] 25)).alloc (.cells #[.int .i64 0, .int .i64 0] 25)).heap.size (((w.alloc (.cells #[.int .i64 a1, .int .i64 a2] 25)).alloc (.cells #[.int .i64 b1, .int .i64 b2] 25)).alloc (.cells #[.int .i64 0, .int .i64 0] 25)) x2 := (by first | exact below_step cum1 l2 | exact below_step (Below.drew HW.out) l2 | exact below_step HW.out l2); obtain ⟨j0, j1, j2, j3⟩ := KEEP.out _ cum2
      refine hK.out _ _ (by (try dsimp only); exact KEEP.out _ cum2) (fun hHeld3 => ?_)
      clear hK K
      try simp only [Act.put, List.setIfInBounds_toArray, List.set_cons_zero, List.set_cons_succ]
      refine wpAnyH_ready (rs := [21]) (by kernel_rfl) (by simp) ?_
      refine AllReadyH.cons (by (conv => lhs; simp only [List.getElem?_toArray, List.getElem?_cons_succ, List.getElem?_cons_zero])) (fun K hK => ?_) AllReadyH.nil
      go_simp
      go_at_call_of 91 u1; refine (mD.out _ _ _ (h1.below l2) (h2)).mono ?_; rintro E3 x3 ⟨p1, rfl, h3, l3⟩; have cum3 : Below (((w.alloc (.cells #[.int .i64 a1, .int .i64 a2] 25)).alloc (.cells #[.int .i64 b1, .int .i64 b2] 25)).alloc (.cells #[.int .i64 0, .int .i64 0] 25)).heap.size (((w.alloc (.cells #[.int .i64 a1, .int .i64 a2] 25)).alloc (.cells #[.int .i64 b1, .int .i64 b2] 25)).alloc (.cells #[.int .i64 0, .int .i64 0] 25)) x3 := (by first | exact below_step cum2 l3 | exact below_step cum1 l3 | exact below_step (Below.drew HW.out) l3 | exact below_step HW.out l3); obtain ⟨j0, j1, j2, j3⟩ := KEEP.out _ cum3
      refine hK.out _ _ (by (try dsimp only); exact KEEP.out _ cum3) (fun hHeld4 => ?_)
      clear hK K
      try simp only [Act.put, List.setIfInBounds_toArray, List.set_cons_zero, List.set_cons_succ]
      refine wpAnyH_ready (rs := [22]) (by kernel_rfl) (by simp) ?_
      refine AllReadyH.cons (by (conv => lhs; simp only [List.getElem?_toArray, List.getElem?_cons_succ, List.getElem?_cons_zero])) (fun K hK => ?_) AllReadyH.nil
      go_simp
      go_at_call 95; refine (cf.out false _ _ _ (((HX.out.drew.below l1).below l2).below l3) h3).mono ?_; rintro E4 x4 ⟨rfl, l4⟩; have cum4 : Below (((w.alloc (.cells #[.int .i64 a1, .int .i64 a2] 25)).alloc (.cells #[.int .i64 b1, .int .i64 b2] 25)).alloc (.cells #[.int .i64 0, .int .i64 0] 25)).heap.size (((w.alloc (.cells #[.int .i64 a1, .int .i64 a2] 25)).alloc (.cells #[.int .i64 b1, .int .i64 b2] 25)).alloc (.cells #[.int .i64 0, .int .i64 0] 25)) x4 := (by first | exact below_step cum3 l4 | exact below_step cum2 l4 | exact below_step cum1 l4 | exact below_step (Below.drew HW.out) l4 | exact below_step HW.out l4); obtain ⟨z3, y0, y1, y2, y3⟩ := HB3.out.step cum4; obtain ⟨j0, j1, j2, j3⟩ := KEEP.out _ cum4
      refine hK.out _ _ (by (try dsimp only); exact KEEP.out _ cum4) (fun hHeld5 => ?_)
      clear hK K
      try simp only [Act.put, List.setIfInBounds_toArray, List.set_cons_zero, List.set_cons_succ]
      refine wpAnyH_take (i := 23) (v := ?v23) (by (conv => lhs; simp only [List.getElem?_toArray, List.getElem?_cons_succ, List.getElem?_cons_zero])) (by kernel_rfl) (by kernel_rfl) (by kernel_rfl) ?hQ (Or.inl ⟨by rfl, ?hy23⟩) (by assumption) ?rest23
      case hQ => exact fun _ _ _ h => h
      case hy23 => (intro w hSw; (try dsimp only at hSw); go_simp; try (with_reducible rfl))
      try simp only [Act.put, List.setIfInBounds_toArray, List.set_cons_zero, List.set_cons_succ]
      refine wpAnyH_take (i := 24) (v := ?v24) (by (conv => lhs; simp only [List.getElem?_toArray, List.getElem?_cons_succ, List.getElem?_cons_zero])) (by kernel_rfl) (by kernel_rfl) (by kernel_rfl) ?hQ (Or.inl ⟨by rfl, ?hy24⟩) (by assumption) ?rest24
      case hQ => exact fun _ _ _ h => h
      case hy24 => (intro w hSw; (try dsimp only at hSw); go_simp; try (with_reducible rfl))
      try simp only [Act.put, List.setIfInBounds_toArray, List.set_cons_zero, List.set_cons_succ]
      refine wpAnyH_ready (rs := [25]) (by kernel_rfl) (by simp) ?_
      refine AllReadyH.cons (by (conv => lhs; simp only [List.getElem?_toArray, List.getElem?_cons_succ, List.getElem?_cons_zero])) (fun K hK => ?_) AllReadyH.nil
      go_simp
      skip
      refine hK.out _ _ (by (try dsimp only); exact ⟨by simp [go_sem, *], by simp [go_sem, *], by simp [go_sem, *], by simp [go_sem, *]⟩) (fun hHeld9 => ?_)
      clear hK K
      try simp only [Act.put, List.setIfInBounds_toArray, List.set_cons_zero, List.set_cons_succ]
      refine wpAnyH_take (i := 26) (v := ?v26) (by (conv => lhs; simp only [List.getElem?_toArray, List.getElem?_cons_succ, List.getElem?_cons_zero])) (by kernel_rfl) (by kernel_rfl) (by kernel_rfl) ?hQ (Or.inl ⟨by rfl, ?hy26⟩) (by assumption) ?rest26
      case hQ => exact fun _ _ _ h => h
      case hy26 => (intro w hSw; (try dsimp only at hSw); go_simp; try (with_reducible rfl))
      try simp only [Act.put, List.setIfInBounds_toArray, List.set_cons_zero, List.set_cons_succ]
      refine wpAnyH_done (by kernel_rfl) ?_ _
      all_goals (have hrr := HRR2.out)
      all_goals go_wp2_with fail
      all_goals (have hlast := HBW.out.trans (cum4.mono HBW.out.size); have HLAST := hidd hlast; have HRX := hidd hrr; clear hlast hrr; refine bodyPost_ret (v := .tuple #[.agg #[.int .i64 (RM.fracN false (X) Z).1, .int .i64 (RM.fracN false (X) Z).2.1], .int .i64 (RM.fracN false (X) Z).2.2]) ?_ rfl ⟨?_, ?_⟩)
      all_goals first | (rw [HRX.out]; done) | exact Below.setCell (Below.setCell HLAST.out (by simp; omega) _) (by simp; omega) _ | exact Below.drew (Below.setCell (Below.setCell HLAST.out (by simp; omega) _) (by simp; omega) _) | (simp [results, Tryz.results89, go_sem, *]; done)
    · have hl2 : 0 < n9 := n91 hz
      have hl1 : (0 : Int) < (n9 : Int) := by omega
      clear n90 n91 hz
      by_cases ga : a1 < 0
      · have dA : decide (a1 < 0) = true := decide_eq_true ga
        by_cases gb : b1 < 0
        · have dB : decide (b1 < 0) = true := decide_eq_true gb
          have hrr : r = RM.fracN false X Z := by rw [HRR.out, dA, dB]; rfl
          go_wp2_with fail
          go_region_held3 (fun w' => w'.cell? ⟨w.heap.size, 0, none⟩ = some (.int .i64 a1) ∧ w'.cell? ⟨w.heap.size, 1, none⟩ = some (.int .i64 a2) ∧ w'.cell? ⟨w.heap.size + 1, 0, none⟩ = some (.int .i64 b1) ∧ w'.cell? ⟨w.heap.size + 1, 1, none⟩ = some (.int .i64 b2))
            ((first | exact KEEP.out _ cum4 | exact KEEP.out _ cum3 | exact KEEP.out _ cum2 | exact KEEP.out _ cum1 | exact ⟨k0, k1, k2, k3⟩ | go_keep))
            ((first
              | (go_at_call_of 70 (Value.int IntKind.u64 a2); refine (oDA.out _).mono ?_; rintro E0 x1 ⟨u1, rfl, h1, l1⟩; have cum1 : Below (((w.alloc (.cells #[.int .i64 a1, .int .i64 a2] 25)).alloc (.cells #[.int .i64 b1, .int .i64 b2] 25)).alloc (.cells #[.int .i64 0, .int .i64 0] 25)).heap.size (((w.alloc (.cells #[.int .i64 a1, .int .i64 a2] 25)).alloc (.cells #[.int .i64 b1, .int .i64 b2] 25)).alloc (.cells #[.int .i64 0, .int .i64 0] 25)) x1 := (by first | exact below_step (Below.drew HW.out) l1 | exact below_step HW.out l1))
              | (go_at_call_of 68 (Value.int IntKind.i64 b1); refine (sb.out _).mono ?_; rintro E1 ws ⟨rfl, rfl⟩)
              | (go_at_call_of 70 (Value.int IntKind.u64 NBi); refine (oNB.out _).mono ?_; rintro E2 x2 ⟨u2, rfl, h2, l2⟩; have cum2 : Below (((w.alloc (.cells #[.int .i64 a1, .int .i64 a2] 25)).alloc (.cells #[.int .i64 b1, .int .i64 b2] 25)).alloc (.cells #[.int .i64 0, .int .i64 0] 25)).heap.size (((w.alloc (.cells #[.int .i64 a1, .int .i64 a2] 25)).alloc (.cells #[.int .i64 b1, .int .i64 b2] 25)).alloc (.cells #[.int .i64 0, .int .i64 0] 25)) x2 := (by first | exact below_step cum1 l2 | exact below_step (Below.drew (Below.refl _ _)) l2 | exact below_step (Below.refl _ _) l2))
              | (go_at_call_of 91 u1; refine (mD.out _ _ _ (h1.below l2) (h2)).mono ?_; rintro E3 x3 ⟨p1, rfl, h3, l3⟩; have cum3 : Below (((w.alloc (.cells #[.int .i64 a1, .int .i64 a2] 25)).alloc (.cells #[.int .i64 b1, .int .i64 b2] 25)).alloc (.cells #[.int .i64 0, .int .i64 0] 25)).heap.size (((w.alloc (.cells #[.int .i64 a1, .int .i64 a2] 25)).alloc (.cells #[.int .i64 b1, .int .i64 b2] 25)).alloc (.cells #[.int .i64 0, .int .i64 0] 25)) x3 := (by first | exact below_step cum2 l3 | exact below_step cum1 l3 | exact below_step (Below.drew (Below.refl _ _)) l3 | exact below_step (Below.refl _ _) l3))
              | (go_at_call 95; refine (cf.out false _ _ _ (((HX.out.drew.below l1).below l2).below l3) h3).mono ?_; rintro E4 x4 ⟨rfl, l4⟩; have cum4 : Below (((w.alloc (.cells #[.int .i64 a1, .int .i64 a2] 25)).alloc (.cells #[.int .i64 b1, .int .i64 b2] 25)).alloc (.cells #[.int .i64 0, .int .i64 0] 25)).heap.size (((w.alloc (.cells #[.int .i64 a1, .int .i64 a2] 25)).alloc (.cells #[.int .i64 b1, .int .i64 b2] 25)).alloc (.cells #[.int .i64 0, .int .i64 0] 25)) x4 := (by first | exact below_step cum3 l4 | exact below_step cum2 l4 | exact below_step cum1 l4 | exact below_step (Below.drew (Below.refl _ _)) l4 | exact below_step (Below.refl _ _) l4); obtain ⟨z3, y0, y1, y2, y3⟩ := HB3.out.step cum4; obtain ⟨j0, j1, j2, j3⟩ := KEEP.out _ cum4)))
          all_goals go_wp2_with fail
          all_goals (have hlast := HBW.out.trans (cum4.mono HBW.out.size); have HLAST := hidd hlast; have HRX := hidd hrr; clear hlast hrr; refine bodyPost_ret (v := .tuple #[.agg #[.int .i64 (RM.fracN false (X) Z).1, .int .i64 (RM.fracN false (X) Z).2.1], .int .i64 (RM.fracN false (X) Z).2.2]) ?_ rfl ⟨?_, ?_⟩)
          all_goals first | (rw [HRX.out]; done) | exact Below.setCell (Below.setCell HLAST.out (by simp; omega) _) (by simp; omega) _ | exact Below.drew (Below.setCell (Below.setCell HLAST.out (by simp; omega) _) (by simp; omega) _) | (simp [results, Tryz.results89, go_sem, *]; done)
        · have dB : decide (b1 < 0) = false := decide_eq_false gb
          have hrr : r = RM.fracN true X Z := by rw [HRR.out, dA, dB]; rfl
          go_wp2_with fail
          go_region_held3 (fun w' => w'.cell? ⟨w.heap.size, 0, none⟩ = some (.int .i64 a1) ∧ w'.cell? ⟨w.heap.size, 1, none⟩ = some (.int .i64 a2) ∧ w'.cell? ⟨w.heap.size + 1, 0, none⟩ = some (.int .i64 b1) ∧ w'.cell? ⟨w.heap.size + 1, 1, none⟩ = some (.int .i64 b2))
            ((first | exact KEEP.out _ cum4 | exact KEEP.out _ cum3 | exact KEEP.out _ cum2 | exact KEEP.out _ cum1 | exact ⟨k0, k1, k2, k3⟩ | go_keep))
            ((first
              | (go_at_call_of 70 (Value.int IntKind.u64 a2); refine (oDA.out _).mono ?_; rintro E0 x1 ⟨u1, rfl, h1, l1⟩; have cum1 : Below (((w.alloc (.cells #[.int .i64 a1, .int .i64 a2] 25)).alloc (.cells #[.int .i64 b1, .int .i64 b2] 25)).alloc (.cells #[.int .i64 0, .int .i64 0] 25)).heap.size (((w.alloc (.cells #[.int .i64 a1, .int .i64 a2] 25)).alloc (.cells #[.int .i64 b1, .int .i64 b2] 25)).alloc (.cells #[.int .i64 0, .int .i64 0] 25)) x1 := (by first | exact below_step (Below.drew HW.out) l1 | exact below_step HW.out l1))
              | (go_at_call_of 68 (Value.int IntKind.i64 b1); refine (sb.out _).mono ?_; rintro E1 ws ⟨rfl, rfl⟩)
              | (go_at_call_of 70 (Value.int IntKind.u64 NBi); refine (oNB.out _).mono ?_; rintro E2 x2 ⟨u2, rfl, h2, l2⟩; have cum2 : Below (((w.alloc (.cells #[.int .i64 a1, .int .i64 a2] 25)).alloc (.cells #[.int .i64 b1, .int .i64 b2] 25)).alloc (.cells #[.int .i64 0, .int .i64 0] 25)).heap.size (((w.alloc (.cells #[.int .i64 a1, .int .i64 a2] 25)).alloc (.cells #[.int .i64 b1, .int .i64 b2] 25)).alloc (.cells #[.int .i64 0, .int .i64 0] 25)) x2 := (by first | exact below_step cum1 l2 | exact below_step (Below.drew (Below.refl _ _)) l2 | exact below_step (Below.refl _ _) l2))
              | (go_at_call_of 91 u1; refine (mD.out _ _ _ (h1.below l2) (h2)).mono ?_; rintro E3 x3 ⟨p1, rfl, h3, l3⟩; have cum3 : Below (((w.alloc (.cells #[.int .i64 a1, .int .i64 a2] 25)).alloc (.cells #[.int .i64 b1, .int .i64 b2] 25)).alloc (.cells #[.int .i64 0, .int .i64 0] 25)).heap.size (((w.alloc (.cells #[.int .i64 a1, .int .i64 a2] 25)).alloc (.cells #[.int .i64 b1, .int .i64 b2] 25)).alloc (.cells #[.int .i64 0, .int .i64 0] 25)) x3 := (by first | exact below_step cum2 l3 | exact below_step cum1 l3 | exact below_step (Below.drew (Below.refl _ _)) l3 | exact below_step (Below.refl _ _) l3))
              | (go_at_call 95; refine (cf.out true _ _ _ (((HX.out.drew.below l1).below l2).below l3) h3).mono ?_; rintro E4 x4 ⟨rfl, l4⟩; have cum4 : Below (((w.alloc (.cells #[.int .i64 a1, .int .i64 a2] 25)).alloc (.cells #[.int .i64 b1, .int .i64 b2] 25)).alloc (.cells #[.int .i64 0, .int .i64 0] 25)).heap.size (((w.alloc (.cells #[.int .i64 a1, .int .i64 a2] 25)).alloc (.cells #[.int .i64 b1, .int .i64 b2] 25)).alloc (.cells #[.int .i64 0, .int .i64 0] 25)) x4 := (by first | exact below_step cum3 l4 | exact below_step cum2 l4 | exact below_step cum1 l4 | exact below_step (Below.drew (Below.refl _ _)) l4 | exact below_step (Below.refl _ _) l4); obtain ⟨z3, y0, y1, y2, y3⟩ := HB3.out.step cum4; obtain ⟨j0, j1, j2, j3⟩ := KEEP.out _ cum4)))
          all_goals go_wp2_with fail
          all_goals (have hlast := HBW.out.trans (cum4.mono HBW.out.size); have HLAST := hidd hlast; have HRX := hidd hrr; clear hlast hrr; refine bodyPost_ret (v := .tuple #[.agg #[.int .i64 (RM.fracN true (X) Z).1, .int .i64 (RM.fracN true (X) Z).2.1], .int .i64 (RM.fracN true (X) Z).2.2]) ?_ rfl ⟨?_, ?_⟩)
          all_goals first | (rw [HRX.out]; done) | exact Below.setCell (Below.setCell HLAST.out (by simp; omega) _) (by simp; omega) _ | exact Below.drew (Below.setCell (Below.setCell HLAST.out (by simp; omega) _) (by simp; omega) _) | (simp [results, Tryz.results89, go_sem, *]; done)
      · have dA : decide (a1 < 0) = false := decide_eq_false ga
        by_cases gb : b1 < 0
        · have dB : decide (b1 < 0) = true := decide_eq_true gb
          have hrr : r = RM.fracN true X Z := by rw [HRR.out, dA, dB]; rfl
          go_wp2_with fail
          go_region_held3 (fun w' => w'.cell? ⟨w.heap.size, 0, none⟩ = some (.int .i64 a1) ∧ w'.cell? ⟨w.heap.size, 1, none⟩ = some (.int .i64 a2) ∧ w'.cell? ⟨w.heap.size + 1, 0, none⟩ = some (.int .i64 b1) ∧ w'.cell? ⟨w.heap.size + 1, 1, none⟩ = some (.int .i64 b2))
            ((first | exact KEEP.out _ cum4 | exact KEEP.out _ cum3 | exact KEEP.out _ cum2 | exact KEEP.out _ cum1 | exact ⟨k0, k1, k2, k3⟩ | go_keep))
            ((first
              | (go_at_call_of 70 (Value.int IntKind.u64 a2); refine (oDA.out _).mono ?_; rintro E0 x1 ⟨u1, rfl, h1, l1⟩; have cum1 : Below (((w.alloc (.cells #[.int .i64 a1, .int .i64 a2] 25)).alloc (.cells #[.int .i64 b1, .int .i64 b2] 25)).alloc (.cells #[.int .i64 0, .int .i64 0] 25)).heap.size (((w.alloc (.cells #[.int .i64 a1, .int .i64 a2] 25)).alloc (.cells #[.int .i64 b1, .int .i64 b2] 25)).alloc (.cells #[.int .i64 0, .int .i64 0] 25)) x1 := (by first | exact below_step (Below.drew HW.out) l1 | exact below_step HW.out l1))
              | (go_at_call_of 68 (Value.int IntKind.i64 b1); refine (sb.out _).mono ?_; rintro E1 ws ⟨rfl, rfl⟩)
              | (go_at_call_of 70 (Value.int IntKind.u64 NBi); refine (oNB.out _).mono ?_; rintro E2 x2 ⟨u2, rfl, h2, l2⟩; have cum2 : Below (((w.alloc (.cells #[.int .i64 a1, .int .i64 a2] 25)).alloc (.cells #[.int .i64 b1, .int .i64 b2] 25)).alloc (.cells #[.int .i64 0, .int .i64 0] 25)).heap.size (((w.alloc (.cells #[.int .i64 a1, .int .i64 a2] 25)).alloc (.cells #[.int .i64 b1, .int .i64 b2] 25)).alloc (.cells #[.int .i64 0, .int .i64 0] 25)) x2 := (by first | exact below_step cum1 l2 | exact below_step (Below.drew (Below.refl _ _)) l2 | exact below_step (Below.refl _ _) l2))
              | (go_at_call_of 91 u1; refine (mD.out _ _ _ (h1.below l2) (h2)).mono ?_; rintro E3 x3 ⟨p1, rfl, h3, l3⟩; have cum3 : Below (((w.alloc (.cells #[.int .i64 a1, .int .i64 a2] 25)).alloc (.cells #[.int .i64 b1, .int .i64 b2] 25)).alloc (.cells #[.int .i64 0, .int .i64 0] 25)).heap.size (((w.alloc (.cells #[.int .i64 a1, .int .i64 a2] 25)).alloc (.cells #[.int .i64 b1, .int .i64 b2] 25)).alloc (.cells #[.int .i64 0, .int .i64 0] 25)) x3 := (by first | exact below_step cum2 l3 | exact below_step cum1 l3 | exact below_step (Below.drew (Below.refl _ _)) l3 | exact below_step (Below.refl _ _) l3))
              | (go_at_call 95; refine (cf.out true _ _ _ (((HX.out.drew.below l1).below l2).below l3) h3).mono ?_; rintro E4 x4 ⟨rfl, l4⟩; have cum4 : Below (((w.alloc (.cells #[.int .i64 a1, .int .i64 a2] 25)).alloc (.cells #[.int .i64 b1, .int .i64 b2] 25)).alloc (.cells #[.int .i64 0, .int .i64 0] 25)).heap.size (((w.alloc (.cells #[.int .i64 a1, .int .i64 a2] 25)).alloc (.cells #[.int .i64 b1, .int .i64 b2] 25)).alloc (.cells #[.int .i64 0, .int .i64 0] 25)) x4 := (by first | exact below_step cum3 l4 | exact below_step cum2 l4 | exact below_step cum1 l4 | exact below_step (Below.drew (Below.refl _ _)) l4 | exact below_step (Below.refl _ _) l4); obtain ⟨z3, y0, y1, y2, y3⟩ := HB3.out.step cum4; obtain ⟨j0, j1, j2, j3⟩ := KEEP.out _ cum4)))
          all_goals go_wp2_with fail
          all_goals (have hlast := HBW.out.trans (cum4.mono HBW.out.size); have HLAST := hidd hlast; have HRX := hidd hrr; clear hlast hrr; refine bodyPost_ret (v := .tuple #[.agg #[.int .i64 (RM.fracN true (X) Z).1, .int .i64 (RM.fracN true (X) Z).2.1], .int .i64 (RM.fracN true (X) Z).2.2]) ?_ rfl ⟨?_, ?_⟩)
          all_goals first | (rw [HRX.out]; done) | exact Below.setCell (Below.setCell HLAST.out (by simp; omega) _) (by simp; omega) _ | exact Below.drew (Below.setCell (Below.setCell HLAST.out (by simp; omega) _) (by simp; omega) _) | (simp [results, Tryz.results89, go_sem, *]; done)
        · have dB : decide (b1 < 0) = false := decide_eq_false gb
          have hrr : r = RM.fracN false X Z := by rw [HRR.out, dA, dB]; rfl
          go_wp2_with fail
          go_region_held3 (fun w' => w'.cell? ⟨w.heap.size, 0, none⟩ = some (.int .i64 a1) ∧ w'.cell? ⟨w.heap.size, 1, none⟩ = some (.int .i64 a2) ∧ w'.cell? ⟨w.heap.size + 1, 0, none⟩ = some (.int .i64 b1) ∧ w'.cell? ⟨w.heap.size + 1, 1, none⟩ = some (.int .i64 b2))
            ((first | exact KEEP.out _ cum4 | exact KEEP.out _ cum3 | exact KEEP.out _ cum2 | exact KEEP.out _ cum1 | exact ⟨k0, k1, k2, k3⟩ | go_keep))
            ((first
              | (go_at_call_of 70 (Value.int IntKind.u64 a2); refine (oDA.out _).mono ?_; rintro E0 x1 ⟨u1, rfl, h1, l1⟩; have cum1 : Below (((w.alloc (.cells #[.int .i64 a1, .int .i64 a2] 25)).alloc (.cells #[.int .i64 b1, .int .i64 b2] 25)).alloc (.cells #[.int .i64 0, .int .i64 0] 25)).heap.size (((w.alloc (.cells #[.int .i64 a1, .int .i64 a2] 25)).alloc (.cells #[.int .i64 b1, .int .i64 b2] 25)).alloc (.cells #[.int .i64 0, .int .i64 0] 25)) x1 := (by first | exact below_step (Below.drew HW.out) l1 | exact below_step HW.out l1))
              | (go_at_call_of 68 (Value.int IntKind.i64 b1); refine (sb.out _).mono ?_; rintro E1 ws ⟨rfl, rfl⟩)
              | (go_at_call_of 70 (Value.int IntKind.u64 NBi); refine (oNB.out _).mono ?_; rintro E2 x2 ⟨u2, rfl, h2, l2⟩; have cum2 : Below (((w.alloc (.cells #[.int .i64 a1, .int .i64 a2] 25)).alloc (.cells #[.int .i64 b1, .int .i64 b2] 25)).alloc (.cells #[.int .i64 0, .int .i64 0] 25)).heap.size (((w.alloc (.cells #[.int .i64 a1, .int .i64 a2] 25)).alloc (.cells #[.int .i64 b1, .int .i64 b2] 25)).alloc (.cells #[.int .i64 0, .int .i64 0] 25)) x2 := (by first | exact below_step cum1 l2 | exact below_step (Below.drew (Below.refl _ _)) l2 | exact below_step (Below.refl _ _) l2))
              | (go_at_call_of 91 u1; refine (mD.out _ _ _ (h1.below l2) (h2)).mono ?_; rintro E3 x3 ⟨p1, rfl, h3, l3⟩; have cum3 : Below (((w.alloc (.cells #[.int .i64 a1, .int .i64 a2] 25)).alloc (.cells #[.int .i64 b1, .int .i64 b2] 25)).alloc (.cells #[.int .i64 0, .int .i64 0] 25)).heap.size (((w.alloc (.cells #[.int .i64 a1, .int .i64 a2] 25)).alloc (.cells #[.int .i64 b1, .int .i64 b2] 25)).alloc (.cells #[.int .i64 0, .int .i64 0] 25)) x3 := (by first | exact below_step cum2 l3 | exact below_step cum1 l3 | exact below_step (Below.drew (Below.refl _ _)) l3 | exact below_step (Below.refl _ _) l3))
              | (go_at_call 95; refine (cf.out false _ _ _ (((HX.out.drew.below l1).below l2).below l3) h3).mono ?_; rintro E4 x4 ⟨rfl, l4⟩; have cum4 : Below (((w.alloc (.cells #[.int .i64 a1, .int .i64 a2] 25)).alloc (.cells #[.int .i64 b1, .int .i64 b2] 25)).alloc (.cells #[.int .i64 0, .int .i64 0] 25)).heap.size (((w.alloc (.cells #[.int .i64 a1, .int .i64 a2] 25)).alloc (.cells #[.int .i64 b1, .int .i64 b2] 25)).alloc (.cells #[.int .i64 0, .int .i64 0] 25)) x4 := (by first | exact below_step cum3 l4 | exact below_step cum2 l4 | exact below_step cum1 l4 | exact below_step (Below.drew (Below.refl _ _)) l4 | exact below_step (Below.refl _ _) l4); obtain ⟨z3, y0, y1, y2, y3⟩ := HB3.out.step cum4; obtain ⟨j0, j1, j2, j3⟩ := KEEP.out _ cum4)))
          all_goals go_wp2_with fail
          all_goals (have hlast := HBW.out.trans (cum4.mono HBW.out.size); have HLAST := hidd hlast; have HRX := hidd hrr; clear hlast hrr; refine bodyPost_ret (v := .tuple #[.agg #[.int .i64 (RM.fracN false (X) Z).1, .int .i64 (RM.fracN false (X) Z).2.1], .int .i64 (RM.fracN false (X) Z).2.2]) ?_ rfl ⟨?_, ?_⟩)
          all_goals first | (rw [HRX.out]; done) | exact Below.setCell (Below.setCell HLAST.out (by simp; omega) _) (by simp; omega) _ | exact Below.drew (Below.setCell (Below.setCell HLAST.out (by simp; omega) _) (by simp; omega) _) | (simp [results, Tryz.results89, go_sem, *]; done)
theorem refBy_any (a1 a2 b1 b2 : Int) (ha1 : -9223372036854775807 ≤ a1) (ha2 : a1 ≤ 9223372036854775807) (ha3 : 1 ≤ a2) (ha4 : a2 ≤ 9223372036854775807) (hb1 : -9223372036854775807 ≤ b1) (hb2 : b1 ≤ 9223372036854775807) (hb3 : 1 ≤ b2) (hb4 : b2 ≤ 9223372036854775807) (w : World) :
    Calls Tryz.prog 89 #[.agg #[.int .i64 a1, .int .i64 a2], .agg #[.int .i64 b1, .int .i64 b2]] w fun e w' => e = .returned (pairOf (divT a1 a2 b1 b2)) ∧ Below w.heap.size w w' := by
  by_cases hb0 : b1 = 0
  · subst hb0
    have e : divT a1 a2 0 b2 = (0, 0, 2) := by unfold divT; rw [if_pos rfl]
    rw [e]
    unfold pairOf
    clear e
    go_enter Tryz.func89, Tryz.ntmps89
    go_wp2_with fail
    exact bodyPost_ret (v := .tuple #[.agg #[.int .i64 0, .int .i64 0], .int .i64 2]) (by simp [results, Tryz.results89, go_sem]) rfl ⟨rfl, by (repeat' (first | (with_reducible exact Below.refl _ _) | (with_reducible assumption) | (with_reducible apply Below.setCell) | (with_reducible apply Below.alloc) | (with_reducible apply Below.drew) | (with_reducible apply below_drewN) | (with_reducible refine Below.trans ?_ (Below.mono (by assumption) ?_)) | omega | (simp; done) | (simp; omega)))⟩
  · exact refBy_pos a1 a2 b1 b2 ha1 ha2 ha3 ha4 hb1 hb2 hb3 hb4 hb0 w
theorem refMinus_any (a1 a2 : Int) (ha1 : -9223372036854775807 ≤ a1) (ha2 : a1 ≤ 9223372036854775807) (w : World) :
    Calls Tryz.prog 67 #[.agg #[.int .i64 a1, .int .i64 a2]] w fun e w' => e = .returned (.agg #[.int .i64 (-a1), .int .i64 a2]) ∧ Below w.heap.size w w' := by
  go_enter Tryz.func67, Tryz.ntmps67
  go_wp2_with fail
  exact bodyPost_ret (v := .agg #[.int .i64 (-a1), .int .i64 a2]) (by simp [results, Tryz.results67, go_sem]) rfl ⟨rfl, by (repeat' (first | (with_reducible exact Below.refl _ _) | (with_reducible assumption) | (with_reducible apply Below.setCell) | (with_reducible apply Below.alloc) | (with_reducible apply Below.drew) | (with_reducible apply below_drewN) | (with_reducible refine Below.trans ?_ (Below.mono (by assumption) ?_)) | omega | (simp; done) | (simp; omega)))⟩
end Go.Proofs.YtokcalmmmfakcaaGreat
