/- Texts that the claim hangs on, in one. -/
import Derived.Test.YtgeankdimknmiaaMgVcB
import Derived.Test.YtgeankdimknmiaaMgVcA
import Derived.Test.YtgeankdimknmiaaBgL
import Derived.Test.YtgeankdimknmiaaBgG
import Derived.Test.YtgeankdimknmiaaRatPq
import Derived.StillTailTactics
import Derived.Lib.QuietBelow
import Derived.Test.YtgeankdimknmiaaRows
import Derived.OpenShut
import Derived.ProofKit
import Derived.ChangeSame
import Derived.JoinedOf
import Derived.JoinedAt
import Derived.Carry
import Derived.Deep.Slices
import Derived.Deep.Fields
import Derived.Lib.SmallJoins
import Derived.Laws.Rows
/- The document's numbers: two of them, multiplied, added, compared, as values. -/
namespace Go.Proofs.Ytgeankdimknmiaa
set_option linter.unusedVariables false
open Go.RowKit

theorem BigAt.slice {x : Nat} {w : World} {v : Value} (h : BigAt x w v) : ∃ A n c, v = .slice A n c ∧ (x = 0 → n = 0) ∧ (x ≠ 0 → 0 < n) := by
  obtain ⟨A, c, e, _⟩ := h
  refine ⟨A, _, c, e, fun hx => by rw [hx, BM.digs_zero]; rfl, fun hx => List.length_pos_iff.2 fun h0 => hx (BM.digs_nil.1 h0)⟩
theorem BigAt.drew {x : Nat} {w : World} {v : Value} (h : BigAt x w v) : BigAt x w.drew v := h
theorem mul_two (x y : Nat) (hx : x < 65536 ^ 7) (hy : y < 65536 ^ 7) (u v : Value) (w : World) (hu : BigAt x w u) (hv : BigAt y w v) : Calls Try.prog 27 #[u, v] w (BigEnd1 (x * y) w) := by
  obtain ⟨A, c, rfl, _, _, l1⟩ := hu
  obtain ⟨B, d, rfl, _, _, l2⟩ := hv
  exact (mul_big x y hx hy A B c d _ _ rfl rfl w l1 l2).mono fun _ _ h => h.one
theorem add_two (x y : Nat) (hx : x < 65536 ^ 16) (hy : y < 65536 ^ 16) (u v : Value) (w : World) (hu : BigAt x w u) (hv : BigAt y w v) : Calls Try.prog 62 #[u, v] w (BigEnd1 (x + y) w) := by
  obtain ⟨A, c, rfl, _, _, l1⟩ := hu
  obtain ⟨B, d, rfl, _, _, l2⟩ := hv
  exact (add_big x y hx hy A B c d _ _ rfl rfl w l1 l2).mono fun _ _ h => h.one
theorem sub_two (x y : Nat) (hx : x < 65536 ^ 16) (hyx : y ≤ x) (u v : Value) (w : World) (hu : BigAt x w u) (hv : BigAt y w v) : Calls Try.prog 63 #[u, v] w (BigEnd1 (x - y) w) := by
  obtain ⟨A, c, rfl, _, _, l1⟩ := hu
  obtain ⟨B, d, rfl, _, _, l2⟩ := hv
  exact (sub_big x y hx hyx A B c d _ _ rfl rfl w l1 l2).mono fun _ _ h => h.one
theorem less_two (x y : Nat) (hx : x < 65536 ^ 16) (hy : y < 65536 ^ 16) (u v : Value) (w : World) (hu : BigAt x w u) (hv : BigAt y w v) : Calls Try.prog 28 #[u, v] w fun e w' => e = .returned (.bool (decide (x < y))) ∧ Below w.heap.size w w' := by
  obtain ⟨A, c, rfl, _, _, l1⟩ := hu
  obtain ⟨B, d, rfl, _, _, l2⟩ := hv
  exact (less_big x y hx hy A B c d _ _ rfl rfl w l1 l2).mono fun _ _ ⟨he, hq⟩ => ⟨he, quiet_below hq⟩
theorem two_keep {W : World} {a b : Nat} {x y z t : Int} (h1 : RatBox W a x y) (h2 : RatBox W b z t) : ∀ w', Below W.heap.size W w' →
    w'.cell? ⟨a, 0, none⟩ = some (.int .i64 x) ∧ w'.cell? ⟨a, 1, none⟩ = some (.int .i64 y) ∧ w'.cell? ⟨b, 0, none⟩ = some (.int .i64 z) ∧ w'.cell? ⟨b, 1, none⟩ = some (.int .i64 t) := fun w' hb => by
  obtain ⟨_, a0, a1, _, _⟩ := h1.step hb
  obtain ⟨_, b0, b1, _, _⟩ := h2.step hb
  exact ⟨a0, a1, b0, b1⟩
theorem nat_mul {x y : Nat} (hx : x ≤ 9223372036854775808) (hy : y ≤ 9223372036854775808) : x * y ≤ 9223372036854775808 * 9223372036854775808 := Nat.mul_le_mul hx hy
theorem boxes3 (w : World) (a1 a2 b1 b2 : Int) : RatBox (((w.alloc (.cells #[.int .i64 a1, .int .i64 a2] 35)).alloc (.cells #[.int .i64 b1, .int .i64 b2] 35)).alloc (.cells #[.int .i64 0, .int .i64 0] 35)) w.heap.size a1 a2 ∧ RatBox (((w.alloc (.cells #[.int .i64 a1, .int .i64 a2] 35)).alloc (.cells #[.int .i64 b1, .int .i64 b2] 35)).alloc (.cells #[.int .i64 0, .int .i64 0] 35)) (w.heap.size + 1) b1 b2 ∧ RatBox (((w.alloc (.cells #[.int .i64 a1, .int .i64 a2] 35)).alloc (.cells #[.int .i64 b1, .int .i64 b2] 35)).alloc (.cells #[.int .i64 0, .int .i64 0] 35)) (w.heap.size + 1 + 1) 0 0 ∧ Below w.heap.size w (((w.alloc (.cells #[.int .i64 a1, .int .i64 a2] 35)).alloc (.cells #[.int .i64 b1, .int .i64 b2] 35)).alloc (.cells #[.int .i64 0, .int .i64 0] 35)) := by
  refine ⟨?_, ?_, ?_, ?_⟩
  · exact ((RatBox.new w 35 a1 a2).step (below_new (Below.refl _ _) _)).step (below_new (Below.refl _ _) _)
  · have h := (RatBox.new (w.alloc (.cells #[.int .i64 a1, .int .i64 a2] 35)) 35 b1 b2).step (below_new (Below.refl _ _) (.cells #[.int .i64 0, .int .i64 0] 35))
    simpa using h
  · have h := RatBox.new ((w.alloc (.cells #[.int .i64 a1, .int .i64 a2] 35)).alloc (.cells #[.int .i64 b1, .int .i64 b2] 35)) 35 0 0
    simpa using h
  · exact below_new (below_new (below_new (Below.refl _ _) _) _) _
end Go.Proofs.Ytgeankdimknmiaa

/- The document's comparison of two fractions, and what it rounds down and up. -/
namespace Go.Proofs.Ytgeankdimknmiaa
set_option linter.unusedVariables false
open Go.RowKit

theorem cmp_parts (a1 a2 b1 b2 : Int) (h1 : 1 ≤ a2) (h2 : 1 ≤ b2) (X Y : Nat) (hX : X = a1.natAbs * b2.natAbs) (hY : Y = b1.natAbs * a2.natAbs) :
    (a1 < 0 → ¬ b1 < 0 → ordZ (a1 * b2) (b1 * a2) = -1) ∧ (¬ a1 < 0 → b1 < 0 → ordZ (a1 * b2) (b1 * a2) = 1) ∧
    (a1 < 0 → b1 < 0 → ordZ (a1 * b2) (b1 * a2) = if Y < X then -1 else if X < Y then 1 else 0) ∧ (¬ a1 < 0 → ¬ b1 < 0 → ordZ (a1 * b2) (b1 * a2) = if X < Y then -1 else if Y < X then 1 else 0) := by
  obtain ⟨d, hd⟩ : ∃ d : Nat, a2 = (d : Int) := ⟨a2.natAbs, by omega⟩
  obtain ⟨e, he⟩ : ∃ e : Nat, b2 = (e : Int) := ⟨b2.natAbs, by omega⟩
  subst hd he
  simp only [Int.natAbs_natCast] at hX hY
  refine ⟨fun a b => ?_, fun a b => ?_, fun a b => ?_, fun a b => ?_⟩
  · rw [ord_signs a1 b1 d e (by omega) (by omega) (by simp [a, b])]; simp [sgnOf, a]
  · rw [ord_signs a1 b1 d e (by omega) (by omega) (by simp [a, b])]; simp [sgnOf, a]
  · rw [ord_same a1 b1 d e (by simp [a, b]) X Y hX hY]
    by_cases h1 : X = Y
    · simp [h1]
    · by_cases h2 : X < Y
      · simp [h1, h2, a, sgnOf]; omega
      · simp [h1, h2, a, sgnOf]; omega
  · rw [ord_same a1 b1 d e (by simp [a, b]) X Y hX hY]
    by_cases h1 : X = Y
    · simp [h1]
    · by_cases h2 : X < Y
      · simp [h1, h2, a, sgnOf]
      · simp [h1, h2, a, sgnOf]; omega
theorem boxes2 (w : World) (a1 a2 b1 b2 : Int) : RatBox ((w.alloc (.cells #[.int .i64 a1, .int .i64 a2] 35)).alloc (.cells #[.int .i64 b1, .int .i64 b2] 35)) w.heap.size a1 a2 ∧ RatBox ((w.alloc (.cells #[.int .i64 a1, .int .i64 a2] 35)).alloc (.cells #[.int .i64 b1, .int .i64 b2] 35)) (w.heap.size + 1) b1 b2 ∧ Below w.heap.size w ((w.alloc (.cells #[.int .i64 a1, .int .i64 a2] 35)).alloc (.cells #[.int .i64 b1, .int .i64 b2] 35)) := by
  refine ⟨?_, ?_, ?_⟩
  · exact (RatBox.new w 35 a1 a2).step (below_new (Below.refl _ _) _)
  · have h := RatBox.new (w.alloc (.cells #[.int .i64 a1, .int .i64 a2] 35)) 35 b1 b2
    simpa using h
  · exact below_new (below_new (Below.refl _ _) _) _
set_option maxRecDepth 100000 in
set_option maxHeartbeats 8000000 in
theorem refCmp_any (a1 a2 b1 b2 : Int) (ha1 : -9223372036854775807 ≤ a1) (ha2 : a1 ≤ 9223372036854775807) (ha3 : 1 ≤ a2) (ha4 : a2 ≤ 9223372036854775807) (hb1 : -9223372036854775807 ≤ b1) (hb2 : b1 ≤ 9223372036854775807) (hb3 : 1 ≤ b2) (hb4 : b2 ≤ 9223372036854775807) (w : World) :
    Calls Try.prog 12 #[.agg #[.int .i64 a1, .int .i64 a2], .agg #[.int .i64 b1, .int .i64 b2]] w fun e w' => e = .returned (.int .i64 (ordZ (a1 * b2) (b1 * a2))) ∧ Below w.heap.size w w' := by
  have sa := hidd (fun W => size_big a1 (by omega) ha2 W)
  have sb := hidd (fun W => size_big b1 (by omega) hb2 W)
  have oNA := hidd (fun W => (of_any a1.natAbs (by omega) W).mono fun _ _ h => h.one)
  have oNB := hidd (fun W => (of_any b1.natAbs (by omega) W).mono fun _ _ h => h.one)
  have oDA := hidd (fun W => (of_any a2.natAbs (by omega) W).mono fun _ _ h => h.one)
  have oDB := hidd (fun W => (of_any b2.natAbs (by omega) W).mono fun _ _ h => h.one)
  have e1 : ((a2.natAbs : Nat) : Int) = a2 := by omega
  have e2 : ((b2.natAbs : Nat) : Int) = b2 := by omega
  rw [e1] at oDA
  rw [e2] at oDB
  have mX := hidd (fun u v W h h' => mul_two a1.natAbs b2.natAbs (by omega) (by omega) u v W h h')
  have mY := hidd (fun u v W h h' => mul_two b1.natAbs a2.natAbs (by omega) (by omega) u v W h h')
  have q1 := nat_mul (x := a1.natAbs) (y := b2.natAbs) (by omega) (by omega)
  have q2 := nat_mul (x := b1.natAbs) (y := a2.natAbs) (by omega) (by omega)
  have hcp := cmp_parts a1 a2 b1 b2 ha3 hb3 _ _ rfl rfl
  generalize ordZ (a1 * b2) (b1 * a2) = r at *
  generalize a1.natAbs * b2.natAbs = X at *
  generalize b1.natAbs * a2.natAbs = Y at *
  generalize a1.natAbs = NA at *
  generalize b1.natAbs = NB at *
  generalize a2.natAbs = DA at *
  generalize b2.natAbs = DB at *
  have HCP := hidd hcp
  clear e1 e2 hcp
  generalize (NA : Int) = NAi at *
  generalize (NB : Int) = NBi at *
  have wa : IntKind.u64.wrap a2 = a2 := by rw [IntKind.wrap_u64]; omega
  have wb : IntKind.u64.wrap b2 = b2 := by rw [IntKind.wrap_u64]; omega
  have X15 : X < 65536 ^ 14 := by omega
  have Y15 : Y < 65536 ^ 14 := by omega
  obtain ⟨B1, B2, BW⟩ := boxes2 w a1 a2 b1 b2
  have KEEP := hidd (two_keep B1 B2)
  have HBW := hidd BW
  obtain ⟨k0, k1, k2, k3⟩ := KEEP.out _ (Below.refl _ _)
  have X15' := hidd X15
  have Y15' := hidd Y15
  clear B1 B2 BW q1 q2 X15 Y15
  go_enter Try.func12, Try.ntmps12
  go_wp2_with fail
  go_cut [5, 6] (fun s6 s7 wx => BigAt X wx s6 ∧ BigAt Y wx s7 ∧ Below ((w.alloc (.cells #[.int .i64 a1, .int .i64 a2] 35)).alloc (.cells #[.int .i64 b1, .int .i64 b2] 35)).heap.size ((w.alloc (.cells #[.int .i64 a1, .int .i64 a2] 35)).alloc (.cells #[.int .i64 b1, .int .i64 b2] 35)) wx)
  case first =>
        go_region_held3 (fun w' => w'.cell? ⟨w.heap.size, 0, none⟩ = some (.int .i64 a1) ∧ w'.cell? ⟨w.heap.size, 1, none⟩ = some (.int .i64 a2) ∧ w'.cell? ⟨w.heap.size + 1, 0, none⟩ = some (.int .i64 b1) ∧ w'.cell? ⟨w.heap.size + 1, 1, none⟩ = some (.int .i64 b2))
          ((first | exact KEEP.out _ cum6 | exact KEEP.out _ cum5 | exact KEEP.out _ cum4 | exact KEEP.out _ cum3 | exact KEEP.out _ cum2 | exact KEEP.out _ cum1 | exact ⟨k0, k1, k2, k3⟩ | go_keep))
          ((first
            | (go_at_call_of 26 (Value.int IntKind.i64 a1); refine (sa.out _).mono ?_; rintro E0 ws ⟨rfl, rfl⟩)
            | (go_at_call_of 25 (Value.int IntKind.u64 NAi); refine (oNA.out _).mono ?_; rintro E1 x1 ⟨u1, rfl, h1, l1⟩; have cum1 : Below ((w.alloc (.cells #[.int .i64 a1, .int .i64 a2] 35)).alloc (.cells #[.int .i64 b1, .int .i64 b2] 35)).heap.size ((w.alloc (.cells #[.int .i64 a1, .int .i64 a2] 35)).alloc (.cells #[.int .i64 b1, .int .i64 b2] 35)) x1 := (by first | exact below_step (Below.drew (Below.refl _ _)) l1 | exact below_step (Below.refl _ _) l1))
            | (go_at_call_of 25 (Value.int IntKind.u64 b2); refine (oDB.out _).mono ?_; rintro E2 x2 ⟨u2, rfl, h2, l2⟩; have cum2 : Below ((w.alloc (.cells #[.int .i64 a1, .int .i64 a2] 35)).alloc (.cells #[.int .i64 b1, .int .i64 b2] 35)).heap.size ((w.alloc (.cells #[.int .i64 a1, .int .i64 a2] 35)).alloc (.cells #[.int .i64 b1, .int .i64 b2] 35)) x2 := (by first | exact below_step cum1 l2 | exact below_step (Below.drew (Below.refl _ _)) l2 | exact below_step (Below.refl _ _) l2))
            | (go_at_call_of 27 u1; refine (mX.out _ _ _ (h1.below l2) (h2)).mono ?_; rintro E3 x3 ⟨p1, rfl, h3, l3⟩; have cum3 : Below ((w.alloc (.cells #[.int .i64 a1, .int .i64 a2] 35)).alloc (.cells #[.int .i64 b1, .int .i64 b2] 35)).heap.size ((w.alloc (.cells #[.int .i64 a1, .int .i64 a2] 35)).alloc (.cells #[.int .i64 b1, .int .i64 b2] 35)) x3 := (by first | exact below_step cum2 l3 | exact below_step cum1 l3 | exact below_step (Below.drew (Below.refl _ _)) l3 | exact below_step (Below.refl _ _) l3))
            | (go_at_call_of 26 (Value.int IntKind.i64 b1); refine (sb.out _).mono ?_; rintro E4 ws ⟨rfl, rfl⟩)
            | (go_at_call_of 25 (Value.int IntKind.u64 NBi); refine (oNB.out _).mono ?_; rintro E5 x4 ⟨u3, rfl, h4, l4⟩; have cum4 : Below ((w.alloc (.cells #[.int .i64 a1, .int .i64 a2] 35)).alloc (.cells #[.int .i64 b1, .int .i64 b2] 35)).heap.size ((w.alloc (.cells #[.int .i64 a1, .int .i64 a2] 35)).alloc (.cells #[.int .i64 b1, .int .i64 b2] 35)) x4 := (by first | exact below_step cum3 l4 | exact below_step cum2 l4 | exact below_step cum1 l4 | exact below_step (Below.drew (Below.refl _ _)) l4 | exact below_step (Below.refl _ _) l4))
            | (go_at_call_of 25 (Value.int IntKind.u64 a2); refine (oDA.out _).mono ?_; rintro E6 x5 ⟨u4, rfl, h5, l5⟩; have cum5 : Below ((w.alloc (.cells #[.int .i64 a1, .int .i64 a2] 35)).alloc (.cells #[.int .i64 b1, .int .i64 b2] 35)).heap.size ((w.alloc (.cells #[.int .i64 a1, .int .i64 a2] 35)).alloc (.cells #[.int .i64 b1, .int .i64 b2] 35)) x5 := (by first | exact below_step cum4 l5 | exact below_step cum3 l5 | exact below_step cum2 l5 | exact below_step cum1 l5 | exact below_step (Below.drew (Below.refl _ _)) l5 | exact below_step (Below.refl _ _) l5))
            | (go_at_call_of 27 u3; refine (mY.out _ _ _ (h4.below l5) (h5)).mono ?_; rintro E7 x6 ⟨p2, rfl, h6, l6⟩; have cum6 : Below ((w.alloc (.cells #[.int .i64 a1, .int .i64 a2] 35)).alloc (.cells #[.int .i64 b1, .int .i64 b2] 35)).heap.size ((w.alloc (.cells #[.int .i64 a1, .int .i64 a2] 35)).alloc (.cells #[.int .i64 b1, .int .i64 b2] 35)) x6 := (by first | exact below_step cum5 l6 | exact below_step cum4 l6 | exact below_step cum3 l6 | exact below_step cum2 l6 | exact below_step cum1 l6 | exact below_step (Below.drew (Below.refl _ _)) l6 | exact below_step (Below.refl _ _) l6))))
        all_goals go_wp2_with fail
        all_goals go_meet
        all_goals exact ⟨((h3.below l4).below l5).below l6, h6, cum6⟩
  case rest =>
    obtain ⟨hX, hY, hW⟩ := hcut
    have HX := hidd hX
    have HY := hidd hY
    have HW := hidd hW
    obtain ⟨k0, k1, k2, k3⟩ := KEEP.out _ hW
    clear hX hY hW
    by_cases ga : a1 < 0
    · by_cases gb : b1 < 0
      · have HR := HCP.out.2.2.1 ga gb
        have ga2 : decide (a1 < 0) = true := decide_eq_true ga
        have gb2 : decide (0 ≤ b1) = false := decide_eq_false (by omega)
        by_cases hlt : Y < X
        · have hE := hidd (show r = -1 by rw [HR]; rw [if_pos hlt])
          have c1 := hidd (fun u v W h h' => less_two Y X (by have := X15'.out; have := Y15'.out; omega) (by have := X15'.out; have := Y15'.out; omega) u v W h h')
          rw [decide_eq_true hlt] at c1
          clear hlt
          go_wp2_with fail
          refine (c1.out _ _ _ HY.out HX.out).mono ?_
          rintro e wl ⟨rfl, l0⟩
          have HWl := hidd (HBW.out.trans ((below_step HW.out l0).mono HBW.out.size))
          clear l0
          go_wp2_with fail
          go_ret
          exact ⟨by rw [hE.out]; first | rfl | simp, HWl.out⟩
        · have c1 := hidd (fun u v W h h' => less_two Y X (by have := X15'.out; have := Y15'.out; omega) (by have := X15'.out; have := Y15'.out; omega) u v W h h')
          rw [decide_eq_false hlt] at c1
          by_cases hlt2 : X < Y
          · have hE := hidd (show r = 1 by rw [HR]; rw [if_neg hlt, if_pos hlt2])
            have c2 := hidd (fun u v W h h' => less_two X Y (by have := X15'.out; have := Y15'.out; omega) (by have := X15'.out; have := Y15'.out; omega) u v W h h')
            rw [decide_eq_true hlt2] at c2
            clear hlt hlt2
            go_wp2_with fail
            refine (c1.out _ _ _ HY.out HX.out).mono ?_
            rintro e wl ⟨rfl, l0⟩
            have HWl := hidd (below_step HW.out l0)
            have HA1 := hidd (HY.out.below l0)
            have HB1 := hidd (HX.out.below l0)
            clear l0
            go_wp2_with fail
            refine (c2.out _ _ _ HB1.out HA1.out).mono ?_
            rintro e wm ⟨rfl, l0⟩
            have HWm := hidd (HBW.out.trans ((below_step HWl.out l0).mono HBW.out.size))
            clear l0
            go_wp2_with fail
            go_ret
            exact ⟨by rw [hE.out]; first | rfl | simp, HWm.out⟩
          · have hE := hidd (show r = 0 by rw [HR]; rw [if_neg hlt, if_neg hlt2])
            have c2 := hidd (fun u v W h h' => less_two X Y (by have := X15'.out; have := Y15'.out; omega) (by have := X15'.out; have := Y15'.out; omega) u v W h h')
            rw [decide_eq_false hlt2] at c2
            clear hlt hlt2
            go_wp2_with fail
            refine (c1.out _ _ _ HY.out HX.out).mono ?_
            rintro e wl ⟨rfl, l0⟩
            have HWl := hidd (below_step HW.out l0)
            have HA1 := hidd (HY.out.below l0)
            have HB1 := hidd (HX.out.below l0)
            clear l0
            go_wp2_with fail
            refine (c2.out _ _ _ HB1.out HA1.out).mono ?_
            rintro e wm ⟨rfl, l0⟩
            have HWm := hidd (HBW.out.trans ((below_step HWl.out l0).mono HBW.out.size))
            clear l0
            go_wp2_with fail
            go_ret
            exact ⟨by rw [hE.out]; first | rfl | simp, HWm.out⟩
      · have hE := hidd (HCP.out.1 ga (by omega))
        have ga2 : decide (a1 < 0) = true := decide_eq_true ga
        have gb2 : decide (0 ≤ b1) = true := decide_eq_true (by omega)
        go_wp2_with fail
        go_ret
        exact ⟨by rw [hE.out]; first | rfl | simp, HBW.out.trans (HW.out.mono HBW.out.size)⟩
    · have ga2 : decide (a1 < 0) = false := decide_eq_false ga
      have ga3 : decide (0 ≤ a1) = true := decide_eq_true (by omega)
      by_cases gb : b1 < 0
      · have hE := hidd (HCP.out.2.1 (by omega) gb)
        have gb2 : decide (b1 < 0) = true := decide_eq_true gb
        go_wp2_with fail
        go_ret
        exact ⟨by rw [hE.out]; first | rfl | simp, HBW.out.trans (HW.out.mono HBW.out.size)⟩
      · have HR := HCP.out.2.2.2 (by omega) (by omega)
        have gb2 : decide (b1 < 0) = false := decide_eq_false gb
        by_cases hlt : X < Y
        · have hE := hidd (show r = -1 by rw [HR]; rw [if_pos hlt])
          have c1 := hidd (fun u v W h h' => less_two X Y (by have := X15'.out; have := Y15'.out; omega) (by have := X15'.out; have := Y15'.out; omega) u v W h h')
          rw [decide_eq_true hlt] at c1
          clear hlt
          go_wp2_with fail
          refine (c1.out _ _ _ HX.out HY.out).mono ?_
          rintro e wl ⟨rfl, l0⟩
          have HWl := hidd (HBW.out.trans ((below_step HW.out l0).mono HBW.out.size))
          clear l0
          go_wp2_with fail
          go_ret
          exact ⟨by rw [hE.out]; first | rfl | simp, HWl.out⟩
        · have c1 := hidd (fun u v W h h' => less_two X Y (by have := X15'.out; have := Y15'.out; omega) (by have := X15'.out; have := Y15'.out; omega) u v W h h')
          rw [decide_eq_false hlt] at c1
          by_cases hlt2 : Y < X
          · have hE := hidd (show r = 1 by rw [HR]; rw [if_neg hlt, if_pos hlt2])
            have c2 := hidd (fun u v W h h' => less_two Y X (by have := X15'.out; have := Y15'.out; omega) (by have := X15'.out; have := Y15'.out; omega) u v W h h')
            rw [decide_eq_true hlt2] at c2
            clear hlt hlt2
            go_wp2_with fail
            refine (c1.out _ _ _ HX.out HY.out).mono ?_
            rintro e wl ⟨rfl, l0⟩
            have HWl := hidd (below_step HW.out l0)
            have HA1 := hidd (HX.out.below l0)
            have HB1 := hidd (HY.out.below l0)
            clear l0
            go_wp2_with fail
            refine (c2.out _ _ _ HB1.out HA1.out).mono ?_
            rintro e wm ⟨rfl, l0⟩
            have HWm := hidd (HBW.out.trans ((below_step HWl.out l0).mono HBW.out.size))
            clear l0
            go_wp2_with fail
            go_ret
            exact ⟨by rw [hE.out]; first | rfl | simp, HWm.out⟩
          · have hE := hidd (show r = 0 by rw [HR]; rw [if_neg hlt, if_neg hlt2])
            have c2 := hidd (fun u v W h h' => less_two Y X (by have := X15'.out; have := Y15'.out; omega) (by have := X15'.out; have := Y15'.out; omega) u v W h h')
            rw [decide_eq_false hlt2] at c2
            clear hlt hlt2
            go_wp2_with fail
            refine (c1.out _ _ _ HX.out HY.out).mono ?_
            rintro e wl ⟨rfl, l0⟩
            have HWl := hidd (below_step HW.out l0)
            have HA1 := hidd (HX.out.below l0)
            have HB1 := hidd (HY.out.below l0)
            clear l0
            go_wp2_with fail
            refine (c2.out _ _ _ HB1.out HA1.out).mono ?_
            rintro e wm ⟨rfl, l0⟩
            have HWm := hidd (HBW.out.trans ((below_step HWl.out l0).mono HBW.out.size))
            clear l0
            go_wp2_with fail
            go_ret
            exact ⟨by rw [hE.out]; first | rfl | simp, HWm.out⟩
theorem mul_fits {q d x : Int} (h : (q * d).natAbs ≤ x.natAbs) (h0 : -9223372036854775807 ≤ x) (h1 : x ≤ 9223372036854775807) : -9223372036854775807 ≤ q * d ∧ q * d ≤ 9223372036854775807 := by omega
theorem tdiv_facts (x d : Int) (hd : 1 ≤ d) (hd1 : d ≤ 9223372036854775807) (h0 : -9223372036854775807 ≤ x) (h1 : x ≤ 9223372036854775807) :
    (-9223372036854775807 ≤ x.tdiv d ∧ x.tdiv d ≤ 9223372036854775807) ∧ (-9223372036854775807 ≤ x.tdiv d * d ∧ x.tdiv d * d ≤ 9223372036854775807) ∧
    ((x < x.tdiv d * d ∧ x / d = x.tdiv d - 1 ∧ -9223372036854775807 ≤ x.tdiv d - 1) ∨ (¬ x < x.tdiv d * d ∧ x / d = x.tdiv d)) ∧
    ((x.tdiv d * d < x ∧ -(-x / d) = x.tdiv d + 1 ∧ x.tdiv d + 1 ≤ 9223372036854775807) ∨ (¬ x.tdiv d * d < x ∧ -(-x / d) = x.tdiv d)) := by
  have e := Int.mul_tdiv_add_tmod x d
  have hm := Int.mul_comm d (x.tdiv d)
  rw [hm] at e
  clear hm
  have hlt : (x.tmod d).natAbs < d.natAbs := by rw [Int.natAbs_tmod]; exact Nat.mod_lt _ (by omega)
  have hsg : (0 ≤ x → 0 ≤ x.tmod d) ∧ (x ≤ 0 → x.tmod d ≤ 0) := by
    refine ⟨fun h => Int.tmod_nonneg d h, fun h => ?_⟩
    have := Int.tmod_nonneg d (show 0 ≤ -x by omega)
    rw [Int.neg_tmod] at this
    omega
  have hq : (x.tdiv d).natAbs ≤ x.natAbs := by rw [Int.natAbs_tdiv]; exact Nat.div_le_self _ _
  have hdv : ∀ q r : Int, x = q * d + r → 0 ≤ r → r < d → x / d = q := fun q r h1 h2 h3 => ((Int.ediv_emod_unique (show 0 < d by omega)).2 ⟨by rw [h1, Int.mul_comm]; omega, h2, h3⟩).1
  have hdn : ∀ q r : Int, -x = q * d + r → 0 ≤ r → r < d → -x / d = q := fun q r h1 h2 h3 => ((Int.ediv_emod_unique (show 0 < d by omega)).2 ⟨by rw [h1, Int.mul_comm]; omega, h2, h3⟩).1
  generalize x.tdiv d = q at *
  generalize x.tmod d = t at *
  have m1 : (q - 1) * d = q * d - d := by rw [Int.sub_mul]; omega
  have m2 : (-q) * d = -(q * d) := Int.neg_mul _ _
  have m3 : (-q - 1) * d = -(q * d) - d := by rw [Int.sub_mul]; omega
  refine ⟨by omega, by omega, ?_, ?_⟩
  · by_cases ht : t < 0
    · exact .inl ⟨by omega, hdv (q - 1) (t + d) (by omega) (by omega) (by omega), by
        by_cases h2 : 2 ≤ d
        · have hq2 : q ≤ 0 ∧ x < 0 := ⟨by
            by_cases hp : 0 < q
            · have : 1 * d ≤ q * d := Int.mul_le_mul_of_nonneg_right (by omega) (by omega)
              omega
            · omega, by omega⟩
          have h5 : (-q) * 2 ≤ (-q) * d := Int.mul_le_mul_of_nonneg_left h2 (by omega)
          rw [m2] at h5
          omega
        · omega⟩
    · exact .inr ⟨by omega, hdv q t (by omega) (by omega) (by omega)⟩
  · by_cases ht : 0 < t
    · refine .inl ⟨by omega, by rw [hdn (-q - 1) (d - t) (by omega) (by omega) (by omega)]; omega, ?_⟩
      by_cases h2 : 2 ≤ d
      · by_cases hp : 0 ≤ q
        · have : q * 2 ≤ q * d := Int.mul_le_mul_of_nonneg_left h2 hp
          omega
        · omega
      · omega
    · exact .inr ⟨by omega, by rw [hdn (-q) (-t) (by omega) (by omega) (by omega)]; omega⟩
end Go.Proofs.Ytgeankdimknmiaa

/- Clocks: ClockBound's walk. -/
namespace Go.Proofs.Ytgeankdimknmiaa.Hp
set_option linter.unusedVariables false
open Go.RowKit Go.Maps Go.Sort Go.Proofs.Ytgeankdimknmiaa.Tp
def ratV (x : Int × Int) : List Value := [.int .i64 x.1, .int .i64 x.2]
def Wd (x : Int × Int) : Prop := -9223372036854775808 ≤ x.1 ∧ x.1 ≤ 9223372036854775807 ∧ -9223372036854775808 ≤ x.2 ∧ x.2 ≤ 9223372036854775807
def rA (L : List (Int × Int)) (i : Nat) : Int × Int := L.getD i (0, 0)
theorem rA_at {L : List (Int × Int)} {i : Nat} (h : i < L.length) : rA L i = L[i] := by simp [rA, h]
theorem Lie.rat {w : World} {B : Nat} {A : Option Addr} {l : List (Int × Int)} (h : Lie ratV 2 w B A l) (i : Nat) (hi : i < l.length) :
    ∃ ad, A = some ad ∧ (ad.add (i * 2)).block < B ∧ w.cell? (ad.add (i * 2)) = some (.int .i64 (rA l i).1) ∧ w.cell? ⟨(ad.add (i * 2)).block, (ad.add (i * 2)).off + 1, none⟩ = some (.int .i64 (rA l i).2) := by
  obtain ⟨ad, e, hB, hc⟩ := h (by omega)
  have hx : l[i]? = some l[i] := List.getElem?_eq_getElem hi
  rw [rA_at hi]
  have h0 := hc i _ hx 0 _ rfl
  have h1 := hc i _ hx 1 _ rfl
  rw [← add_of_add] at h1
  exact ⟨ad, e, by rw [block_of_add]; exact hB, h0, h1⟩
/-- the bytes of those from k on, as far as n. -/
def bsum (L : List (Int × Int)) : Nat → Nat → Int
  | k, 0 => 0
  | k, m + 1 => bsum L k m + (rA L (k + m)).2
theorem bsum_front (L : List (Int × Int)) (k m : Nat) : bsum L k (m + 1) = (rA L k).2 + bsum L (k + 1) m := by
  induction m with
  | zero => simp [bsum]
  | succ m ih =>
    rw [bsum, ih, bsum, show k + 1 + m = k + (m + 1) by omega]
    omega
theorem bsum_bd {L : List (Int × Int)} {n : Nat} (h : ∀ j, j < n → 1 ≤ (rA L j).2 ∧ (rA L j).2 ≤ 2000) (k : Nat) : ∀ m, k + m ≤ n → 0 ≤ bsum L k m ∧ bsum L k m ≤ 2000 * (m : Int)
  | 0, _ => by simp [bsum]
  | m + 1, hm => by
    have := bsum_bd h k m (by omega)
    have h2 := h (k + m) (by omega)
    rw [bsum]
    omega
theorem mul_bd {r d : Int} (h0 : 1 ≤ r) (h1 : r ≤ 1000000) (h2 : -2147483647 ≤ d) (h3 : d ≤ 2147483647) : -2147483647000000 ≤ r * d ∧ r * d ≤ 2147483647000000 := by
  constructor
  · rcases Int.le_total 0 d with q | q
    · have := Int.mul_nonneg (by omega : 0 ≤ r) q; omega
    · have a := Int.mul_le_mul_of_nonpos_right h1 q
      omega
  · rcases Int.le_total 0 d with q | q
    · have a := Int.mul_le_mul_of_nonneg_right h1 q
      omega
    · have := Int.mul_nonpos_of_nonneg_of_nonpos (by omega : 0 ≤ r) q; omega
/-- what a flow's clock has come from: from the first of some packets' ticks, these packets. -/
def Cl (L : List (Int × Int)) (rate : Int) (i : Nat) (c : Int) : Prop := (i = 0 ∧ c = 0) ∨ ∃ k, k < i ∧ c = (rA L k).1 * rate + bsum L k (i - k)
theorem Cl.step {L : List (Int × Int)} {rate : Int} {i : Nat} {c : Int} (h : Cl L rate i c) (h0 : 0 ≤ (rA L i).1 * rate) : ∃ k, k ≤ i ∧ max c ((rA L i).1 * rate) + (rA L i).2 = (rA L k).1 * rate + bsum L k (i + 1 - k) := by
  have last : max c ((rA L i).1 * rate) = (rA L i).1 * rate → ∃ k, k ≤ i ∧ max c ((rA L i).1 * rate) + (rA L i).2 = (rA L k).1 * rate + bsum L k (i + 1 - k) := fun e => ⟨i, Nat.le_refl _, by
    rw [e, show i + 1 - i = 0 + 1 by omega, bsum, bsum]
    simp⟩
  rcases h with ⟨rfl, rfl⟩ | ⟨k, hk, rfl⟩
  · exact last (by omega)
  · rcases Int.le_total ((rA L i).1 * rate) ((rA L k).1 * rate + bsum L k (i - k)) with q | q
    · refine ⟨k, by omega, ?_⟩
      rw [show i + 1 - k = (i - k) + 1 by omega, bsum, show k + (i - k) = i by omega, Int.max_eq_left q]
      omega
    · exact last (Int.max_eq_right q)
def TL (ad : Addr) (i : Nat) (t z : Int) (Y : World) : Prop := Y.cell? (ad.add (i * 2)) = some (.int .i64 t) ∧ Y.cell? ⟨(ad.add (i * 2)).block, (ad.add (i * 2)).off + 1, none⟩ = some (.int .i64 z)
theorem bPut {S : Nat → Prop} {w : World} {q b : Nat} {M : List It} {T : Int} {X : Int → Int × Int} {rate y c : Int} (H : Qu S w q [⟨1, rate, 1000000000, y, c, b⟩] M T X) {i z now : Int} (hp : packB i 1 z = true) (ht : tickB now = true) (hi : ¬ ∃ x ∈ M, iD x = i) (hr : z ≤ 1000000000 - y) (hT : T < 900000) (hM : M.length < 50000) (hm : ClkB (max c (now * rate) + z) rate) :
    Calls Try.prog 9 #[.pointer (some ⟨q, 0, none⟩), .agg #[.int .i64 i, .int .i64 1, .int .i64 z], .int .i64 now] w fun e w' => e = .returned (.tuple #[.agg #[.int .i64 (frN (max c (now * rate) + z) rate), .int .i64 (frD (max c (now * rate) + z) rate)], .int .i64 0]) ∧
      ∃ S' X' n d, Qu S' w' q [⟨1, rate, 1000000000, y + z, max c (now * rate) + z, b⟩] (M ++ [(i, n, d, T + 1)]) (T + 1) X' ∧ Sav S w w' ∧ Nxt S S' w :=
  (putQ H hp ht (f := ⟨1, rate, 1000000000, y, c, b⟩) (by simp) rfl hi hr hT hM hm).mono (by
    rintro e w' ⟨rfl, S', h1, h2, h3⟩
    exact ⟨rfl, S', _, _, _, h1, h2, h3⟩)
set_option maxRecDepth 100000 in
set_option maxHeartbeats 8000000 in
theorem bound14_walk (rate more : Int) (A : Option Addr) (L : List (Int × Int)) (c : Nat) (hWd : ∀ x ∈ L, Wd x) (hlc : L.length ≤ c) (hcm : c ≤ maxLen) (w : World) (hA : Lie ratV 2 w w.heap.size A L) :
    Calls Try.prog 4 #[.int .i64 rate, .int .i64 more, .slice A L.length c] w fun e w' => e = .returned (.bool true) ∧ Below w.heap.size w w' := by
  have cK := hidd (fun W => known14_any W)
  have cN := hidd (fun W => newQ W)
  by_cases g0 : 40 < L.length
  · have z : (40 : Int) < (L.length : Int) := by omega
    generalize L.length = N at *
    clear hWd hA
    go_enter Try.func4, Try.ntmps4
    go_wp2_with fail
    refine (cK.out _).mono ?_
    rintro e w1 ⟨rfl, hb⟩
    go_wp2_with fail
    go_ret
    exact ⟨rfl, by (repeat' (first | (with_reducible exact Below.refl _ _) | (with_reducible assumption) | (with_reducible apply Below.setCell) | (with_reducible apply Below.alloc) | (with_reducible apply Below.drew) | (with_reducible apply below_drewN) | (with_reducible refine Below.trans ?_ (Below.mono (by assumption) ?_)) | omega | (simp; done) | (simp; omega)))⟩
  by_cases g1 : rate < 1
  · have z : ¬ (40 : Int) < (L.length : Int) := by omega
    generalize L.length = N at *
    clear hWd hA
    go_enter Try.func4, Try.ntmps4
    go_wp2_with fail
    refine (cK.out _).mono ?_
    rintro e w1 ⟨rfl, hb⟩
    go_wp2_with fail
    go_ret
    exact ⟨rfl, by (repeat' (first | (with_reducible exact Below.refl _ _) | (with_reducible assumption) | (with_reducible apply Below.setCell) | (with_reducible apply Below.alloc) | (with_reducible apply Below.drew) | (with_reducible apply below_drewN) | (with_reducible refine Below.trans ?_ (Below.mono (by assumption) ?_)) | omega | (simp; done) | (simp; omega)))⟩
  by_cases g2 : 1000000 < rate
  · have z : ¬ (40 : Int) < (L.length : Int) := by omega
    generalize L.length = N at *
    clear hWd hA
    go_enter Try.func4, Try.ntmps4
    go_wp2_with fail
    refine (cK.out _).mono ?_
    rintro e w1 ⟨rfl, hb⟩
    go_wp2_with fail
    go_ret
    exact ⟨rfl, by (repeat' (first | (with_reducible exact Below.refl _ _) | (with_reducible assumption) | (with_reducible apply Below.setCell) | (with_reducible apply Below.alloc) | (with_reducible apply Below.drew) | (with_reducible apply below_drewN) | (with_reducible refine Below.trans ?_ (Below.mono (by assumption) ?_)) | omega | (simp; done) | (simp; omega)))⟩
  by_cases g3 : more < 0
  · have z : ¬ (40 : Int) < (L.length : Int) := by omega
    generalize L.length = N at *
    clear hWd hA
    go_enter Try.func4, Try.ntmps4
    go_wp2_with fail
    refine (cK.out _).mono ?_
    rintro e w1 ⟨rfl, hb⟩
    go_wp2_with fail
    go_ret
    exact ⟨rfl, by (repeat' (first | (with_reducible exact Below.refl _ _) | (with_reducible assumption) | (with_reducible apply Below.setCell) | (with_reducible apply Below.alloc) | (with_reducible apply Below.drew) | (with_reducible apply below_drewN) | (with_reducible refine Below.trans ?_ (Below.mono (by assumption) ?_)) | omega | (simp; done) | (simp; omega)))⟩
  by_cases g4 : 100000 < more
  · have z : ¬ (40 : Int) < (L.length : Int) := by omega
    generalize L.length = N at *
    clear hWd hA
    go_enter Try.func4, Try.ntmps4
    go_wp2_with fail
    refine (cK.out _).mono ?_
    rintro e w1 ⟨rfl, hb⟩
    go_wp2_with fail
    go_ret
    exact ⟨rfl, by (repeat' (first | (with_reducible exact Below.refl _ _) | (with_reducible assumption) | (with_reducible apply Below.setCell) | (with_reducible apply Below.alloc) | (with_reducible apply Below.drew) | (with_reducible apply below_drewN) | (with_reducible refine Below.trans ?_ (Below.mono (by assumption) ?_)) | omega | (simp; done) | (simp; omega)))⟩
  have z40 : ¬ (40 : Int) < (L.length : Int) := by omega
  have HWd := hidd hWd
  have HA := hidd hA
  clear hA hWd
  go_enter Try.func4, Try.ntmps4
  go_wp2_with fail
  refine (cN.out _).mono ?_
  rintro e w0 ⟨q, S0, rfl, hQ, hn, hb⟩
  have Q0 : Hid (Qu S0 w0 q [] [] 0 kX0) := hidd hQ
  have B0 := hidd hb
  have N0 := hidd hn
  clear hQ hn hb
  have cA := hidd (addQ Q0.out (flow := 1) (rate := rate) (room := 1000000000) (now := 0) (by unfold flowB; exact decide_eq_true (by omega)) (by decide) (by simp) (by decide))
  go_wp2_with fail
  refine cA.out.mono ?_
  rintro e w1 ⟨rfl, S1, b, hq1, s1, n1⟩
  have st1 := q_step B0.out N0.out s1 n1
  have B1 := hidd st1.1
  have N1 := hidd st1.2
  have Q1 : Hid (Qu S1 w1 q [⟨1, rate, 1000000000, 0, 0, b⟩] [] 0 kX0) := hidd (by
    have e0 : (0 : Int) * rate = 0 := Int.zero_mul rate
    rw [e0] at hq1
    exact hq1)
  clear hq1 s1 n1 st1 cA B0 N0 Q0
  go_wp2_with fail
  have LA : Hid (Lie ratV 2 w1 w.heap.size A L) := hidd (HA.out.keep B1.out)
  have W1 := hidd B1.out.size
  go_loopg [8] L.length (fun gk s8 wr => ∃ (i : Nat) (y c : Int) (M : List It) (X : Int → Int × Int) (S : Nat → Prop), i + gk = L.length ∧ s8 = .int .i64 (i : Int) ∧ Qu S wr q [⟨1, rate, 1000000000, y, c, b⟩] M (i : Int) X ∧ (∀ k, S k → w.heap.size ≤ k) ∧ Below w.heap.size w wr ∧ M.length = i ∧ (∀ x ∈ M, iD x < (i : Int)) ∧ y ≤ 2000 * (i : Int) ∧ (Cl L rate i c ∧ 0 ≤ c ∧ c ≤ 2147483647 * 1000000 + 100000) ∧ ∀ j, j < i → (0 ≤ (rA L j).1 ∧ (rA L j).1 ≤ 2147483647) ∧ 1 ≤ (rA L j).2 ∧ (rA L j).2 ≤ 2000)
  case atStart => exact ⟨0, 0, 0, [], kX0, S1, by omega, rfl, Q1.out, N1.out, B1.out, rfl, fun x hx => absurd hx (by simp), by omega, ⟨.inl ⟨rfl, rfl⟩, by omega, by omega⟩, fun j hj => by omega⟩
  case round =>
    clear Q1 N1 B1 W1 LA
    obtain ⟨i, y, cc, M, X, S, hg, rfl, hQ, hN, hB, hM, hI, hy, hC, hJ⟩ := hrel
    have HQ := hidd hQ
    have HN := hidd hN
    have HB := hidd hB
    have HI := hidd hI
    have HC := hidd hC
    have HJ := hidd hJ
    have HM := hidd hM
    clear hQ hN hB hI hC hJ hM
    by_cases hi : i < L.length
    · have z1 : (i : Int) < (L.length : Int) := by omega
      have z2 : (0 : Int) ≤ (i : Int) := by omega
      obtain ⟨ad, rfl, ha, c0, c1⟩ := Lie.rat (HA.out.keep HB.out) i hi
      have LP := hidd (fun (j : Nat) (hj : j < L.length) => Lie.rat (HA.out.keep HB.out) j hj)
      have ER := hidd (show Hid _ from cK)
      obtain ⟨t, ht⟩ : ∃ t, (rA L i).1 = t := ⟨_, rfl⟩
      obtain ⟨z, hz⟩ : ∃ z, (rA L i).2 = z := ⟨_, rfl⟩
      rw [ht] at c0
      rw [hz] at c1
      have HT := hidd ht
      have HZ := hidd hz
      clear ht hz
      by_cases a1 : t < 0
      · go_wp2_with fail
        go_quiet (fail)
        go_wp2_with fail
        refine (cK.out _).mono ?_
        rintro e w2 ⟨rfl, hb2⟩
        go_wp2_with fail
        go_ret
        exact ⟨rfl, by have b := HB.out; have b0 := b.size; (repeat' (first | (with_reducible exact Below.refl _ _) | (with_reducible assumption) | (with_reducible apply Below.setCell) | (with_reducible apply Below.alloc) | (with_reducible apply Below.drew) | (with_reducible apply below_drewN) | (with_reducible refine Below.trans ?_ (Below.mono (by assumption) ?_)) | omega | (simp; done) | (simp; omega)))⟩
      have da1 : decide (t < 0) = false := decide_eq_false a1
      by_cases a2 : 2147483647 < t
      · go_wp2_with fail
        go_quiet (fail)
        go_wp2_with fail
        refine (cK.out _).mono ?_
        rintro e w2 ⟨rfl, hb2⟩
        go_wp2_with fail
        go_ret
        exact ⟨rfl, by have b := HB.out; have b0 := b.size; (repeat' (first | (with_reducible exact Below.refl _ _) | (with_reducible assumption) | (with_reducible apply Below.setCell) | (with_reducible apply Below.alloc) | (with_reducible apply Below.drew) | (with_reducible apply below_drewN) | (with_reducible refine Below.trans ?_ (Below.mono (by assumption) ?_)) | omega | (simp; done) | (simp; omega)))⟩
      have da2 : decide (2147483647 < t) = false := decide_eq_false a2
      by_cases a3 : z < 1
      · go_wp2_with fail
        go_quiet (fail)
        go_wp2_with fail
        refine (cK.out _).mono ?_
        rintro e w2 ⟨rfl, hb2⟩
        go_wp2_with fail
        go_ret
        exact ⟨rfl, by have b := HB.out; have b0 := b.size; (repeat' (first | (with_reducible exact Below.refl _ _) | (with_reducible assumption) | (with_reducible apply Below.setCell) | (with_reducible apply Below.alloc) | (with_reducible apply Below.drew) | (with_reducible apply below_drewN) | (with_reducible refine Below.trans ?_ (Below.mono (by assumption) ?_)) | omega | (simp; done) | (simp; omega)))⟩
      have da3 : decide (z < 1) = false := decide_eq_false a3
      by_cases a4 : 2000 < z
      · go_wp2_with fail
        go_quiet (fail)
        go_wp2_with fail
        refine (cK.out _).mono ?_
        rintro e w2 ⟨rfl, hb2⟩
        go_wp2_with fail
        go_ret
        exact ⟨rfl, by have b := HB.out; have b0 := b.size; (repeat' (first | (with_reducible exact Below.refl _ _) | (with_reducible assumption) | (with_reducible apply Below.setCell) | (with_reducible apply Below.alloc) | (with_reducible apply Below.drew) | (with_reducible apply below_drewN) | (with_reducible refine Below.trans ?_ (Below.mono (by assumption) ?_)) | omega | (simp; done) | (simp; omega)))⟩
      have da4 : decide (2000 < z) = false := decide_eq_false a4
      rcases Nat.eq_zero_or_pos i with hi0 | hi0
      · have z3 : decide ((0 : Int) < (i : Int)) = false := decide_eq_false (by omega)
        have z5 : ¬ (0 : Int) < (i : Int) := by omega
        have z6 : ¬ 0 < i := by omega
        clear hi0
        go_wp2_with fail
        go_quiet (fail)
        go_wp2_with fail
        clear LP
        generalize gk = G at *
        go_loopg [9, 10] (i + 1) (fun gk s9 s10 wr2 => ∃ m : Nat, m + gk = i + 1 ∧ s9 = .int .i64 (bsum L (i + 1 - m) m) ∧ s10 = .int .i64 ((i : Int) - (m : Int)) ∧ Below wr.heap.size wr wr2 ∧ ∀ m', 1 ≤ m' → m' ≤ m → bsum L (i + 1 - m') m' ≤ more + rate * (t - (rA L (i + 1 - m')).1))
        case atStart => exact ⟨0, by omega, rfl, by simp, by (repeat' (first | (with_reducible exact Below.refl _ _) | (with_reducible assumption) | (with_reducible apply Below.setCell) | (with_reducible apply Below.alloc) | (with_reducible apply Below.drew) | (with_reducible apply below_drewN) | (with_reducible refine Below.trans ?_ (Below.mono (by assumption) ?_)) | omega | (simp; done) | (simp; omega))), fun m' h1 h2 => by omega⟩
        case round =>
          obtain ⟨m, hmg, rfl, rfl, hbb, hc0⟩ := hrel
          have BB := hidd hbb
          have HB2 := hidd (HB.out.trans (hbb.mono HB.out.size))
          have HC0 := hidd hc0
          clear hbb hc0
          have HS := hidd (show ∀ j, j < i + 1 → (0 ≤ (rA L j).1 ∧ (rA L j).1 ≤ 2147483647) ∧ 1 ≤ (rA L j).2 ∧ (rA L j).2 ≤ 2000 from fun j hj => by
            rcases Nat.lt_or_ge j i with q | q
            · exact HJ.out j q
            · obtain rfl : j = i := by omega
              rw [HT.out, HZ.out]
              omega)
          by_cases hm : m ≤ i
          · obtain ⟨k, hk⟩ : ∃ k, k + m = i := ⟨i - m, by omega⟩
            have ek : (i : Int) - (m : Int) = (k : Int) := by omega
            rw [ek]
            obtain ⟨ad1, e1, ha1, x0, x1⟩ := Lie.rat (HA.out.keep HB2.out) k (by omega)
            obtain ⟨ad2, e2, ha2, u0, u1⟩ := Lie.rat (HA.out.keep HB2.out) i hi
            obtain rfl : ad = ad1 := by injection e1
            obtain rfl : ad = ad2 := by injection e2
            clear e1 e2 c0 c1 ek
            rw [HT.out] at u0
            have hb1 := bsum_bd (L := L) (n := i + 1) (fun j hj => (HS.out j hj).2) (k + 1) m (by omega)
            have hs1 := HS.out k (by omega)
            have hfr := bsum_front L k m
            have ei : i + 1 - m = k + 1 := by omega
            rw [ei]
            have hmi : m ≤ 40 := by omega
            have NEW : Hid (bsum L (k + 1) m + (rA L k).2 = bsum L (i + 1 - (m + 1)) (m + 1)) := hidd (by rw [show i + 1 - (m + 1) = k by omega, hfr]; omega)
            obtain ⟨tk, htk⟩ : ∃ tk, (rA L k).1 = tk := ⟨_, rfl⟩
            obtain ⟨zk, hzk⟩ : ∃ zk, (rA L k).2 = zk := ⟨_, rfl⟩
            obtain ⟨B, hB⟩ : ∃ B, bsum L (k + 1) m = B := ⟨_, rfl⟩
            rw [htk] at x0 hs1
            rw [hzk] at x1 hs1
            rw [hB] at hb1
            rw [hB, hzk] at NEW
            rw [hB]
            have HTK := hidd htk
            clear htk hzk hB hfr
            have w1 : IntKind.i64.wrap (B + zk) = B + zk := by rw [IntKind.wrap_i64]; omega
            have w2 : IntKind.i64.wrap (t - tk) = t - tk := by rw [IntKind.wrap_i64]; omega
            have mb := mul_bd (r := rate) (d := t - tk) (by omega) (by omega) (by omega) (by omega)
            have w3 : IntKind.i64.wrap (rate * (t - tk)) = rate * (t - tk) := by rw [IntKind.wrap_i64]; omega
            have w4 : IntKind.i64.wrap (more + rate * (t - tk)) = more + rate * (t - tk) := by rw [IntKind.wrap_i64]; omega
            have z0 : (0 : Int) ≤ (k : Int) := by omega
            have z9 : (k : Int) < (L.length : Int) := by omega
            have zk' : k < L.length := by omega
            by_cases hc : more + rate * (t - tk) < B + zk
            · go_wp2_with fail
              go_quiet (fail)
              go_wp2_with fail
              refine (cK.out _).mono ?_
              rintro e w2 ⟨rfl, hb2⟩
              go_wp2_with fail
              go_ret
              exact ⟨rfl, by have b := HB2.out; have b0 := b.size; (repeat' (first | (with_reducible exact Below.refl _ _) | (with_reducible assumption) | (with_reducible apply Below.setCell) | (with_reducible apply Below.alloc) | (with_reducible apply Below.drew) | (with_reducible apply below_drewN) | (with_reducible refine Below.trans ?_ (Below.mono (by assumption) ?_)) | omega | (simp; done) | (simp; omega)))⟩
            · have dc : decide (more + rate * (t - tk) < B + zk) = false := decide_eq_false hc
              go_wp2_with fail
              go_quiet (fail)
              go_wp2_with fail
              go_roundg (gk - 1)
              case measure => omega
              case rel => exact ⟨m + 1, by omega, by rw [← NEW.out], by congr 1; omega, by have b := BB.out; have b0 := b.size; (repeat' (first | (with_reducible exact Below.refl _ _) | (with_reducible assumption) | (with_reducible apply Below.setCell) | (with_reducible apply Below.alloc) | (with_reducible apply Below.drew) | (with_reducible apply below_drewN) | (with_reducible refine Below.trans ?_ (Below.mono (by assumption) ?_)) | omega | (simp; done) | (simp; omega))), fun m' h1 h2 => by
                rcases Nat.lt_or_ge m m' with q | q
                · obtain rfl : m' = m + 1 := by omega
                  rw [← NEW.out, show i + 1 - (m + 1) = k by omega, HTK.out]
                  omega
                · exact HC0.out m' h1 q⟩
          · obtain rfl : m = i + 1 := by omega
            have e10 : (i : Int) - ((i + 1 : Nat) : Int) = -1 := by omega
            rw [e10]
            clear e10
            obtain ⟨k, hk, ec⟩ := HC.out.1.step (i := i) (by rw [HT.out]; exact Int.mul_nonneg (by omega) (by omega))
            have hc1 := HC.out.2.1
            have hb := HC0.out (i + 1 - k) (by omega) (by omega)
            rw [show i + 1 - (i + 1 - k) = k by omega, show rate * (t - (rA L k).1) = t * rate - (rA L k).1 * rate by rw [Int.mul_sub, Int.mul_comm rate t, Int.mul_comm rate]] at hb
            rw [HT.out, HZ.out] at ec
            have mb := mul_bd (r := rate) (d := t) (by omega) (by omega) (by omega) (by omega)
            rw [Int.mul_comm] at mb
            have mp : 0 ≤ t * rate := Int.mul_nonneg (by omega) (by omega)
            have hle : max cc (t * rate) + z ≤ t * rate + more := by omega
            have hC : ClkB (max cc (t * rate) + z) rate := ⟨by omega, by omega, by omega, by omega⟩
            have hN : ClkB (t * rate + more) rate := ⟨by omega, by omega, by omega, by omega⟩
            have cP := hidd (fun (Y : World) (H : Qu S Y q [⟨1, rate, 1000000000, y, cc, b⟩] M (i : Int) X) => bPut H (i := (i : Int)) (z := z) (now := t) (by unfold packB; exact decide_eq_true (by omega)) (by unfold tickB; exact decide_eq_true (by omega)) (by rintro ⟨x, hx, e⟩; have := HI.out x hx; omega) (by omega) (by omega) (by rw [HM.out]; omega) hC)
            have w5 : IntKind.i64.wrap (t * rate) = t * rate := by rw [IntKind.wrap_i64]; omega
            have w6 : IntKind.i64.wrap (t * rate + more) = t * rate + more := by rw [IntKind.wrap_i64]; omega
            have cM := hidd (fun W => refMake_any (t * rate + more) rate (by omega) (by omega) (by omega) (by omega) W)
            rw [fr_make hN] at cM
            have fb1 := fr_bounds hC
            have fb2 := fr_bounds hN
            have fp1 := fr_pos hC
            have fp2 := fr_pos hN
            have fn1 : 0 ≤ frN (max cc (t * rate) + z) rate := by unfold frN; exact Int.natCast_nonneg _
            have fn2 : 0 ≤ frN (t * rate + more) rate := by unfold frN; exact Int.natCast_nonneg _
            have cC := hidd (fun W => refCmp_any (frN (max cc (t * rate) + z) rate) (frD (max cc (t * rate) + z) rate) (frN (t * rate + more) rate) (frD (t * rate + more) rate) (by omega) (by omega) (by omega) (by omega) (by omega) (by omega) (by omega) (by omega) W)
            have og : ¬ 0 < ordZ (frN (max cc (t * rate) + z) rate * frD (t * rate + more) rate) (frN (t * rate + more) rate * frD (max cc (t * rate) + z) rate) := by
              rw [ord_sgn, fr_lt hN hC]; omega
            obtain ⟨O, hO⟩ : ∃ O, ordZ (frN (max cc (t * rate) + z) rate * frD (t * rate + more) rate) (frN (t * rate + more) rate * frD (max cc (t * rate) + z) rate) = O := ⟨_, rfl⟩
            rw [hO] at cC og
            clear hO fb1 fb2 fp1 fp2 fn1 fn2
            have CK := hidd (show Cl L rate (i + 1) (max cc (t * rate) + z) ∧ 0 ≤ max cc (t * rate) + z ∧ max cc (t * rate) + z ≤ 2147483647 * 1000000 + 100000 from ⟨.inr ⟨k, by omega, ec⟩, by omega, by omega⟩)
            clear hb ec mb mp hle hC hN hc1
            generalize max cc (t * rate) + z = C at *
            generalize frN C rate = a0 at *
            generalize frD C rate = a1 at *
            generalize frN (t * rate + more) rate = b0 at *
            generalize frD (t * rate + more) rate = b1 at *
            unfold pairOf at cM
            obtain ⟨ad2, e2, ha2, u0, u1⟩ := Lie.rat (HA.out.keep HB2.out) i hi
            obtain rfl : ad = ad2 := by injection e2
            clear e2 c0 c1
            rw [HT.out] at u0
            rw [HZ.out] at u1
            have KS : Hid (∀ Y, Below w.heap.size w Y → TL ad i t z Y) := hidd (fun Y hb => by
              obtain ⟨ad3, e3, -, v0, v1⟩ := Lie.rat (HA.out.keep hb) i hi
              obtain rfl : ad = ad3 := by injection e3
              rw [HT.out] at v0
              rw [HZ.out] at v1
              exact ⟨v0, v1⟩)
            clear u0 u1
            have z0 : (0 : Int) ≤ (i : Int) := by omega
            have HQ2 := hidd (HQ.out.below BB.out)
            go_wp2_with fail
            go_cut [11, 12] (fun s11 s12 wx => ∃ (P : Nat) (S3 : Nat → Prop) (X3 : Int → Int × Int) (n d : Int), s11 = .pointer (some ⟨P, 0, none⟩) ∧ s12 = .int .i64 0 ∧ wx.heap[P]? = some (.cells #[.int .i64 a0, .int .i64 a1] 35 (0, 0)) ∧ Below w.heap.size w wx ∧ Qu S3 wx q [⟨1, rate, 1000000000, y + z, C, b⟩] (M ++ [((i : Int), n, d, (i : Int) + 1)]) ((i : Int) + 1) X3 ∧ ∀ k, S3 k → w.heap.size ≤ k)
            case first =>
              refine wp_region_held_drew (S := (fun Y => TL ad i t z Y)) (by kernel_rfl) (KS.out _ (Below.drew HB2.out)) (fun hH => ?_)
              obtain ⟨WD, hWD⟩ : ∃ WD, wr.drew = WD := ⟨_, rfl⟩
              have BD : Below w.heap.size w WD := by rw [← hWD]; exact Below.drew HB2.out
              have QD := HQ2.out.below (show Below wr.heap.size wr WD from by rw [← hWD]; exact Below.drew (Below.refl _ _))
              rw [hWD] at hH
              rw [hWD]
              clear hWD
              refine wpAnyH_take (i := 0) (v := ?vv0_1) (by (conv => lhs; simp only [List.getElem?_toArray, List.getElem?_cons_succ, List.getElem?_cons_zero])) (by kernel_rfl) (by kernel_rfl) (by kernel_rfl) ?hQ (Or.inl ⟨by rfl, ?hyv0_1⟩) hH ?restv0_1
              case hQ => exact fun _ _ _ h => h
              case hyv0_1 => (intro Y hY; obtain ⟨y0, y1⟩ := hY; go_simp; try (with_reducible rfl))
              try simp only [Act.put, List.setIfInBounds_toArray, List.set_cons_zero, List.set_cons_succ]
              refine wpAnyH_take (i := 1) (v := ?vv1_2) (by (conv => lhs; simp only [List.getElem?_toArray, List.getElem?_cons_succ, List.getElem?_cons_zero])) (by kernel_rfl) (by kernel_rfl) (by kernel_rfl) ?hQ (Or.inl ⟨by rfl, ?hyv1_2⟩) hH ?restv1_2
              case hQ => exact fun _ _ _ h => h
              case hyv1_2 => (intro Y hY; obtain ⟨y0, y1⟩ := hY; go_simp; try (with_reducible rfl))
              try simp only [Act.put, List.setIfInBounds_toArray, List.set_cons_zero, List.set_cons_succ]
              refine wpAnyH_take (i := 2) (v := ?vv2_3) (by (conv => lhs; simp only [List.getElem?_toArray, List.getElem?_cons_succ, List.getElem?_cons_zero])) (by kernel_rfl) (by kernel_rfl) (by kernel_rfl) ?hQ (Or.inl ⟨by rfl, ?hyv2_3⟩) hH ?restv2_3
              case hQ => exact fun _ _ _ h => h
              case hyv2_3 => (intro Y hY; obtain ⟨y0, y1⟩ := hY; go_simp; try (with_reducible rfl))
              try simp only [Act.put, List.setIfInBounds_toArray, List.set_cons_zero, List.set_cons_succ]
              refine wpAnyH_take (i := 3) (v := ?vv3_4) (by (conv => lhs; simp only [List.getElem?_toArray, List.getElem?_cons_succ, List.getElem?_cons_zero])) (by kernel_rfl) (by kernel_rfl) (by kernel_rfl) ?hQ (Or.inl ⟨by rfl, ?hyv3_4⟩) hH ?restv3_4
              case hQ => exact fun _ _ _ h => h
              case hyv3_4 => (intro Y hY; obtain ⟨y0, y1⟩ := hY; go_simp; try (with_reducible rfl))
              try simp only [Act.put, List.setIfInBounds_toArray, List.set_cons_zero, List.set_cons_succ]
              refine wpAnyH_take (i := 4) (v := ?vv4_5) (by (conv => lhs; simp only [List.getElem?_toArray, List.getElem?_cons_succ, List.getElem?_cons_zero])) (by kernel_rfl) (by kernel_rfl) (by kernel_rfl) ?hQ (Or.inl ⟨by rfl, ?hyv4_5⟩) hH ?restv4_5
              case hQ => exact fun _ _ _ h => h
              case hyv4_5 => (intro Y hY; obtain ⟨y0, y1⟩ := hY; go_simp; try (with_reducible rfl))
              try simp only [Act.put, List.setIfInBounds_toArray, List.set_cons_zero, List.set_cons_succ]
              refine wpAnyH_take (i := 5) (v := ?vv5_6) (by (conv => lhs; simp only [List.getElem?_toArray, List.getElem?_cons_succ, List.getElem?_cons_zero])) (by kernel_rfl) (by kernel_rfl) (by kernel_rfl) ?hQ (Or.inl ⟨by rfl, ?hyv5_6⟩) hH ?restv5_6
              case hQ => exact fun _ _ _ h => h
              case hyv5_6 => (intro Y hY; obtain ⟨y0, y1⟩ := hY; go_simp; try (with_reducible rfl))
              try simp only [Act.put, List.setIfInBounds_toArray, List.set_cons_zero, List.set_cons_succ]
              refine wpAnyH_take (i := 6) (v := ?vv6_7) (by (conv => lhs; simp only [List.getElem?_toArray, List.getElem?_cons_succ, List.getElem?_cons_zero])) (by kernel_rfl) (by kernel_rfl) (by kernel_rfl) ?hQ (Or.inl ⟨by rfl, ?hyv6_7⟩) hH ?restv6_7
              case hQ => exact fun _ _ _ h => h
              case hyv6_7 => (intro Y hY; obtain ⟨y0, y1⟩ := hY; go_simp; try (with_reducible rfl))
              try simp only [Act.put, List.setIfInBounds_toArray, List.set_cons_zero, List.set_cons_succ]
              refine wpAnyH_take (i := 7) (v := ?vv7_8) (by (conv => lhs; simp only [List.getElem?_toArray, List.getElem?_cons_succ, List.getElem?_cons_zero])) (by kernel_rfl) (by kernel_rfl) (by kernel_rfl) ?hQ (Or.inl ⟨by rfl, ?hyv7_8⟩) hH ?restv7_8
              case hQ => exact fun _ _ _ h => h
              case hyv7_8 => (intro Y hY; obtain ⟨y0, y1⟩ := hY; go_simp; try (with_reducible rfl))
              try simp only [Act.put, List.setIfInBounds_toArray, List.set_cons_zero, List.set_cons_succ]
              refine wpAnyH_take (i := 8) (v := ?vv8_9) (by (conv => lhs; simp only [List.getElem?_toArray, List.getElem?_cons_succ, List.getElem?_cons_zero])) (by kernel_rfl) (by kernel_rfl) (by kernel_rfl) ?hQ (Or.inl ⟨by rfl, ?hyv8_9⟩) hH ?restv8_9
              case hQ => exact fun _ _ _ h => h
              case hyv8_9 => (intro Y hY; obtain ⟨y0, y1⟩ := hY; go_simp; try (with_reducible rfl))
              try simp only [Act.put, List.setIfInBounds_toArray, List.set_cons_zero, List.set_cons_succ]
              refine wpAnyH_take (i := 9) (v := ?vv9_10) (by (conv => lhs; simp only [List.getElem?_toArray, List.getElem?_cons_succ, List.getElem?_cons_zero])) (by kernel_rfl) (by kernel_rfl) (by kernel_rfl) ?hQ (Or.inl ⟨by rfl, ?hyv9_10⟩) hH ?restv9_10
              case hQ => exact fun _ _ _ h => h
              case hyv9_10 => (intro Y hY; obtain ⟨y0, y1⟩ := hY; go_simp; try (with_reducible rfl))
              try simp only [Act.put, List.setIfInBounds_toArray, List.set_cons_zero, List.set_cons_succ]
              refine wpAnyH_take (i := 10) (v := ?vv10_11) (by (conv => lhs; simp only [List.getElem?_toArray, List.getElem?_cons_succ, List.getElem?_cons_zero])) (by kernel_rfl) (by kernel_rfl) (by kernel_rfl) ?hQ (Or.inl ⟨by rfl, ?hyv10_11⟩) hH ?restv10_11
              case hQ => exact fun _ _ _ h => h
              case hyv10_11 => (intro Y hY; obtain ⟨y0, y1⟩ := hY; go_simp; try (with_reducible rfl))
              try simp only [Act.put, List.setIfInBounds_toArray, List.set_cons_zero, List.set_cons_succ]
              refine wpAnyH_take (i := 11) (v := ?vv11_12) (by (conv => lhs; simp only [List.getElem?_toArray, List.getElem?_cons_succ, List.getElem?_cons_zero])) (by kernel_rfl) (by kernel_rfl) (by kernel_rfl) ?hQ (Or.inl ⟨by rfl, ?hyv11_12⟩) hH ?restv11_12
              case hQ => exact fun _ _ _ h => h
              case hyv11_12 => (intro Y hY; obtain ⟨y0, y1⟩ := hY; go_simp; try (with_reducible rfl))
              try simp only [Act.put, List.setIfInBounds_toArray, List.set_cons_zero, List.set_cons_succ]
              refine wpAnyH_take (i := 12) (v := ?vv12_13) (by (conv => lhs; simp only [List.getElem?_toArray, List.getElem?_cons_succ, List.getElem?_cons_zero])) (by kernel_rfl) (by kernel_rfl) (by kernel_rfl) ?hQ (Or.inl ⟨by rfl, ?hyv12_13⟩) hH ?restv12_13
              case hQ => exact fun _ _ _ h => h
              case hyv12_13 => (intro Y hY; obtain ⟨y0, y1⟩ := hY; go_simp; try (with_reducible rfl))
              try simp only [Act.put, List.setIfInBounds_toArray, List.set_cons_zero, List.set_cons_succ]
              refine wpAnyH_ready (rs := [13, 17]) (by kernel_rfl) (by simp) ?_
              refine AllReadyH.cons (by (conv => lhs; simp only [List.getElem?_toArray, List.getElem?_cons_succ, List.getElem?_cons_zero])) (fun K hK => ?_) (AllReadyH.cons (by (conv => lhs; simp only [List.getElem?_toArray, List.getElem?_cons_succ, List.getElem?_cons_zero])) (fun K hK => ?_) AllReadyH.nil)
              · go_simp
                go_at_call 9; refine (cP.out _ QD).mono ?_; rintro e w3 ⟨rfl, S3, X3, n3, d3, hQ3, s3, n3'⟩
                obtain ⟨hb3, hn3⟩ := q_step BD HN.out s3 n3'
                refine hK.out _ _ (KS.out _ hb3) (fun hH1 => ?_)
                clear hK hH
                try simp only [Act.put, List.setIfInBounds_toArray, List.set_cons_zero, List.set_cons_succ]
                refine wpAnyH_take (i := 14) (v := ?vva14_1) (by (conv => lhs; simp only [List.getElem?_toArray, List.getElem?_cons_succ, List.getElem?_cons_zero])) (by kernel_rfl) (by kernel_rfl) (by kernel_rfl) ?hQ (Or.inl ⟨by rfl, ?hyva14_1⟩) hH1 ?restva14_1
                case hQ => exact fun _ _ _ h => h
                case hyva14_1 => (intro Y hY; obtain ⟨y0, y1⟩ := hY; go_simp; try (with_reducible rfl))
                try simp only [Act.put, List.setIfInBounds_toArray, List.set_cons_zero, List.set_cons_succ]
                refine wpAnyH_take (i := 15) (v := ?vva15_2) (by (conv => lhs; simp only [List.getElem?_toArray, List.getElem?_cons_succ, List.getElem?_cons_zero])) (by kernel_rfl) (by kernel_rfl) (by kernel_rfl) ?hQ (Or.inl ⟨by rfl, ?hyva15_2⟩) hH1 ?restva15_2
                case hQ => exact fun _ _ _ h => h
                case hyva15_2 => (intro Y hY; obtain ⟨y0, y1⟩ := hY; go_simp; try (with_reducible rfl))
                try simp only [Act.put, List.setIfInBounds_toArray, List.set_cons_zero, List.set_cons_succ]
                refine wpAnyH_take (i := 16) (v := ?vva16_3) (by (conv => lhs; simp only [List.getElem?_toArray, List.getElem?_cons_succ, List.getElem?_cons_zero])) (by kernel_rfl) (by kernel_rfl) (by kernel_rfl) ?hQ (Or.inl ⟨by rfl, ?hyva16_3⟩) hH1 ?restva16_3
                case hQ => exact fun _ _ _ h => h
                case hyva16_3 => (intro Y hY; obtain ⟨y0, y1⟩ := hY; go_simp; try (with_reducible rfl))
                try simp only [Act.put, List.setIfInBounds_toArray, List.set_cons_zero, List.set_cons_succ]
                refine wpAnyH_ready (rs := [17]) (by kernel_rfl) (by simp) ?_
                refine AllReadyH.cons (by (conv => lhs; simp only [List.getElem?_toArray, List.getElem?_cons_succ, List.getElem?_cons_zero])) (fun K hK => ?_) AllReadyH.nil
                go_simp
                obtain ⟨W4, hW4⟩ : ∃ W, w3.alloc (.cells #[.int .i64 0, .int .i64 0] 35) = W := ⟨_, rfl⟩
                have b4 : Below w3.heap.size w3 W4 := by rw [← hW4]; exact below_new (Below.refl _ _) _
                have row4 : W4.heap[w3.heap.size]? = some (.cells #[.int .i64 0, .int .i64 0] 35 (0, 0)) := by rw [← hW4]; exact heap_alloc_new w3 _
                rw [hW4]
                have B4 := hb3.trans (b4.mono hb3.size)
                have Q4 := hQ3.below b4
                have nS : ¬ S3 w3.heap.size := fun e => by have := hQ3.lt e; omega
                have hge : w.heap.size ≤ w3.heap.size := hb3.size
                refine hK.out _ _ (KS.out _ B4) (fun hH2 => ?_)
                clear hK hH1
                try simp only [Act.put, List.setIfInBounds_toArray, List.set_cons_zero, List.set_cons_succ]
                refine wpAnyH_ready (rs := [18]) (by kernel_rfl) (by simp) ?_
                refine AllReadyH.cons (by (conv => lhs; simp only [List.getElem?_toArray, List.getElem?_cons_succ, List.getElem?_cons_zero])) (fun K hK => ?_) AllReadyH.nil
                rw [if_pos (by rfl)]
                have hrow := row4
                refine wp_store_row 35 (.tmp 11) (.tmp 140) (by rfl) w3.heap.size #[.int .i64 a0, .int .i64 a1] (by rfl) (by rfl) _ _ hrow (by kernel_rfl) (by rfl) (by simp [Value.oneCell']) ?_
                have hrow2 := setRow_heap W4 w3.heap.size _ #[.int .i64 a0, .int .i64 a1] _ _ hrow
                have bz := below_setRowV B4 hge #[.int .i64 a0, .int .i64 a1]
                have qz := Qu.keep (W' := W4.setRow w3.heap.size #[.int .i64 a0, .int .i64 a1]) Q4 (fun k hk => setRow_other _ _ _ _ (fun e => nS (e ▸ hk)))
                refine hK.out _ _ (KS.out _ bz) (fun hHz => ?_)
                clear hK
                try simp only [Act.put]
                refine wpAnyH_take (i := 19) (v := ?vvb19_1) (by (conv => lhs; simp only [List.getElem?_toArray, List.getElem?_cons_succ, List.getElem?_cons_zero])) (by kernel_rfl) (by kernel_rfl) (by kernel_rfl) ?hQ (Or.inl ⟨by rfl, ?hyvb19_1⟩) hHz ?restvb19_1
                case hQ => exact fun _ _ _ h => h
                case hyvb19_1 => (intro Y hY; obtain ⟨y0, y1⟩ := hY; go_simp; try (with_reducible rfl))
                try simp only [Act.put, List.setIfInBounds_toArray, List.set_cons_zero, List.set_cons_succ]
                refine wpAnyH_done (by kernel_rfl) (?_) _
                clear hHz
                go_wp2_with fail
                go_meet
                exact ⟨w3.heap.size, S3, X3, n3, d3, rfl, rfl, hrow2, bz, qz, hn3⟩
              · go_simp
                obtain ⟨W4, hW4⟩ : ∃ W, WD.alloc (.cells #[.int .i64 0, .int .i64 0] 35) = W := ⟨_, rfl⟩
                have b4 : Below WD.heap.size WD W4 := by rw [← hW4]; exact below_new (Below.refl _ _) _
                have row4 : W4.heap[WD.heap.size]? = some (.cells #[.int .i64 0, .int .i64 0] 35 (0, 0)) := by rw [← hW4]; exact heap_alloc_new WD _
                have lt4 : WD.heap.size < W4.heap.size := by rw [← hW4]; simp
                rw [hW4]
                have B4 := BD.trans (b4.mono BD.size)
                have Q4 := QD.below b4
                have nS4 : ¬ S WD.heap.size := fun e => by have := QD.lt e; omega
                have hge : w.heap.size ≤ WD.heap.size := BD.size
                refine hK.out _ _ (KS.out _ B4) (fun hH2 => ?_)
                clear hK hH
                try simp only [Act.put, List.setIfInBounds_toArray, List.set_cons_zero, List.set_cons_succ]
                refine wpAnyH_ready (rs := [13]) (by kernel_rfl) (by simp) ?_
                refine AllReadyH.cons (by (conv => lhs; simp only [List.getElem?_toArray, List.getElem?_cons_succ, List.getElem?_cons_zero])) (fun K hK => ?_) AllReadyH.nil
                go_simp
                go_at_call 9; refine (cP.out _ Q4).mono ?_; rintro e w3 ⟨rfl, S3, X3, n3, d3, hQ3, s3, n3'⟩
                obtain ⟨hb3, hn3⟩ := q_step B4 HN.out s3 n3'
                have row3 := (s3.block _ lt4 nS4).trans row4
                have nS : ¬ S3 WD.heap.size := fun e => nS4 (n3' _ lt4 e)
                refine hK.out _ _ (KS.out _ hb3) (fun hH3 => ?_)
                clear hK hH2
                try simp only [Act.put, List.setIfInBounds_toArray, List.set_cons_zero, List.set_cons_succ]
                refine wpAnyH_take (i := 14) (v := ?vvd14_1) (by (conv => lhs; simp only [List.getElem?_toArray, List.getElem?_cons_succ, List.getElem?_cons_zero])) (by kernel_rfl) (by kernel_rfl) (by kernel_rfl) ?hQ (Or.inl ⟨by rfl, ?hyvd14_1⟩) hH3 ?restvd14_1
                case hQ => exact fun _ _ _ h => h
                case hyvd14_1 => (intro Y hY; obtain ⟨y0, y1⟩ := hY; go_simp; try (with_reducible rfl))
                try simp only [Act.put, List.setIfInBounds_toArray, List.set_cons_zero, List.set_cons_succ]
                refine wpAnyH_take (i := 15) (v := ?vvd15_2) (by (conv => lhs; simp only [List.getElem?_toArray, List.getElem?_cons_succ, List.getElem?_cons_zero])) (by kernel_rfl) (by kernel_rfl) (by kernel_rfl) ?hQ (Or.inl ⟨by rfl, ?hyvd15_2⟩) hH3 ?restvd15_2
                case hQ => exact fun _ _ _ h => h
                case hyvd15_2 => (intro Y hY; obtain ⟨y0, y1⟩ := hY; go_simp; try (with_reducible rfl))
                try simp only [Act.put, List.setIfInBounds_toArray, List.set_cons_zero, List.set_cons_succ]
                refine wpAnyH_take (i := 16) (v := ?vvd16_3) (by (conv => lhs; simp only [List.getElem?_toArray, List.getElem?_cons_succ, List.getElem?_cons_zero])) (by kernel_rfl) (by kernel_rfl) (by kernel_rfl) ?hQ (Or.inl ⟨by rfl, ?hyvd16_3⟩) hH3 ?restvd16_3
                case hQ => exact fun _ _ _ h => h
                case hyvd16_3 => (intro Y hY; obtain ⟨y0, y1⟩ := hY; go_simp; try (with_reducible rfl))
                try simp only [Act.put, List.setIfInBounds_toArray, List.set_cons_zero, List.set_cons_succ]
                refine wpAnyH_ready (rs := [18]) (by kernel_rfl) (by simp) ?_
                refine AllReadyH.cons (by (conv => lhs; simp only [List.getElem?_toArray, List.getElem?_cons_succ, List.getElem?_cons_zero])) (fun K hK => ?_) AllReadyH.nil
                rw [if_pos (by rfl)]
                have hrow := row3
                refine wp_store_row 35 (.tmp 11) (.tmp 140) (by rfl) WD.heap.size #[.int .i64 a0, .int .i64 a1] (by rfl) (by rfl) _ _ hrow (by kernel_rfl) (by rfl) (by simp [Value.oneCell']) ?_
                have hrow2 := setRow_heap w3 WD.heap.size _ #[.int .i64 a0, .int .i64 a1] _ _ hrow
                have bz := below_setRowV hb3 hge #[.int .i64 a0, .int .i64 a1]
                have qz := Qu.keep (W' := w3.setRow WD.heap.size #[.int .i64 a0, .int .i64 a1]) hQ3 (fun k hk => setRow_other _ _ _ _ (fun e => nS (e ▸ hk)))
                refine hK.out _ _ (KS.out _ bz) (fun hHz => ?_)
                clear hK
                try simp only [Act.put]
                refine wpAnyH_take (i := 19) (v := ?vvd19_4) (by (conv => lhs; simp only [List.getElem?_toArray, List.getElem?_cons_succ, List.getElem?_cons_zero])) (by kernel_rfl) (by kernel_rfl) (by kernel_rfl) ?hQ (Or.inl ⟨by rfl, ?hyvd19_4⟩) hHz ?restvd19_4
                case hQ => exact fun _ _ _ h => h
                case hyvd19_4 => (intro Y hY; obtain ⟨y0, y1⟩ := hY; go_simp; try (with_reducible rfl))
                try simp only [Act.put, List.setIfInBounds_toArray, List.set_cons_zero, List.set_cons_succ]
                refine wpAnyH_done (by kernel_rfl) (?_) _
                clear hHz
                go_wp2_with fail
                go_meet
                exact ⟨WD.heap.size, S3, X3, n3, d3, rfl, rfl, hrow2, bz, qz, hn3⟩
            case rest =>
              have HJ2 := hidd HS.out
              clear BB HB2 HC0 HS KS cP
              obtain ⟨P, S3, X3, n, d, rfl, rfl, hrow, hB3, hQ3, hN3⟩ := hcut
              have ROWP := hidd hrow
              have HB3 := hidd hB3
              have HQ3 := hidd hQ3
              have HN3 := hidd hN3
              clear hrow hB3 hQ3 hN3
              have KS : Hid (∀ Y, Below w.heap.size w Y → TL ad i t z Y) := hidd (fun Y hb => by
                obtain ⟨ad3, e3, -, v0, v1⟩ := Lie.rat (HA.out.keep hb) i hi
                obtain rfl : ad = ad3 := by injection e3
                rw [HT.out] at v0
                rw [HZ.out] at v1
                exact ⟨v0, v1⟩)
              obtain ⟨u0, u1⟩ := KS.out _ HB3.out
              go_wp2_with fail
              refine (cM.out _).mono ?_
              rintro e w4 ⟨rfl, hb4⟩
              have ROWP4 := hidd ((hb4.block _ (Array.getElem?_eq_some_iff.1 ROWP.out).1).trans ROWP.out)
              have HB4 := hidd (below_step HB3.out hb4)
              have HQ4 := hidd (HQ3.out.below hb4)
              have rp := ROWP4.out
              have lp : P < w4.heap.size := (Array.getElem?_eq_some_iff.1 rp).1
              have p0 : w4.cell? ⟨P, 0, none⟩ = some (.int .i64 a0) := by simp [World.cell?, rp]
              have p1 : w4.cell? ⟨P, 1, none⟩ = some (.int .i64 a1) := by simp [World.cell?, rp]
              clear hb4 rp u0 u1
              go_wp2_with fail
              have B5 := hidd (below_new (Below.refl w4.heap.size w4) (.cells #[.int .i64 b0, .int .i64 b1] 35))
              refine (cC.out _).mono ?_
              rintro e w6 ⟨rfl, hb6⟩
              clear p0 p1
              go_wp2_with fail
              go_roundg (G - 1)
              case measure => omega
              case rel =>
                have b5 := below_step HB4.out B5.out
                have b6 := below_step b5 hb6
                exact ⟨i + 1, y + z, C, _, X3, S3, by omega, by congr 1, (HQ4.out.below B5.out).below hb6, HN3.out, b6, by rw [List.length_append, HM.out]; rfl, fun x hx => by
                  rcases List.mem_append.1 hx with q | q
                  · have := HI.out x q; omega
                  · rw [List.mem_singleton] at q; subst q; show (i : Int) < ((i + 1 : Nat) : Int); omega, by omega, CK.out, fun j hj => HJ2.out j hj⟩
      · obtain ⟨j, hj⟩ : ∃ j, j + 1 = i := ⟨i - 1, by omega⟩
        obtain ⟨ad', e', hadb', y0, y1⟩ := LP.out j (by omega)
        obtain rfl : ad = ad' := by injection e'
        have gj : IntKind.i64.wrap ((i : Int) - 1) = (j : Int) := by rw [IntKind.wrap_i64]; omega
        have hj0 : decide ((0 : Int) < (i : Int)) = true := decide_eq_true (by omega)
        have hj1 : j < L.length := by omega
        have hj2 : (j : Int) < (L.length : Int) := by omega
        clear e'
        by_cases a5 : t < (rA L j).1
        · go_wp2_with fail
          go_quiet (fail)
          go_wp2_with fail
          refine (cK.out _).mono ?_
          rintro e w2 ⟨rfl, hb2⟩
          go_wp2_with fail
          go_ret
          exact ⟨rfl, by have b := HB.out; have b0 := b.size; (repeat' (first | (with_reducible exact Below.refl _ _) | (with_reducible assumption) | (with_reducible apply Below.setCell) | (with_reducible apply Below.alloc) | (with_reducible apply Below.drew) | (with_reducible apply below_drewN) | (with_reducible refine Below.trans ?_ (Below.mono (by assumption) ?_)) | omega | (simp; done) | (simp; omega)))⟩
        have d5 : decide (t < (rA L j).1) = false := decide_eq_false a5
        go_wp2_with fail
        go_quiet (fail)
        go_wp2_with fail
        clear LP
        generalize gk = G at *
        go_loopg [9, 10] (i + 1) (fun gk s9 s10 wr2 => ∃ m : Nat, m + gk = i + 1 ∧ s9 = .int .i64 (bsum L (i + 1 - m) m) ∧ s10 = .int .i64 ((i : Int) - (m : Int)) ∧ Below wr.heap.size wr wr2 ∧ ∀ m', 1 ≤ m' → m' ≤ m → bsum L (i + 1 - m') m' ≤ more + rate * (t - (rA L (i + 1 - m')).1))
        case atStart => exact ⟨0, by omega, rfl, by simp, by (repeat' (first | (with_reducible exact Below.refl _ _) | (with_reducible assumption) | (with_reducible apply Below.setCell) | (with_reducible apply Below.alloc) | (with_reducible apply Below.drew) | (with_reducible apply below_drewN) | (with_reducible refine Below.trans ?_ (Below.mono (by assumption) ?_)) | omega | (simp; done) | (simp; omega))), fun m' h1 h2 => by omega⟩
        case round =>
          obtain ⟨m, hmg, rfl, rfl, hbb, hc0⟩ := hrel
          have BB := hidd hbb
          have HB2 := hidd (HB.out.trans (hbb.mono HB.out.size))
          have HC0 := hidd hc0
          clear hbb hc0
          have HS := hidd (show ∀ j, j < i + 1 → (0 ≤ (rA L j).1 ∧ (rA L j).1 ≤ 2147483647) ∧ 1 ≤ (rA L j).2 ∧ (rA L j).2 ≤ 2000 from fun j hj => by
            rcases Nat.lt_or_ge j i with q | q
            · exact HJ.out j q
            · obtain rfl : j = i := by omega
              rw [HT.out, HZ.out]
              omega)
          by_cases hm : m ≤ i
          · obtain ⟨k, hk⟩ : ∃ k, k + m = i := ⟨i - m, by omega⟩
            have ek : (i : Int) - (m : Int) = (k : Int) := by omega
            rw [ek]
            obtain ⟨ad1, e1, ha1, x0, x1⟩ := Lie.rat (HA.out.keep HB2.out) k (by omega)
            obtain ⟨ad2, e2, ha2, u0, u1⟩ := Lie.rat (HA.out.keep HB2.out) i hi
            obtain rfl : ad = ad1 := by injection e1
            obtain rfl : ad = ad2 := by injection e2
            clear e1 e2 c0 c1 ek
            rw [HT.out] at u0
            have hb1 := bsum_bd (L := L) (n := i + 1) (fun j hj => (HS.out j hj).2) (k + 1) m (by omega)
            have hs1 := HS.out k (by omega)
            have hfr := bsum_front L k m
            have ei : i + 1 - m = k + 1 := by omega
            rw [ei]
            have hmi : m ≤ 40 := by omega
            have NEW : Hid (bsum L (k + 1) m + (rA L k).2 = bsum L (i + 1 - (m + 1)) (m + 1)) := hidd (by rw [show i + 1 - (m + 1) = k by omega, hfr]; omega)
            obtain ⟨tk, htk⟩ : ∃ tk, (rA L k).1 = tk := ⟨_, rfl⟩
            obtain ⟨zk, hzk⟩ : ∃ zk, (rA L k).2 = zk := ⟨_, rfl⟩
            obtain ⟨B, hB⟩ : ∃ B, bsum L (k + 1) m = B := ⟨_, rfl⟩
            rw [htk] at x0 hs1
            rw [hzk] at x1 hs1
            rw [hB] at hb1
            rw [hB, hzk] at NEW
            rw [hB]
            have HTK := hidd htk
            clear htk hzk hB hfr
            have w1 : IntKind.i64.wrap (B + zk) = B + zk := by rw [IntKind.wrap_i64]; omega
            have w2 : IntKind.i64.wrap (t - tk) = t - tk := by rw [IntKind.wrap_i64]; omega
            have mb := mul_bd (r := rate) (d := t - tk) (by omega) (by omega) (by omega) (by omega)
            have w3 : IntKind.i64.wrap (rate * (t - tk)) = rate * (t - tk) := by rw [IntKind.wrap_i64]; omega
            have w4 : IntKind.i64.wrap (more + rate * (t - tk)) = more + rate * (t - tk) := by rw [IntKind.wrap_i64]; omega
            have z0 : (0 : Int) ≤ (k : Int) := by omega
            have z9 : (k : Int) < (L.length : Int) := by omega
            have zk' : k < L.length := by omega
            by_cases hc : more + rate * (t - tk) < B + zk
            · go_wp2_with fail
              go_quiet (fail)
              go_wp2_with fail
              refine (cK.out _).mono ?_
              rintro e w2 ⟨rfl, hb2⟩
              go_wp2_with fail
              go_ret
              exact ⟨rfl, by have b := HB2.out; have b0 := b.size; (repeat' (first | (with_reducible exact Below.refl _ _) | (with_reducible assumption) | (with_reducible apply Below.setCell) | (with_reducible apply Below.alloc) | (with_reducible apply Below.drew) | (with_reducible apply below_drewN) | (with_reducible refine Below.trans ?_ (Below.mono (by assumption) ?_)) | omega | (simp; done) | (simp; omega)))⟩
            · have dc : decide (more + rate * (t - tk) < B + zk) = false := decide_eq_false hc
              go_wp2_with fail
              go_quiet (fail)
              go_wp2_with fail
              go_roundg (gk - 1)
              case measure => omega
              case rel => exact ⟨m + 1, by omega, by rw [← NEW.out], by congr 1; omega, by have b := BB.out; have b0 := b.size; (repeat' (first | (with_reducible exact Below.refl _ _) | (with_reducible assumption) | (with_reducible apply Below.setCell) | (with_reducible apply Below.alloc) | (with_reducible apply Below.drew) | (with_reducible apply below_drewN) | (with_reducible refine Below.trans ?_ (Below.mono (by assumption) ?_)) | omega | (simp; done) | (simp; omega))), fun m' h1 h2 => by
                rcases Nat.lt_or_ge m m' with q | q
                · obtain rfl : m' = m + 1 := by omega
                  rw [← NEW.out, show i + 1 - (m + 1) = k by omega, HTK.out]
                  omega
                · exact HC0.out m' h1 q⟩
          · obtain rfl : m = i + 1 := by omega
            have e10 : (i : Int) - ((i + 1 : Nat) : Int) = -1 := by omega
            rw [e10]
            clear e10
            obtain ⟨k, hk, ec⟩ := HC.out.1.step (i := i) (by rw [HT.out]; exact Int.mul_nonneg (by omega) (by omega))
            have hc1 := HC.out.2.1
            have hb := HC0.out (i + 1 - k) (by omega) (by omega)
            rw [show i + 1 - (i + 1 - k) = k by omega, show rate * (t - (rA L k).1) = t * rate - (rA L k).1 * rate by rw [Int.mul_sub, Int.mul_comm rate t, Int.mul_comm rate]] at hb
            rw [HT.out, HZ.out] at ec
            have mb := mul_bd (r := rate) (d := t) (by omega) (by omega) (by omega) (by omega)
            rw [Int.mul_comm] at mb
            have mp : 0 ≤ t * rate := Int.mul_nonneg (by omega) (by omega)
            have hle : max cc (t * rate) + z ≤ t * rate + more := by omega
            have hC : ClkB (max cc (t * rate) + z) rate := ⟨by omega, by omega, by omega, by omega⟩
            have hN : ClkB (t * rate + more) rate := ⟨by omega, by omega, by omega, by omega⟩
            have cP := hidd (fun (Y : World) (H : Qu S Y q [⟨1, rate, 1000000000, y, cc, b⟩] M (i : Int) X) => bPut H (i := (i : Int)) (z := z) (now := t) (by unfold packB; exact decide_eq_true (by omega)) (by unfold tickB; exact decide_eq_true (by omega)) (by rintro ⟨x, hx, e⟩; have := HI.out x hx; omega) (by omega) (by omega) (by rw [HM.out]; omega) hC)
            have w5 : IntKind.i64.wrap (t * rate) = t * rate := by rw [IntKind.wrap_i64]; omega
            have w6 : IntKind.i64.wrap (t * rate + more) = t * rate + more := by rw [IntKind.wrap_i64]; omega
            have cM := hidd (fun W => refMake_any (t * rate + more) rate (by omega) (by omega) (by omega) (by omega) W)
            rw [fr_make hN] at cM
            have fb1 := fr_bounds hC
            have fb2 := fr_bounds hN
            have fp1 := fr_pos hC
            have fp2 := fr_pos hN
            have fn1 : 0 ≤ frN (max cc (t * rate) + z) rate := by unfold frN; exact Int.natCast_nonneg _
            have fn2 : 0 ≤ frN (t * rate + more) rate := by unfold frN; exact Int.natCast_nonneg _
            have cC := hidd (fun W => refCmp_any (frN (max cc (t * rate) + z) rate) (frD (max cc (t * rate) + z) rate) (frN (t * rate + more) rate) (frD (t * rate + more) rate) (by omega) (by omega) (by omega) (by omega) (by omega) (by omega) (by omega) (by omega) W)
            have og : ¬ 0 < ordZ (frN (max cc (t * rate) + z) rate * frD (t * rate + more) rate) (frN (t * rate + more) rate * frD (max cc (t * rate) + z) rate) := by
              rw [ord_sgn, fr_lt hN hC]; omega
            obtain ⟨O, hO⟩ : ∃ O, ordZ (frN (max cc (t * rate) + z) rate * frD (t * rate + more) rate) (frN (t * rate + more) rate * frD (max cc (t * rate) + z) rate) = O := ⟨_, rfl⟩
            rw [hO] at cC og
            clear hO fb1 fb2 fp1 fp2 fn1 fn2
            have CK := hidd (show Cl L rate (i + 1) (max cc (t * rate) + z) ∧ 0 ≤ max cc (t * rate) + z ∧ max cc (t * rate) + z ≤ 2147483647 * 1000000 + 100000 from ⟨.inr ⟨k, by omega, ec⟩, by omega, by omega⟩)
            clear hb ec mb mp hle hC hN hc1
            generalize max cc (t * rate) + z = C at *
            generalize frN C rate = a0 at *
            generalize frD C rate = a1 at *
            generalize frN (t * rate + more) rate = b0 at *
            generalize frD (t * rate + more) rate = b1 at *
            unfold pairOf at cM
            obtain ⟨ad2, e2, ha2, u0, u1⟩ := Lie.rat (HA.out.keep HB2.out) i hi
            obtain rfl : ad = ad2 := by injection e2
            clear e2 c0 c1
            rw [HT.out] at u0
            rw [HZ.out] at u1
            have KS : Hid (∀ Y, Below w.heap.size w Y → TL ad i t z Y) := hidd (fun Y hb => by
              obtain ⟨ad3, e3, -, v0, v1⟩ := Lie.rat (HA.out.keep hb) i hi
              obtain rfl : ad = ad3 := by injection e3
              rw [HT.out] at v0
              rw [HZ.out] at v1
              exact ⟨v0, v1⟩)
            clear u0 u1
            have z0 : (0 : Int) ≤ (i : Int) := by omega
            have HQ2 := hidd (HQ.out.below BB.out)
            go_wp2_with fail
            go_cut [11, 12] (fun s11 s12 wx => ∃ (P : Nat) (S3 : Nat → Prop) (X3 : Int → Int × Int) (n d : Int), s11 = .pointer (some ⟨P, 0, none⟩) ∧ s12 = .int .i64 0 ∧ wx.heap[P]? = some (.cells #[.int .i64 a0, .int .i64 a1] 35 (0, 0)) ∧ Below w.heap.size w wx ∧ Qu S3 wx q [⟨1, rate, 1000000000, y + z, C, b⟩] (M ++ [((i : Int), n, d, (i : Int) + 1)]) ((i : Int) + 1) X3 ∧ ∀ k, S3 k → w.heap.size ≤ k)
            case first =>
              refine wp_region_held_drew (S := (fun Y => TL ad i t z Y)) (by kernel_rfl) (KS.out _ (Below.drew HB2.out)) (fun hH => ?_)
              obtain ⟨WD, hWD⟩ : ∃ WD, wr.drew = WD := ⟨_, rfl⟩
              have BD : Below w.heap.size w WD := by rw [← hWD]; exact Below.drew HB2.out
              have QD := HQ2.out.below (show Below wr.heap.size wr WD from by rw [← hWD]; exact Below.drew (Below.refl _ _))
              rw [hWD] at hH
              rw [hWD]
              clear hWD
              refine wpAnyH_take (i := 0) (v := ?vx0_1) (by (conv => lhs; simp only [List.getElem?_toArray, List.getElem?_cons_succ, List.getElem?_cons_zero])) (by kernel_rfl) (by kernel_rfl) (by kernel_rfl) ?hQ (Or.inl ⟨by rfl, ?hyx0_1⟩) hH ?restx0_1
              case hQ => exact fun _ _ _ h => h
              case hyx0_1 => (intro Y hY; obtain ⟨y0, y1⟩ := hY; go_simp; try (with_reducible rfl))
              try simp only [Act.put, List.setIfInBounds_toArray, List.set_cons_zero, List.set_cons_succ]
              refine wpAnyH_take (i := 1) (v := ?vx1_2) (by (conv => lhs; simp only [List.getElem?_toArray, List.getElem?_cons_succ, List.getElem?_cons_zero])) (by kernel_rfl) (by kernel_rfl) (by kernel_rfl) ?hQ (Or.inl ⟨by rfl, ?hyx1_2⟩) hH ?restx1_2
              case hQ => exact fun _ _ _ h => h
              case hyx1_2 => (intro Y hY; obtain ⟨y0, y1⟩ := hY; go_simp; try (with_reducible rfl))
              try simp only [Act.put, List.setIfInBounds_toArray, List.set_cons_zero, List.set_cons_succ]
              refine wpAnyH_take (i := 2) (v := ?vx2_3) (by (conv => lhs; simp only [List.getElem?_toArray, List.getElem?_cons_succ, List.getElem?_cons_zero])) (by kernel_rfl) (by kernel_rfl) (by kernel_rfl) ?hQ (Or.inl ⟨by rfl, ?hyx2_3⟩) hH ?restx2_3
              case hQ => exact fun _ _ _ h => h
              case hyx2_3 => (intro Y hY; obtain ⟨y0, y1⟩ := hY; go_simp; try (with_reducible rfl))
              try simp only [Act.put, List.setIfInBounds_toArray, List.set_cons_zero, List.set_cons_succ]
              refine wpAnyH_take (i := 3) (v := ?vx3_4) (by (conv => lhs; simp only [List.getElem?_toArray, List.getElem?_cons_succ, List.getElem?_cons_zero])) (by kernel_rfl) (by kernel_rfl) (by kernel_rfl) ?hQ (Or.inl ⟨by rfl, ?hyx3_4⟩) hH ?restx3_4
              case hQ => exact fun _ _ _ h => h
              case hyx3_4 => (intro Y hY; obtain ⟨y0, y1⟩ := hY; go_simp; try (with_reducible rfl))
              try simp only [Act.put, List.setIfInBounds_toArray, List.set_cons_zero, List.set_cons_succ]
              refine wpAnyH_take (i := 4) (v := ?vx4_5) (by (conv => lhs; simp only [List.getElem?_toArray, List.getElem?_cons_succ, List.getElem?_cons_zero])) (by kernel_rfl) (by kernel_rfl) (by kernel_rfl) ?hQ (Or.inl ⟨by rfl, ?hyx4_5⟩) hH ?restx4_5
              case hQ => exact fun _ _ _ h => h
              case hyx4_5 => (intro Y hY; obtain ⟨y0, y1⟩ := hY; go_simp; try (with_reducible rfl))
              try simp only [Act.put, List.setIfInBounds_toArray, List.set_cons_zero, List.set_cons_succ]
              refine wpAnyH_take (i := 5) (v := ?vx5_6) (by (conv => lhs; simp only [List.getElem?_toArray, List.getElem?_cons_succ, List.getElem?_cons_zero])) (by kernel_rfl) (by kernel_rfl) (by kernel_rfl) ?hQ (Or.inl ⟨by rfl, ?hyx5_6⟩) hH ?restx5_6
              case hQ => exact fun _ _ _ h => h
              case hyx5_6 => (intro Y hY; obtain ⟨y0, y1⟩ := hY; go_simp; try (with_reducible rfl))
              try simp only [Act.put, List.setIfInBounds_toArray, List.set_cons_zero, List.set_cons_succ]
              refine wpAnyH_take (i := 6) (v := ?vx6_7) (by (conv => lhs; simp only [List.getElem?_toArray, List.getElem?_cons_succ, List.getElem?_cons_zero])) (by kernel_rfl) (by kernel_rfl) (by kernel_rfl) ?hQ (Or.inl ⟨by rfl, ?hyx6_7⟩) hH ?restx6_7
              case hQ => exact fun _ _ _ h => h
              case hyx6_7 => (intro Y hY; obtain ⟨y0, y1⟩ := hY; go_simp; try (with_reducible rfl))
              try simp only [Act.put, List.setIfInBounds_toArray, List.set_cons_zero, List.set_cons_succ]
              refine wpAnyH_take (i := 7) (v := ?vx7_8) (by (conv => lhs; simp only [List.getElem?_toArray, List.getElem?_cons_succ, List.getElem?_cons_zero])) (by kernel_rfl) (by kernel_rfl) (by kernel_rfl) ?hQ (Or.inl ⟨by rfl, ?hyx7_8⟩) hH ?restx7_8
              case hQ => exact fun _ _ _ h => h
              case hyx7_8 => (intro Y hY; obtain ⟨y0, y1⟩ := hY; go_simp; try (with_reducible rfl))
              try simp only [Act.put, List.setIfInBounds_toArray, List.set_cons_zero, List.set_cons_succ]
              refine wpAnyH_take (i := 8) (v := ?vx8_9) (by (conv => lhs; simp only [List.getElem?_toArray, List.getElem?_cons_succ, List.getElem?_cons_zero])) (by kernel_rfl) (by kernel_rfl) (by kernel_rfl) ?hQ (Or.inl ⟨by rfl, ?hyx8_9⟩) hH ?restx8_9
              case hQ => exact fun _ _ _ h => h
              case hyx8_9 => (intro Y hY; obtain ⟨y0, y1⟩ := hY; go_simp; try (with_reducible rfl))
              try simp only [Act.put, List.setIfInBounds_toArray, List.set_cons_zero, List.set_cons_succ]
              refine wpAnyH_take (i := 9) (v := ?vx9_10) (by (conv => lhs; simp only [List.getElem?_toArray, List.getElem?_cons_succ, List.getElem?_cons_zero])) (by kernel_rfl) (by kernel_rfl) (by kernel_rfl) ?hQ (Or.inl ⟨by rfl, ?hyx9_10⟩) hH ?restx9_10
              case hQ => exact fun _ _ _ h => h
              case hyx9_10 => (intro Y hY; obtain ⟨y0, y1⟩ := hY; go_simp; try (with_reducible rfl))
              try simp only [Act.put, List.setIfInBounds_toArray, List.set_cons_zero, List.set_cons_succ]
              refine wpAnyH_take (i := 10) (v := ?vx10_11) (by (conv => lhs; simp only [List.getElem?_toArray, List.getElem?_cons_succ, List.getElem?_cons_zero])) (by kernel_rfl) (by kernel_rfl) (by kernel_rfl) ?hQ (Or.inl ⟨by rfl, ?hyx10_11⟩) hH ?restx10_11
              case hQ => exact fun _ _ _ h => h
              case hyx10_11 => (intro Y hY; obtain ⟨y0, y1⟩ := hY; go_simp; try (with_reducible rfl))
              try simp only [Act.put, List.setIfInBounds_toArray, List.set_cons_zero, List.set_cons_succ]
              refine wpAnyH_take (i := 11) (v := ?vx11_12) (by (conv => lhs; simp only [List.getElem?_toArray, List.getElem?_cons_succ, List.getElem?_cons_zero])) (by kernel_rfl) (by kernel_rfl) (by kernel_rfl) ?hQ (Or.inl ⟨by rfl, ?hyx11_12⟩) hH ?restx11_12
              case hQ => exact fun _ _ _ h => h
              case hyx11_12 => (intro Y hY; obtain ⟨y0, y1⟩ := hY; go_simp; try (with_reducible rfl))
              try simp only [Act.put, List.setIfInBounds_toArray, List.set_cons_zero, List.set_cons_succ]
              refine wpAnyH_take (i := 12) (v := ?vx12_13) (by (conv => lhs; simp only [List.getElem?_toArray, List.getElem?_cons_succ, List.getElem?_cons_zero])) (by kernel_rfl) (by kernel_rfl) (by kernel_rfl) ?hQ (Or.inl ⟨by rfl, ?hyx12_13⟩) hH ?restx12_13
              case hQ => exact fun _ _ _ h => h
              case hyx12_13 => (intro Y hY; obtain ⟨y0, y1⟩ := hY; go_simp; try (with_reducible rfl))
              try simp only [Act.put, List.setIfInBounds_toArray, List.set_cons_zero, List.set_cons_succ]
              refine wpAnyH_ready (rs := [13, 17]) (by kernel_rfl) (by simp) ?_
              refine AllReadyH.cons (by (conv => lhs; simp only [List.getElem?_toArray, List.getElem?_cons_succ, List.getElem?_cons_zero])) (fun K hK => ?_) (AllReadyH.cons (by (conv => lhs; simp only [List.getElem?_toArray, List.getElem?_cons_succ, List.getElem?_cons_zero])) (fun K hK => ?_) AllReadyH.nil)
              · go_simp
                go_at_call 9; refine (cP.out _ QD).mono ?_; rintro e w3 ⟨rfl, S3, X3, n3, d3, hQ3, s3, n3'⟩
                obtain ⟨hb3, hn3⟩ := q_step BD HN.out s3 n3'
                refine hK.out _ _ (KS.out _ hb3) (fun hH1 => ?_)
                clear hK hH
                try simp only [Act.put, List.setIfInBounds_toArray, List.set_cons_zero, List.set_cons_succ]
                refine wpAnyH_take (i := 14) (v := ?vxa14_1) (by (conv => lhs; simp only [List.getElem?_toArray, List.getElem?_cons_succ, List.getElem?_cons_zero])) (by kernel_rfl) (by kernel_rfl) (by kernel_rfl) ?hQ (Or.inl ⟨by rfl, ?hyxa14_1⟩) hH1 ?restxa14_1
                case hQ => exact fun _ _ _ h => h
                case hyxa14_1 => (intro Y hY; obtain ⟨y0, y1⟩ := hY; go_simp; try (with_reducible rfl))
                try simp only [Act.put, List.setIfInBounds_toArray, List.set_cons_zero, List.set_cons_succ]
                refine wpAnyH_take (i := 15) (v := ?vxa15_2) (by (conv => lhs; simp only [List.getElem?_toArray, List.getElem?_cons_succ, List.getElem?_cons_zero])) (by kernel_rfl) (by kernel_rfl) (by kernel_rfl) ?hQ (Or.inl ⟨by rfl, ?hyxa15_2⟩) hH1 ?restxa15_2
                case hQ => exact fun _ _ _ h => h
                case hyxa15_2 => (intro Y hY; obtain ⟨y0, y1⟩ := hY; go_simp; try (with_reducible rfl))
                try simp only [Act.put, List.setIfInBounds_toArray, List.set_cons_zero, List.set_cons_succ]
                refine wpAnyH_take (i := 16) (v := ?vxa16_3) (by (conv => lhs; simp only [List.getElem?_toArray, List.getElem?_cons_succ, List.getElem?_cons_zero])) (by kernel_rfl) (by kernel_rfl) (by kernel_rfl) ?hQ (Or.inl ⟨by rfl, ?hyxa16_3⟩) hH1 ?restxa16_3
                case hQ => exact fun _ _ _ h => h
                case hyxa16_3 => (intro Y hY; obtain ⟨y0, y1⟩ := hY; go_simp; try (with_reducible rfl))
                try simp only [Act.put, List.setIfInBounds_toArray, List.set_cons_zero, List.set_cons_succ]
                refine wpAnyH_ready (rs := [17]) (by kernel_rfl) (by simp) ?_
                refine AllReadyH.cons (by (conv => lhs; simp only [List.getElem?_toArray, List.getElem?_cons_succ, List.getElem?_cons_zero])) (fun K hK => ?_) AllReadyH.nil
                go_simp
                obtain ⟨W4, hW4⟩ : ∃ W, w3.alloc (.cells #[.int .i64 0, .int .i64 0] 35) = W := ⟨_, rfl⟩
                have b4 : Below w3.heap.size w3 W4 := by rw [← hW4]; exact below_new (Below.refl _ _) _
                have row4 : W4.heap[w3.heap.size]? = some (.cells #[.int .i64 0, .int .i64 0] 35 (0, 0)) := by rw [← hW4]; exact heap_alloc_new w3 _
                rw [hW4]
                have B4 := hb3.trans (b4.mono hb3.size)
                have Q4 := hQ3.below b4
                have nS : ¬ S3 w3.heap.size := fun e => by have := hQ3.lt e; omega
                have hge : w.heap.size ≤ w3.heap.size := hb3.size
                refine hK.out _ _ (KS.out _ B4) (fun hH2 => ?_)
                clear hK hH1
                try simp only [Act.put, List.setIfInBounds_toArray, List.set_cons_zero, List.set_cons_succ]
                refine wpAnyH_ready (rs := [18]) (by kernel_rfl) (by simp) ?_
                refine AllReadyH.cons (by (conv => lhs; simp only [List.getElem?_toArray, List.getElem?_cons_succ, List.getElem?_cons_zero])) (fun K hK => ?_) AllReadyH.nil
                rw [if_pos (by rfl)]
                have hrow := row4
                refine wp_store_row 35 (.tmp 11) (.tmp 140) (by rfl) w3.heap.size #[.int .i64 a0, .int .i64 a1] (by rfl) (by rfl) _ _ hrow (by kernel_rfl) (by rfl) (by simp [Value.oneCell']) ?_
                have hrow2 := setRow_heap W4 w3.heap.size _ #[.int .i64 a0, .int .i64 a1] _ _ hrow
                have bz := below_setRowV B4 hge #[.int .i64 a0, .int .i64 a1]
                have qz := Qu.keep (W' := W4.setRow w3.heap.size #[.int .i64 a0, .int .i64 a1]) Q4 (fun k hk => setRow_other _ _ _ _ (fun e => nS (e ▸ hk)))
                refine hK.out _ _ (KS.out _ bz) (fun hHz => ?_)
                clear hK
                try simp only [Act.put]
                refine wpAnyH_take (i := 19) (v := ?vxb19_1) (by (conv => lhs; simp only [List.getElem?_toArray, List.getElem?_cons_succ, List.getElem?_cons_zero])) (by kernel_rfl) (by kernel_rfl) (by kernel_rfl) ?hQ (Or.inl ⟨by rfl, ?hyxb19_1⟩) hHz ?restxb19_1
                case hQ => exact fun _ _ _ h => h
                case hyxb19_1 => (intro Y hY; obtain ⟨y0, y1⟩ := hY; go_simp; try (with_reducible rfl))
                try simp only [Act.put, List.setIfInBounds_toArray, List.set_cons_zero, List.set_cons_succ]
                refine wpAnyH_done (by kernel_rfl) (?_) _
                clear hHz
                go_wp2_with fail
                go_meet
                exact ⟨w3.heap.size, S3, X3, n3, d3, rfl, rfl, hrow2, bz, qz, hn3⟩
              · go_simp
                obtain ⟨W4, hW4⟩ : ∃ W, WD.alloc (.cells #[.int .i64 0, .int .i64 0] 35) = W := ⟨_, rfl⟩
                have b4 : Below WD.heap.size WD W4 := by rw [← hW4]; exact below_new (Below.refl _ _) _
                have row4 : W4.heap[WD.heap.size]? = some (.cells #[.int .i64 0, .int .i64 0] 35 (0, 0)) := by rw [← hW4]; exact heap_alloc_new WD _
                have lt4 : WD.heap.size < W4.heap.size := by rw [← hW4]; simp
                rw [hW4]
                have B4 := BD.trans (b4.mono BD.size)
                have Q4 := QD.below b4
                have nS4 : ¬ S WD.heap.size := fun e => by have := QD.lt e; omega
                have hge : w.heap.size ≤ WD.heap.size := BD.size
                refine hK.out _ _ (KS.out _ B4) (fun hH2 => ?_)
                clear hK hH
                try simp only [Act.put, List.setIfInBounds_toArray, List.set_cons_zero, List.set_cons_succ]
                refine wpAnyH_ready (rs := [13]) (by kernel_rfl) (by simp) ?_
                refine AllReadyH.cons (by (conv => lhs; simp only [List.getElem?_toArray, List.getElem?_cons_succ, List.getElem?_cons_zero])) (fun K hK => ?_) AllReadyH.nil
                go_simp
                go_at_call 9; refine (cP.out _ Q4).mono ?_; rintro e w3 ⟨rfl, S3, X3, n3, d3, hQ3, s3, n3'⟩
                obtain ⟨hb3, hn3⟩ := q_step B4 HN.out s3 n3'
                have row3 := (s3.block _ lt4 nS4).trans row4
                have nS : ¬ S3 WD.heap.size := fun e => nS4 (n3' _ lt4 e)
                refine hK.out _ _ (KS.out _ hb3) (fun hH3 => ?_)
                clear hK hH2
                try simp only [Act.put, List.setIfInBounds_toArray, List.set_cons_zero, List.set_cons_succ]
                refine wpAnyH_take (i := 14) (v := ?vxd14_1) (by (conv => lhs; simp only [List.getElem?_toArray, List.getElem?_cons_succ, List.getElem?_cons_zero])) (by kernel_rfl) (by kernel_rfl) (by kernel_rfl) ?hQ (Or.inl ⟨by rfl, ?hyxd14_1⟩) hH3 ?restxd14_1
                case hQ => exact fun _ _ _ h => h
                case hyxd14_1 => (intro Y hY; obtain ⟨y0, y1⟩ := hY; go_simp; try (with_reducible rfl))
                try simp only [Act.put, List.setIfInBounds_toArray, List.set_cons_zero, List.set_cons_succ]
                refine wpAnyH_take (i := 15) (v := ?vxd15_2) (by (conv => lhs; simp only [List.getElem?_toArray, List.getElem?_cons_succ, List.getElem?_cons_zero])) (by kernel_rfl) (by kernel_rfl) (by kernel_rfl) ?hQ (Or.inl ⟨by rfl, ?hyxd15_2⟩) hH3 ?restxd15_2
                case hQ => exact fun _ _ _ h => h
                case hyxd15_2 => (intro Y hY; obtain ⟨y0, y1⟩ := hY; go_simp; try (with_reducible rfl))
                try simp only [Act.put, List.setIfInBounds_toArray, List.set_cons_zero, List.set_cons_succ]
                refine wpAnyH_take (i := 16) (v := ?vxd16_3) (by (conv => lhs; simp only [List.getElem?_toArray, List.getElem?_cons_succ, List.getElem?_cons_zero])) (by kernel_rfl) (by kernel_rfl) (by kernel_rfl) ?hQ (Or.inl ⟨by rfl, ?hyxd16_3⟩) hH3 ?restxd16_3
                case hQ => exact fun _ _ _ h => h
                case hyxd16_3 => (intro Y hY; obtain ⟨y0, y1⟩ := hY; go_simp; try (with_reducible rfl))
                try simp only [Act.put, List.setIfInBounds_toArray, List.set_cons_zero, List.set_cons_succ]
                refine wpAnyH_ready (rs := [18]) (by kernel_rfl) (by simp) ?_
                refine AllReadyH.cons (by (conv => lhs; simp only [List.getElem?_toArray, List.getElem?_cons_succ, List.getElem?_cons_zero])) (fun K hK => ?_) AllReadyH.nil
                rw [if_pos (by rfl)]
                have hrow := row3
                refine wp_store_row 35 (.tmp 11) (.tmp 140) (by rfl) WD.heap.size #[.int .i64 a0, .int .i64 a1] (by rfl) (by rfl) _ _ hrow (by kernel_rfl) (by rfl) (by simp [Value.oneCell']) ?_
                have hrow2 := setRow_heap w3 WD.heap.size _ #[.int .i64 a0, .int .i64 a1] _ _ hrow
                have bz := below_setRowV hb3 hge #[.int .i64 a0, .int .i64 a1]
                have qz := Qu.keep (W' := w3.setRow WD.heap.size #[.int .i64 a0, .int .i64 a1]) hQ3 (fun k hk => setRow_other _ _ _ _ (fun e => nS (e ▸ hk)))
                refine hK.out _ _ (KS.out _ bz) (fun hHz => ?_)
                clear hK
                try simp only [Act.put]
                refine wpAnyH_take (i := 19) (v := ?vxd19_4) (by (conv => lhs; simp only [List.getElem?_toArray, List.getElem?_cons_succ, List.getElem?_cons_zero])) (by kernel_rfl) (by kernel_rfl) (by kernel_rfl) ?hQ (Or.inl ⟨by rfl, ?hyxd19_4⟩) hHz ?restxd19_4
                case hQ => exact fun _ _ _ h => h
                case hyxd19_4 => (intro Y hY; obtain ⟨y0, y1⟩ := hY; go_simp; try (with_reducible rfl))
                try simp only [Act.put, List.setIfInBounds_toArray, List.set_cons_zero, List.set_cons_succ]
                refine wpAnyH_done (by kernel_rfl) (?_) _
                clear hHz
                go_wp2_with fail
                go_meet
                exact ⟨WD.heap.size, S3, X3, n3, d3, rfl, rfl, hrow2, bz, qz, hn3⟩
            case rest =>
              have HJ2 := hidd HS.out
              clear BB HB2 HC0 HS KS cP
              obtain ⟨P, S3, X3, n, d, rfl, rfl, hrow, hB3, hQ3, hN3⟩ := hcut
              have ROWP := hidd hrow
              have HB3 := hidd hB3
              have HQ3 := hidd hQ3
              have HN3 := hidd hN3
              clear hrow hB3 hQ3 hN3
              have KS : Hid (∀ Y, Below w.heap.size w Y → TL ad i t z Y) := hidd (fun Y hb => by
                obtain ⟨ad3, e3, -, v0, v1⟩ := Lie.rat (HA.out.keep hb) i hi
                obtain rfl : ad = ad3 := by injection e3
                rw [HT.out] at v0
                rw [HZ.out] at v1
                exact ⟨v0, v1⟩)
              obtain ⟨u0, u1⟩ := KS.out _ HB3.out
              go_wp2_with fail
              refine (cM.out _).mono ?_
              rintro e w4 ⟨rfl, hb4⟩
              have ROWP4 := hidd ((hb4.block _ (Array.getElem?_eq_some_iff.1 ROWP.out).1).trans ROWP.out)
              have HB4 := hidd (below_step HB3.out hb4)
              have HQ4 := hidd (HQ3.out.below hb4)
              have rp := ROWP4.out
              have lp : P < w4.heap.size := (Array.getElem?_eq_some_iff.1 rp).1
              have p0 : w4.cell? ⟨P, 0, none⟩ = some (.int .i64 a0) := by simp [World.cell?, rp]
              have p1 : w4.cell? ⟨P, 1, none⟩ = some (.int .i64 a1) := by simp [World.cell?, rp]
              clear hb4 rp u0 u1
              go_wp2_with fail
              have B5 := hidd (below_new (Below.refl w4.heap.size w4) (.cells #[.int .i64 b0, .int .i64 b1] 35))
              refine (cC.out _).mono ?_
              rintro e w6 ⟨rfl, hb6⟩
              clear p0 p1
              go_wp2_with fail
              go_roundg (G - 1)
              case measure => omega
              case rel =>
                have b5 := below_step HB4.out B5.out
                have b6 := below_step b5 hb6
                exact ⟨i + 1, y + z, C, _, X3, S3, by omega, by congr 1, (HQ4.out.below B5.out).below hb6, HN3.out, b6, by rw [List.length_append, HM.out]; rfl, fun x hx => by
                  rcases List.mem_append.1 hx with q | q
                  · have := HI.out x q; omega
                  · rw [List.mem_singleton] at q; subst q; show (i : Int) < ((i + 1 : Nat) : Int); omega, by omega, CK.out, fun j hj => HJ2.out j hj⟩
    · have z1 : ¬ (i : Int) < (L.length : Int) := by omega
      go_wp2_with fail
      refine (cK.out _).mono ?_
      rintro e w2 ⟨rfl, hb2⟩
      go_wp2_with fail
      go_ret
      exact ⟨rfl, by have b := HB.out; have b0 := b.size; (repeat' (first | (with_reducible exact Below.refl _ _) | (with_reducible assumption) | (with_reducible apply Below.setCell) | (with_reducible apply Below.alloc) | (with_reducible apply Below.drew) | (with_reducible apply below_drewN) | (with_reducible refine Below.trans ?_ (Below.mono (by assumption) ?_)) | omega | (simp; done) | (simp; omega)))⟩
end Go.Proofs.Ytgeankdimknmiaa.Hp

/- The row's frame, for clocks: arguments are opened to numbers and lists (out of the heaps' frame). -/
namespace Go.Proofs.Ytgeankdimknmiaa.Hp
set_option linter.unusedVariables false
namespace RowK
open Go.ChangeShapes Go.WideShapes Go.ChangeAt Go.RowKit Go.Joins Go.Deep Go.Proofs.Ytgeankdimknmiaa.Tp

theorem own : ownKnob Try.prog.godebug = none := by kernel_rfl
theorem laidOut : laidOutB Try.prog = true := by kernel_rfl
theorem i64_bounds {n : Int} (h : (Lit.int .i64 n).wf = true) : -9223372036854775808 ≤ n ∧ n ≤ 9223372036854775807 := by
  simp only [Lit.wf, Bool.and_eq_true, decide_eq_true_eq] at h
  have a : IntKind.i64.min = -9223372036854775808 := rfl
  have b : IntKind.i64.max = 9223372036854775807 := rfl
  omega
section
variable {H : Type} {enc : TypeId × Value → H} {P : Program}
theorem all_stays (hl : laidOutB P = true) {W W' : World} (hb : Below W.heap.size W W') : ∀ {ts : List TypeId} {vs : List Value} {ds : List (DataW H)} {ps : List MemPlace},
    (∀ t ∈ ts, P.readableRec t = true ∧ t < P.types.size) → DataW.TrodAll enc P W 0 (fun _ => true) true ts vs ds ps → (∀ x ∈ ps, x.block < W.heap.size) → ∀ sp : Nat → Bool, (∀ x ∈ ps, sp x.block = true) → DataW.TrodAll enc P W' 0 sp true ts vs ds ps
  | [], vs, ds, ps, _, h, _, sp, _ => by
    obtain ⟨rfl, rfl, rfl⟩ := trodAll_nil h
    exact trodAll_mk0
  | t :: ts, vs, ds, ps, hr, h, hlt, sp, hsp => by
    obtain ⟨v, vs', d, ds', p, p', rfl, rfl, rfl, h0, h1⟩ := trodAll_cons h
    refine trodAll_cons_mk (WideElems.Trod_stays hl (hr t (by simp)).1 (hr t (by simp)).2 h0 (fun x hx => hb.same (hlt x (by simp [hx]))) (fun x hx => hsp x (by simp [hx]))) ?_
    exact all_stays hl hb (fun t ht => hr t (by simp [ht])) h1 (fun x hx => hlt x (by simp [hx])) sp (fun x hx => hsp x (by simp [hx]))

theorem post_law {f : Func} {s : ChangeSpec} {apart fresh handsOn again : Bool} {W W' : World} {args : Array Value} {v : Value} {ds gs : List (DataW H)} {before pv : List MemPlace}
    (hl : laidOutB P = true) (hr : ∀ t ∈ f.params.toList, P.readableRec t = true ∧ t < P.types.size)
    (hW : DataW.Whole enc P f.params.toList s.vars apart W args.toList ds gs (before ++ pv))
    (hA : DataW.TrodAll enc P W 0 (fun _ => true) true f.params.toList args.toList ds before)
    (hs : (s.fn H (ds ++ gs)).args = ds)
    (hres : ∀ (b : Nat) (sp : Nat → Bool) (hd : Bool), DataW.TrodAll enc P W' b sp hd f.resultTypes.toList (v.resultList f.resultTypes.size) (s.fn H (ds ++ gs)).results [])
    (hvars : ∀ sp : Nat → Bool, DataW.TrodVars enc P W' sp s.vars (s.fn H (ds ++ gs)).vars pv)
    (hb : Below W.heap.size W W')
    (hok : ∀ (j : Nat) (t : TypeId) (r : Value), f.resultTypes[j]? = some t → (v.resultList f.resultTypes.size)[j]? = some r → Value.okWide P W' .any 0 t r) :
    s.post enc P f apart fresh handsOn again W args v W' := by
  have hlt : ∀ p ∈ before ++ pv, p.block < W.heap.size := fun p hp => hW.lt p hp
  have hargs : ∀ sp : Nat → Bool, (∀ p ∈ before ++ pv, sp p.block = true) → DataW.TrodAll enc P W' 0 sp true f.params.toList args.toList (s.fn H (ds ++ gs)).args before := fun sp hsp => by
    rw [hs]
    exact all_stays hl hb hr hA (fun x hx => hlt x (by simp [hx])) sp (fun x hx => hsp x (by simp [hx]))
  have hold : ∀ p ∈ before ++ pv, (fun b => decide (b < W.heap.size)) p.block = true := fun p hp => by simpa using hlt p hp
  refine ⟨ds, gs, before ++ pv, [], before, pv, hW, hres _ _ _, hargs _ hold, hvars _, World.keptBut_mono (fun p hp => ⟨hp, ?_⟩) (hb.frame (· ∈ before ++ pv)), fun _ => ?_⟩
  · rw [List.mem_append] at hp
    exact Or.inr hp
  · obtain ⟨_, _, _, _, _, hz, hn⟩ := hW
    refine ⟨hok, _, _, ([] ++ before) ++ pv, ⟨[] ++ before, pv, trodAll_append (hargs _ (fun _ _ => rfl)) (hres _ _ _), hvars _, rfl, ?_, ?_⟩, ?_⟩
    · intro b off hp
      have hin : MemPlace.cell b off ∈ before ++ pv := by simpa using hp
      rw [hb.frozen (hlt _ hin)]
      exact hz b off hin
    · intro ha
      have := hn ha
      simpa using this
    · intro p hp _
      simpa using hp
end

section
variable {H : Type} {enc : TypeId × Value → H} {P : Program} {w : World} {base : Nat} {spare : Nat → Bool} {held : Bool}
theorem open_slice_fields {t e : TypeId} {fs : Array Field} {fuel : Nat} {cs : List Value} {x : DataW H × List MemPlace} (ht : P.underlying t = some (.slice e)) (he : P.underlying e = some (.struct fs))
    (hone : oneCellFields P fs = true) (hC : P.cellsOf e = fs.size) (h : DataW.trod enc P w base spare held fuel t cs = some x) :
    cs = [.slice none 0 0] ∨
    ∃ (a : Addr) (len cap : Nat), cs = [.slice (some a) len cap] ∧ len ≤ cap ∧ cap ≤ maxLen ∧
      ∀ i, i < len → ∀ (j : Nat) (f : Field), fs[j]? = some f → ∃ (v : Value) (n : Nat) (y : DataW H × List MemPlace), w.cell? (a.add (i * fs.size + j)) = some v ∧ DataW.trod enc P w base spare held n f.type [v] = some y := by
  rcases open_slice ht h with h0 | ⟨a, len, cap, m, n, D, Pl, hcs, hb, hl, hm, hmm, hx, hi⟩
  · exact .inl h0.1
  · refine .inr ⟨a, len, cap, hcs, hl, hm, fun i hil j f hj => ?_⟩
    have him : i < m := by rw [hmm]; split <;> omega
    obtain ⟨cs', hc, ht'⟩ := hi i him
    rw [hC] at hc
    obtain ⟨ys, n', hn', hy, hlen, hyl, hf⟩ := DataW.trod_struct he ht'
    obtain ⟨_, hcl, hat⟩ := World.cells?_some hc
    obtain ⟨ho, hk⟩ := hone_of hone j f hj
    have hjl : j < fs.size := (Array.getElem?_eq_some_iff.1 hj).1
    have hcell := hat j hjl
    have hv : cs'[j]? = some (cs'[j]'(by omega)) := List.getElem?_eq_getElem (by omega)
    have h1 := hf j f hj
    rw [ho, hk] at h1
    have hone' : (cs'.drop j).take 1 = [cs'[j]'(by omega)] := by
      rw [List.drop_eq_getElem_cons (by omega)]
      rfl
    rw [hone'] at h1
    have hys : ys[j]? = some (ys[j]'(by omega)) := List.getElem?_eq_getElem (by omega)
    refine ⟨_, n', _, ?_, h1.trans hys⟩
    rw [← Go.Deep.add_add, hcell, hv]
theorem list_of {α : Type} {Q : Nat → α → Prop} : ∀ {n : Nat}, (∀ i, i < n → ∃ x, Q i x) → ∃ L : List α, L.length = n ∧ ∀ i x, L[i]? = some x → Q i x
  | 0, _ => ⟨[], rfl, fun i x h => by simp at h⟩
  | n + 1, h => by
    obtain ⟨L, hL, hQ⟩ := list_of (n := n) (fun i hi => h i (by omega))
    obtain ⟨x, hx⟩ := h n (by omega)
    refine ⟨L ++ [x], by simp [hL], fun i y hy => ?_⟩
    rw [List.getElem?_append] at hy
    split at hy
    · exact hQ i y hy
    · have : i = n := by
        have := (List.getElem?_eq_some_iff.1 hy).1
        simp at this
        omega
      subst this
      rw [hL] at hy
      simp at hy
      exact hy ▸ hx
end

section
variable {H : Type} {enc : TypeId × Value → H} {P : Program} {w : World} {base : Nat} {spare : Nat → Bool} {held : Bool}
theorem open_ints3 {r : Reach} {b0 : Nat} {t : TypeId} {f0 f1 f2 : Field} {v : Value} {d : DataW H} {p : List MemPlace} (hs : P.underlying t = some (.struct #[f0, f1, f2])) (hone : oneCellFields P #[f0, f1, f2] = true) (hC : P.cellsOf t = 3)
    (i0 : P.underlying f0.type = some (.int .i64)) (i1 : P.underlying f1.type = some (.int .i64)) (i2 : P.underlying f2.type = some (.int .i64))
    (hv : Value.okWide P w r b0 t v) (h : DataW.Trod enc P w base spare held t v d p) :
    ∃ a0 a1 a2 : Int, v = .agg #[.int .i64 a0, .int .i64 a1, .int .i64 a2] ∧ (-9223372036854775808 ≤ a0 ∧ a0 ≤ 9223372036854775807) ∧ (-9223372036854775808 ≤ a1 ∧ a1 ≤ 9223372036854775807) ∧ (-9223372036854775808 ≤ a2 ∧ a2 ≤ 9223372036854775807) := by
  obtain ⟨cs, rfl, hsz⟩ := okWide_struct hs hv
  obtain ⟨l⟩ := cs
  match l, hsz.trans hC with
  | [c0, c1, c2], _ =>
    obtain ⟨fuel, hf⟩ := h
    obtain ⟨xs, n, _, hx, _, hlen, hg⟩ := DataW.trod_struct hs hf
    obtain ⟨o0, k0⟩ := hone_of hone 0 f0 rfl
    obtain ⟨o1, k1⟩ := hone_of hone 1 f1 rfl
    obtain ⟨o2, k2⟩ := hone_of hone 2 f2 rfl
    match xs, hlen with
    | [y0, y1, y2], _ =>
      have g0 : DataW.trod enc P w base spare held n f0.type [c0] = some y0 := by simpa [Value.cells, o0, k0] using hg 0 f0 rfl
      have g1 : DataW.trod enc P w base spare held n f1.type [c1] = some y1 := by simpa [Value.cells, o1, k1] using hg 1 f1 rfl
      have g2 : DataW.trod enc P w base spare held n f2.type [c2] = some y2 := by simpa [Value.cells, o2, k2] using hg 2 f2 rfl
      obtain ⟨a0, e0, -, z0⟩ := DataW.trod_int i0 g0
      obtain ⟨a1, e1, -, z1⟩ := DataW.trod_int i1 g1
      obtain ⟨a2, e2, -, z2⟩ := DataW.trod_int i2 g2
      simp at e0 e1 e2
      exact ⟨a0, a1, a2, by rw [e0, e1, e2], i64_bounds z0, i64_bounds z1, i64_bounds z2⟩
theorem open_ints2 {r : Reach} {b0 : Nat} {t : TypeId} {f0 f1 : Field} {v : Value} {d : DataW H} {p : List MemPlace} (hs : P.underlying t = some (.struct #[f0, f1])) (hone : oneCellFields P #[f0, f1] = true) (hC : P.cellsOf t = 2)
    (i0 : P.underlying f0.type = some (.int .i64)) (i1 : P.underlying f1.type = some (.int .i64))
    (hv : Value.okWide P w r b0 t v) (h : DataW.Trod enc P w base spare held t v d p) :
    ∃ a0 a1 : Int, v = .agg #[.int .i64 a0, .int .i64 a1] ∧ (-9223372036854775808 ≤ a0 ∧ a0 ≤ 9223372036854775807) ∧ (-9223372036854775808 ≤ a1 ∧ a1 ≤ 9223372036854775807) := by
  obtain ⟨cs, rfl, hsz⟩ := okWide_struct hs hv
  obtain ⟨l⟩ := cs
  match l, hsz.trans hC with
  | [c0, c1], _ =>
    obtain ⟨fuel, hf⟩ := h
    obtain ⟨xs, n, _, hx, _, hlen, hg⟩ := DataW.trod_struct hs hf
    obtain ⟨o0, k0⟩ := hone_of hone 0 f0 rfl
    obtain ⟨o1, k1⟩ := hone_of hone 1 f1 rfl
    match xs, hlen with
    | [y0, y1], _ =>
      have g0 : DataW.trod enc P w base spare held n f0.type [c0] = some y0 := by simpa [Value.cells, o0, k0] using hg 0 f0 rfl
      have g1 : DataW.trod enc P w base spare held n f1.type [c1] = some y1 := by simpa [Value.cells, o1, k1] using hg 1 f1 rfl
      obtain ⟨a0, e0, -, z0⟩ := DataW.trod_int i0 g0
      obtain ⟨a1, e1, -, z1⟩ := DataW.trod_int i1 g1
      simp at e0 e1
      exact ⟨a0, a1, by rw [e0, e1], i64_bounds z0, i64_bounds z1⟩
end
end RowK
end Go.Proofs.Ytgeankdimknmiaa.Hp

/- Rows whose arguments are lists of sends: opened to numbers and lists. -/
namespace Go.Proofs.Ytgeankdimknmiaa.Hp
set_option linter.unusedVariables false
namespace RowK
open Go.ChangeShapes Go.WideShapes Go.ChangeAt Go.RowKit Go.Joins Go.Deep Go.Proofs.Ytgeankdimknmiaa.Tp
theorem cellsSend : Try.prog.cellsOf 43 = 2 := by kernel_rfl
section
variable {H : Type} {enc : TypeId × Value → H} {w : World} {base : Nat} {spare : Nat → Bool} {held : Bool}
theorem open_sends {fuel : Nat} {cs : List Value} {x : DataW H × List MemPlace} (h : DataW.trod enc Try.prog w base spare held fuel 41 cs = some x) :
    ∃ (A : Option Addr) (L : List (Int × Int)) (c : Nat), cs = [.slice A L.length c] ∧ L.length ≤ c ∧ c ≤ maxLen ∧ (∀ x ∈ L, Wd x) ∧ Lie ratV 2 w w.heap.size A L := by
  rcases open_slice_fields Try.underlying41 Try.underlying43 (by kernel_rfl) cellsSend h with rfl | ⟨a, len, cap, rfl, hl, hm, hc⟩
  · exact ⟨none, [], 0, rfl, by simp, by simp [maxLen], fun x hx => absurd hx (by simp), Lie.nil⟩
  · obtain ⟨L, rfl, hL⟩ := list_of (α := Int × Int) (Q := fun i x => Wd x ∧ w.cell? (a.add (i * 2 + 0)) = some (.int .i64 x.1) ∧ w.cell? (a.add (i * 2 + 1)) = some (.int .i64 x.2)) (fun i hi => by
      obtain ⟨v0, n0, y0, hv0, ht0⟩ := hc i hi 0 _ rfl
      obtain ⟨v1, n1, y1, hv1, ht1⟩ := hc i hi 1 _ rfl
      obtain ⟨a0, e0, -, z0⟩ := DataW.trod_int Try.underlying2 ht0
      obtain ⟨a1, e1, -, z1⟩ := DataW.trod_int Try.underlying2 ht1
      simp at e0 e1
      subst e0 e1
      have b0 := i64_bounds z0
      have b1 := i64_bounds z1
      exact ⟨(a0, a1), ⟨b0.1, b0.2, b1.1, b1.2⟩, hv0, hv1⟩)
    refine ⟨some a, L, cap, rfl, hl, hm, fun x hx => ?_, fun hlen => ⟨a, rfl, ?_, fun i x hx j v hv => ?_⟩⟩
    · obtain ⟨i, hi, rfl⟩ := List.getElem_of_mem hx
      exact (hL i L[i] (List.getElem?_eq_getElem hi)).1
    · have := (hL 0 L[0] (List.getElem?_eq_getElem hlen)).2.1
      have := World.block_lt_of_cell? _ _ this
      rwa [block_of_add] at this
    · obtain ⟨_, h0, h1⟩ := hL i x hx
      match j, hv with
      | 0, hv => simp [ratV] at hv; subst hv; exact h0
      | 1, hv => simp [ratV] at hv; subst hv; exact h1
      | j + 2, hv => simp [ratV] at hv
end
end RowK
end Go.Proofs.Ytgeankdimknmiaa.Hp

/- Whatever the rate, how many bytes more and the packets, ClockBound answers true: no stamp is more than those bytes by the rate behind the tick; no conditions. -/
namespace Go.Proofs.Ytgeankdimknmiaa.clockBound
open Go.ChangeShapes Go.WideShapes Go.ChangeAt Go.RowKit Go.Joins Go.Proofs.Ytgeankdimknmiaa.Tp Go.Proofs.Ytgeankdimknmiaa.Hp Go.Proofs.Ytgeankdimknmiaa.Hp.RowK
set_option linter.unusedVariables false
set_option maxRecDepth 100000 in
theorem lifted (os : Os) (started : os.Started) (H : Type) (enc : TypeId × Value → H) :
    ReturnsInHanded {} Try.checked os 4 .any (Rows.clockBoundSpec.pre6 enc Try.prog Try.f4 Rows.clockBoundRow.domain false) (Rows.clockBoundSpec.post enc Try.prog Try.f4 false true false false) := by
  refine returnsInHanded_of_change (C := Try.checked) RowK.own started (by kernel_rfl) Try.func4
    (ChangeSpec.witness6 (enc := enc) (C := Try.checked) false ⟨#[], #[.int .i64 0, .int .i64 0, .slice none 0 0], []⟩ 8 (by kernel_rfl) (by kernel_rfl) (by kernel_rfl) (by kernel_rfl)) ?_
  intro W base args ds gs before hval0 hW hcnd _
  have hval : ∀ (j : Nat) t v, Try.f4.params[j]? = some t → args[j]? = some v → Value.okWide Try.prog W .any base t v := hval0
  have hW' := hW
  obtain ⟨p, q, hA0, hV, rfl, hfz, hnd⟩ := hW
  have hA : DataW.TrodAll enc Try.prog W 0 (fun _ => true) true Try.f4.params.toList args.toList ds p := hA0
  rw [Try.params4] at hA hval
  obtain ⟨v0, vs0, d0, ds0, p0, q0, hargs, rfl, rfl, h0, r0⟩ := trodAll_cons hA
  obtain ⟨v1, vs1, d1, ds1, p1, q1, rfl, rfl, rfl, h1, r1⟩ := trodAll_cons r0
  obtain ⟨v2, vs2, d2, ds2, p2, q2, rfl, rfl, rfl, h2, r2⟩ := trodAll_cons r1
  obtain ⟨rfl, rfl, rfl⟩ := trodAll_nil r2
  obtain rfl : args = #[v0, v1, v2] := by cases args; simp_all
  obtain ⟨rfl, rfl⟩ := trodVars_none hV
  obtain ⟨a0, rfl, e0, f0, y0⟩ := open_int Try.underlying2 (hval 0 2 v0 rfl rfl) h0
  obtain ⟨a1, rfl, e1, f1, y1⟩ := open_int Try.underlying2 (hval 1 2 v1 rfl rfl) h1
  obtain ⟨A2, L2, c2, rfl, m2, n2, o2, l2⟩ : ∃ (A : Option Addr) (L : List (Int × Int)) (c : Nat), v2 = .slice A L.length c ∧ L.length ≤ c ∧ c ≤ maxLen ∧ (∀ x ∈ L, Wd x) ∧ Lie ratV 2 W W.heap.size A L := by
    obtain ⟨ptr, len, cap, rfl⟩ := okWide_slice Try.underlying41 (hval 2 41 v2 rfl rfl)
    obtain ⟨fuel, hf⟩ := h2
    obtain ⟨A, L, c, e, hh⟩ := open_sends hf
    exact ⟨A, L, c, by simpa [Value.cells] using e, hh⟩
  refine (Ytgeankdimknmiaa.Hp.bound14_walk a0 a1 A2 L2 c2 o2 m2 n2 W l2).mono fun e W' ⟨he, hg⟩ => ?_
  subst he
  exact ⟨_, rfl, post_law RowK.laidOut (by rw [Try.params4]; intro t ht; simp at ht; rcases ht with rfl | rfl | rfl <;> exact ⟨by kernel_rfl, of_decide_eq_true (by kernel_rfl)⟩) hW' hA0 rfl (fun _ _ _ => (trodAll_cons_mk (shut_bool Try.underlying4 _) trodAll_mk0)) (fun _ => rfl) hg (ok_one (by kernel_rfl) rfl (okWide_bool_mk Try.underlying4 _))⟩

theorem over : Rows.clockBoundRow.holds Try.pinned (OpenSpec.ofChange Rows.clockBoundSpec) :=
  OpenClaim.holds_of_wide 4 Try.f4 rfl rfl rfl rfl rfl rfl rfl ⟨rfl, rfl, rfl, rfl, rfl⟩ rfl rfl rfl rfl rfl (by kernel_rfl) Try.func4 (by kernel_rfl)
    (of_decide_eq_true (by kernel_rfl)) (by unfold Func.isWrapper; first | (rw [if_pos (by decide +kernel)]; kernel_rfl) | (rw [if_neg (by decide +kernel)]; exact ⟨rfl, rfl⟩))
    (fun os started H enc _ => lifted os started H enc)
end Go.Proofs.Ytgeankdimknmiaa.clockBound
namespace Go.Proofs.Ytgeankdimknmiaa
/-- the given statement. -/
theorem clockBound_proved : Rows.ClockBoundSaid := clockBound.over
end Go.Proofs.Ytgeankdimknmiaa

