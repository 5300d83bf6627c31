/- Bound, Ticks, Room, of any spec, rate and terms. -/
import Derived.Test.YtianceglbkcmpaaBdN
namespace Go.Proofs.Ytianceglbkcmpaa
set_option linter.unusedVariables false
open Go.RowKit

theorem entersTicks1 : ∀ args w, (callFunc 25 args).run Try.prog w = .ok (.enter 25 args) w := fun args w => by simp [callFunc, Try.func25, Try.f25, mark]
set_option maxHeartbeats 4000000 in
theorem ticksStep (p r u m l R c d N D : Int) (hs : SpecIn p r u m) (hc1 : 0 ≤ c) (hc2 : c ≤ 10000000) (hd1 : 0 ≤ d) (hd2 : d ≤ 1000000) (hok : Told p r u m l R c d N D) (a b e : Nat) (w : World) (ha : AskAt w a b e p r u m l R c d) :
    StepsTo 25 #[.pointer (some ⟨a, 0, none⟩), .pointer (some ⟨b, 0, none⟩), .pointer (some ⟨e, 0, none⟩)] (.returned (.int .i64 (upV N D))) w := by
  intro W hW
  obtain ⟨⟨x0, x1, x2, x3, x4, x5⟩, ⟨y0, y1⟩, z0, z1, z2⟩ := ha.step hW
  obtain ⟨⟨hR1, hR2⟩, hlo, ⟨b1, b2, b3⟩, hrt⟩ := hok
  have cl := hidd (fun W => late_ok p r u m l R c d N D hs hR1 hR2 hc1 hc2 hd1 hd2 hlo W)
  have cu := fun W => up_ok N D b1 b2 b3 hrt W
  have hu2 : -(-N / D) = upV N D := rfl
  rw [hu2] at cu
  generalize upV N D = U at *
  have CU := hidd cu
  clear hlo hrt ha hW hu2 cu hs
  go_enter Try.func25, Try.ntmps25
  go_wp2_with fail
  refine (cl.out _).mono ?_
  rintro E w1 ⟨rfl, hb⟩
  have HB1 := hidd hb
  clear hb
  go_wp2_with fail
  refine (CU.out _).mono ?_
  rintro E w2 ⟨rfl, hb⟩
  have HB2 := hidd (below_step HB1.out hb)
  clear hb
  go_wp2_with fail
  go_ret
  exact ⟨rfl, HB2.out⟩
set_option maxRecDepth 100000 in
set_option maxHeartbeats 4000000 in
theorem Ticks_ok (p r u m l R c d N D : Int) (hh : hasB p r u m l R c d = true) (hs : SpecIn p r u m) (hc1 : 0 ≤ c) (hc2 : c ≤ 10000000) (hd1 : 0 ≤ d) (hd2 : d ≤ 1000000) (hok : Told p r u m l R c d N D) (w : World) :
    Calls Try.prog 7 #[.agg #[.int .i64 p, .int .i64 r, .int .i64 u, .int .i64 m, .int .i64 l], .int .i64 R, .agg #[.int .i64 c, .int .i64 d]] w fun e w' => e = .returned (.tuple #[.int .i64 (upV N D), .int .i64 0]) ∧ Below w.heap.size w w' := by
  have hmf : ∀ (fn : Fn) (first cap : Array Value) (w : World), (Instr.makeFunc fn first cap).run Try.prog w = .ok (.func fn first cap) w := fun _ _ _ _ => rfl
  have ch := fun W => hasBound_any p r u m l R c d W
  rw [hh] at ch
  have CH := hidd ch
  have st := hidd (fun a b e W ha => ticksStep p r u m l R c d N D hs hc1 hc2 hd1 hd2 hok a b e W ha)
  have ka := hidd (ask_new w p r u m l R c d)
  clear ch hh hs hok
  generalize upV N D = V at *
  go_enter Try.func7, Try.ntmps7
  go_wp2_with fail
  refine Zp.wp_scope_fwd 0 (fun a' w' => False) rfl ?_ (fun a' w' h => h.elim)
  obtain ⟨⟨x0, x1, x2, x3, x4, x5⟩, ⟨y0, y1⟩, z0, z1, z2⟩ := ka.out
  go_wp2_with fail
  refine (CH.out _).mono ?_
  rintro e w1 ⟨rfl, hb1⟩
  have HA1 := hidd (ka.out.step hb1)
  have HB1 := hidd (below_step (below_new (below_new (below_new (Below.refl w.heap.size w) _) _) _) hb1)
  clear hb1 x0 x1 x2 x3 x4 x5 y0 y1 z0 z1 z2
  go_wp2_with fail
  refine (toldBL_ok _ entersTicks1 _ _ V (st.out _ _ _ _ HA1.out)).mono ?_
  rintro e w2 ⟨rfl, hb2⟩
  have HB2 := hidd (below_step HB1.out hb2)
  clear hb2
  go_wp2_with fail
  (try simp only [Exit.jump])
  go_ret2
  exact ⟨rfl, HB2.out⟩
set_option maxRecDepth 100000 in
set_option maxHeartbeats 4000000 in
theorem roomStepNo (p r u m l R c d N D : Int) (hs : SpecIn p r u m) (hc1 : 0 ≤ c) (hc2 : c ≤ 10000000) (hd1 : 0 ≤ d) (hd2 : d ≤ 1000000) (hok : Told p r u m l R c d N D) (hU0 : 0 ≤ upV N D) (hUx : upV N D ≤ 30000000) (hU1 : ¬ u + r * upV N D ≤ 1000000000) (a b e : Nat) (w : World) (ha : AskAt w a b e p r u m l R c d) :
    StepsTo 27 #[.pointer (some ⟨a, 0, none⟩), .pointer (some ⟨b, 0, none⟩), .pointer (some ⟨e, 0, none⟩)] (errPanic 3) w := by
  intro W hW
  have hAW := ha.step hW
  have KEEP := hidd (fun W' (hb : Below W.heap.size W W') => (show (W'.cell? ⟨a, 0, none⟩ = some (.int .i64 p) ∧ W'.cell? ⟨a, 1, none⟩ = some (.int .i64 r) ∧ W'.cell? ⟨a, 2, none⟩ = some (.int .i64 u) ∧ W'.cell? ⟨a, 3, none⟩ = some (.int .i64 m) ∧ W'.cell? ⟨a, 4, none⟩ = some (.int .i64 l)) ∧ W'.cell? ⟨b, 0, none⟩ = some (.int .i64 R) ∧ W'.cell? ⟨e, 0, none⟩ = some (.int .i64 c) ∧ W'.cell? ⟨e, 1, none⟩ = some (.int .i64 d) from ⟨((hAW.step hb).1.2), (hAW.step hb).2.1.2, (hAW.step hb).2.2.2.1, (hAW.step hb).2.2.2.2⟩))
  obtain ⟨⟨x0, x1, x2, x3, x4, x5⟩, ⟨y0, y1⟩, z0, z1, z2⟩ := hAW
  obtain ⟨⟨hR1, hR2⟩, hlo, ⟨b1, b2, b3⟩, hrt⟩ := hok
  have cl := hidd (fun W => late_ok p r u m l R c d N D hs hR1 hR2 hc1 hc2 hd1 hd2 hlo W)
  have cu := fun W => up_ok N D b1 b2 b3 hrt W
  have hu2 : -(-N / D) = upV N D := rfl
  rw [hu2] at cu
  obtain ⟨a1, a2, a3, a4, a5, a6, a7⟩ := hs
  have hrU : 0 ≤ r * upV N D := Int.mul_nonneg (by omega) hU0
  have hrX : r * upV N D ≤ 1000000 * 30000000 := Int.mul_le_mul (by omega) hUx hU0 (by decide)
  obtain ⟨v1, v2⟩ := wrap_both3 (x := r * upV N D) (by omega) (by omega)
  generalize upV N D = U at *
  obtain ⟨V, hV⟩ : ∃ V, r * U = V := ⟨_, rfl⟩
  rw [hV] at hrU hU1 hrX
  have g1 := v1.trans hV
  have g2 := v2.trans hV
  have g3 : IntKind.i64.wrap (u + V) = u + V := IntWalk.i64_in _ (by omega)
  have hle : decide (u + V ≤ 1000000000) = false := decide_eq_false hU1
  have cu := hidd cu
  clear v1 v2 hV hlo hrt ha hW hu2
  go_enter Try.func27, Try.ntmps27
  go_wp2_with fail
  go_region_held3 (fun w' => (w'.cell? ⟨a, 0, none⟩ = some (.int .i64 p) ∧ w'.cell? ⟨a, 1, none⟩ = some (.int .i64 r) ∧ w'.cell? ⟨a, 2, none⟩ = some (.int .i64 u) ∧ w'.cell? ⟨a, 3, none⟩ = some (.int .i64 m) ∧ w'.cell? ⟨a, 4, none⟩ = some (.int .i64 l)) ∧ w'.cell? ⟨b, 0, none⟩ = some (.int .i64 R) ∧ w'.cell? ⟨e, 0, none⟩ = some (.int .i64 c) ∧ w'.cell? ⟨e, 1, none⟩ = some (.int .i64 d))
    ((first | exact KEEP.out _ cum2 | exact KEEP.out _ cum1 | exact ⟨⟨x1, x2, x3, x4, x5⟩, y1, z1, z2⟩ | go_keep))
    ((first
      | (go_at_call 23; refine (cl.out _).mono ?_; rintro E1 x1' ⟨rfl, l1⟩; have cum1 : Below W.heap.size W x1' := (by first | exact below_step (Below.drew (Below.refl _ _)) l1 | exact below_step (Below.refl _ _) l1))
      | (go_at_call 26; refine (cu.out _).mono ?_; rintro E2 x2' ⟨rfl, l2⟩; have cum2 : Below W.heap.size W x2' := (by first | exact below_step cum1 l2))))
  all_goals go_wp2_with fail
  all_goals (refine (need_no _ _).mono ?_)
  all_goals rintro E3 w3 ⟨rfl, rfl⟩
  all_goals go_wp2_with fail
  all_goals exact ⟨rfl, rfl, cum2⟩
set_option maxRecDepth 100000 in
set_option maxHeartbeats 4000000 in
theorem Room_long (p r u m l R c d N D : Int) (hh : hasB p r u m l R c d = true) (hs : SpecIn p r u m) (hc1 : 0 ≤ c) (hc2 : c ≤ 10000000) (hd1 : 0 ≤ d) (hd2 : d ≤ 1000000) (hok : Told p r u m l R c d N D) (hU0 : 0 ≤ upV N D) (hUx : upV N D ≤ 30000000) (hU1 : ¬ u + r * upV N D ≤ 1000000000) (w : World) :
    Calls Try.prog 8 #[.agg #[.int .i64 p, .int .i64 r, .int .i64 u, .int .i64 m, .int .i64 l], .int .i64 R, .agg #[.int .i64 c, .int .i64 d]] w fun e w' => e = .returned (.tuple #[.int .i64 0, .int .i64 3]) ∧ Below w.heap.size w w' := by
  have hmf : ∀ (fn : Fn) (first cap : Array Value) (w : World), (Instr.makeFunc fn first cap).run Try.prog w = .ok (.func fn first cap) w := fun _ _ _ _ => rfl
  have ch := fun W => hasBound_any p r u m l R c d W
  rw [hh] at ch
  have CH := hidd ch
  have st := hidd (fun a b e W ha => roomStepNo p r u m l R c d N D hs hc1 hc2 hd1 hd2 hok hU0 hUx hU1 a b e W ha)
  have ka := hidd (ask_new w p r u m l R c d)
  clear ch hh hs hok hU0 hU1 hUx
  go_enter Try.func8, Try.ntmps8
  go_wp2_with fail
  refine Zp.wp_scope_fwd 0 (fun a' w' => False) rfl ?_ (fun a' w' h => h.elim)
  obtain ⟨⟨x0, x1, x2, x3, x4, x5⟩, ⟨y0, y1⟩, z0, z1, z2⟩ := ka.out
  go_wp2_with fail
  refine (CH.out _).mono ?_
  rintro e w1 ⟨rfl, hb1⟩
  have HA1 := hidd (ka.out.step hb1)
  have HB1 := hidd (below_step (below_new (below_new (below_new (Below.refl w.heap.size w) _) _) _) hb1)
  clear hb1 x0 x1 x2 x3 x4 x5 y0 y1 z0 z1 z2
  go_wp2_with fail
  refine (toldBL_no _ entersRoom1 _ _ 3 (st.out _ _ _ _ HA1.out)).mono ?_
  rintro e w2 ⟨rfl, hb2⟩
  have HB2 := hidd (below_step HB1.out hb2)
  clear hb2
  go_wp2_with fail
  (try simp only [Exit.jump])
  go_ret2
  exact ⟨rfl, HB2.out⟩
set_option maxRecDepth 100000 in
set_option maxHeartbeats 4000000 in
theorem Bound_no (p r u m l R c d : Int) (hh : hasB p r u m l R c d = false) (w : World) :
    Calls Try.prog 6 #[.agg #[.int .i64 p, .int .i64 r, .int .i64 u, .int .i64 m, .int .i64 l], .int .i64 R, .agg #[.int .i64 c, .int .i64 d]] w fun e w' => e = .returned (.tuple #[.agg #[.int .i64 0, .int .i64 0], .int .i64 2]) ∧ Below w.heap.size w w' := by
  have hmf : ∀ (fn : Fn) (first cap : Array Value) (w : World), (Instr.makeFunc fn first cap).run Try.prog w = .ok (.func fn first cap) w := fun _ _ _ _ => rfl
  have ch := fun W => hasBound_any p r u m l R c d W
  rw [hh] at ch
  have CH := hidd ch
  have ka := hidd (ask_new w p r u m l R c d)
  clear ch hh
  go_enter Try.func6, Try.ntmps6
  go_wp2_with fail
  have HG := hidd (GBox.new (by simp : (((w.alloc (.cells #[.int .i64 p, .int .i64 r, .int .i64 u, .int .i64 m, .int .i64 l] 23)).alloc (.cells #[.int .i64 R] 2)).alloc (.cells #[.int .i64 c, .int .i64 d] 25)).heap.size = w.heap.size + 1 + 1 + 1) 27 0 0)
  refine Zp.wp_scope_fwd 0 (fun a' w' => Below w.heap.size w w' ∧ GBox w' (w.heap.size + 1 + 1 + 1) 0 0 ∧ ∃ v0 v1 v2 v3 v4 v5 v7 v8 v9 v10 v11 v12 v13 v14 v15 v16 v17 : Value, a' = { tmps := #[v0, v1, v2, v3, v4, v5, .pointer (some ⟨w.heap.size + 1 + 1 + 1, 0, none⟩), v7, v8, v9, v10, v11, v12, v13, v14, v15, v16, v17], defers := [] }) rfl ?_ ?_
  case refine_2 =>
    rintro a' w' ⟨hb, ⟨g0, g1, g2, g3, g4⟩, v0, v1, v2, v3, v4, v5, v7, v8, v9, v10, v11, v12, v13, v14, v15, v16, v17, rfl⟩
    go_wp2_with fail
    (try rw [Exit.noGoto_ret])
    exact bodyPost_ret (v := .tuple #[.agg #[.int .i64 0, .int .i64 0], .int .i64 2]) (by simp [results, Try.results6, go_sem, *]) rfl ⟨rfl, by (repeat' (first | (with_reducible exact Below.refl _ _) | (with_reducible assumption) | (with_reducible apply Below.setCell) | (with_reducible apply Below.alloc) | (with_reducible apply Below.drew) | (with_reducible apply below_drewN) | (with_reducible refine Below.trans ?_ (Below.mono (by assumption) ?_)) | omega | (simp; done) | (simp; omega)))⟩
  have hA0 := hidd (ka.out.step ((Below.refl _ _).alloc (Nat.le_refl _) (.cells #[.int .i64 0, .int .i64 0] 27)))
  obtain ⟨⟨x0, x1, x2, x3, x4, x5⟩, ⟨y0, y1⟩, z0, z1, z2⟩ := hA0.out
  go_wp2_with fail
  refine (CH.out _).mono ?_
  rintro e w1 ⟨rfl, hb1⟩
  have HG1 := hidd (HG.out.step hb1)
  have HB1 := hidd (below_step (below_new (below_new (below_new (below_new (Below.refl w.heap.size w) _) _) _) _) hb1)
  clear hb1 x0 x1 x2 x3 x4 x5 y0 y1 z0 z1 z2
  go_wp2_with fail
  go_step3
  exact ⟨rfl, HB1.out, HG1.out, _, _, _, _, _, _, _, _, _, _, _, _, _, _, _, _, _, rfl⟩
set_option maxRecDepth 100000 in
set_option maxHeartbeats 4000000 in
theorem Ticks_no (p r u m l R c d : Int) (hh : hasB p r u m l R c d = false) (w : World) :
    Calls Try.prog 7 #[.agg #[.int .i64 p, .int .i64 r, .int .i64 u, .int .i64 m, .int .i64 l], .int .i64 R, .agg #[.int .i64 c, .int .i64 d]] w fun e w' => e = .returned (.tuple #[.int .i64 0, .int .i64 2]) ∧ Below w.heap.size w w' := by
  have hmf : ∀ (fn : Fn) (first cap : Array Value) (w : World), (Instr.makeFunc fn first cap).run Try.prog w = .ok (.func fn first cap) w := fun _ _ _ _ => rfl
  have ch := fun W => hasBound_any p r u m l R c d W
  rw [hh] at ch
  have CH := hidd ch
  have ka := hidd (ask_new w p r u m l R c d)
  clear ch hh
  go_enter Try.func7, Try.ntmps7
  go_wp2_with fail
  refine Zp.wp_scope_fwd 0 (fun a' w' => Below w.heap.size w w' ∧ ∃ v0 v1 v2 v3 v4 v5 v6 v7 v8 v9 v10 v11 v12 v13 v14 v15 v16 : Value, a' = { tmps := #[v0, v1, v2, v3, v4, v5, v6, v7, v8, v9, v10, v11, v12, v13, v14, v15, v16], defers := [] }) rfl ?_ ?_
  case refine_2 =>
    rintro a' w' ⟨hb, v0, v1, v2, v3, v4, v5, v6, v7, v8, v9, v10, v11, v12, v13, v14, v15, v16, rfl⟩
    go_wp2_with fail
    (try rw [Exit.noGoto_ret])
    go_ret2
    exact ⟨rfl, hb⟩
  obtain ⟨⟨x0, x1, x2, x3, x4, x5⟩, ⟨y0, y1⟩, z0, z1, z2⟩ := ka.out
  go_wp2_with fail
  refine (CH.out _).mono ?_
  rintro e w1 ⟨rfl, hb1⟩
  have HB1 := hidd (below_step (below_new (below_new (below_new (Below.refl w.heap.size w) _) _) _) hb1)
  clear hb1 x0 x1 x2 x3 x4 x5 y0 y1 z0 z1 z2
  go_wp2_with fail
  go_step3
  exact ⟨rfl, HB1.out, _, _, _, _, _, _, _, _, _, _, _, _, _, _, _, _, _, rfl⟩
set_option maxRecDepth 100000 in
set_option maxHeartbeats 4000000 in
theorem Room_no (p r u m l R c d : Int) (hh : hasB p r u m l R c d = false) (w : World) :
    Calls Try.prog 8 #[.agg #[.int .i64 p, .int .i64 r, .int .i64 u, .int .i64 m, .int .i64 l], .int .i64 R, .agg #[.int .i64 c, .int .i64 d]] w fun e w' => e = .returned (.tuple #[.int .i64 0, .int .i64 2]) ∧ Below w.heap.size w w' := by
  have hmf : ∀ (fn : Fn) (first cap : Array Value) (w : World), (Instr.makeFunc fn first cap).run Try.prog w = .ok (.func fn first cap) w := fun _ _ _ _ => rfl
  have ch := fun W => hasBound_any p r u m l R c d W
  rw [hh] at ch
  have CH := hidd ch
  have ka := hidd (ask_new w p r u m l R c d)
  clear ch hh
  go_enter Try.func8, Try.ntmps8
  go_wp2_with fail
  refine Zp.wp_scope_fwd 0 (fun a' w' => Below w.heap.size w w' ∧ ∃ v0 v1 v2 v3 v4 v5 v6 v7 v8 v9 v10 v11 v12 v13 v14 v15 v16 : Value, a' = { tmps := #[v0, v1, v2, v3, v4, v5, v6, v7, v8, v9, v10, v11, v12, v13, v14, v15, v16], defers := [] }) rfl ?_ ?_
  case refine_2 =>
    rintro a' w' ⟨hb, v0, v1, v2, v3, v4, v5, v6, v7, v8, v9, v10, v11, v12, v13, v14, v15, v16, rfl⟩
    go_wp2_with fail
    (try rw [Exit.noGoto_ret])
    go_ret2
    exact ⟨rfl, hb⟩
  obtain ⟨⟨x0, x1, x2, x3, x4, x5⟩, ⟨y0, y1⟩, z0, z1, z2⟩ := ka.out
  go_wp2_with fail
  refine (CH.out _).mono ?_
  rintro e w1 ⟨rfl, hb1⟩
  have HB1 := hidd (below_step (below_new (below_new (below_new (Below.refl w.heap.size w) _) _) _) hb1)
  clear hb1 x0 x1 x2 x3 x4 x5 y0 y1 z0 z1 z2
  go_wp2_with fail
  go_step3
  exact ⟨rfl, HB1.out, _, _, _, _, _, _, _, _, _, _, _, _, _, _, _, _, _, rfl⟩
theorem has_in {p r u m l R c d : Int} (h : hasB p r u m l R c d = true) : SpecIn p r u m ∧ (r ≤ R ∧ R ≤ 1000000) ∧ (0 ≤ c ∧ c ≤ 10000000) ∧ 0 ≤ d ∧ d ≤ 1000000 := by
  unfold hasB at h
  rw [Bool.and_eq_true, Bool.and_eq_true] at h
  exact ⟨spec_in h.1.1, fromB_iff.1 h.2, terms_in h.1.2⟩
theorem boundN_le {p r u m R c d : Int} (hs : SpecIn p r u m) (hR : r ≤ R) (hc1 : 0 ≤ c) (hc2 : c ≤ 10000000) (hd1 : 0 ≤ d) (hd2 : d ≤ 1000000) : boundN p r u m R c d ≤ 30000000 * boundD p r R := by
  obtain ⟨a1, a2, a3, a4, a5, a6, a7⟩ := hs
  unfold boundN boundD
  split
  · rename_i hp
    have hR1 : 1 ≤ R := by omega
    have hq : 1 ≤ p - r := by omega
    have e : p - r ≤ R * (p - r) := by
      have := Int.mul_le_mul_of_nonneg_right hR1 (show 0 ≤ p - r by omega)
      rwa [Int.one_mul] at this
    generalize R * (p - r) = D at *
    have k1 : (m + c) * (p - r) ≤ 10002000 * D := Int.mul_le_mul (by omega) e (by omega) (by decide)
    have k2 : d * D ≤ 1000000 * D := Int.mul_le_mul_of_nonneg_right hd2 (by omega)
    have k3 : (u - m) * (p - R) ≤ 10000000 * D := Int.mul_le_mul (by omega) (by omega) (by omega) (by decide)
    omega
  · have hR1 : 1 ≤ R := by omega
    have k2 : d * R ≤ 1000000 * R := Int.mul_le_mul_of_nonneg_right hd2 (by omega)
    omega
theorem upZ_le {n d x : Int} (hd : 1 ≤ d) (h : n ≤ x * d) : upZ n d ≤ x := by
  unfold upZ
  have : -x ≤ -n / d := (Int.le_ediv_iff_mul_le (by omega)).2 (by rw [Int.neg_mul]; omega)
  omega
/-- the bound in whole ticks. -/
def upB (p r u m R c d : Int) : Int := upZ (boundN p r u m R c d) (boundD p r R)
theorem upB_in {p r u m l R c d : Int} (h : hasB p r u m l R c d = true) : 0 ≤ upB p r u m R c d ∧ upB p r u m R c d ≤ 30000000 := by
  obtain ⟨hs, ⟨hR, hR2⟩, ⟨hc1, hc2⟩, hd1, hd2⟩ := has_in h
  obtain ⟨⟨t1, t2⟩, t3, t4⟩ := boundN_bd hs hR hR2 hc1 hc2 hd1 hd2
  exact ⟨(upZ_bd t1 t3).1, upZ_le t3 (boundN_le hs hR hc1 hc2 hd1 hd2)⟩
def bnR (p r u m l R c d : Int) : Int × Int × Int := if hasB p r u m l R c d then ((makeR (boundN p r u m R c d) (boundD p r R)).1, (makeR (boundN p r u m R c d) (boundD p r R)).2.1, 0) else (0, 0, 2)
def tkR (p r u m l R c d : Int) : Int × Int := if hasB p r u m l R c d then (upB p r u m R c d, 0) else (0, 2)
def rmR (p r u m l R c d : Int) : Int × Int := if hasB p r u m l R c d then (if u + r * upB p r u m R c d ≤ 1000000000 then (u + r * upB p r u m R c d, 0) else (0, 3)) else (0, 2)
theorem Bound_any (p r u m l R c d : Int) (w : World) :
    Calls Try.prog 6 #[.agg #[.int .i64 p, .int .i64 r, .int .i64 u, .int .i64 m, .int .i64 l], .int .i64 R, .agg #[.int .i64 c, .int .i64 d]] w fun e w' => e = .returned (.tuple #[.agg #[.int .i64 (bnR p r u m l R c d).1, .int .i64 (bnR p r u m l R c d).2.1], .int .i64 (bnR p r u m l R c d).2.2]) ∧ Below w.heap.size w w' := by
  unfold bnR
  by_cases h : hasB p r u m l R c d = true
  · obtain ⟨hs, ⟨hR, hR2⟩, ⟨hc1, hc2⟩, hd1, hd2⟩ := has_in h
    obtain ⟨N, D, ht, hm, _⟩ := told_up (l := l) hs hR hR2 hc1 hc2 hd1 hd2
    rw [if_pos h, hm]
    exact Bound_ok p r u m l R c d N D h hs ht.1.1 hR2 hc1 hc2 hd1 hd2 ht.2.1 w
  · rw [if_neg h]
    exact Bound_no p r u m l R c d (by simpa using h) w
theorem Ticks_any (p r u m l R c d : Int) (w : World) :
    Calls Try.prog 7 #[.agg #[.int .i64 p, .int .i64 r, .int .i64 u, .int .i64 m, .int .i64 l], .int .i64 R, .agg #[.int .i64 c, .int .i64 d]] w fun e w' => e = .returned (.tuple #[.int .i64 (tkR p r u m l R c d).1, .int .i64 (tkR p r u m l R c d).2]) ∧ Below w.heap.size w w' := by
  unfold tkR
  by_cases h : hasB p r u m l R c d = true
  · obtain ⟨hs, ⟨hR, hR2⟩, ⟨hc1, hc2⟩, hd1, hd2⟩ := has_in h
    obtain ⟨N, D, ht, hm, hu⟩ := told_up (l := l) hs hR hR2 hc1 hc2 hd1 hd2
    rw [if_pos h]
    have := Ticks_ok p r u m l R c d N D h hs hc1 hc2 hd1 hd2 ht w
    rw [hu] at this
    exact this
  · rw [if_neg h]
    exact Ticks_no p r u m l R c d (by simpa using h) w
theorem Room_any (p r u m l R c d : Int) (w : World) :
    Calls Try.prog 8 #[.agg #[.int .i64 p, .int .i64 r, .int .i64 u, .int .i64 m, .int .i64 l], .int .i64 R, .agg #[.int .i64 c, .int .i64 d]] w fun e w' => e = .returned (.tuple #[.int .i64 (rmR p r u m l R c d).1, .int .i64 (rmR p r u m l R c d).2]) ∧ Below w.heap.size w w' := by
  unfold rmR
  by_cases h : hasB p r u m l R c d = true
  · obtain ⟨hs, ⟨hR, hR2⟩, ⟨hc1, hc2⟩, hd1, hd2⟩ := has_in h
    obtain ⟨N, D, ht, hm, hu⟩ := told_up (l := l) hs hR hR2 hc1 hc2 hd1 hd2
    obtain ⟨u0, u1⟩ := upB_in h
    have hu' : upV N D = upB p r u m R c d := hu
    rw [if_pos h]
    by_cases hl : u + r * upB p r u m R c d ≤ 1000000000
    · rw [if_pos hl]
      have := Room_ok p r u m l R c d N D h hs hc1 hc2 hd1 hd2 ht (by rw [hu']; exact u0) (by rw [hu']; exact hl) w
      rw [hu'] at this
      exact this
    · rw [if_neg hl]
      exact Room_long p r u m l R c d N D h hs hc1 hc2 hd1 hd2 ht (by rw [hu']; exact u0) (by rw [hu']; exact u1) (by rw [hu']; exact hl) w
  · rw [if_neg h]
    exact Room_no p r u m l R c d (by simpa using h) w
end Go.Proofs.Ytianceglbkcmpaa
