/- The faces Rate (where all is right) and Link (of any three numbers). -/
import Derived.Test.YtjnceoklnmmhjaaGreatBdE
namespace Go.Proofs.YtjnceoklnmmhjaaGreat
set_option linter.unusedVariables false
open Go.RowKit

/-- a fraction of two numbers from 1 on fits, and rounds up as they do. -/
theorem make_fits (n d : Int) (h0 : 0 ≤ n) (h1 : n ≤ 9223372036854775807) (h2 : 1 ≤ d) (h3 : d ≤ 9223372036854775807) : ∃ N D, makeR n d = (N, D, 0) ∧ rightB N D = true ∧ (-9223372036854775808 ≤ N ∧ N ≤ 9223372036854775807 ∧ D ≤ 9223372036854775807) ∧ -(-N / D) = -(-n / d) := by
  have hd : 0 < d.natAbs := by omega
  rcases RM.fracN_err (decide (n < 0) != decide (d < 0)) n.natAbs d.natAbs hd with ⟨N, D, h⟩ | h
  · refine ⟨N, D, h, ?_, ?_, ?_⟩
    · obtain ⟨hr, _⟩ := (RM.fracN_ok _ _ _ hd N D).1 h
      exact decide_eq_true ⟨hr.1, by have := hr.2.2.1; omega, hr.2.2.2.2⟩
    · obtain ⟨hr, _⟩ := (RM.fracN_ok _ _ _ hd N D).1 h
      exact ⟨by have := hr.2.2.1; omega, hr.2.2.2.1, hr.2.1⟩
    · obtain ⟨hr, he⟩ := (RM.fracN_ok _ _ _ hd N D).1 h
      have e0 : (decide (n < 0) != decide (d < 0)) = false := by
        have g1 : decide (n < 0) = false := decide_eq_false (by omega)
        have g2 : decide (d < 0) = false := decide_eq_false (by omega)
        rw [g1, g2]; rfl
      rw [e0] at he
      have e1 : RM.sgn false n.natAbs = n := by unfold RM.sgn; simp; omega
      have e2 : ((d.natAbs : Nat) : Int) = d := by omega
      rw [e1, e2] at he
      have hD : 0 < D := by have := hr.1; omega
      have g1 : -N / D = (d * -N) / (d * D) := (Int.mul_ediv_mul_of_pos _ _ (by omega)).symm
      have g2 : -n / d = (D * -n) / (D * d) := (Int.mul_ediv_mul_of_pos _ _ hD).symm
      have g3 : d * -N = D * -n := by rw [Int.mul_neg, Int.mul_neg, Int.mul_comm d N, Int.mul_comm D n, he]
      rw [g1, g2, g3, Int.mul_comm d D]
  · exfalso
    unfold RM.fracN RM.fracP at h
    rw [if_neg (by omega)] at h
    have l1 : n.natAbs / Nat.gcd n.natAbs d.natAbs ≤ n.natAbs := Nat.div_le_self _ _
    have l2 : d.natAbs / Nat.gcd n.natAbs d.natAbs ≤ d.natAbs := Nat.div_le_self _ _
    rw [if_pos ⟨by omega, by omega⟩] at h
    simp at h
def upZ (n d : Int) : Int := -(-n / d)
theorem upZ_bd {n d : Int} (h0 : 0 ≤ n) (h2 : 1 ≤ d) : 0 ≤ upZ n d ∧ upZ n d ≤ n := by
  unfold upZ
  have h1 : -n ≤ -n / d := by
    refine (Int.le_ediv_iff_mul_le (by omega)).2 ?_
    have : n * 1 ≤ n * d := Int.mul_le_mul_of_nonneg_left h2 h0
    rw [Int.neg_mul]; omega
  have h3 : -n / d ≤ 0 := by have := Int.ediv_le_ediv (c := d) (by omega) (show -n ≤ 0 by omega); simpa using this
  omega
theorem entersLink1 : ∀ args w, (callFunc 45 args).run Tryz.prog w = .ok (.enter 45 args) w := fun args w => by simp [callFunc, Tryz.func45, Tryz.f45, mark]
set_option maxRecDepth 100000 in
set_option maxHeartbeats 4000000 in
theorem linkStep (rate most far : Int) (r1 : 1 ≤ rate) (r2 : rate ≤ 1000000) (m1 : 1 ≤ most) (m2 : most ≤ 2000) (f1 : 0 ≤ far) (f2 : far ≤ 100000) (a b e : Nat) (w : World)
    (ha : a < w.heap.size ∧ w.cell? ⟨a, 0, none⟩ = some (.int .i64 most)) (hb : b < w.heap.size ∧ w.cell? ⟨b, 0, none⟩ = some (.int .i64 rate)) (he : e < w.heap.size ∧ w.cell? ⟨e, 0, none⟩ = some (.int .i64 far)) :
    StepsTo 45 #[.pointer (some ⟨a, 0, none⟩), .pointer (some ⟨b, 0, none⟩), .pointer (some ⟨e, 0, none⟩)] (.returned (.agg #[.int .i64 most, .int .i64 (upZ most rate + 1 + far)])) w := by
  intro W hW
  have x1 : W.cell? ⟨a, 0, none⟩ = some (.int .i64 most) := (hW.cell (p := ⟨a, 0, none⟩) ha.1).trans ha.2
  have x2 : W.cell? ⟨b, 0, none⟩ = some (.int .i64 rate) := (hW.cell (p := ⟨b, 0, none⟩) hb.1).trans hb.2
  have x3 : W.cell? ⟨e, 0, none⟩ = some (.int .i64 far) := (hW.cell (p := ⟨e, 0, none⟩) he.1).trans he.2
  have a1 : a < W.heap.size := Nat.lt_of_lt_of_le ha.1 hW.size
  have b1 : b < W.heap.size := Nat.lt_of_lt_of_le hb.1 hW.size
  have e1 : e < W.heap.size := Nat.lt_of_lt_of_le he.1 hW.size
  obtain ⟨N, D, hm, hr, ⟨w1, w2, w3⟩, hu⟩ := make_fits most rate (by omega) (by omega) r1 (by omega)
  have cb := hidd (fun W => boundBy_ok most rate N D (by omega) (by omega) (by omega) (by omega) hm W)
  have cu := fun W => up_ok N D w1 w2 w3 hr W
  rw [hu] at cu
  have hz := upZ_bd (n := most) (d := rate) (by omega) r1
  have hz2 : -(-most / rate) = upZ most rate := rfl
  rw [hz2] at cu
  generalize upZ most rate = U at *
  have CU := hidd cu
  have g1 : IntKind.i64.wrap (U + 1) = U + 1 := IntWalk.i64_in _ (by omega)
  have g2 : IntKind.i64.wrap (U + 1 + far) = U + 1 + far := IntWalk.i64_in _ (by omega)
  have hal : Below W.heap.size W (W.alloc (.cells #[.int .i64 0, .int .i64 0] 58)) := below_new (Below.refl _ _) _
  have KEEP := hidd (fun W' (hb : Below (W.alloc (.cells #[.int .i64 0, .int .i64 0] 58)).heap.size (W.alloc (.cells #[.int .i64 0, .int .i64 0] 58)) W') => (show (W'.cell? ⟨a, 0, none⟩ = some (.int .i64 most) ∧ W'.cell? ⟨b, 0, none⟩ = some (.int .i64 rate) ∧ W'.cell? ⟨e, 0, none⟩ = some (.int .i64 far)) ∧ GBox W' W.heap.size 0 0 from
    ⟨⟨(hb.cell (p := ⟨a, 0, none⟩) (by simp; omega)).trans ((hal.cell (p := ⟨a, 0, none⟩) a1).trans x1), (hb.cell (p := ⟨b, 0, none⟩) (by simp; omega)).trans ((hal.cell (p := ⟨b, 0, none⟩) b1).trans x2), (hb.cell (p := ⟨e, 0, none⟩) (by simp; omega)).trans ((hal.cell (p := ⟨e, 0, none⟩) e1).trans x3)⟩, (GBox.new rfl _ 0 0).step hb⟩))
  have na : ¬ a = W.heap.size := by omega
  have nb : ¬ b = W.heap.size := by omega
  have ne : ¬ e = W.heap.size := by omega
  clear hm hr hu cu hz2 ha hb he hW hal
  obtain ⟨⟨k0, k1, k2⟩, _⟩ := KEEP.out _ (Below.refl _ _)
  go_enter Tryz.func45, Tryz.ntmps45
  go_wp2_with fail
  go_region_held3 (fun w' => w'.cell? ⟨a, 0, none⟩ = some (.int .i64 most) ∧ w'.cell? ⟨b, 0, none⟩ = some (.int .i64 rate) ∧ w'.cell? ⟨e, 0, none⟩ = some (.int .i64 far))
    ((first | exact (KEEP.out _ cum2).1 | exact (KEEP.out _ cum1).1 | exact ⟨k0, k1, k2⟩ | (obtain ⟨⟨j0, j1, j2⟩, _⟩ := KEEP.out _ cum2; refine ⟨?_, ?_, ?_⟩ <;> simp [go_sem, *]; done) | go_keep))
    ((first
      | (go_at_call 47; refine (cb.out _).mono ?_; rintro E1 v1 ⟨rfl, l1⟩; have cum1 : Below ((W.alloc (.cells #[.int .i64 0, .int .i64 0] 58))).heap.size ((W.alloc (.cells #[.int .i64 0, .int .i64 0] 58))) v1 := (by first | exact below_step (Below.drew (Below.refl _ _)) l1 | exact below_step (Below.refl _ _) l1))
      | (go_at_call 46; refine (CU.out _).mono ?_; rintro E2 v2 ⟨rfl, l2⟩; have cum2 : Below ((W.alloc (.cells #[.int .i64 0, .int .i64 0] 58))).heap.size ((W.alloc (.cells #[.int .i64 0, .int .i64 0] 58))) v2 := (by first | exact below_step cum1 l2); obtain ⟨_, r0, r1', r2', r3', r4'⟩ := KEEP.out _ cum2; have hsz2 := Below.size cum2)))
  all_goals go_wp2_with fail
  all_goals exact bodyPost_ret (v := .agg #[.int .i64 most, .int .i64 (U + 1 + far)]) (by simp [results, Tryz.results45, go_sem, *]) rfl ⟨rfl, by have hq : Below W.heap.size W v2 := (below_new (Below.refl W.heap.size W) (.cells #[.int .i64 0, .int .i64 0] 58)).trans (cum2.mono (by simp)); (repeat' (first | (with_reducible exact Below.refl _ _) | (with_reducible assumption) | (with_reducible apply Below.setCell) | (with_reducible apply Below.alloc) | (with_reducible apply Below.drew) | (with_reducible apply below_drewN) | (with_reducible refine Below.trans ?_ (Below.mono (by assumption) ?_)) | omega | (simp; done) | (simp; omega)))⟩
def linkB (rate most far : Int) : Bool := fromB 1 rate 1000000 && fromB 1 most 2000 && fromB 0 far 100000
set_option maxRecDepth 100000 in
set_option maxHeartbeats 4000000 in
theorem Link_any (rate most far : Int) (w : World) :
    Calls Tryz.prog 32 #[.int .i64 rate, .int .i64 most, .int .i64 far] w fun e w' => e = .returned (if linkB rate most far then .tuple #[.agg #[.int .i64 most, .int .i64 (upZ most rate + 1 + far)], .int .i64 0] else .tuple #[.agg #[.int .i64 0, .int .i64 0], .int .i64 2]) ∧ Below w.heap.size w w' := by
  have hmf : ∀ (fn : Fn) (first cap : Array Value) (w : World), (Instr.makeFunc fn first cap).run Tryz.prog w = .ok (.func fn first cap) w := fun _ _ _ _ => rfl
  have c1 := hidd (fun W => isFrom_any 1 rate 1000000 W)
  have c2 := hidd (fun W => isFrom_any 1 most 2000 W)
  have c3 := hidd (fun W => isFrom_any 0 far 100000 W)
  have st := hidd (fun (h : linkB rate most far = true) => by
    unfold linkB at h
    rw [Bool.and_eq_true, Bool.and_eq_true] at h
    have h1 := fromB_iff.1 h.1.1
    have h2 := fromB_iff.1 h.1.2
    have h3 := fromB_iff.1 h.2
    exact fun a b e W ha hb he => linkStep rate most far h1.1 h1.2 h2.1 h2.2 h3.1 h3.2 a b e W ha hb he)
  obtain ⟨B, hB⟩ : ∃ B, linkB rate most far = B := ⟨_, rfl⟩
  have hB2 := hB
  unfold linkB at hB2
  rw [hB] at st ⊢
  generalize fromB 1 rate 1000000 = P1 at *
  generalize fromB 1 most 2000 = P2 at *
  generalize fromB 0 far 100000 = P3 at *
  generalize upZ most rate + 1 + far = U at *
  clear hB
  go_enter Tryz.func32, Tryz.ntmps32
  go_wp2_with fail
  refine Zp.wp_scope_fwd 0 (fun a' w' => B = false ∧ Below w.heap.size w w' ∧ GBox w' (w.heap.size + 1 + 1 + 1) 0 0 ∧ ∃ v0 v1 v2 v3 v4 v5 v7 v8 v9 v10 v11 v12 v13 v14 v15 v16 v17 v18 v19 v20 v21 : Value, a' = { tmps := #[v0, v1, v2, v3, v4, v5, .pointer (some ⟨w.heap.size + 1 + 1 + 1, 0, none⟩), v7, v8, v9, v10, v11, v12, v13, v14, v15, v16, v17, v18, v19, v20, v21], defers := [] }) rfl ?_ ?_
  case refine_2 =>
    rintro a' w' ⟨rfl, hb, ⟨g0, g1, g2, g3, g4⟩, v0, v1, v2, v3, v4, v5, v7, v8, v9, v10, v11, v12, v13, v14, v15, v16, v17, v18, v19, v20, v21, rfl⟩
    go_wp2_with fail
    (try rw [Exit.noGoto_ret])
    exact bodyPost_ret (v := .tuple #[.agg #[.int .i64 0, .int .i64 0], .int .i64 2]) (by simp [results, Tryz.results32, go_sem, *]) rfl ⟨by simp, by (repeat' (first | (with_reducible exact Below.refl _ _) | (with_reducible assumption) | (with_reducible apply Below.setCell) | (with_reducible apply Below.alloc) | (with_reducible apply Below.drew) | (with_reducible apply below_drewN) | (with_reducible refine Below.trans ?_ (Below.mono (by assumption) ?_)) | omega | (simp; done) | (simp; omega)))⟩
  have HG := hidd (GBox.new (by simp : (((w.alloc (.cells #[.int .i64 rate] 2)).alloc (.cells #[.int .i64 most] 2)).alloc (.cells #[.int .i64 far] 2)).heap.size = w.heap.size + 1 + 1 + 1) 58 0 0)
  have hx1 : (((((w.alloc (.cells #[.int .i64 rate] 2)).alloc (.cells #[.int .i64 most] 2)).alloc (.cells #[.int .i64 far] 2)).alloc (.cells #[.int .i64 0, .int .i64 0] 58))).cell? ⟨w.heap.size, 0, none⟩ = some (.int .i64 rate) := by simp [go_sem]
  have hx2 : (((((w.alloc (.cells #[.int .i64 rate] 2)).alloc (.cells #[.int .i64 most] 2)).alloc (.cells #[.int .i64 far] 2)).alloc (.cells #[.int .i64 0, .int .i64 0] 58))).cell? ⟨w.heap.size + 1, 0, none⟩ = some (.int .i64 most) := by simp [go_sem]
  have hx3 : (((((w.alloc (.cells #[.int .i64 rate] 2)).alloc (.cells #[.int .i64 most] 2)).alloc (.cells #[.int .i64 far] 2)).alloc (.cells #[.int .i64 0, .int .i64 0] 58))).cell? ⟨w.heap.size + 1 + 1, 0, none⟩ = some (.int .i64 far) := by simp [go_sem]
  cases P1
  · have hBf : B = false := by rw [← hB2]; simp
    clear hB2
    go_wp2_with fail
    refine (c1.out _).mono ?_
    rintro e w1 ⟨rfl, rfl⟩
    go_wp2_with fail
    go_step3
    exact ⟨rfl, hBf, by (repeat' (first | (with_reducible exact Below.refl _ _) | (with_reducible assumption) | (with_reducible apply Below.setCell) | (with_reducible apply Below.alloc) | (with_reducible apply Below.drew) | (with_reducible apply below_drewN) | (with_reducible refine Below.trans ?_ (Below.mono (by assumption) ?_)) | omega | (simp; done) | (simp; omega))), HG.out, _, _, _, _, _, _, _, _, _, _, _, _, _, _, _, _, _, _, _, _, _, rfl⟩
  · cases P2
    · have hBf : B = false := by rw [← hB2]; simp
      clear hB2
      go_wp2_with fail
      refine (c1.out _).mono ?_
      rintro e w1 ⟨rfl, rfl⟩
      go_wp2_with fail
      refine (c2.out _).mono ?_
      rintro e w1 ⟨rfl, rfl⟩
      go_wp2_with fail
      go_step3
      exact ⟨rfl, hBf, by (repeat' (first | (with_reducible exact Below.refl _ _) | (with_reducible assumption) | (with_reducible apply Below.setCell) | (with_reducible apply Below.alloc) | (with_reducible apply Below.drew) | (with_reducible apply below_drewN) | (with_reducible refine Below.trans ?_ (Below.mono (by assumption) ?_)) | omega | (simp; done) | (simp; omega))), HG.out, _, _, _, _, _, _, _, _, _, _, _, _, _, _, _, _, _, _, _, _, _, rfl⟩
    · cases P3
      · have hBf : B = false := by rw [← hB2]; simp
        clear hB2
        go_wp2_with fail
        refine (c1.out _).mono ?_
        rintro e w1 ⟨rfl, rfl⟩
        go_wp2_with fail
        refine (c2.out _).mono ?_
        rintro e w1 ⟨rfl, rfl⟩
        go_wp2_with fail
        refine (c3.out _).mono ?_
        rintro e w1 ⟨rfl, rfl⟩
        go_wp2_with fail
        go_step3
        exact ⟨rfl, hBf, by (repeat' (first | (with_reducible exact Below.refl _ _) | (with_reducible assumption) | (with_reducible apply Below.setCell) | (with_reducible apply Below.alloc) | (with_reducible apply Below.drew) | (with_reducible apply below_drewN) | (with_reducible refine Below.trans ?_ (Below.mono (by assumption) ?_)) | omega | (simp; done) | (simp; omega))), HG.out, _, _, _, _, _, _, _, _, _, _, _, _, _, _, _, _, _, _, _, _, _, rfl⟩
      · obtain rfl : B = true := by rw [← hB2]; rfl
        have stt := hidd (st.out rfl (w.heap.size + 1) w.heap.size (w.heap.size + 1 + 1) (((((w.alloc (.cells #[.int .i64 rate] 2)).alloc (.cells #[.int .i64 most] 2)).alloc (.cells #[.int .i64 far] 2)).alloc (.cells #[.int .i64 0, .int .i64 0] 58))) ⟨by (first | omega | (simp; done) | (simp; omega)), hx2⟩ ⟨by (first | omega | (simp; done) | (simp; omega)), hx1⟩ ⟨by (first | omega | (simp; done) | (simp; omega)), hx3⟩)
        clear hB2
        go_wp2_with fail
        refine (c1.out _).mono ?_
        rintro e w1 ⟨rfl, rfl⟩
        go_wp2_with fail
        refine (c2.out _).mono ?_
        rintro e w1 ⟨rfl, rfl⟩
        go_wp2_with fail
        refine (c3.out _).mono ?_
        rintro e w1 ⟨rfl, rfl⟩
        go_wp2_with fail
        refine (toldBT_ok _ entersLink1 _ _ most U stt.out).mono ?_
        rintro e w2 ⟨rfl, hb2⟩
        obtain ⟨g0, g1, g2, g3, g4⟩ := HG.out.step hb2
        have HB2 := hidd (below_step (below_new (below_new (below_new (below_new (Below.refl w.heap.size w) _) _) _) _) hb2)
        clear hb2
        go_wp2_with fail
        (try simp only [Exit.jump])
        exact bodyPost_ret (v := .tuple #[.agg #[.int .i64 most, .int .i64 U], .int .i64 0]) (by simp [results, Tryz.results32, go_sem, *]) rfl ⟨by simp, by have := HB2.out; (repeat' (first | (with_reducible exact Below.refl _ _) | (with_reducible assumption) | (with_reducible apply Below.setCell) | (with_reducible apply Below.alloc) | (with_reducible apply Below.drew) | (with_reducible apply below_drewN) | (with_reducible refine Below.trans ?_ (Below.mono (by assumption) ?_)) | omega | (simp; done) | (simp; omega)))⟩
end Go.Proofs.YtjnceoklnmmhjaaGreat
