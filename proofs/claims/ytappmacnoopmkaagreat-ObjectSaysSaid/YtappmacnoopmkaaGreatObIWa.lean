/- Objects: the kind wishes: may, object, thing. -/
import Derived.Test.YtappmacnoopmkaaGreatObIP
import Derived.Test.YtappmacnoopmkaaGreatObHW
namespace Go.Proofs.YtappmacnoopmkaaGreat
set_option linter.unusedVariables false
open Go.RowKit

attribute [local go_sem] run_store_func
/-- may it be said? -/
def mayW (x0 x1 x2 x3 x4 x5 x6 : Int) : Bool := Zp.rightB x0 x1 x2 x3 x4 && inB x1 x5 1000000 && inB 0 x6 1000000
set_option maxHeartbeats 2000000 in
theorem mayW_any (x0 x1 x2 x3 x4 x5 x6 : Int) (w : World) : Calls Tryz.prog 125 #[.agg #[.int .i64 x0, .int .i64 x1, .int .i64 x2, .int .i64 x3, .int .i64 x4, .int .i64 x5, .int .i64 x6]] w fun e w' => e = .returned (.bool (mayW x0 x1 x2 x3 x4 x5 x6)) ∧ Below w.heap.size w w' := by
  have c0 := hidd (fun W => isSpec_any x0 x1 x2 x3 x4 W)
  have c1 := hidd (fun W => isFrom_any x1 x5 1000000 W)
  have c2 := hidd (fun W => isFrom_any 0 x6 1000000 W)
  have KX := hidd (fun (W : World) (hb : Below (w.alloc (.cells #[.int .i64 x0, .int .i64 x1, .int .i64 x2, .int .i64 x3, .int .i64 x4, .int .i64 x5, .int .i64 x6] 32)).heap.size (w.alloc (.cells #[.int .i64 x0, .int .i64 x1, .int .i64 x2, .int .i64 x3, .int .i64 x4, .int .i64 x5, .int .i64 x6] 32)) W) => (show W.cell? ⟨w.heap.size, 1, none⟩ = some (.int .i64 x1) ∧ W.cell? ⟨w.heap.size, 5, none⟩ = some (.int .i64 x5) ∧ W.cell? ⟨w.heap.size, 6, none⟩ = some (.int .i64 x6) from
    ⟨(hb.cell (p := ⟨w.heap.size, 1, none⟩) (by simp)).trans (by simp [go_sem]), (hb.cell (p := ⟨w.heap.size, 5, none⟩) (by simp)).trans (by simp [go_sem]), (hb.cell (p := ⟨w.heap.size, 6, none⟩) (by simp)).trans (by simp [go_sem])⟩))
  have HB0 := hidd (below_new (Below.refl w.heap.size w) (.cells #[.int .i64 x0, .int .i64 x1, .int .i64 x2, .int .i64 x3, .int .i64 x4, .int .i64 x5, .int .i64 x6] 32))
  unfold mayW
  generalize Zp.rightB x0 x1 x2 x3 x4 = B0 at *
  generalize inB x1 x5 1000000 = B1 at *
  generalize inB 0 x6 1000000 = B2 at *
  cases B0
  · go_enter Tryz.func125, Tryz.ntmps125
    go_wp2_with fail
    refine (c0.out _).mono ?_
    rintro e w1 ⟨rfl, hb1⟩
    have HB1 := hidd (below_step HB0.out hb1)
    obtain ⟨k1, k5, k6⟩ := KX.out _ hb1
    clear hb1
    go_wp2_with fail
    go_ret
    exact ⟨by first | rfl | simp, HB1.out⟩
  cases B1
  · go_enter Tryz.func125, Tryz.ntmps125
    go_wp2_with fail
    refine (c0.out _).mono ?_
    rintro e w1 ⟨rfl, hb1⟩
    have HB1 := hidd (below_step HB0.out hb1)
    obtain ⟨k1, k5, k6⟩ := KX.out _ hb1
    clear hb1
    go_wp2_with fail
    refine (c1.out _).mono ?_
    rintro e w2 ⟨rfl, rfl⟩
    go_wp2_with fail
    go_ret
    exact ⟨by first | rfl | simp, HB1.out⟩
  go_enter Tryz.func125, Tryz.ntmps125
  go_wp2_with fail
  refine (c0.out _).mono ?_
  rintro e w1 ⟨rfl, hb1⟩
  have HB1 := hidd (below_step HB0.out hb1)
  obtain ⟨k1, k5, k6⟩ := KX.out _ hb1
  clear hb1
  go_wp2_with fail
  refine (c1.out _).mono ?_
  rintro e w2 ⟨rfl, rfl⟩
  go_wp2_with fail
  refine (c2.out _).mono ?_
  rintro e w3 ⟨rfl, rfl⟩
  go_wp2_with fail
  go_ret
  exact ⟨by first | rfl | simp, HB1.out⟩
theorem own_base {w : World} {base base' : Nat} {e : TypeId} {size : Nat} {v : Value} {n : Nat} {xs : List Value} (h : w.ownsRow base e size v n xs) (hb : base' ≤ base) : w.ownsRow base' e size v n xs := ⟨h.1, h.2.imp id fun ⟨g, cap, cur, a, b, c⟩ => ⟨g, cap, cur, a, Nat.le_trans hb b, c⟩⟩
theorem owns_lieQ {w : World} {base : Nat} {e : TypeId} {v : Value} {n : Nat} {xs : List Value} {L : List Int} (h : w.ownsRow base e 1 v n xs) (hx : xs = rowOf wdV L) (h0 : 0 < n) : ∃ A k, v = .slice A n k ∧ LieQ wdV 1 w (fun q => base ≤ q ∧ q < w.heap.size) A L := by
  subst hx
  obtain ⟨g, cap, rfl, hb, hlt⟩ := World.ownsRow.form h h0
  refine ⟨some ⟨g, 0, none⟩, cap, rfl, fun _ => ⟨⟨g, 0, none⟩, rfl, ⟨hb, hlt⟩, fun i x hx j v hv => ?_⟩⟩
  match j, hv with
  | 0, hv =>
    simp [wdV] at hv
    subst hv
    have := World.ownsRow.cells h (g := g) (by simp [Value.ownBlock]) i (.int .i64 x) (by
      have := row_at wdV_len L i x hx 0 (.int .i64 x) rfl
      simpa using this)
    simpa using this
  | j + 1, hv => simp [wdV] at hv
theorem specWords_own (x0 x1 x2 x3 x4 : Int) (w : World) : Calls Tryz.prog 128 #[.agg #[.int .i64 x0, .int .i64 x1, .int .i64 x2, .int .i64 x3, .int .i64 x4]] w fun e w' => Below w.heap.size w w' ∧ ∃ v, e = .returned v ∧ w'.ownsRow w.heap.size 2 1 v 5 (rowOf wdV [x1, x2, x0, x4, x3]) := by
  have HO := hidd (show ((w.alloc (.cells #[.int .i64 x0, .int .i64 x1, .int .i64 x2, .int .i64 x3, .int .i64 x4] 30)).alloc (.cells #[.int .i64 x1, .int .i64 x2, .int .i64 x0, .int .i64 x4, .int .i64 x3] 2)).ownsRow w.heap.size 2 1 (.slice (some ⟨w.heap.size + 1, 0, none⟩) 5 5) 5 (rowOf wdV [x1, x2, x0, x4, x3]) from
    ⟨rfl, .inr ⟨w.heap.size + 1, 5, _, rfl, by omega, by have q := heap_alloc_new (w.alloc (.cells #[.int .i64 x0, .int .i64 x1, .int .i64 x2, .int .i64 x3, .int .i64 x4] 30)) (.cells #[.int .i64 x1, .int .i64 x2, .int .i64 x0, .int .i64 x4, .int .i64 x3] 2); simpa using q, by omega, by simp [maxLen], rfl, rfl⟩⟩)
  go_enter Tryz.func128, Tryz.ntmps128
  go_wp2_with fail
  go_ret
  exact ⟨by (repeat' (first | (with_reducible exact Below.refl _ _) | (with_reducible assumption) | (with_reducible apply Below.setCell) | (with_reducible apply Below.alloc) | (with_reducible apply Below.drew) | (with_reducible apply below_drewN) | (with_reducible refine Below.trans ?_ (Below.mono (by assumption) ?_)) | omega | (simp; done) | (simp; omega))), _, rfl, HO.out⟩
set_option maxRecDepth 100000 in
set_option maxHeartbeats 4000000 in
theorem objW_any (x0 x1 x2 x3 x4 x5 x6 : Int) (hm : mayW x0 x1 x2 x3 x4 x5 x6 = true) (w : World) : Calls Tryz.prog 127 #[.agg #[.int .i64 x0, .int .i64 x1, .int .i64 x2, .int .i64 x3, .int .i64 x4, .int .i64 x5, .int .i64 x6]] w (ObjEnd 9 2 [x1, x2, x0, x4, x3, x5, x6] w) := by
  obtain ⟨W1, hW1⟩ : ∃ W1, ((w.alloc (.cells #[.int .i64 x0, .int .i64 x1, .int .i64 x2, .int .i64 x3, .int .i64 x4, .int .i64 x5, .int .i64 x6] 32)).alloc (.cells #[.int .i64 0, .int .i64 0, .slice none 0 0] 42)) = W1 := ⟨_, rfl⟩
  have hz1 : W1.heap.size = w.heap.size + 2 := by rw [← hW1]; simp
  have hBw : Below w.heap.size w W1 := by rw [← hW1]; (repeat' (first | (with_reducible exact Below.refl _ _) | (with_reducible assumption) | (with_reducible apply Below.setCell) | (with_reducible apply Below.alloc) | (with_reducible apply Below.drew) | (with_reducible apply below_drewN) | (with_reducible refine Below.trans ?_ (Below.mono (by assumption) ?_)) | omega | (simp; done) | (simp; omega)))
  have g0 : W1.cell? ⟨w.heap.size + 1, 0, none⟩ = some (.int .i64 0) := by rw [← hW1]; simp [go_sem]
  have h0 : W1.frozen? ⟨w.heap.size + 1, 0, none⟩ = false := by rw [← hW1]; simp [go_sem]
  have g1 : W1.cell? ⟨w.heap.size + 1, 1, none⟩ = some (.int .i64 0) := by rw [← hW1]; simp [go_sem]
  have h1 : W1.frozen? ⟨w.heap.size + 1, 1, none⟩ = false := by rw [← hW1]; simp [go_sem]
  have g2 : W1.cell? ⟨w.heap.size + 1, 2, none⟩ = some (.slice none 0 0) := by rw [← hW1]; simp [go_sem]
  have h2 : W1.frozen? ⟨w.heap.size + 1, 2, none⟩ = false := by rw [← hW1]; simp [go_sem]
  have l0 : W1.cell? ⟨w.heap.size, 0, none⟩ = some (.int .i64 x0) := by rw [← hW1]; simp [go_sem]
  have l1 : W1.cell? ⟨w.heap.size, 1, none⟩ = some (.int .i64 x1) := by rw [← hW1]; simp [go_sem]
  have l2 : W1.cell? ⟨w.heap.size, 2, none⟩ = some (.int .i64 x2) := by rw [← hW1]; simp [go_sem]
  have l3 : W1.cell? ⟨w.heap.size, 3, none⟩ = some (.int .i64 x3) := by rw [← hW1]; simp [go_sem]
  have l4 : W1.cell? ⟨w.heap.size, 4, none⟩ = some (.int .i64 x4) := by rw [← hW1]; simp [go_sem]
  have l5 : W1.cell? ⟨w.heap.size, 5, none⟩ = some (.int .i64 x5) := by rw [← hW1]; simp [go_sem]
  have l6 : W1.cell? ⟨w.heap.size, 6, none⟩ = some (.int .i64 x6) := by rw [← hW1]; simp [go_sem]
  have KEEP := hidd (fun (W : World) (hb : Below W1.heap.size W1 W) => (show W.cell? ⟨w.heap.size, 0, none⟩ = some (.int .i64 x0) ∧ W.cell? ⟨w.heap.size, 1, none⟩ = some (.int .i64 x1) ∧ W.cell? ⟨w.heap.size, 2, none⟩ = some (.int .i64 x2) ∧ W.cell? ⟨w.heap.size, 3, none⟩ = some (.int .i64 x3) ∧ W.cell? ⟨w.heap.size, 4, none⟩ = some (.int .i64 x4) ∧ W.cell? ⟨w.heap.size, 5, none⟩ = some (.int .i64 x5) ∧ W.cell? ⟨w.heap.size, 6, none⟩ = some (.int .i64 x6) from ⟨(hb.cell (p := ⟨w.heap.size, 0, none⟩) (by show w.heap.size < W1.heap.size; omega)).trans l0, (hb.cell (p := ⟨w.heap.size, 1, none⟩) (by show w.heap.size < W1.heap.size; omega)).trans l1, (hb.cell (p := ⟨w.heap.size, 2, none⟩) (by show w.heap.size < W1.heap.size; omega)).trans l2, (hb.cell (p := ⟨w.heap.size, 3, none⟩) (by show w.heap.size < W1.heap.size; omega)).trans l3, (hb.cell (p := ⟨w.heap.size, 4, none⟩) (by show w.heap.size < W1.heap.size; omega)).trans l4, (hb.cell (p := ⟨w.heap.size, 5, none⟩) (by show w.heap.size < W1.heap.size; omega)).trans l5, (hb.cell (p := ⟨w.heap.size, 6, none⟩) (by show w.heap.size < W1.heap.size; omega)).trans l6⟩))
  have OUT := hidd (fun (W : World) (hb : Below W1.heap.size W1 W) => (show (W.cell? ⟨w.heap.size + 1, 0, none⟩ = some (.int .i64 0) ∧ W.cell? ⟨w.heap.size + 1, 1, none⟩ = some (.int .i64 0) ∧ W.cell? ⟨w.heap.size + 1, 2, none⟩ = some (.slice none 0 0)) ∧ (W.frozen? ⟨w.heap.size + 1, 0, none⟩ = false ∧ W.frozen? ⟨w.heap.size + 1, 1, none⟩ = false ∧ W.frozen? ⟨w.heap.size + 1, 2, none⟩ = false) ∧ w.heap.size + 1 < W.heap.size from ⟨⟨(hb.cell (p := ⟨w.heap.size + 1, 0, none⟩) (by show w.heap.size + 1 < W1.heap.size; omega)).trans g0, (hb.cell (p := ⟨w.heap.size + 1, 1, none⟩) (by show w.heap.size + 1 < W1.heap.size; omega)).trans g1, (hb.cell (p := ⟨w.heap.size + 1, 2, none⟩) (by show w.heap.size + 1 < W1.heap.size; omega)).trans g2⟩, ⟨(hb.frozen (p := ⟨w.heap.size + 1, 0, none⟩) (by show w.heap.size + 1 < W1.heap.size; omega)).trans h0, (hb.frozen (p := ⟨w.heap.size + 1, 1, none⟩) (by show w.heap.size + 1 < W1.heap.size; omega)).trans h1, (hb.frozen (p := ⟨w.heap.size + 1, 2, none⟩) (by show w.heap.size + 1 < W1.heap.size; omega)).trans h2⟩, Nat.lt_of_lt_of_le (by omega) hb.size⟩))
  obtain ⟨i0, hi0, hy0, hy1, hy2⟩ := info_parts wordInfo
  have CW := hidd (fun W => specWords_own x0 x1 x2 x3 x4 W)
  have HBX := hidd (fun (W : World) (hb : Below W1.heap.size W1 W) => below_step hBw hb)
  have HW1 := hidd hW1
  have HZ1 := hidd hz1
  clear hW1 hz1 hBw hm g0 h0 g1 h1 g2 h2 l0 l1 l2 l3 l4 l5 l6
  obtain ⟨m0, m1, m2, m3, m4, m5, m6⟩ := KEEP.out _ (Below.refl _ _)
  unfold ObjEnd
  go_enter Tryz.func127, Tryz.ntmps127
  go_wp2_with fail
  rw [HW1.out]
  go_region_held3 (fun W => W.cell? ⟨w.heap.size, 0, none⟩ = some (.int .i64 x0) ∧ W.cell? ⟨w.heap.size, 1, none⟩ = some (.int .i64 x1) ∧ W.cell? ⟨w.heap.size, 2, none⟩ = some (.int .i64 x2) ∧ W.cell? ⟨w.heap.size, 3, none⟩ = some (.int .i64 x3) ∧ W.cell? ⟨w.heap.size, 4, none⟩ = some (.int .i64 x4) ∧ W.cell? ⟨w.heap.size, 5, none⟩ = some (.int .i64 x5) ∧ W.cell? ⟨w.heap.size, 6, none⟩ = some (.int .i64 x6))
    ((first | exact KEEP.out _ cum3 | exact KEEP.out _ hcb | exact KEEP.out _ (below_new cum1 _) | exact KEEP.out _ cum1 | exact KEEP.out _ (Below.refl _ _) | exact KEEP.out _ (Below.drew (Below.refl _ _)) | exact KEEP.out _ (below_new (Below.refl _ _) _) | exact KEEP.out _ (below_new (Below.drew (Below.refl _ _)) _) | (obtain ⟨j0, j1, j2, j3, j4, j5, j6⟩ := KEEP.out _ cum3; refine ⟨?_, ?_, ?_, ?_, ?_, ?_, ?_⟩ <;> simp [go_sem, *]; done)))
    ((first
      | (go_at_call 128; refine (CW.out _).mono ?_; rintro E1 v1 ⟨l1, u1, rfl, own0⟩; have cum1 : Below W1.heap.size W1 v1 := (by first | exact below_step (Below.refl _ _) l1 | exact below_step (Below.drew (Below.refl _ _)) l1 | exact below_step (by (repeat' (first | (with_reducible exact Below.refl _ _) | (with_reducible assumption) | (with_reducible apply Below.setCell) | (with_reducible apply Below.alloc) | (with_reducible apply Below.drew) | (with_reducible apply below_drewN) | (with_reducible refine Below.trans ?_ (Below.mono (by assumption) ?_)) | omega | (simp; done) | (simp; omega)))) l1); have own1 := own_base (base' := W1.heap.size) own0 (by simp); have z1 := cum1.size; have z2 := l1.size; (try simp at z2))
      | (refine step_append_some (by rfl) (.tmp 5) (.tmp 10) _ (by rfl) W1.heap.size 2 i0 _ 1 8 Tryz.underlying40 hi0 hy0 hy1 hy2 rfl (by omega) u1 5 (rowOf wdV [x1, x2, x0, x4, x3]) (by rfl) (World.ownsRow.alloc own1 _) (some ⟨_, 0, none⟩) 2 2 [.int .i64 x5, .int .i64 x6] (by rfl) (by rfl) (fun _ => ⟨_, rfl, World.news_of_block (cs := #[.int .i64 x5, .int .i64 x6]) (t := 2) (fr := (0, 0)) (by first | exact heap_alloc_new v1 _ | (have q := heap_alloc_new v1 (.cells #[.int .i64 x5, .int .i64 x6] 2); simpa using q))⟩) (by simp [Value.oneCell']) (by simp only [maxLen]; omega) (by omega) (by (first | omega | (simp; done) | (simp; omega))) ?_; intro u2 wb hown2 hgrow2 hat2; have hcb : Below W1.heap.size W1 wb := Below.grown (by (repeat' (first | (with_reducible exact Below.refl _ _) | (with_reducible assumption) | (with_reducible apply Below.setCell) | (with_reducible apply Below.alloc) | (with_reducible apply Below.drew) | (with_reducible apply below_drewN) | (with_reducible refine Below.trans ?_ (Below.mono (by assumption) ?_)) | omega | (simp; done) | (simp; omega)))) hgrow2 (by (first | omega | (simp; done) | (simp; omega))) (fun k hk => (World.ownsRow.lt own1 k hk).1); obtain ⟨A2, k2, e2, hl2⟩ := owns_lieQ (L := [x1, x2, x0, x4, x3, x5, x6]) hown2 (by rfl) (by omega); clear hown2 hgrow2 hat2)
      | (refine step_append_some (by rfl) (.tmp 5) (.tmp 10) _ (by rfl) W1.heap.size 2 i0 _ 1 8 Tryz.underlying40 hi0 hy0 hy1 hy2 rfl (by omega) u1 5 (rowOf wdV [x1, x2, x0, x4, x3]) (by rfl) (own1) (some ⟨_, 0, none⟩) 2 2 [.int .i64 x5, .int .i64 x6] (by rfl) (by rfl) (fun _ => ⟨_, rfl, World.news_of_block (cs := #[.int .i64 x5, .int .i64 x6]) (t := 2) (fr := (0, 0)) (by exact (l1.block W1.heap.size (by simp)).trans (heap_alloc_new W1.drew _))⟩) (by simp [Value.oneCell']) (by simp only [maxLen]; omega) (by omega) (by (first | omega | (simp; done) | (simp; omega))) ?_; intro u2 wb hown2 hgrow2 hat2; have hcb : Below W1.heap.size W1 wb := Below.grown (by (repeat' (first | (with_reducible exact Below.refl _ _) | (with_reducible assumption) | (with_reducible apply Below.setCell) | (with_reducible apply Below.alloc) | (with_reducible apply Below.drew) | (with_reducible apply below_drewN) | (with_reducible refine Below.trans ?_ (Below.mono (by assumption) ?_)) | omega | (simp; done) | (simp; omega)))) hgrow2 (by (first | omega | (simp; done) | (simp; omega))) (fun k hk => (World.ownsRow.lt own1 k hk).1); obtain ⟨A2, k2, e2, hl2⟩ := owns_lieQ (L := [x1, x2, x0, x4, x3, x5, x6]) hown2 (by rfl) (by omega); clear hown2 hgrow2 hat2)
      | (go_at_call 97; refine (object_any _ _ _ _ _ _).mono ?_; rintro E3 v3 ⟨rfl, l3⟩; have cum3 : Below W1.heap.size W1 v3 := below_step hcb l3; have HL3 := hidd (hl2.to (w' := v3) (p' := fun q => W1.heap.size ≤ q ∧ q < v3.heap.size) (fun q hq => ⟨⟨hq.1, Nat.lt_of_lt_of_le hq.2 l3.size⟩, l3.block q hq.2⟩)); obtain ⟨⟨p0, p1, p2⟩, ⟨q0, q1, q2⟩, hzz⟩ := OUT.out _ cum3; have HB3 := hidd (HBX.out _ cum3))))
  all_goals go_wp2_with fail
  all_goals refine bodyPost_ret (v := .agg #[.int .i64 9, .int .i64 2, .slice A2 7 k2]) (by simp [results, Tryz.results127, go_sem, *]) rfl ⟨by have q := HB3.out; (repeat' (first | (with_reducible exact Below.refl _ _) | (with_reducible assumption) | (with_reducible apply Below.setCell) | (with_reducible apply Below.alloc) | (with_reducible apply Below.drew) | (with_reducible apply below_drewN) | (with_reducible refine Below.trans ?_ (Below.mono (by assumption) ?_)) | omega | (simp; done) | (simp; omega))), A2, k2, rfl, ?_⟩
  all_goals have hz1 := HZ1.out
  all_goals exact (((HL3.out.low (p := ⟨w.heap.size + 1, 0, none⟩) (by simp; omega) _).low (p := ⟨w.heap.size + 1, 1, none⟩) (by simp; omega) _).low (p := ⟨w.heap.size + 1, 2, none⟩) (by simp; omega) _).to (fun q hq => ⟨⟨by omega, hq.2⟩, rfl⟩)
end Go.Proofs.YtappmacnoopmkaaGreat
