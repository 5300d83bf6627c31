/- Heaps: the document's list with an item more. -/
import Derived.Test.YtohkkebiilaniaaHpP
namespace Go.Proofs.Ytohkkebiilaniaa.Hp
set_option linter.unusedVariables false
open Go.RowKit Go.Maps Go.Sort Go.Proofs.Ytohkkebiilaniaa.Tp

theorem ordZ3 (p q : Int) : (ordZ p q = -1 ∧ p < q) ∨ (ordZ p q = 0 ∧ p = q) ∨ (ordZ p q = 1 ∧ q < p) := by
  unfold ordZ
  by_cases h : p < q
  · exact .inl ⟨if_pos h, h⟩
  · by_cases h2 : p = q
    · exact .inr (.inl ⟨by rw [if_neg h, if_pos h2], h2⟩)
    · exact .inr (.inr ⟨by rw [if_neg h, if_neg h2], by omega⟩)
def putA (M : List It) (x : It) (k : Nat) : List It := M.take k ++ x :: M.drop k
theorem putA_len {M : List It} {x : It} {k : Nat} (h : k ≤ M.length) : (putA M x k).length = M.length + 1 := by simp [putA]; omega
theorem putA_perm (M : List It) (x : It) (k : Nat) : (putA M x k).Perm (M ++ [x]) := by
  unfold putA
  have h : (M.take k ++ x :: M.drop k).Perm (x :: (M.take k ++ M.drop k)) := List.perm_middle
  rw [List.take_append_drop] at h
  exact h.trans (List.perm_append_comm (l₁ := [x]) (l₂ := M))
theorem right_bounds {x : It} (h : OkI x) : -9223372036854775807 ≤ kN x ∧ 1 ≤ kD x := by
  have := h.r
  have := h.n0
  simp [rightB] at *
  omega
set_option maxRecDepth 100000 in
set_option maxHeartbeats 16000000 in
theorem lay_any (v : Value) (M : List It) (T : Int) (x : It) (hx : OkI x) (hM : OkL M) (hm : M.length ≤ 1000000) (w : World) (H : RL w v M) :
    Calls Try.prog 40 #[.agg #[v, .int .i64 T], .agg #[.int .i64 (iD x), .int .i64 (kN x), .int .i64 (kD x), .int .i64 (tN x)]] w fun e w' => (∃ v' k, k ≤ M.length ∧ (∀ j, j < k → ¬ Lt x (gI M j)) ∧ (k < M.length → Lt x (gI M k)) ∧ e = .returned (.agg #[v', .int .i64 T]) ∧ OwnL itV 4 w' w.heap.size 37 v' (putA M x k)) ∧ Below w.heap.size w w' := by
  obtain ⟨i0, hin, hz0, hz1, hz2⟩ := itParts
  obtain ⟨A, c, hv, hlc, hcm, _⟩ := OwnL.lie H itV_len
  subst hv
  have HH := hidd H
  have HI := hidd (fun i (hi : i < M.length) => (show ∃ g, A = some ⟨g, 0, none⟩ ∧ g < w.heap.size ∧ w.cell? ⟨g, i * 4 + 1, none⟩ = some (.int .i64 (kN (gI M i))) ∧ w.cell? ⟨g, i * 4 + 2, none⟩ = some (.int .i64 (kD (gI M i))) ∧ w.cell? ⟨g, i * 4 + 3, none⟩ = some (.int .i64 (tN (gI M i))) from by
    obtain ⟨g, c', hv', _, hg, _⟩ := OwnL.form H (by omega)
    cases hv'
    have q := OwnL.item H hi
    exact ⟨g, rfl, hg, q.2.1, q.2.2.1, q.2.2.2⟩))
  have bx := right_bounds hx
  have cC := hidd (fun i (hi : i < M.length) W => refCmp_any (kN (gI M i)) (kD (gI M i)) (kN x) (kD x) (right_bounds (hM.at_ hi)).1 (hM.at_ hi).n1 (right_bounds (hM.at_ hi)).2 (hM.at_ hi).d1 bx.1 hx.n1 bx.2 hx.d1 W)
  clear H
  have HX := hidd hx
  have HM := hidd hM
  clear hx hM bx
  go_enter Try.func40, Try.ntmps40
  go_wp2_with fail
  rename_i K hK
  obtain ⟨W0, hW0⟩ : ∃ W0, ((w.alloc (.cells #[.slice A M.length c, .int .i64 T] 28)).alloc (.cells #[.int .i64 (iD x), .int .i64 (kN x), .int .i64 (kD x), .int .i64 (tN x)] 37)).alloc (.cells #[.slice none 0 0, .int .i64 0] 28) = W0 := ⟨_, rfl⟩
  rw [hW0]
  have B0 : Hid (Below w.heap.size w W0) := hidd (by rw [← hW0]; (repeat' (first | (with_reducible exact Below.refl _ _) | (with_reducible assumption) | (with_reducible apply Below.setCell) | (with_reducible apply Below.alloc) | (with_reducible apply Below.drew) | (with_reducible apply below_drewN) | (with_reducible refine Below.trans ?_ (Below.mono (by assumption) ?_)) | omega | (simp; done) | (simp; omega))))
  have x0 : W0.cell? ⟨w.heap.size, 0, none⟩ = some (.slice A M.length c) := by rw [← hW0]; simp [go_sem]
  have x1 : W0.cell? ⟨w.heap.size, 1, none⟩ = some (.int .i64 T) := by rw [← hW0]; simp [go_sem]
  have xf : W0.frozen? ⟨w.heap.size, 0, none⟩ = false := by rw [← hW0]; simp [go_sem]
  have y0 : W0.cell? ⟨w.heap.size + 1, 0, none⟩ = some (.int .i64 (iD x)) := by rw [← hW0]; simp [go_sem]
  have y1 : W0.cell? ⟨w.heap.size + 1, 1, none⟩ = some (.int .i64 (kN x)) := by rw [← hW0]; simp [go_sem]
  have y2 : W0.cell? ⟨w.heap.size + 1, 2, none⟩ = some (.int .i64 (kD x)) := by rw [← hW0]; simp [go_sem]
  have y3 : W0.cell? ⟨w.heap.size + 1, 3, none⟩ = some (.int .i64 (tN x)) := by rw [← hW0]; simp [go_sem]
  have z0 : W0.cell? ⟨w.heap.size + 1 + 1, 0, none⟩ = some (.slice none 0 0) := by rw [← hW0]; simp [go_sem]
  have z1 : W0.cell? ⟨w.heap.size + 1 + 1, 1, none⟩ = some (.int .i64 0) := by rw [← hW0]; simp [go_sem]
  have zf : ∀ o, W0.frozen? ⟨w.heap.size + 1 + 1, o, none⟩ = false := fun o => by rw [← hW0]; simp [go_sem]
  have hs0 : w.heap.size + 1 + 1 < W0.heap.size := by rw [← hW0]; simp
  clear hW0
  have HR0 := hidd (HH.out.below B0.out)
  have TAIL : Hid (∀ (k : Nat) (u6 u7 u8 u9 u10 u11 u12 u13 u14 u15 u16 u17 u18 u19 u20 u21 u22 u23 u24 u25 u26 u27 u28 u29 u30 u31 u32 u33 u34 u35 u36 u37 u38 u39 : Value) (wr : World), k ≤ M.length → (∀ j, j < k → ¬ Lt x (gI M j)) → (k < M.length → Lt x (gI M k)) → Below W0.heap.size W0 wr →
      K { tmps := #[.agg #[.slice A M.length c, .int .i64 T], .agg #[.int .i64 (iD x), .int .i64 (kN x), .int .i64 (kD x), .int .i64 (tN x)], .pointer (some ⟨w.heap.size, 0, none⟩), .pointer (some ⟨w.heap.size + 1, 0, none⟩), .pointer (some ⟨w.heap.size + 1 + 1, 0, none⟩), .int .i64 (k : Int), u6, u7, u8, u9, u10, u11, u12, u13, u14, u15, u16, u17, u18, u19, u20, u21, u22, u23, u24, u25, u26, u27, u28, u29, u30, u31, u32, u33, u34, u35, u36, u37, u38, u39, undef, undef, undef, undef, undef, undef, undef, undef, undef, undef, undef, undef, undef, undef, undef], defers := [] } wr) := by
    refine hidd ?_
    intro k u6 u7 u8 u9 u10 u11 u12 u13 u14 u15 u16 u17 u18 u19 u20 u21 u22 u23 u24 u25 u26 u27 u28 u29 u30 u31 u32 u33 u34 u35 u36 u37 u38 u39 wr hk hno hyes hB
    refine hK _ _ ?_
    have HNO := hidd hno
    have HYES := hidd hyes
    have HB := hidd hB
    clear hno hyes hB cC HI
    have Bw : Hid (Below w.heap.size w wr) := hidd (B0.out.trans (HB.out.mono B0.out.size))
    have a0 := (HB.out.cell (p := ⟨w.heap.size, 0, none⟩) (by show w.heap.size < W0.heap.size; omega)).trans x0
    have a1 := (HB.out.cell (p := ⟨w.heap.size, 1, none⟩) (by show w.heap.size < W0.heap.size; omega)).trans x1
    have af := (HB.out.frozen (p := ⟨w.heap.size, 0, none⟩) (by show w.heap.size < W0.heap.size; omega)).trans xf
    replace y0 := (HB.out.cell (p := ⟨w.heap.size + 1, 0, none⟩) (by show w.heap.size + 1 < W0.heap.size; omega)).trans y0
    replace y1 := (HB.out.cell (p := ⟨w.heap.size + 1, 1, none⟩) (by show w.heap.size + 1 < W0.heap.size; omega)).trans y1
    replace y2 := (HB.out.cell (p := ⟨w.heap.size + 1, 2, none⟩) (by show w.heap.size + 1 < W0.heap.size; omega)).trans y2
    replace y3 := (HB.out.cell (p := ⟨w.heap.size + 1, 3, none⟩) (by show w.heap.size + 1 < W0.heap.size; omega)).trans y3
    replace z0 := (HB.out.cell (p := ⟨w.heap.size + 1 + 1, 0, none⟩) hs0).trans z0
    replace z1 := (HB.out.cell (p := ⟨w.heap.size + 1 + 1, 1, none⟩) hs0).trans z1
    replace zf := fun o => (HB.out.frozen (p := ⟨w.heap.size + 1 + 1, o, none⟩) hs0).trans (zf o)
    have hsw : w.heap.size + 1 + 1 < wr.heap.size := Nat.lt_of_lt_of_le hs0 HB.out.size
    have lwa : w.heap.size < wr.heap.size := by omega
    have lwb : w.heap.size + 1 < wr.heap.size := by omega
    have HRw := hidd (HR0.out.below HB.out)
    have HK' := hidd hk
    clear x0 x1 xf HR0 hs0
    go_wp2_with fail
    rcases A with _ | ad
    · obtain ⟨hM0, hc0⟩ : M = [] ∧ c = 0 := by
        rcases HRw.out.2 with ⟨q, q2⟩ | ⟨g, cap, cur, q, _⟩
        · injection q with _ _ q3
          exact ⟨List.eq_nil_of_length_eq_zero q2, q3⟩
        · cases q
      subst hM0
      subst hc0
      obtain rfl : k = 0 := by simp at hk; exact hk
      go_cut [] (fun wx => ∃ v', wx.cell? ⟨w.heap.size, 0, none⟩ = some v' ∧ wx.cell? ⟨w.heap.size, 1, none⟩ = some (.int .i64 T) ∧ wx.cell? ⟨w.heap.size + 1 + 1, 0, none⟩ = some (.slice none 0 0) ∧ wx.cell? ⟨w.heap.size + 1 + 1, 1, none⟩ = some (.int .i64 0) ∧ (∀ o, wx.frozen? ⟨w.heap.size + 1 + 1, o, none⟩ = false) ∧ OwnL itV 4 wx w.heap.size 37 v' (putA [] x 0) ∧ (∀ q, v'.ownBlock = some q → q ≠ w.heap.size + 1 + 1) ∧ Below w.heap.size w wx)
      case first =>
        go_region_law (first
          | (refine step_append_some (by rfl) (.const (.slice none 0 0)) (.tmp 43) _ (by rfl) wr.heap.size 37 i0 _ 4 32 Try.underlying26 hin hz0 hz1 hz2 rfl (by omega) (.slice none 0 0) 0 [] (by rfl) (World.ownsRow_nil _ _ _ _) none 0 0 [] (by rfl) (by rfl) (fun q => absurd q (by omega)) (fun u hu => by cases hu) (by decide) (by decide) (by (first | omega | (simp; done) | (simp; omega))) ?_; intro v1 wa hown1 hgrow1 hat1; have hb1 : Below wr.heap.size wr wa := Below.grown (by (repeat' (first | (with_reducible exact Below.refl _ _) | (with_reducible assumption) | (with_reducible apply Below.setCell) | (with_reducible apply Below.alloc) | (with_reducible apply Below.drew) | (with_reducible apply below_drewN) | (with_reducible refine Below.trans ?_ (Below.mono (by assumption) ?_)) | omega | (simp; done) | (simp; omega)))) hgrow1 (by (first | omega | (simp; done) | (simp; omega))) (by intro k hk; simp [Value.ownBlock] at hk); have hz1' := Below.size hb1; have h1x := (hb1.cell (p := ⟨w.heap.size, 0, none⟩) (by show w.heap.size < wr.heap.size; omega)).trans a0; have h1x1 := (hb1.cell (p := ⟨w.heap.size, 1, none⟩) (by show w.heap.size < wr.heap.size; omega)).trans a1; have h1f := (hb1.frozen (p := ⟨w.heap.size, 0, none⟩) (by show w.heap.size < wr.heap.size; omega)).trans af; have l1a : w.heap.size < wa.heap.size := (by omega); have l1b : w.heap.size + 1 < wa.heap.size := (by omega); have h1y0 := (hb1.cell (p := ⟨w.heap.size + 1, 0, none⟩) (by show w.heap.size + 1 < wr.heap.size; omega)).trans y0; have h1y1 := (hb1.cell (p := ⟨w.heap.size + 1, 1, none⟩) (by show w.heap.size + 1 < wr.heap.size; omega)).trans y1; have h1y2 := (hb1.cell (p := ⟨w.heap.size + 1, 2, none⟩) (by show w.heap.size + 1 < wr.heap.size; omega)).trans y2; have h1y3 := (hb1.cell (p := ⟨w.heap.size + 1, 3, none⟩) (by show w.heap.size + 1 < wr.heap.size; omega)).trans y3)
          | (refine step_append_some (by rfl) (.tmp 44) (.tmp 46) _ (by rfl) wr.heap.size 37 i0 _ 4 32 Try.underlying26 hin hz0 hz1 hz2 rfl (by omega) v1 (0 + 0) ([] ++ []) (by rfl) (World.ownsRow.alloc hown1 _) (some ⟨wa.heap.size, 0, none⟩) 1 1 [.int .i64 (iD x), .int .i64 (kN x), .int .i64 (kD x), .int .i64 (tN x)] (by rfl) (by rfl) (fun _ => ⟨_, rfl, World.news_of_block (cs := #[.int .i64 (iD x), .int .i64 (kN x), .int .i64 (kD x), .int .i64 (tN x)]) (t := 37) (fr := (0, 0)) (heap_alloc_new wa _)⟩) (one_four _ _ _ _) (by decide) (by decide) (by (first | omega | (simp; done) | (simp; omega))) ?_; intro v2 wb hown2 hgrow2 hat2; have hb2 : Below wr.heap.size wr wb := Below.grown (by (repeat' (first | (with_reducible exact Below.refl _ _) | (with_reducible assumption) | (with_reducible apply Below.setCell) | (with_reducible apply Below.alloc) | (with_reducible apply Below.drew) | (with_reducible apply below_drewN) | (with_reducible refine Below.trans ?_ (Below.mono (by assumption) ?_)) | omega | (simp; done) | (simp; omega)))) hgrow2 (by (first | omega | (simp; done) | (simp; omega))) (fun k hk => (World.ownsRow.lt hown1 k hk).1); have hz2' := Below.size hb2; have h2x := (hb2.cell (p := ⟨w.heap.size, 0, none⟩) (by show w.heap.size < wr.heap.size; omega)).trans a0; have h2x1 := (hb2.cell (p := ⟨w.heap.size, 1, none⟩) (by show w.heap.size < wr.heap.size; omega)).trans a1; have h2f := (hb2.frozen (p := ⟨w.heap.size, 0, none⟩) (by show w.heap.size < wr.heap.size; omega)).trans af; have l2a : w.heap.size < wb.heap.size := (by omega); have l2b : w.heap.size + 1 < wb.heap.size := (by omega); have h2y0 := (hb2.cell (p := ⟨w.heap.size + 1, 0, none⟩) (by show w.heap.size + 1 < wr.heap.size; omega)).trans y0; have h2y1 := (hb2.cell (p := ⟨w.heap.size + 1, 1, none⟩) (by show w.heap.size + 1 < wr.heap.size; omega)).trans y1; have h2y2 := (hb2.cell (p := ⟨w.heap.size + 1, 2, none⟩) (by show w.heap.size + 1 < wr.heap.size; omega)).trans y2; have h2y3 := (hb2.cell (p := ⟨w.heap.size + 1, 3, none⟩) (by show w.heap.size + 1 < wr.heap.size; omega)).trans y3)
          | (refine step_append_some (by rfl) (.tmp 44) (.tmp 46) _ (by rfl) wr.heap.size 37 i0 _ 4 32 Try.underlying26 hin hz0 hz1 hz2 rfl (by omega) v1 (0 + 0) ([] ++ []) (by rfl) hown1 (some ⟨wr.heap.size, 0, none⟩) 1 1 [.int .i64 (iD x), .int .i64 (kN x), .int .i64 (kD x), .int .i64 (tN x)] (by rfl) (by rfl) (fun _ => ⟨_, rfl, World.news_of_block (cs := #[.int .i64 (iD x), .int .i64 (kN x), .int .i64 (kD x), .int .i64 (tN x)]) (t := 37) (fr := (0, 0)) ((hgrow1.block wr.heap.size (by simp) (by simp [Value.ownBlock])).trans (heap_alloc_new wr _))⟩) (one_four _ _ _ _) (by decide) (by decide) (by (first | omega | (simp; done) | (simp; omega))) ?_; intro v2 wb hown2 hgrow2 hat2; have hb2 : Below wr.heap.size wr wb := Below.grown hb1 hgrow2 (by (first | omega | (simp; done) | (simp; omega))) (fun k hk => (World.ownsRow.lt hown1 k hk).1); have hz2' := Below.size hb2; have h2x := (hb2.cell (p := ⟨w.heap.size, 0, none⟩) (by show w.heap.size < wr.heap.size; omega)).trans a0; have h2x1 := (hb2.cell (p := ⟨w.heap.size, 1, none⟩) (by show w.heap.size < wr.heap.size; omega)).trans a1; have h2f := (hb2.frozen (p := ⟨w.heap.size, 0, none⟩) (by show w.heap.size < wr.heap.size; omega)).trans af; have l2a : w.heap.size < wb.heap.size := (by omega); have l2b : w.heap.size + 1 < wb.heap.size := (by omega); have h2y0 := (hb2.cell (p := ⟨w.heap.size + 1, 0, none⟩) (by show w.heap.size + 1 < wr.heap.size; omega)).trans y0; have h2y1 := (hb2.cell (p := ⟨w.heap.size + 1, 1, none⟩) (by show w.heap.size + 1 < wr.heap.size; omega)).trans y1; have h2y2 := (hb2.cell (p := ⟨w.heap.size + 1, 2, none⟩) (by show w.heap.size + 1 < wr.heap.size; omega)).trans y2; have h2y3 := (hb2.cell (p := ⟨w.heap.size + 1, 3, none⟩) (by show w.heap.size + 1 < wr.heap.size; omega)).trans y3)
          | (refine step_append_some (by rfl) (.tmp 47) (.tmp 51) _ (by rfl) wr.heap.size 37 i0 _ 4 32 Try.underlying26 hin hz0 hz1 hz2 rfl (by omega) v2 (0 + 0 + 1) ([] ++ [] ++ [.int .i64 (iD x), .int .i64 (kN x), .int .i64 (kD x), .int .i64 (tN x)]) (by rfl) hown2 none 0 0 [] (by rfl) (by rfl) (fun q => absurd q (by omega)) (fun u hu => by cases hu) (by decide) (by decide) (by (first | omega | (simp; done) | (simp; omega))) ?_; intro v3 wc3 hown3 hgrow3 hat3; obtain ⟨A3', c3', hv3⟩ := ownsRow_slice hown3; subst hv3; have hb3 : Below wr.heap.size wr wc3 := Below.grown hb2 hgrow3 (by (first | omega | (simp; done) | (simp; omega))) (fun k hk => (World.ownsRow.lt hown2 k hk).1); have hz3' := Below.size hb3; have h3x := (hb3.cell (p := ⟨w.heap.size, 0, none⟩) (by show w.heap.size < wr.heap.size; omega)).trans a0; have h3x1 := (hb3.cell (p := ⟨w.heap.size, 1, none⟩) (by show w.heap.size < wr.heap.size; omega)).trans a1; have h3f := (hb3.frozen (p := ⟨w.heap.size, 0, none⟩) (by show w.heap.size < wr.heap.size; omega)).trans af; have l3a : w.heap.size < wc3.heap.size := (by omega); have l3b : w.heap.size + 1 < wc3.heap.size := (by omega); have h3y0 := (hb3.cell (p := ⟨w.heap.size + 1, 0, none⟩) (by show w.heap.size + 1 < wr.heap.size; omega)).trans y0; have h3y1 := (hb3.cell (p := ⟨w.heap.size + 1, 1, none⟩) (by show w.heap.size + 1 < wr.heap.size; omega)).trans y1; have h3y2 := (hb3.cell (p := ⟨w.heap.size + 1, 2, none⟩) (by show w.heap.size + 1 < wr.heap.size; omega)).trans y2; have h3y3 := (hb3.cell (p := ⟨w.heap.size + 1, 3, none⟩) (by show w.heap.size + 1 < wr.heap.size; omega)).trans y3))
        all_goals
          have hO : OwnL itV 4 wc3 wr.heap.size 37 (.slice A3' 1 c3') (putA [] x 0) := by
            unfold OwnL
            have h := hown3
            simpa [rowOf, putA, itV] using h
          have hNE := hidd (fun q (e : (Value.slice A3' 1 c3').ownBlock = some q) => (show q ≠ w.heap.size ∧ q ≠ w.heap.size + 1 + 1 by have := (OwnL.lt hO q e).1; omega))
          have hO2 : Hid (OwnL itV 4 (wc3.setCell ⟨w.heap.size, 0, none⟩ (.slice A3' 1 c3')) w.heap.size 37 (.slice A3' 1 c3') (putA [] x 0)) := hidd (OwnL.base' (OwnL.to hO (fun q e => Below.heap_setCell _ _ _ _ (hNE.out q e).1)) _ (by omega))
          have n0 := (hb3.cell (p := ⟨w.heap.size + 1 + 1, 0, none⟩) hsw).trans z0
          have n1' := (hb3.cell (p := ⟨w.heap.size + 1 + 1, 1, none⟩) hsw).trans z1
          have nf := fun o => (hb3.frozen (p := ⟨w.heap.size + 1 + 1, o, none⟩) hsw).trans (zf o)
          have BB := hidd (Bw.out.trans (hb3.mono Bw.out.size))
          clear hown1 hgrow1 hat1 hown2 hgrow2 hat2 hown3 hgrow3 hat3 hO hb1 hb2 hb3
          go_wp2_with fail
          go_meet
          exact ⟨.slice A3' 1 c3', World.cell?_setCell_same' _ _ _ (by rw [h3x]; rfl), by simp [go_sem, h3x1], by simp [go_sem, n0], by simp [go_sem, n1'], fun o => by rw [World.frozen?_setCell]; exact nf o, hO2.out, fun q e => (hNE.out q e).2, by have b := BB.out; (repeat' (first | (with_reducible exact Below.refl _ _) | (with_reducible assumption) | (with_reducible apply Below.setCell) | (with_reducible apply Below.alloc) | (with_reducible apply Below.drew) | (with_reducible apply below_drewN) | (with_reducible refine Below.trans ?_ (Below.mono (by assumption) ?_)) | omega | (simp; done) | (simp; omega)))⟩
      case rest =>
        obtain ⟨v', q0, q1, r0, r1, rf, hO, hNE, hB⟩ := hcut
        have hsx : w.heap.size + 1 + 1 < wc.heap.size := block_lt_of_cell r0
        obtain ⟨A', c', hv', _⟩ := OwnL.lie hO itV_len
        subst hv'
        have HO := hidd hO
        have HNE := hidd hNE
        have HBB := hidd hB
        clear hO hNE hB a0 a1 af y0 y1 y2 y3 z0 z1 zf
        generalize hl : (putA [] x 0).length = l at *
        clear hl
        go_wp2_with fail
        have BW : Below w.heap.size wc ((wc.setCell ⟨w.heap.size + 1 + 1, 0, none⟩ (.slice A' l c')).setCell ⟨w.heap.size + 1 + 1, 1, none⟩ (.int .i64 T)) := by (repeat' (first | (with_reducible exact Below.refl _ _) | (with_reducible assumption) | (with_reducible apply Below.setCell) | (with_reducible apply Below.alloc) | (with_reducible apply Below.drew) | (with_reducible apply below_drewN) | (with_reducible refine Below.trans ?_ (Below.mono (by assumption) ?_)) | omega | (simp; done) | (simp; omega)))
        have hO' : OwnL itV 4 ((wc.setCell ⟨w.heap.size + 1 + 1, 0, none⟩ (.slice A' l c')).setCell ⟨w.heap.size + 1 + 1, 1, none⟩ (.int .i64 T)) w.heap.size 37 (.slice A' l c') (putA [] x 0) := OwnL.to HO.out (fun q e => by have hq := HNE.out q e; rw [Below.heap_setCell _ _ _ _ hq, Below.heap_setCell _ _ _ _ hq])
        exact bodyPost_ret (v := .agg #[.slice A' l c', .int .i64 T]) (by simp [results, Try.results40, go_sem, *]) rfl ⟨⟨_, 0, HK'.out, HNO.out, HYES.out, rfl, hO'⟩, HBB.out.trans BW⟩

    · obtain ⟨g, hg⟩ : ∃ g, ad = ⟨g, 0, none⟩ := by
        rcases HRw.out.2 with ⟨q, q2⟩ | ⟨g, cap, cur, q, _⟩
        · cases q
        · injection q with q; injection q with q; exact ⟨g, q⟩
      subst hg
      have e1 : (M.take k).length = k := by simp; omega
      have q1 : (0 : Int) ≤ (k : Int) := by omega
      have q2 : (k : Int) ≤ (c : Int) := by omega
      have q3 : (M.length : Int) ≤ (c : Int) := by omega
      have q4 : (k : Int) ≤ (M.length : Int) := by omega
      have hk' := hk
      go_cut [] (fun wx => ∃ v', wx.cell? ⟨w.heap.size, 0, none⟩ = some v' ∧ wx.cell? ⟨w.heap.size, 1, none⟩ = some (.int .i64 T) ∧ wx.cell? ⟨w.heap.size + 1 + 1, 0, none⟩ = some (.slice none 0 0) ∧ wx.cell? ⟨w.heap.size + 1 + 1, 1, none⟩ = some (.int .i64 0) ∧ (∀ o, wx.frozen? ⟨w.heap.size + 1 + 1, o, none⟩ = false) ∧ OwnL itV 4 wx w.heap.size 37 v' (putA M x k) ∧ (∀ q, v'.ownBlock = some q → q ≠ w.heap.size + 1 + 1) ∧ Below w.heap.size w wx)
      case first =>
        by_cases hck : c = k
        · have hck2 : (c = k) = True := by simp [hck]
          have HCK := hidd hck
          clear hck
          go_region_law (first
            | (refine step_append_some (by rfl) (.const (.slice none 0 0)) (.tmp 43) _ (by rfl) wr.heap.size 37 i0 _ 4 32 Try.underlying26 hin hz0 hz1 hz2 rfl (by omega) (.slice none 0 0) 0 [] (by rfl) (World.ownsRow_nil _ _ _ _) (some ⟨g, 0, none⟩) k c (rowOf itV (M.take k)) (by rfl) (by rw [row_len itV_len, e1]) (fun _ => ⟨_, rfl, src_take (HRw.out.below (by (repeat' (first | (with_reducible exact Below.refl _ _) | (with_reducible assumption) | (with_reducible apply Below.setCell) | (with_reducible apply Below.alloc) | (with_reducible apply Below.drew) | (with_reducible apply below_drewN) | (with_reducible refine Below.trans ?_ (Below.mono (by assumption) ?_)) | omega | (simp; done) | (simp; omega))))) k⟩) (rowOf_one itV_one _) (by simp only [maxLen]; omega) (by omega) (by (first | omega | (simp; done) | (simp; omega))) ?_; intro v1 wa hown1 hgrow1 hat1; have hb1 : Below wr.heap.size wr wa := Below.grown (by (repeat' (first | (with_reducible exact Below.refl _ _) | (with_reducible assumption) | (with_reducible apply Below.setCell) | (with_reducible apply Below.alloc) | (with_reducible apply Below.drew) | (with_reducible apply below_drewN) | (with_reducible refine Below.trans ?_ (Below.mono (by assumption) ?_)) | omega | (simp; done) | (simp; omega)))) hgrow1 (by (first | omega | (simp; done) | (simp; omega))) (by intro k hk; simp [Value.ownBlock] at hk); have hz1' := Below.size hb1; have h1x := (hb1.cell (p := ⟨w.heap.size, 0, none⟩) (by show w.heap.size < wr.heap.size; omega)).trans a0; have h1x1 := (hb1.cell (p := ⟨w.heap.size, 1, none⟩) (by show w.heap.size < wr.heap.size; omega)).trans a1; have h1f := (hb1.frozen (p := ⟨w.heap.size, 0, none⟩) (by show w.heap.size < wr.heap.size; omega)).trans af; have l1a : w.heap.size < wa.heap.size := (by omega); have l1b : w.heap.size + 1 < wa.heap.size := (by omega); have h1y0 := (hb1.cell (p := ⟨w.heap.size + 1, 0, none⟩) (by show w.heap.size + 1 < wr.heap.size; omega)).trans y0; have h1y1 := (hb1.cell (p := ⟨w.heap.size + 1, 1, none⟩) (by show w.heap.size + 1 < wr.heap.size; omega)).trans y1; have h1y2 := (hb1.cell (p := ⟨w.heap.size + 1, 2, none⟩) (by show w.heap.size + 1 < wr.heap.size; omega)).trans y2; have h1y3 := (hb1.cell (p := ⟨w.heap.size + 1, 3, none⟩) (by show w.heap.size + 1 < wr.heap.size; omega)).trans y3)
            | (refine step_append_some (by rfl) (.tmp 44) (.tmp 46) _ (by rfl) wr.heap.size 37 i0 _ 4 32 Try.underlying26 hin hz0 hz1 hz2 rfl (by omega) v1 (0 + k) ([] ++ rowOf itV (M.take k)) (by rfl) (World.ownsRow.alloc hown1 _) (some ⟨wa.heap.size, 0, none⟩) 1 1 [.int .i64 (iD x), .int .i64 (kN x), .int .i64 (kD x), .int .i64 (tN x)] (by rfl) (by rfl) (fun _ => ⟨_, rfl, World.news_of_block (cs := #[.int .i64 (iD x), .int .i64 (kN x), .int .i64 (kD x), .int .i64 (tN x)]) (t := 37) (fr := (0, 0)) (heap_alloc_new wa _)⟩) (one_four _ _ _ _) (by simp only [maxLen]; omega) (by omega) (by (first | omega | (simp; done) | (simp; omega))) ?_; intro v2 wb hown2 hgrow2 hat2; have hb2 : Below wr.heap.size wr wb := Below.grown (by (repeat' (first | (with_reducible exact Below.refl _ _) | (with_reducible assumption) | (with_reducible apply Below.setCell) | (with_reducible apply Below.alloc) | (with_reducible apply Below.drew) | (with_reducible apply below_drewN) | (with_reducible refine Below.trans ?_ (Below.mono (by assumption) ?_)) | omega | (simp; done) | (simp; omega)))) hgrow2 (by (first | omega | (simp; done) | (simp; omega))) (fun k hk => (World.ownsRow.lt hown1 k hk).1); have hz2' := Below.size hb2; have h2x := (hb2.cell (p := ⟨w.heap.size, 0, none⟩) (by show w.heap.size < wr.heap.size; omega)).trans a0; have h2x1 := (hb2.cell (p := ⟨w.heap.size, 1, none⟩) (by show w.heap.size < wr.heap.size; omega)).trans a1; have h2f := (hb2.frozen (p := ⟨w.heap.size, 0, none⟩) (by show w.heap.size < wr.heap.size; omega)).trans af; have l2a : w.heap.size < wb.heap.size := (by omega); have l2b : w.heap.size + 1 < wb.heap.size := (by omega); have h2y0 := (hb2.cell (p := ⟨w.heap.size + 1, 0, none⟩) (by show w.heap.size + 1 < wr.heap.size; omega)).trans y0; have h2y1 := (hb2.cell (p := ⟨w.heap.size + 1, 1, none⟩) (by show w.heap.size + 1 < wr.heap.size; omega)).trans y1; have h2y2 := (hb2.cell (p := ⟨w.heap.size + 1, 2, none⟩) (by show w.heap.size + 1 < wr.heap.size; omega)).trans y2; have h2y3 := (hb2.cell (p := ⟨w.heap.size + 1, 3, none⟩) (by show w.heap.size + 1 < wr.heap.size; omega)).trans y3)
            | (refine step_append_some (by rfl) (.tmp 44) (.tmp 46) _ (by rfl) wr.heap.size 37 i0 _ 4 32 Try.underlying26 hin hz0 hz1 hz2 rfl (by omega) v1 (0 + k) ([] ++ rowOf itV (M.take k)) (by rfl) hown1 (some ⟨wr.heap.size, 0, none⟩) 1 1 [.int .i64 (iD x), .int .i64 (kN x), .int .i64 (kD x), .int .i64 (tN x)] (by rfl) (by rfl) (fun _ => ⟨_, rfl, World.news_of_block (cs := #[.int .i64 (iD x), .int .i64 (kN x), .int .i64 (kD x), .int .i64 (tN x)]) (t := 37) (fr := (0, 0)) ((hgrow1.block wr.heap.size (by simp) (by simp [Value.ownBlock])).trans (heap_alloc_new wr _))⟩) (one_four _ _ _ _) (by simp only [maxLen]; omega) (by omega) (by (first | omega | (simp; done) | (simp; omega))) ?_; intro v2 wb hown2 hgrow2 hat2; have hb2 : Below wr.heap.size wr wb := Below.grown hb1 hgrow2 (by (first | omega | (simp; done) | (simp; omega))) (fun k hk => (World.ownsRow.lt hown1 k hk).1); have hz2' := Below.size hb2; have h2x := (hb2.cell (p := ⟨w.heap.size, 0, none⟩) (by show w.heap.size < wr.heap.size; omega)).trans a0; have h2x1 := (hb2.cell (p := ⟨w.heap.size, 1, none⟩) (by show w.heap.size < wr.heap.size; omega)).trans a1; have h2f := (hb2.frozen (p := ⟨w.heap.size, 0, none⟩) (by show w.heap.size < wr.heap.size; omega)).trans af; have l2a : w.heap.size < wb.heap.size := (by omega); have l2b : w.heap.size + 1 < wb.heap.size := (by omega); have h2y0 := (hb2.cell (p := ⟨w.heap.size + 1, 0, none⟩) (by show w.heap.size + 1 < wr.heap.size; omega)).trans y0; have h2y1 := (hb2.cell (p := ⟨w.heap.size + 1, 1, none⟩) (by show w.heap.size + 1 < wr.heap.size; omega)).trans y1; have h2y2 := (hb2.cell (p := ⟨w.heap.size + 1, 2, none⟩) (by show w.heap.size + 1 < wr.heap.size; omega)).trans y2; have h2y3 := (hb2.cell (p := ⟨w.heap.size + 1, 3, none⟩) (by show w.heap.size + 1 < wr.heap.size; omega)).trans y3)
            | (refine step_append_some (by rfl) (.tmp 47) (.tmp 51) _ (by rfl) wr.heap.size 37 i0 _ 4 32 Try.underlying26 hin hz0 hz1 hz2 rfl (by omega) v2 (0 + k + 1) ([] ++ rowOf itV (M.take k) ++ [.int .i64 (iD x), .int .i64 (kN x), .int .i64 (kD x), .int .i64 (tN x)]) (by rfl) hown2 (some ⟨g, 0, none⟩) (M.length - k) (c - k) (rowOf itV (M.drop k)) (by rfl) (by rw [row_len itV_len, List.length_drop]) (fun q => absurd q (by have := HCK.out; omega)) (rowOf_one itV_one _) (by simp only [maxLen]; omega) (by omega) (by (first | omega | (simp; done) | (simp; omega))) ?_; intro v3 wc3 hown3 hgrow3 hat3; obtain ⟨A3', c3', hv3⟩ := ownsRow_slice hown3; subst hv3; have hb3 : Below wr.heap.size wr wc3 := Below.grown hb2 hgrow3 (by (first | omega | (simp; done) | (simp; omega))) (fun k hk => (World.ownsRow.lt hown2 k hk).1); have hz3' := Below.size hb3; have h3x := (hb3.cell (p := ⟨w.heap.size, 0, none⟩) (by show w.heap.size < wr.heap.size; omega)).trans a0; have h3x1 := (hb3.cell (p := ⟨w.heap.size, 1, none⟩) (by show w.heap.size < wr.heap.size; omega)).trans a1; have h3f := (hb3.frozen (p := ⟨w.heap.size, 0, none⟩) (by show w.heap.size < wr.heap.size; omega)).trans af; have l3a : w.heap.size < wc3.heap.size := (by omega); have l3b : w.heap.size + 1 < wc3.heap.size := (by omega); have h3y0 := (hb3.cell (p := ⟨w.heap.size + 1, 0, none⟩) (by show w.heap.size + 1 < wr.heap.size; omega)).trans y0; have h3y1 := (hb3.cell (p := ⟨w.heap.size + 1, 1, none⟩) (by show w.heap.size + 1 < wr.heap.size; omega)).trans y1; have h3y2 := (hb3.cell (p := ⟨w.heap.size + 1, 2, none⟩) (by show w.heap.size + 1 < wr.heap.size; omega)).trans y2; have h3y3 := (hb3.cell (p := ⟨w.heap.size + 1, 3, none⟩) (by show w.heap.size + 1 < wr.heap.size; omega)).trans y3))
          all_goals
            have hO : OwnL itV 4 wc3 wr.heap.size 37 (.slice A3' (k + 1 + (M.length - k)) c3') (putA M x k) := by
              unfold OwnL
              rw [putA_len hk']
              have e : rowOf itV (putA M x k) = [] ++ rowOf itV (M.take k) ++ [.int .i64 (iD x), .int .i64 (kN x), .int .i64 (kD x), .int .i64 (tN x)] ++ rowOf itV (M.drop k) := by simp [rowOf, putA, itV]
              rw [e]
              have h := hown3
              have q : 0 + k + 1 + (M.length - k) = M.length + 1 := by omega
              have q2 : k + 1 + (M.length - k) = M.length + 1 := by omega
              rw [q] at h
              rw [q2]
              exact h
            have hNE := hidd (fun q (e : (Value.slice A3' (k + 1 + (M.length - k)) c3').ownBlock = some q) => (show q ≠ w.heap.size ∧ q ≠ w.heap.size + 1 + 1 by have := (OwnL.lt hO q e).1; omega))
            have hO2 : Hid (OwnL itV 4 (wc3.setCell ⟨w.heap.size, 0, none⟩ (.slice A3' (k + 1 + (M.length - k)) c3')) w.heap.size 37 (.slice A3' (k + 1 + (M.length - k)) c3') (putA M x k)) := hidd (OwnL.base' (OwnL.to hO (fun q e => Below.heap_setCell _ _ _ _ (hNE.out q e).1)) _ (by omega))
            have n0 := (hb3.cell (p := ⟨w.heap.size + 1 + 1, 0, none⟩) hsw).trans z0
            have n1' := (hb3.cell (p := ⟨w.heap.size + 1 + 1, 1, none⟩) hsw).trans z1
            have nf := fun o => (hb3.frozen (p := ⟨w.heap.size + 1 + 1, o, none⟩) hsw).trans (zf o)
            have BB := hidd (Bw.out.trans (hb3.mono Bw.out.size))
            clear hown1 hgrow1 hat1 hown2 hgrow2 hat2 hown3 hgrow3 hat3 hO hb1 hb2 hb3
            go_wp2_with fail
            go_meet
            exact ⟨.slice A3' (k + 1 + (M.length - k)) c3', World.cell?_setCell_same' _ _ _ (by rw [h3x]; rfl), by simp [go_sem, h3x1], by simp [go_sem, n0], by simp [go_sem, n1'], fun o => by rw [World.frozen?_setCell]; exact nf o, hO2.out, fun q e => (hNE.out q e).2, by have b := BB.out; (repeat' (first | (with_reducible exact Below.refl _ _) | (with_reducible assumption) | (with_reducible apply Below.setCell) | (with_reducible apply Below.alloc) | (with_reducible apply Below.drew) | (with_reducible apply below_drewN) | (with_reducible refine Below.trans ?_ (Below.mono (by assumption) ?_)) | omega | (simp; done) | (simp; omega)))⟩
        · have HCK := hidd hck
          go_region_law (first
            | (refine step_append_some (by rfl) (.const (.slice none 0 0)) (.tmp 43) _ (by rfl) wr.heap.size 37 i0 _ 4 32 Try.underlying26 hin hz0 hz1 hz2 rfl (by omega) (.slice none 0 0) 0 [] (by rfl) (World.ownsRow_nil _ _ _ _) (some ⟨g, 0, none⟩) k c (rowOf itV (M.take k)) (by rfl) (by rw [row_len itV_len, e1]) (fun _ => ⟨_, rfl, src_take (HRw.out.below (by (repeat' (first | (with_reducible exact Below.refl _ _) | (with_reducible assumption) | (with_reducible apply Below.setCell) | (with_reducible apply Below.alloc) | (with_reducible apply Below.drew) | (with_reducible apply below_drewN) | (with_reducible refine Below.trans ?_ (Below.mono (by assumption) ?_)) | omega | (simp; done) | (simp; omega))))) k⟩) (rowOf_one itV_one _) (by simp only [maxLen]; omega) (by omega) (by (first | omega | (simp; done) | (simp; omega))) ?_; intro v1 wa hown1 hgrow1 hat1; have hb1 : Below wr.heap.size wr wa := Below.grown (by (repeat' (first | (with_reducible exact Below.refl _ _) | (with_reducible assumption) | (with_reducible apply Below.setCell) | (with_reducible apply Below.alloc) | (with_reducible apply Below.drew) | (with_reducible apply below_drewN) | (with_reducible refine Below.trans ?_ (Below.mono (by assumption) ?_)) | omega | (simp; done) | (simp; omega)))) hgrow1 (by (first | omega | (simp; done) | (simp; omega))) (by intro k hk; simp [Value.ownBlock] at hk); have hz1' := Below.size hb1; have h1x := (hb1.cell (p := ⟨w.heap.size, 0, none⟩) (by show w.heap.size < wr.heap.size; omega)).trans a0; have h1x1 := (hb1.cell (p := ⟨w.heap.size, 1, none⟩) (by show w.heap.size < wr.heap.size; omega)).trans a1; have h1f := (hb1.frozen (p := ⟨w.heap.size, 0, none⟩) (by show w.heap.size < wr.heap.size; omega)).trans af; have l1a : w.heap.size < wa.heap.size := (by omega); have l1b : w.heap.size + 1 < wa.heap.size := (by omega); have h1y0 := (hb1.cell (p := ⟨w.heap.size + 1, 0, none⟩) (by show w.heap.size + 1 < wr.heap.size; omega)).trans y0; have h1y1 := (hb1.cell (p := ⟨w.heap.size + 1, 1, none⟩) (by show w.heap.size + 1 < wr.heap.size; omega)).trans y1; have h1y2 := (hb1.cell (p := ⟨w.heap.size + 1, 2, none⟩) (by show w.heap.size + 1 < wr.heap.size; omega)).trans y2; have h1y3 := (hb1.cell (p := ⟨w.heap.size + 1, 3, none⟩) (by show w.heap.size + 1 < wr.heap.size; omega)).trans y3)
            | (refine step_append_some (by rfl) (.tmp 44) (.tmp 46) _ (by rfl) wr.heap.size 37 i0 _ 4 32 Try.underlying26 hin hz0 hz1 hz2 rfl (by omega) v1 (0 + k) ([] ++ rowOf itV (M.take k)) (by rfl) (World.ownsRow.alloc hown1 _) (some ⟨wa.heap.size, 0, none⟩) 1 1 [.int .i64 (iD x), .int .i64 (kN x), .int .i64 (kD x), .int .i64 (tN x)] (by rfl) (by rfl) (fun _ => ⟨_, rfl, World.news_of_block (cs := #[.int .i64 (iD x), .int .i64 (kN x), .int .i64 (kD x), .int .i64 (tN x)]) (t := 37) (fr := (0, 0)) (heap_alloc_new wa _)⟩) (one_four _ _ _ _) (by simp only [maxLen]; omega) (by omega) (by (first | omega | (simp; done) | (simp; omega))) ?_; intro v2 wb hown2 hgrow2 hat2; have hb2 : Below wr.heap.size wr wb := Below.grown (by (repeat' (first | (with_reducible exact Below.refl _ _) | (with_reducible assumption) | (with_reducible apply Below.setCell) | (with_reducible apply Below.alloc) | (with_reducible apply Below.drew) | (with_reducible apply below_drewN) | (with_reducible refine Below.trans ?_ (Below.mono (by assumption) ?_)) | omega | (simp; done) | (simp; omega)))) hgrow2 (by (first | omega | (simp; done) | (simp; omega))) (fun k hk => (World.ownsRow.lt hown1 k hk).1); have hz2' := Below.size hb2; have h2x := (hb2.cell (p := ⟨w.heap.size, 0, none⟩) (by show w.heap.size < wr.heap.size; omega)).trans a0; have h2x1 := (hb2.cell (p := ⟨w.heap.size, 1, none⟩) (by show w.heap.size < wr.heap.size; omega)).trans a1; have h2f := (hb2.frozen (p := ⟨w.heap.size, 0, none⟩) (by show w.heap.size < wr.heap.size; omega)).trans af; have l2a : w.heap.size < wb.heap.size := (by omega); have l2b : w.heap.size + 1 < wb.heap.size := (by omega); have h2y0 := (hb2.cell (p := ⟨w.heap.size + 1, 0, none⟩) (by show w.heap.size + 1 < wr.heap.size; omega)).trans y0; have h2y1 := (hb2.cell (p := ⟨w.heap.size + 1, 1, none⟩) (by show w.heap.size + 1 < wr.heap.size; omega)).trans y1; have h2y2 := (hb2.cell (p := ⟨w.heap.size + 1, 2, none⟩) (by show w.heap.size + 1 < wr.heap.size; omega)).trans y2; have h2y3 := (hb2.cell (p := ⟨w.heap.size + 1, 3, none⟩) (by show w.heap.size + 1 < wr.heap.size; omega)).trans y3)
            | (refine step_append_some (by rfl) (.tmp 44) (.tmp 46) _ (by rfl) wr.heap.size 37 i0 _ 4 32 Try.underlying26 hin hz0 hz1 hz2 rfl (by omega) v1 (0 + k) ([] ++ rowOf itV (M.take k)) (by rfl) hown1 (some ⟨wr.heap.size, 0, none⟩) 1 1 [.int .i64 (iD x), .int .i64 (kN x), .int .i64 (kD x), .int .i64 (tN x)] (by rfl) (by rfl) (fun _ => ⟨_, rfl, World.news_of_block (cs := #[.int .i64 (iD x), .int .i64 (kN x), .int .i64 (kD x), .int .i64 (tN x)]) (t := 37) (fr := (0, 0)) ((hgrow1.block wr.heap.size (by simp) (by simp [Value.ownBlock])).trans (heap_alloc_new wr _))⟩) (one_four _ _ _ _) (by simp only [maxLen]; omega) (by omega) (by (first | omega | (simp; done) | (simp; omega))) ?_; intro v2 wb hown2 hgrow2 hat2; have hb2 : Below wr.heap.size wr wb := Below.grown hb1 hgrow2 (by (first | omega | (simp; done) | (simp; omega))) (fun k hk => (World.ownsRow.lt hown1 k hk).1); have hz2' := Below.size hb2; have h2x := (hb2.cell (p := ⟨w.heap.size, 0, none⟩) (by show w.heap.size < wr.heap.size; omega)).trans a0; have h2x1 := (hb2.cell (p := ⟨w.heap.size, 1, none⟩) (by show w.heap.size < wr.heap.size; omega)).trans a1; have h2f := (hb2.frozen (p := ⟨w.heap.size, 0, none⟩) (by show w.heap.size < wr.heap.size; omega)).trans af; have l2a : w.heap.size < wb.heap.size := (by omega); have l2b : w.heap.size + 1 < wb.heap.size := (by omega); have h2y0 := (hb2.cell (p := ⟨w.heap.size + 1, 0, none⟩) (by show w.heap.size + 1 < wr.heap.size; omega)).trans y0; have h2y1 := (hb2.cell (p := ⟨w.heap.size + 1, 1, none⟩) (by show w.heap.size + 1 < wr.heap.size; omega)).trans y1; have h2y2 := (hb2.cell (p := ⟨w.heap.size + 1, 2, none⟩) (by show w.heap.size + 1 < wr.heap.size; omega)).trans y2; have h2y3 := (hb2.cell (p := ⟨w.heap.size + 1, 3, none⟩) (by show w.heap.size + 1 < wr.heap.size; omega)).trans y3)
            | (refine step_append_some (by rfl) (.tmp 47) (.tmp 51) _ (by rfl) wr.heap.size 37 i0 _ 4 32 Try.underlying26 hin hz0 hz1 hz2 rfl (by omega) v2 (0 + k + 1) ([] ++ rowOf itV (M.take k) ++ [.int .i64 (iD x), .int .i64 (kN x), .int .i64 (kD x), .int .i64 (tN x)]) (by rfl) hown2 (some ⟨g, k * 4, none⟩) (M.length - k) (c - k) (rowOf itV (M.drop k)) (by rfl) (by rw [row_len itV_len, List.length_drop]) (fun q => ⟨⟨g, k * 4, none⟩, rfl, src_drop (HRw.out.below hb2) k⟩) (rowOf_one itV_one _) (by simp only [maxLen]; omega) (by omega) (by (first | omega | (simp; done) | (simp; omega))) ?_; intro v3 wc3 hown3 hgrow3 hat3; obtain ⟨A3', c3', hv3⟩ := ownsRow_slice hown3; subst hv3; have hb3 : Below wr.heap.size wr wc3 := Below.grown hb2 hgrow3 (by (first | omega | (simp; done) | (simp; omega))) (fun k hk => (World.ownsRow.lt hown2 k hk).1); have hz3' := Below.size hb3; have h3x := (hb3.cell (p := ⟨w.heap.size, 0, none⟩) (by show w.heap.size < wr.heap.size; omega)).trans a0; have h3x1 := (hb3.cell (p := ⟨w.heap.size, 1, none⟩) (by show w.heap.size < wr.heap.size; omega)).trans a1; have h3f := (hb3.frozen (p := ⟨w.heap.size, 0, none⟩) (by show w.heap.size < wr.heap.size; omega)).trans af; have l3a : w.heap.size < wc3.heap.size := (by omega); have l3b : w.heap.size + 1 < wc3.heap.size := (by omega); have h3y0 := (hb3.cell (p := ⟨w.heap.size + 1, 0, none⟩) (by show w.heap.size + 1 < wr.heap.size; omega)).trans y0; have h3y1 := (hb3.cell (p := ⟨w.heap.size + 1, 1, none⟩) (by show w.heap.size + 1 < wr.heap.size; omega)).trans y1; have h3y2 := (hb3.cell (p := ⟨w.heap.size + 1, 2, none⟩) (by show w.heap.size + 1 < wr.heap.size; omega)).trans y2; have h3y3 := (hb3.cell (p := ⟨w.heap.size + 1, 3, none⟩) (by show w.heap.size + 1 < wr.heap.size; omega)).trans y3))
          all_goals
            have hO : OwnL itV 4 wc3 wr.heap.size 37 (.slice A3' (k + 1 + (M.length - k)) c3') (putA M x k) := by
              unfold OwnL
              rw [putA_len hk']
              have e : rowOf itV (putA M x k) = [] ++ rowOf itV (M.take k) ++ [.int .i64 (iD x), .int .i64 (kN x), .int .i64 (kD x), .int .i64 (tN x)] ++ rowOf itV (M.drop k) := by simp [rowOf, putA, itV]
              rw [e]
              have h := hown3
              have q : 0 + k + 1 + (M.length - k) = M.length + 1 := by omega
              have q2 : k + 1 + (M.length - k) = M.length + 1 := by omega
              rw [q] at h
              rw [q2]
              exact h
            have hNE := hidd (fun q (e : (Value.slice A3' (k + 1 + (M.length - k)) c3').ownBlock = some q) => (show q ≠ w.heap.size ∧ q ≠ w.heap.size + 1 + 1 by have := (OwnL.lt hO q e).1; omega))
            have hO2 : Hid (OwnL itV 4 (wc3.setCell ⟨w.heap.size, 0, none⟩ (.slice A3' (k + 1 + (M.length - k)) c3')) w.heap.size 37 (.slice A3' (k + 1 + (M.length - k)) c3') (putA M x k)) := hidd (OwnL.base' (OwnL.to hO (fun q e => Below.heap_setCell _ _ _ _ (hNE.out q e).1)) _ (by omega))
            have n0 := (hb3.cell (p := ⟨w.heap.size + 1 + 1, 0, none⟩) hsw).trans z0
            have n1' := (hb3.cell (p := ⟨w.heap.size + 1 + 1, 1, none⟩) hsw).trans z1
            have nf := fun o => (hb3.frozen (p := ⟨w.heap.size + 1 + 1, o, none⟩) hsw).trans (zf o)
            have BB := hidd (Bw.out.trans (hb3.mono Bw.out.size))
            clear hown1 hgrow1 hat1 hown2 hgrow2 hat2 hown3 hgrow3 hat3 hO hb1 hb2 hb3
            go_wp2_with fail
            go_meet
            exact ⟨.slice A3' (k + 1 + (M.length - k)) c3', World.cell?_setCell_same' _ _ _ (by rw [h3x]; rfl), by simp [go_sem, h3x1], by simp [go_sem, n0], by simp [go_sem, n1'], fun o => by rw [World.frozen?_setCell]; exact nf o, hO2.out, fun q e => (hNE.out q e).2, by have b := BB.out; (repeat' (first | (with_reducible exact Below.refl _ _) | (with_reducible assumption) | (with_reducible apply Below.setCell) | (with_reducible apply Below.alloc) | (with_reducible apply Below.drew) | (with_reducible apply below_drewN) | (with_reducible refine Below.trans ?_ (Below.mono (by assumption) ?_)) | omega | (simp; done) | (simp; omega)))⟩
      case rest =>
        obtain ⟨v', q0, q1, r0, r1, rf, hO, hNE, hB⟩ := hcut
        have hsx : w.heap.size + 1 + 1 < wc.heap.size := block_lt_of_cell r0
        obtain ⟨A', c', hv', _⟩ := OwnL.lie hO itV_len
        subst hv'
        have HO := hidd hO
        have HNE := hidd hNE
        have HBB := hidd hB
        clear hO hNE hB a0 a1 af y0 y1 y2 y3 z0 z1 zf
        generalize hl : (putA M x k).length = l at *
        clear hl
        go_wp2_with fail
        have BW : Below w.heap.size wc ((wc.setCell ⟨w.heap.size + 1 + 1, 0, none⟩ (.slice A' l c')).setCell ⟨w.heap.size + 1 + 1, 1, none⟩ (.int .i64 T)) := by (repeat' (first | (with_reducible exact Below.refl _ _) | (with_reducible assumption) | (with_reducible apply Below.setCell) | (with_reducible apply Below.alloc) | (with_reducible apply Below.drew) | (with_reducible apply below_drewN) | (with_reducible refine Below.trans ?_ (Below.mono (by assumption) ?_)) | omega | (simp; done) | (simp; omega)))
        have hO' : OwnL itV 4 ((wc.setCell ⟨w.heap.size + 1 + 1, 0, none⟩ (.slice A' l c')).setCell ⟨w.heap.size + 1 + 1, 1, none⟩ (.int .i64 T)) w.heap.size 37 (.slice A' l c') (putA M x k) := OwnL.to HO.out (fun q e => by have hq := HNE.out q e; rw [Below.heap_setCell _ _ _ _ hq, Below.heap_setCell _ _ _ _ hq])
        exact bodyPost_ret (v := .agg #[.slice A' l c', .int .i64 T]) (by simp [results, Try.results40, go_sem, *]) rfl ⟨⟨_, k, HK'.out, HNO.out, HYES.out, rfl, hO'⟩, HBB.out.trans BW⟩
  clear hK
  have HK := TAIL
  clear TAIL
  go_loopg [5] M.length (fun gk s5 wr => ∃ k : Nat, k + gk = M.length ∧ s5 = .int .i64 (k : Int) ∧ (∀ j, j < k → ¬ Lt x (gI M j)) ∧ Below W0.heap.size W0 wr)
  case atStart => exact ⟨0, by omega, rfl, fun j hj => by omega, Below.refl _ _⟩
  case round =>
    obtain ⟨k, hg, rfl, hno, hB⟩ := hrel
    have HNO := hidd hno
    have HB := hidd hB
    have HT := hidd (HK.out k)
    have a0 := (hB.cell (p := ⟨w.heap.size, 0, none⟩) (by show w.heap.size < W0.heap.size; omega)).trans x0
    have a1 := (hB.cell (p := ⟨w.heap.size + 1, 1, none⟩) (by show w.heap.size + 1 < W0.heap.size; omega)).trans y1
    have a2 := (hB.cell (p := ⟨w.heap.size + 1, 2, none⟩) (by show w.heap.size + 1 < W0.heap.size; omega)).trans y2
    have a3 := (hB.cell (p := ⟨w.heap.size + 1, 3, none⟩) (by show w.heap.size + 1 < W0.heap.size; omega)).trans y3
    have hlw : w.heap.size + 1 + 1 < wr.heap.size := Nat.lt_of_lt_of_le hs0 hB.size
    clear hno hB
    by_cases hk : k < M.length
    · have q1 : (k : Int) < (M.length : Int) := by omega
      have q2 : (0 : Int) ≤ (k : Int) := by omega
      obtain ⟨g, hA, hgl, c1, c2, c3⟩ := HI.out k hk
      subst hA
      have Bw := B0.out.trans (HB.out.mono B0.out.size)
      have d1 := (Bw.cell (p := ⟨g, k * 4 + 1, none⟩) hgl).trans c1
      have d2 := (Bw.cell (p := ⟨g, k * 4 + 2, none⟩) hgl).trans c2
      have d3 := (Bw.cell (p := ⟨g, k * 4 + 3, none⟩) hgl).trans c3
      have hgw : g < wr.heap.size := Nat.lt_of_lt_of_le hgl Bw.size
      have cK := hidd (fun W => cC.out k hk W)
      have HLT : Hid (Lt x (gI M k) ↔ kN x * kD (gI M k) < kN (gI M k) * kD x ∨ (kN x * kD (gI M k) = kN (gI M k) * kD x ∧ tN x < tN (gI M k))) := hidd Iff.rfl
      have HZ := hidd (ordZ3 (kN (gI M k) * kD x) (kN x * kD (gI M k)))
      generalize ordZ (kN (gI M k) * kD x) (kN x * kD (gI M k)) = z at *
      clear c1 c2 c3 Bw
      have cQ : ∀ d os, Calls Try.prog 58 #[.agg #[.int .i64 (kN (gI M k)), .int .i64 (kD (gI M k))], .agg #[.int .i64 (kN x), .int .i64 (kD x)]] (grow (redrawn wr d) os) fun e w'' => e = .returned (.int .i64 z) ∧ ∃ p : Regrown, w'' = grow (redrawn wr p.d) p.os := fun d os => Calls.regrown_of (cK.out _)
      have LL : Hid (Lt x (gI M k) ↔ z = 1 ∨ (z = 0 ∧ tN x < tN (gI M k))) := hidd (by
        rw [HLT.out]
        rcases HZ.out with ⟨h1, h2⟩ | ⟨h1, h2⟩ | ⟨h1, h2⟩ <;> omega)
      have HZ3 : Hid (z = -1 ∨ z = 0 ∨ z = 1) := hidd (by rcases HZ.out with ⟨h1, h2⟩ | ⟨h1, h2⟩ | ⟨h1, h2⟩ <;> omega)
      clear cK HLT HZ
      generalize kN (gI M k) = m1 at *
      generalize kD (gI M k) = m2 at *
      generalize tN (gI M k) = m3 at *
      have e0 := cell_regrown a0
      have e1 := cell_regrown a1
      have e2 := cell_regrown a2
      have e4 := cell_regrown d1
      have e5 := cell_regrown d2
      go_wp2_with fail
      refine wp_region_quiet_below (by kernel_rfl) (by kernel_rfl) ?_
      repeat (quiet_step (exact cQ _ _))
      refine wpQuiet_nil ?_
      intro _ hw'
      obtain ⟨⟨dq, osq⟩, hw''⟩ := hw'
      subst hw''
      have hb3 := below_regrown wr dq osq
      generalize grow (redrawn wr dq) osq = W3 at *
      have b0 := (hb3.cell (p := ⟨w.heap.size, 0, none⟩) (by show w.heap.size < wr.heap.size; omega)).trans a0
      have b3 := (hb3.cell (p := ⟨w.heap.size + 1, 3, none⟩) (by show w.heap.size + 1 < wr.heap.size; omega)).trans a3
      have b4 := (hb3.cell (p := ⟨g, k * 4 + 3, none⟩) hgw).trans d3
      have HB3 := hidd (HB.out.trans (hb3.mono HB.out.size))
      clear hb3 e0 e1 e2 e4 e5 cQ a0 a1 a2 a3 d1 d2 d3
      by_cases hz1 : z = 1
      · subst hz1
        go_wp2_with fail
        go_quiet (fail)
        go_wp2_with fail
        exact HT.out _ _ _ _ _ _ _ _ _ _ _ _ _ _ _ _ _ _ _ _ _ _ _ _ _ _ _ _ _ _ _ _ _ _ _ (by omega) HNO.out (fun _ => LL.out.2 (by first | exact .inl rfl | simp)) (by have b := HB3.out; (repeat' (first | (with_reducible exact Below.refl _ _) | (with_reducible assumption) | (with_reducible apply Below.setCell) | (with_reducible apply Below.alloc) | (with_reducible apply Below.drew) | (with_reducible apply below_drewN) | (with_reducible refine Below.trans ?_ (Below.mono (by assumption) ?_)) | omega | (simp; done) | (simp; omega))))
      · by_cases hz0 : z = 0
        · subst hz0
          by_cases ht : tN x < m3
          · have HLT := hidd ht
            go_wp2_with fail
            go_quiet (fail)
            go_wp2_with fail
            exact HT.out _ _ _ _ _ _ _ _ _ _ _ _ _ _ _ _ _ _ _ _ _ _ _ _ _ _ _ _ _ _ _ _ _ _ _ (by omega) HNO.out (fun _ => LL.out.2 (by have q := HLT.out; first | exact .inr ⟨rfl, q⟩ | (simp; try omega))) (by have b := HB3.out; (repeat' (first | (with_reducible exact Below.refl _ _) | (with_reducible assumption) | (with_reducible apply Below.setCell) | (with_reducible apply Below.alloc) | (with_reducible apply Below.drew) | (with_reducible apply below_drewN) | (with_reducible refine Below.trans ?_ (Below.mono (by assumption) ?_)) | omega | (simp; done) | (simp; omega))))
          · have HLT := hidd ht
            go_wp2_with fail
            go_quiet (fail)
            go_wp2_with fail
            go_roundg (gk - 1)
            case measure => omega
            case rel => exact ⟨k + 1, by omega, by go_num, fun j hj => by
              by_cases q : j = k
              · subst q; intro h; rcases LL.out.1 h with h | ⟨_, h⟩
                · exact absurd h (by decide)
                · have q := HLT.out; omega
              · exact HNO.out j (by omega), by have b := HB3.out; (repeat' (first | (with_reducible exact Below.refl _ _) | (with_reducible assumption) | (with_reducible apply Below.setCell) | (with_reducible apply Below.alloc) | (with_reducible apply Below.drew) | (with_reducible apply below_drewN) | (with_reducible refine Below.trans ?_ (Below.mono (by assumption) ?_)) | omega | (simp; done) | (simp; omega)))⟩
        · obtain rfl : z = -1 := by rcases HZ3.out with h | h | h <;> omega
          go_wp2_with fail
          go_quiet (fail)
          go_wp2_with fail
          go_roundg (gk - 1)
          case measure => omega
          case rel => exact ⟨k + 1, by omega, by go_num, fun j hj => by
            by_cases q : j = k
            · subst q; intro h; rcases LL.out.1 h with h | ⟨h, _⟩
              · exact absurd h (by decide)
              · exact absurd h (by decide)
            · exact HNO.out j (by omega), by have b := HB3.out; (repeat' (first | (with_reducible exact Below.refl _ _) | (with_reducible assumption) | (with_reducible apply Below.setCell) | (with_reducible apply Below.alloc) | (with_reducible apply Below.drew) | (with_reducible apply below_drewN) | (with_reducible refine Below.trans ?_ (Below.mono (by assumption) ?_)) | omega | (simp; done) | (simp; omega)))⟩
    · have q1 : ¬ (k : Int) < (M.length : Int) := by omega
      go_wp2_with fail
      exact HT.out _ _ _ _ _ _ _ _ _ _ _ _ _ _ _ _ _ _ _ _ _ _ _ _ _ _ _ _ _ _ _ _ _ _ _ (by omega) HNO.out (fun h => absurd h hk) HB.out
end Go.Proofs.Ytohkkebiilaniaa.Hp
