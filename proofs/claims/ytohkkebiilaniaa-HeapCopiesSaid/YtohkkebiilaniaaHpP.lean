/- Heaps: the document's list without an item. -/
import Derived.Test.YtohkkebiilaniaaHpO
namespace Go.Proofs.Ytohkkebiilaniaa.Hp
set_option linter.unusedVariables false
open Go.RowKit Go.Maps Go.Sort Go.Proofs.Ytohkkebiilaniaa.Tp

theorem row_take_get {L : List It} {k j : Nat} {u : Value} (h : (rowOf itV (L.take k))[j]? = some u) : (rowOf itV L)[j]? = some u := by
  rw [row_get] at h ⊢
  simp only [List.length_take] at h
  split at h
  · rename_i q
    rw [if_pos (by omega), ← h, gI_take (by omega)]
  · cases h
theorem gI_drop {L : List It} {k i : Nat} : gI (L.drop k) i = gI L (k + i) := by
  unfold gI
  rw [List.getD_eq_getElem?_getD, List.getD_eq_getElem?_getD, List.getElem?_drop]
theorem row_drop_get {L : List It} {k j : Nat} {u : Value} (h : (rowOf itV (L.drop k))[j]? = some u) : (rowOf itV L)[k * 4 + j]? = some u := by
  rw [row_get] at h ⊢
  simp only [List.length_drop] at h
  split at h
  · rename_i q
    rw [if_pos (by omega), ← h, gI_drop, show (k * 4 + j) / 4 = k + j / 4 by omega, show (k * 4 + j) % 4 = j % 4 by omega]
  · cases h
theorem src_take {W : World} {g c : Nat} {L : List It} (h : RL W (.slice (some ⟨g, 0, none⟩) L.length c) L) (k : Nat) : ∀ j u, (rowOf itV (L.take k))[j]? = some u → W.cell? ((⟨g, 0, none⟩ : Addr).add j) = some u := fun j u hu => World.ownsRow.cells h (g := g) rfl j u (row_take_get hu)
theorem add0 (g o j : Nat) : (⟨g, o, none⟩ : Addr).add j = ⟨g, o + j, none⟩ := by
  unfold Addr.add
  by_cases h : j = 0
  · subst h; simp
  · simp [h]
theorem src_drop {W : World} {g c : Nat} {L : List It} (h : RL W (.slice (some ⟨g, 0, none⟩) L.length c) L) (k : Nat) : ∀ j u, (rowOf itV (L.drop k))[j]? = some u → W.cell? ((⟨g, k * 4, none⟩ : Addr).add j) = some u := fun j u hu => by
  have := World.ownsRow.cells h (g := g) rfl (k * 4 + j) u (row_drop_get hu)
  rw [add0] at this ⊢
  rw [Nat.zero_add] at this
  exact this
theorem OwnL.base' {w : World} {base : Nat} {e : TypeId} {v : Value} {L : List It} (h : OwnL itV 4 w base e v L) (b : Nat) (hb : b ≤ base) : OwnL itV 4 w b e v L := by
  refine ⟨h.1, ?_⟩
  rcases h.2 with q | ⟨g, cap, cur, hv, hbs, hr⟩
  · exact .inl q
  · exact .inr ⟨g, cap, cur, hv, by omega, hr⟩
theorem ownsRow_slice {w : World} {base : Nat} {e : TypeId} {sz : Nat} {v : Value} {n : Nat} {xs : List Value} (h : w.ownsRow base e sz v n xs) : ∃ A c, v = .slice A n c := by
  rcases h.2 with ⟨rfl, rfl⟩ | ⟨g, cap, cur, rfl, _⟩
  · exact ⟨none, 0, rfl⟩
  · exact ⟨_, _, rfl⟩
def wo (M : List It) (n : Nat) : List It := M.take n ++ M.drop (n + 1)
theorem wo_len {M : List It} {n : Nat} (h : n < M.length) : (wo M n).length = M.length - 1 := by simp [wo]; omega
set_option maxRecDepth 100000 in
set_option maxHeartbeats 8000000 in
theorem without_any (v : Value) (M : List It) (T : Int) (n : Nat) (hn : n < M.length) (hm : M.length ≤ 1000000) (w : World) (H : RL w v M) :
    Calls Try.prog 41 #[.agg #[v, .int .i64 T], .int .i64 (n : Int)] w fun e w' => (∃ v', e = .returned (.agg #[v', .int .i64 T]) ∧ OwnL itV 4 w' w.heap.size 37 v' (wo M n)) ∧ Below w.heap.size w w' := by
  obtain ⟨i0, hin, hz0, hz1, hz2⟩ := itParts
  obtain ⟨g, c, hv, _, hg, hlc, hcm, _⟩ := OwnL.form H (by omega)
  subst hv
  have HH := hidd H
  clear H
  have e1 : (M.take n).length = n := by simp; omega
  have z1 : (0 : Int) ≤ (n : Int) := by omega
  have z2 : (n : Int) ≤ (c : Int) := by omega
  have z3 : (M.length : Int) ≤ (c : Int) := by omega
  have z4 : (n : Int) + 1 ≤ (M.length : Int) := by omega
  have w1 : IntKind.i64.wrap ((n : Int) + 1) = ((n + 1 : Nat) : Int) := by rw [IntKind.wrap_i64]; omega
  obtain ⟨n1, hn1⟩ : ∃ n1, n + 1 = n1 := ⟨_, rfl⟩
  rw [hn1] at w1
  have z5 : (0 : Int) ≤ (n1 : Int) := by omega
  have z6 : (n1 : Int) ≤ (M.length : Int) := by omega
  have HN1 := hidd hn1
  have hnc : n ≤ c := by omega
  have hn1c : n1 ≤ M.length := by omega
  clear hn1 z4
  by_cases hcn : c = n1
  · subst hcn
    go_enter Try.func41, Try.ntmps41
    go_wp2_with fail
    obtain ⟨W0, hW0⟩ : ∃ W0, (w.alloc (.cells #[.slice (some ⟨g, 0, none⟩) M.length c, .int .i64 T] 28)).alloc (.cells #[.slice none 0 0, .int .i64 0] 28) = W0 := ⟨_, rfl⟩
    rw [hW0]
    have B0 : Hid (Below w.heap.size w W0) := hidd (by rw [← hW0]; (repeat' (first | (with_reducible exact Below.refl _ _) | (with_reducible assumption) | (with_reducible apply Below.setCell) | (with_reducible apply Below.alloc) | (with_reducible apply Below.drew) | (with_reducible apply below_drewN) | (with_reducible refine Below.trans ?_ (Below.mono (by assumption) ?_)) | omega | (simp; done) | (simp; omega))))
    have x0 : W0.cell? ⟨w.heap.size, 0, none⟩ = some (.slice (some ⟨g, 0, none⟩) M.length c) := by rw [← hW0]; simp [go_sem]
    have x1 : W0.cell? ⟨w.heap.size, 1, none⟩ = some (.int .i64 T) := by rw [← hW0]; simp [go_sem]
    have y0 : W0.cell? ⟨w.heap.size + 1, 0, none⟩ = some (.slice none 0 0) := by rw [← hW0]; simp [go_sem]
    have y1 : W0.cell? ⟨w.heap.size + 1, 1, none⟩ = some (.int .i64 0) := by rw [← hW0]; simp [go_sem]
    have xf : W0.frozen? ⟨w.heap.size, 0, none⟩ = false := by rw [← hW0]; simp [go_sem]
    have yf : ∀ o, W0.frozen? ⟨w.heap.size + 1, o, none⟩ = false := fun o => by rw [← hW0]; simp [go_sem]
    have hs0 : w.heap.size + 1 < W0.heap.size := by rw [← hW0]; simp
    clear hW0
    have HR0 := hidd (HH.out.below B0.out)
    go_cut [] (fun wx => ∃ v', wx.cell? ⟨w.heap.size, 0, none⟩ = some v' ∧ wx.cell? ⟨w.heap.size, 1, none⟩ = some (.int .i64 T) ∧ wx.cell? ⟨w.heap.size + 1, 0, none⟩ = some (.slice none 0 0) ∧ wx.cell? ⟨w.heap.size + 1, 1, none⟩ = some (.int .i64 0) ∧ (∀ o, wx.frozen? ⟨w.heap.size + 1, o, none⟩ = false) ∧ OwnL itV 4 wx w.heap.size 37 v' (wo M n) ∧ (∀ q, v'.ownBlock = some q → q ≠ w.heap.size + 1) ∧ Below w.heap.size w wx)
    case first =>
      go_region_law (first
        | (refine step_append_some (by rfl) (.const (.slice none 0 0)) (.tmp 8) _ (by rfl) W0.heap.size 37 i0 _ 4 32 Try.underlying26 hin hz0 hz1 hz2 rfl (by omega) (.slice none 0 0) 0 [] (by rfl) (World.ownsRow_nil _ _ _ _) (some ⟨g, 0, none⟩) n c (rowOf itV (M.take n)) (by rfl) (by rw [row_len itV_len, e1]) (fun _ => ⟨_, rfl, src_take (HR0.out.below (by (repeat' (first | (with_reducible exact Below.refl _ _) | (with_reducible assumption) | (with_reducible apply Below.setCell) | (with_reducible apply Below.alloc) | (with_reducible apply Below.drew) | (with_reducible apply below_drewN) | (with_reducible refine Below.trans ?_ (Below.mono (by assumption) ?_)) | omega | (simp; done) | (simp; omega))))) n⟩) (rowOf_one itV_one _) (by simp only [maxLen]; omega) (by omega) (by (first | omega | (simp; done) | (simp; omega))) ?_; intro v1 wa hown1 hgrow1 hat1; have hb1 : Below W0.heap.size W0 wa := Below.grown (by (repeat' (first | (with_reducible exact Below.refl _ _) | (with_reducible assumption) | (with_reducible apply Below.setCell) | (with_reducible apply Below.alloc) | (with_reducible apply Below.drew) | (with_reducible apply below_drewN) | (with_reducible refine Below.trans ?_ (Below.mono (by assumption) ?_)) | omega | (simp; done) | (simp; omega)))) hgrow1 (by (first | omega | (simp; done) | (simp; omega))) (by intro k hk; simp [Value.ownBlock] at hk); have hz1' := Below.size hb1; have k0 := (hb1.cell (p := ⟨w.heap.size, 0, none⟩) (by show w.heap.size < W0.heap.size; omega)).trans x0; have kf := (hb1.frozen (p := ⟨w.heap.size, 0, none⟩) (by show w.heap.size < W0.heap.size; omega)).trans xf)
        | (refine step_append_some (by rfl) (.tmp 9) (.tmp 14) _ (by rfl) W0.heap.size 37 i0 _ 4 32 Try.underlying26 hin hz0 hz1 hz2 rfl (by omega) v1 (0 + n) ([] ++ rowOf itV (M.take n)) (by rfl) hown1 (some ⟨g, 0, none⟩) 0 0 [] (by rfl) (by rfl) (fun q => absurd q (by omega)) (fun u hu => by cases hu) (by simp only [maxLen]; omega) (by omega) (by (first | omega | (simp; done) | (simp; omega))) ?_; intro v2 wb hown2 hgrow2 hat2; obtain ⟨A2, c2, hv2⟩ := ownsRow_slice hown2; subst hv2; have hb2 : Below W0.heap.size W0 wb := Below.grown hb1 hgrow2 (by (first | omega | (simp; done) | (simp; omega))) (fun k hk => (World.ownsRow.lt hown1 k hk).1); have hz2' := Below.size hb2; have m0 := (hb2.cell (p := ⟨w.heap.size, 0, none⟩) (by show w.heap.size < W0.heap.size; omega)).trans x0; have mf := (hb2.frozen (p := ⟨w.heap.size, 0, none⟩) (by show w.heap.size < W0.heap.size; omega)).trans xf))
      all_goals
        have hO : OwnL itV 4 wb W0.heap.size 37 (.slice A2 n c2) (wo M n) := by
          unfold OwnL
          rw [wo_len hn]
          have hd : M.drop (n + 1) = [] := List.drop_eq_nil_of_le (by have := HN1.out; omega)
          have e : rowOf itV (wo M n) = [] ++ rowOf itV (M.take n) ++ [] := by unfold wo; rw [hd]; simp
          rw [e]
          have h := hown2
          have q2 : n = M.length - 1 := by have := HN1.out; omega
          have q : 0 + n + 0 = M.length - 1 := by omega
          rw [q] at h
          rw [← q2] at h ⊢
          exact h
        have hO2 : Hid (OwnL itV 4 (wb.setCell ⟨w.heap.size, 0, none⟩ (.slice A2 n c2)) w.heap.size 37 (.slice A2 n c2) (wo M n)) := hidd (OwnL.base' (OwnL.to hO (fun q e => Below.heap_setCell _ _ _ _ (by have := (OwnL.lt hO q e).1; show q ≠ w.heap.size; omega))) _ (by omega))
        have hNE := hidd (fun q (e : (Value.slice A2 n c2).ownBlock = some q) => (show q ≠ w.heap.size + 1 by have := (OwnL.lt hO q e).1; omega))
        have m1 := (hb2.cell (p := ⟨w.heap.size, 1, none⟩) (by show w.heap.size < W0.heap.size; omega)).trans x1
        have n0 := (hb2.cell (p := ⟨w.heap.size + 1, 0, none⟩) hs0).trans y0
        have c' := (hb2.cell (p := ⟨w.heap.size + 1, 1, none⟩) hs0).trans y1
        have nf := fun o => (hb2.frozen (p := ⟨w.heap.size + 1, o, none⟩) hs0).trans (yf o)
        have BB := hidd (B0.out.trans (hb2.mono B0.out.size))
        clear hown1 hgrow1 hat1 hown2 hgrow2 hat2 hO hb1 k0 kf
        go_wp2_with fail
        go_meet
        exact ⟨.slice A2 n c2, World.cell?_setCell_same' _ _ _ (by rw [m0]; rfl), by simp [go_sem, m1], by simp [go_sem, n0], by simp [go_sem, c'], fun o => by rw [World.frozen?_setCell]; exact nf o, hO2.out, hNE.out, by have b := BB.out; (repeat' (first | (with_reducible exact Below.refl _ _) | (with_reducible assumption) | (with_reducible apply Below.setCell) | (with_reducible apply Below.alloc) | (with_reducible apply Below.drew) | (with_reducible apply below_drewN) | (with_reducible refine Below.trans ?_ (Below.mono (by assumption) ?_)) | omega | (simp; done) | (simp; omega)))⟩
    case rest =>
      obtain ⟨v', q0, q1, r0, r1, rf, hO, hNE, hB⟩ := hcut
      have hsx : w.heap.size + 1 < wc.heap.size := block_lt_of_cell r0
      obtain ⟨A', c', hv', _⟩ := OwnL.lie hO itV_len
      subst hv'
      have HO := hidd hO
      have HNE := hidd hNE
      have HB := hidd hB
      clear hO hNE hB x0 x1 y0 y1
      generalize hl : (wo M n).length = l at *
      clear hl
      go_wp2_with fail
      have BW : Below w.heap.size wc ((wc.setCell ⟨w.heap.size + 1, 0, none⟩ (.slice A' l c')).setCell ⟨w.heap.size + 1, 1, none⟩ (.int .i64 T)) := by (repeat' (first | (with_reducible exact Below.refl _ _) | (with_reducible assumption) | (with_reducible apply Below.setCell) | (with_reducible apply Below.alloc) | (with_reducible apply Below.drew) | (with_reducible apply below_drewN) | (with_reducible refine Below.trans ?_ (Below.mono (by assumption) ?_)) | omega | (simp; done) | (simp; omega)))
      have hO' : OwnL itV 4 ((wc.setCell ⟨w.heap.size + 1, 0, none⟩ (.slice A' l c')).setCell ⟨w.heap.size + 1, 1, none⟩ (.int .i64 T)) w.heap.size 37 (.slice A' l c') (wo M n) := OwnL.to HO.out (fun q e => by have hq := HNE.out q e; rw [Below.heap_setCell _ _ _ _ hq, Below.heap_setCell _ _ _ _ hq])
      exact bodyPost_ret (v := .agg #[.slice A' l c', .int .i64 T]) (by simp [results, Try.results41, go_sem, *]) rfl ⟨⟨_, rfl, hO'⟩, HB.out.trans BW⟩
  · go_enter Try.func41, Try.ntmps41
    go_wp2_with fail
    obtain ⟨W0, hW0⟩ : ∃ W0, (w.alloc (.cells #[.slice (some ⟨g, 0, none⟩) M.length c, .int .i64 T] 28)).alloc (.cells #[.slice none 0 0, .int .i64 0] 28) = W0 := ⟨_, rfl⟩
    rw [hW0]
    have B0 : Hid (Below w.heap.size w W0) := hidd (by rw [← hW0]; (repeat' (first | (with_reducible exact Below.refl _ _) | (with_reducible assumption) | (with_reducible apply Below.setCell) | (with_reducible apply Below.alloc) | (with_reducible apply Below.drew) | (with_reducible apply below_drewN) | (with_reducible refine Below.trans ?_ (Below.mono (by assumption) ?_)) | omega | (simp; done) | (simp; omega))))
    have x0 : W0.cell? ⟨w.heap.size, 0, none⟩ = some (.slice (some ⟨g, 0, none⟩) M.length c) := by rw [← hW0]; simp [go_sem]
    have x1 : W0.cell? ⟨w.heap.size, 1, none⟩ = some (.int .i64 T) := by rw [← hW0]; simp [go_sem]
    have y0 : W0.cell? ⟨w.heap.size + 1, 0, none⟩ = some (.slice none 0 0) := by rw [← hW0]; simp [go_sem]
    have y1 : W0.cell? ⟨w.heap.size + 1, 1, none⟩ = some (.int .i64 0) := by rw [← hW0]; simp [go_sem]
    have xf : W0.frozen? ⟨w.heap.size, 0, none⟩ = false := by rw [← hW0]; simp [go_sem]
    have yf : ∀ o, W0.frozen? ⟨w.heap.size + 1, o, none⟩ = false := fun o => by rw [← hW0]; simp [go_sem]
    have hs0 : w.heap.size + 1 < W0.heap.size := by rw [← hW0]; simp
    clear hW0
    have HR0 := hidd (HH.out.below B0.out)
    go_cut [] (fun wx => ∃ v', wx.cell? ⟨w.heap.size, 0, none⟩ = some v' ∧ wx.cell? ⟨w.heap.size, 1, none⟩ = some (.int .i64 T) ∧ wx.cell? ⟨w.heap.size + 1, 0, none⟩ = some (.slice none 0 0) ∧ wx.cell? ⟨w.heap.size + 1, 1, none⟩ = some (.int .i64 0) ∧ (∀ o, wx.frozen? ⟨w.heap.size + 1, o, none⟩ = false) ∧ OwnL itV 4 wx w.heap.size 37 v' (wo M n) ∧ (∀ q, v'.ownBlock = some q → q ≠ w.heap.size + 1) ∧ Below w.heap.size w wx)
    case first =>
      go_region_law (first
        | (refine step_append_some (by rfl) (.const (.slice none 0 0)) (.tmp 8) _ (by rfl) W0.heap.size 37 i0 _ 4 32 Try.underlying26 hin hz0 hz1 hz2 rfl (by omega) (.slice none 0 0) 0 [] (by rfl) (World.ownsRow_nil _ _ _ _) (some ⟨g, 0, none⟩) n c (rowOf itV (M.take n)) (by rfl) (by rw [row_len itV_len, e1]) (fun _ => ⟨_, rfl, src_take (HR0.out.below (by (repeat' (first | (with_reducible exact Below.refl _ _) | (with_reducible assumption) | (with_reducible apply Below.setCell) | (with_reducible apply Below.alloc) | (with_reducible apply Below.drew) | (with_reducible apply below_drewN) | (with_reducible refine Below.trans ?_ (Below.mono (by assumption) ?_)) | omega | (simp; done) | (simp; omega))))) n⟩) (rowOf_one itV_one _) (by simp only [maxLen]; omega) (by omega) (by (first | omega | (simp; done) | (simp; omega))) ?_; intro v1 wa hown1 hgrow1 hat1; have hb1 : Below W0.heap.size W0 wa := Below.grown (by (repeat' (first | (with_reducible exact Below.refl _ _) | (with_reducible assumption) | (with_reducible apply Below.setCell) | (with_reducible apply Below.alloc) | (with_reducible apply Below.drew) | (with_reducible apply below_drewN) | (with_reducible refine Below.trans ?_ (Below.mono (by assumption) ?_)) | omega | (simp; done) | (simp; omega)))) hgrow1 (by (first | omega | (simp; done) | (simp; omega))) (by intro k hk; simp [Value.ownBlock] at hk); have hz1' := Below.size hb1; have k0 := (hb1.cell (p := ⟨w.heap.size, 0, none⟩) (by show w.heap.size < W0.heap.size; omega)).trans x0; have kf := (hb1.frozen (p := ⟨w.heap.size, 0, none⟩) (by show w.heap.size < W0.heap.size; omega)).trans xf)
        | (refine step_append_some (by rfl) (.tmp 9) (.tmp 14) _ (by rfl) W0.heap.size 37 i0 _ 4 32 Try.underlying26 hin hz0 hz1 hz2 rfl (by omega) v1 (0 + n) ([] ++ rowOf itV (M.take n)) (by rfl) hown1 (some ⟨g, n1 * 4, none⟩) (M.length - n1) (c - n1) (rowOf itV (M.drop n1)) (by rfl) (by rw [row_len itV_len, List.length_drop]) (fun q => ⟨⟨g, n1 * 4, none⟩, rfl, src_drop (HR0.out.below hb1) n1⟩) (rowOf_one itV_one _) (by simp only [maxLen]; omega) (by omega) (by (first | omega | (simp; done) | (simp; omega))) ?_; intro v2 wb hown2 hgrow2 hat2; obtain ⟨A2, c2, hv2⟩ := ownsRow_slice hown2; subst hv2; have hb2 : Below W0.heap.size W0 wb := Below.grown hb1 hgrow2 (by (first | omega | (simp; done) | (simp; omega))) (fun k hk => (World.ownsRow.lt hown1 k hk).1); have hz2' := Below.size hb2; have m0 := (hb2.cell (p := ⟨w.heap.size, 0, none⟩) (by show w.heap.size < W0.heap.size; omega)).trans x0; have mf := (hb2.frozen (p := ⟨w.heap.size, 0, none⟩) (by show w.heap.size < W0.heap.size; omega)).trans xf))
      all_goals
        have hO : OwnL itV 4 wb W0.heap.size 37 (.slice A2 (n + (M.length - n1)) c2) (wo M n) := by
          unfold OwnL
          rw [wo_len hn]
          have e : rowOf itV (wo M n) = [] ++ rowOf itV (M.take n) ++ rowOf itV (M.drop n1) := by rw [← HN1.out]; simp [rowOf, wo]
          rw [e]
          have h := hown2
          have q : 0 + n + (M.length - n1) = M.length - 1 := by have := HN1.out; omega
          have q2 : n + (M.length - n1) = M.length - 1 := by have := HN1.out; omega
          rw [q] at h
          rw [q2]
          exact h
        have hO2 : Hid (OwnL itV 4 (wb.setCell ⟨w.heap.size, 0, none⟩ (.slice A2 (n + (M.length - n1)) c2)) w.heap.size 37 (.slice A2 (n + (M.length - n1)) c2) (wo M n)) := hidd (OwnL.base' (OwnL.to hO (fun q e => Below.heap_setCell _ _ _ _ (by have := (OwnL.lt hO q e).1; show q ≠ w.heap.size; omega))) _ (by omega))
        have hNE := hidd (fun q (e : (Value.slice A2 (n + (M.length - n1)) c2).ownBlock = some q) => (show q ≠ w.heap.size + 1 by have := (OwnL.lt hO q e).1; omega))
        have m1 := (hb2.cell (p := ⟨w.heap.size, 1, none⟩) (by show w.heap.size < W0.heap.size; omega)).trans x1
        have n0 := (hb2.cell (p := ⟨w.heap.size + 1, 0, none⟩) hs0).trans y0
        have n1' := (hb2.cell (p := ⟨w.heap.size + 1, 1, none⟩) hs0).trans y1
        have nf := fun o => (hb2.frozen (p := ⟨w.heap.size + 1, o, none⟩) hs0).trans (yf o)
        have BB := hidd (B0.out.trans (hb2.mono B0.out.size))
        clear hown1 hgrow1 hat1 hown2 hgrow2 hat2 hO hb1 k0 kf
        go_wp2_with fail
        go_meet
        exact ⟨.slice A2 (n + (M.length - n1)) c2, World.cell?_setCell_same' _ _ _ (by rw [m0]; rfl), by simp [go_sem, m1], by simp [go_sem, n0], by simp [go_sem, n1'], fun o => by rw [World.frozen?_setCell]; exact nf o, hO2.out, hNE.out, by have b := BB.out; (repeat' (first | (with_reducible exact Below.refl _ _) | (with_reducible assumption) | (with_reducible apply Below.setCell) | (with_reducible apply Below.alloc) | (with_reducible apply Below.drew) | (with_reducible apply below_drewN) | (with_reducible refine Below.trans ?_ (Below.mono (by assumption) ?_)) | omega | (simp; done) | (simp; omega)))⟩
    case rest =>
      obtain ⟨v', q0, q1, r0, r1, rf, hO, hNE, hB⟩ := hcut
      have hsx : w.heap.size + 1 < wc.heap.size := block_lt_of_cell r0
      obtain ⟨A', c', hv', _⟩ := OwnL.lie hO itV_len
      subst hv'
      have HO := hidd hO
      have HNE := hidd hNE
      have HB := hidd hB
      clear hO hNE hB x0 x1 y0 y1
      generalize hl : (wo M n).length = l at *
      clear hl
      go_wp2_with fail
      have BW : Below w.heap.size wc ((wc.setCell ⟨w.heap.size + 1, 0, none⟩ (.slice A' l c')).setCell ⟨w.heap.size + 1, 1, none⟩ (.int .i64 T)) := by (repeat' (first | (with_reducible exact Below.refl _ _) | (with_reducible assumption) | (with_reducible apply Below.setCell) | (with_reducible apply Below.alloc) | (with_reducible apply Below.drew) | (with_reducible apply below_drewN) | (with_reducible refine Below.trans ?_ (Below.mono (by assumption) ?_)) | omega | (simp; done) | (simp; omega)))
      have hO' : OwnL itV 4 ((wc.setCell ⟨w.heap.size + 1, 0, none⟩ (.slice A' l c')).setCell ⟨w.heap.size + 1, 1, none⟩ (.int .i64 T)) w.heap.size 37 (.slice A' l c') (wo M n) := OwnL.to HO.out (fun q e => by have hq := HNE.out q e; rw [Below.heap_setCell _ _ _ _ hq, Below.heap_setCell _ _ _ _ hq])
      exact bodyPost_ret (v := .agg #[.slice A' l c', .int .i64 T]) (by simp [results, Try.results41, go_sem, *]) rfl ⟨⟨_, rfl, hO'⟩, HB.out.trans BW⟩
end Go.Proofs.Ytohkkebiilaniaa.Hp
