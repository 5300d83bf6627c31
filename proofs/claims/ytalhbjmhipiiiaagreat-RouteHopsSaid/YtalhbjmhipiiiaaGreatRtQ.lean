/- Routes: four nodes in a ring; a way of two links is known. -/
import Derived.Test.YtalhbjmhipiiiaaGreatRtP
namespace Go.Proofs.YtalhbjmhipiiiaaGreat.Tp
set_option linter.unusedVariables false
open Go.RowKit Go.Maps

def lkR (a b : Int) : Lk := (a, b, 10, 0, 1, 100, 0, 0)
def paR (k : Nat) : Int := ([0, 1, 0, 3] : List Int).getD k 0
def pbR (k : Nat) : Int := ([1, 2, 3, 2] : List Int).getD k 0
def ringL : List Lk := [lkR 0 1, lkR 1 0, lkR 1 2, lkR 2 1, lkR 0 3, lkR 3 0, lkR 3 2, lkR 2 3]
theorem ring_wide : WideL ringL := fun x hx => by
  simp only [ringL, List.mem_cons, List.not_mem_nil, or_false] at hx
  rcases hx with rfl | rfl | rfl | rfl | rfl | rfl | rfl | rfl <;> (simp [I64P, I64, ends1, lkR, fr, tw])
theorem err_ring : errN 4 ringL = 0 := by decide +kernel
theorem ring_valid : Valid 4 ringL := valid_of err_ring
theorem ring_next : ∀ k, k < 4 → ringL.take (2 * (k + 1)) = ringL.take (2 * k) ++ [lkR (paR k) (pbR k), lkR (pbR k) (paR k)]
  | 0, _ => rfl
  | 1, _ => rfl
  | 2, _ => rfl
  | 3, _ => rfl
set_option maxRecDepth 100000 in
set_option maxHeartbeats 4000000 in
theorem ring_any (w : World) : Calls Tryz.prog 22 #[] w fun e w' => ∃ A c, e = .returned (.slice A ringL.length c) ∧ Lie linkV 8 w' w'.heap.size A ringL ∧ Below w.heap.size w w' := by
  obtain ⟨i0, hi, hz0, hz1, hz2⟩ := info_parts linkInfo
  obtain ⟨W0, hW0⟩ : ∃ W0, w.alloc (.cells #[.int .i64 0, .int .i64 1, .int .i64 1, .int .i64 2, .int .i64 0, .int .i64 3, .int .i64 3, .int .i64 2] 23) = W0 := ⟨_, rfl⟩
  have hb0 : Below w.heap.size w W0 := by rw [← hW0]; (repeat' (first | (with_reducible exact Below.refl _ _) | (with_reducible assumption) | (with_reducible apply Below.setCell) | (with_reducible apply Below.alloc) | (with_reducible apply Below.drew) | (with_reducible apply below_drewN) | (with_reducible refine Below.trans ?_ (Below.mono (by assumption) ?_)) | omega | (simp; done) | (simp; omega)))
  have hs0 : W0.heap.size = w.heap.size + 1 := by rw [← hW0]; simp
  have hcl : ∀ k, k < 4 → W0.cell? ⟨w.heap.size, k * 2, none⟩ = some (.int .i64 (paR k)) ∧ W0.cell? ⟨w.heap.size, k * 2 + 1, none⟩ = some (.int .i64 (pbR k)) := fun k hk => by
    rw [← hW0]
    match k, hk with
    | 0, _ => simp [go_sem, paR, pbR]
    | 1, _ => simp [go_sem, paR, pbR]
    | 2, _ => simp [go_sem, paR, pbR]
    | 3, _ => simp [go_sem, paR, pbR]
  have HCL := hidd hcl
  have HB0 := hidd hb0
  have HS0 := hidd hs0
  have HW := hidd hW0
  clear hb0 hs0 hcl hW0
  go_enter Tryz.func22, Tryz.ntmps22
  go_wp2_with fail
  rw [HW.out]
  go_loopg [1, 10] 4 (fun g s1 s10 wr => ∃ k : Nat, k + g = 4 ∧ s10 = .int .i64 (k : Int) ∧ OwnL linkV 8 wr W0.heap.size 51 s1 (ringL.take (2 * k)) ∧ Below W0.heap.size W0 wr)
  case atStart => exact ⟨0, rfl, rfl, OwnL.nil _ _ _, Below.refl _ _⟩
  case round =>
    obtain ⟨k, hg, rfl, hO, hB⟩ := hrel
    obtain ⟨A5, c5, rfl, _, _, hl5⟩ := hO.lie linkV_len
    have HG := hidd hg
    have HO := hidd hO
    have HBW := hidd hB
    have hbs := hB.size
    have hlk : (ringL.take (2 * k)).length ≤ 8 := by rw [List.length_take]; simp [ringL]; omega
    clear hg hO hB
    by_cases hk : k < 4
    · have hk2 : (k : Int) < 4 := by omega
      have hk0 : (0 : Int) ≤ (k : Int) := by omega
      have hs0 := HS0.out
      obtain ⟨q0, q1⟩ := HCL.out k hk
      have x0 := (HBW.out.cell (p := ⟨w.heap.size, k * 2, none⟩) (by show w.heap.size < _; omega)).trans q0
      have x1 := (HBW.out.cell (p := ⟨w.heap.size, k * 2 + 1, none⟩) (by show w.heap.size < _; omega)).trans q1
      have HN := hidd (ring_next k hk)
      generalize ringL.take (2 * k) = D at *
      obtain ⟨K, hK⟩ : ∃ K, D.length = K := ⟨_, rfl⟩
      have HO1 : Hid (wr.ownsRow W0.heap.size 51 8 (.slice A5 K c5) K (rowOf linkV D)) := hidd (by rw [← hK]; exact HO.out)
      rw [hK] at hlk ⊢
      have HK := hidd hK
      clear hK q0 q1 hl5 hs0
      generalize paR k = a at *
      generalize pbR k = b at *
      have HO2 := hidd ((World.ownsRow.alloc HO1.out (.cells #[.int .i64 a, .int .i64 b] 23)).alloc (.cells #[.int .i64 a, .int .i64 b, .int .i64 10, .int .i64 0, .int .i64 1, .int .i64 100, .int .i64 0, .int .i64 0, .int .i64 b, .int .i64 a, .int .i64 10, .int .i64 0, .int .i64 1, .int .i64 100, .int .i64 0, .int .i64 0] 51))
      have hsrc : Hid (0 < 2 → ∃ ad', some (⟨wr.heap.size + 1, 0, none⟩ : Addr) = some ad' ∧ ∀ j u, (rowOf linkV [lkR a b, lkR b a])[j]? = some u → ((wr.alloc (.cells #[.int .i64 a, .int .i64 b] 23)).alloc (.cells #[.int .i64 a, .int .i64 b, .int .i64 10, .int .i64 0, .int .i64 1, .int .i64 100, .int .i64 0, .int .i64 0, .int .i64 b, .int .i64 a, .int .i64 10, .int .i64 0, .int .i64 1, .int .i64 100, .int .i64 0, .int .i64 0] 51)).cell? (ad'.add j) = some u) := hidd (fun _ => ⟨_, rfl, fun j u hj => by
        have e0 : (⟨wr.heap.size + 1, 0, none⟩ : Addr).add j = ⟨wr.heap.size + 1, j, none⟩ := by unfold Addr.add; split <;> simp_all
        rw [e0]
        have e1 : ((wr.alloc (.cells #[.int .i64 a, .int .i64 b] 23)).alloc (.cells #[.int .i64 a, .int .i64 b, .int .i64 10, .int .i64 0, .int .i64 1, .int .i64 100, .int .i64 0, .int .i64 0, .int .i64 b, .int .i64 a, .int .i64 10, .int .i64 0, .int .i64 1, .int .i64 100, .int .i64 0, .int .i64 0] 51)).heap[wr.heap.size + 1]? = some (.cells #[.int .i64 a, .int .i64 b, .int .i64 10, .int .i64 0, .int .i64 1, .int .i64 100, .int .i64 0, .int .i64 0, .int .i64 b, .int .i64 a, .int .i64 10, .int .i64 0, .int .i64 1, .int .i64 100, .int .i64 0, .int .i64 0] 51 (0, 0)) := by
          have h := World.alloc_heap_new (wr.alloc (.cells #[.int .i64 a, .int .i64 b] 23)) (.cells #[.int .i64 a, .int .i64 b, .int .i64 10, .int .i64 0, .int .i64 1, .int .i64 100, .int .i64 0, .int .i64 0, .int .i64 b, .int .i64 a, .int .i64 10, .int .i64 0, .int .i64 1, .int .i64 100, .int .i64 0, .int .i64 0] 51)
          rwa [World.size_alloc] at h
        rw [World.cell?]
        simp only [e1]
        have hj' : ([.int .i64 a, .int .i64 b, .int .i64 10, .int .i64 0, .int .i64 1, .int .i64 100, .int .i64 0, .int .i64 0, .int .i64 b, .int .i64 a, .int .i64 10, .int .i64 0, .int .i64 1, .int .i64 100, .int .i64 0, .int .i64 0] : List Value)[j]? = some u := hj
        simpa using hj'⟩)
      have HONE := hidd (rowOf_one linkV_one [lkR a b, lkR b a])
      have hmax : Hid (K + 2 ≤ maxLen) := hidd (by unfold maxLen; omega)
      have hby : Hid ((K + 2) * 64 ≤ 140737488355328) := hidd (by omega)
      have hbase : Hid (W0.heap.size ≤ ((wr.alloc (.cells #[.int .i64 a, .int .i64 b] 23)).alloc (.cells #[.int .i64 a, .int .i64 b, .int .i64 10, .int .i64 0, .int .i64 1, .int .i64 100, .int .i64 0, .int .i64 0, .int .i64 b, .int .i64 a, .int .i64 10, .int .i64 0, .int .i64 1, .int .i64 100, .int .i64 0, .int .i64 0] 51)).heap.size) := hidd (by simp; omega)
      go_wp2_with (first | (at_builtin; refine wpList_append_some rfl _ _ 22 rfl W0.heap.size 51 i0 (.agg #[.int .i64 0, .int .i64 0, .int .i64 0, .int .i64 0, .int .i64 0, .int .i64 0, .int .i64 0, .int .i64 0]) 8 64 Tryz.underlying22 hi hz0 hz1 hz2 rfl (by decide) (.slice A5 K c5) K (rowOf linkV D) rfl HO2.out (some ⟨wr.heap.size + 1, 0, none⟩) 2 2 (rowOf linkV [lkR a b, lkR b a]) rfl rfl hsrc.out HONE.out hmax.out hby.out hbase.out ?_; intro v' w1 hown' hgrow hor; have HO3 := hidd hown'; have HG3 := hidd hgrow; clear hown' hgrow hor) | fail)
      go_roundg (gk - 1)
      case measure => have := HG.out; omega
      case rel =>
        refine ⟨k + 1, by have := HG.out; omega, by go_num, ?_, ((below_new (below_new HBW.out _) _)).grown HG3.out hbase.out (fun k hk => (World.ownsRow.lt HO1.out k hk).1)⟩
        rw [HN.out]
        unfold OwnL
        have e1 : (D ++ [lkR a b, lkR b a]).length = K + 2 := by rw [List.length_append, HK.out]; rfl
        have e2 : rowOf linkV (D ++ [lkR a b, lkR b a]) = rowOf linkV D ++ rowOf linkV [lkR a b, lkR b a] := by simp [rowOf]
        rw [e1, e2]
        exact HO3.out
    · have hk4 : k = 4 := by have := HG.out; omega
      subst hk4
      have he : ringL.take (2 * 4) = ringL := rfl
      rw [he]
      rw [he] at hl5
      go_wp2_with fail
      go_ret
      exact ⟨A5, c5, rfl, hl5, HB0.out.trans (HBW.out.mono HB0.out.size)⟩
def decWk (L : List Lk) : (k : Nat) → (x y : Int) → Decidable (Wk L k x y)
  | 0, x, y => inferInstanceAs (Decidable (x = y))
  | k + 1, x, y =>
    have : ∀ i, Decidable (fr (lkAt L i) = x ∧ Wk L k (tw (lkAt L i)) y) := fun i =>
      have := decWk L k (tw (lkAt L i)) y
      inferInstanceAs (Decidable (_ ∧ _))
    inferInstanceAs (Decidable (∃ i, i < L.length ∧ (fr (lkAt L i) = x ∧ Wk L k (tw (lkAt L i)) y)))
theorem wk_yes {k : Nat} {x y : Int} (h : @decide (Wk ringL k x y) (decWk ringL k x y) = true) : Wk ringL k x y := @of_decide_eq_true _ (decWk ringL k x y) h
theorem wk_no {k : Nat} {x y : Int} (h : @decide (Wk ringL k x y) (decWk ringL k x y) = false) : ¬ Wk ringL k x y := @of_decide_eq_false _ (decWk ringL k x y) h
theorem ring_d0 : dist 4 ringL 2 0 = 2 := (dist_iff ring_valid (by decide) (by decide) 2 2 (by decide)).2 ⟨wk_yes (by kernel_rfl), fun j hj => by
  match j, hj with
  | 0, _ => exact wk_no (by kernel_rfl)
  | 1, _ => exact wk_no (by kernel_rfl)⟩
theorem ring_d1 : dist 4 ringL 2 1 = 1 := (dist_iff ring_valid (by decide) (by decide) 2 1 (by decide)).2 ⟨wk_yes (by kernel_rfl), fun j hj => by
  match j, hj with
  | 0, _ => exact wk_no (by kernel_rfl)⟩
theorem ring_d2 : dist 4 ringL 2 2 = 0 := dist_self ring_valid (by decide) (by decide)
theorem ring_o0 : outs ringL 0 = [0, 4] := by
  refine sorted_ext (toOf ringL) _ _ (outs_sorted ring_valid 0) (by decide) (fun z => ?_)
  rw [outs_mem]
  constructor
  · rintro ⟨i, hi, hf, rfl⟩
    have hi8 : i < 8 := hi
    have hc : i = 0 ∨ i = 1 ∨ i = 2 ∨ i = 3 ∨ i = 4 ∨ i = 5 ∨ i = 6 ∨ i = 7 := by omega
    rcases hc with rfl | rfl | rfl | rfl | rfl | rfl | rfl | rfl <;> first | (exfalso; revert hf; decide) | simp
  · intro h
    have h' : z = 0 ∨ z = 4 := by simpa using h
    rcases h' with rfl | rfl
    · exact ⟨0, by decide, by decide, rfl⟩
    · exact ⟨4, by decide, by decide, rfl⟩
theorem ring_o1 : outs ringL 1 = [1, 2] := by
  refine sorted_ext (toOf ringL) _ _ (outs_sorted ring_valid 1) (by decide) (fun z => ?_)
  rw [outs_mem]
  constructor
  · rintro ⟨i, hi, hf, rfl⟩
    have hi8 : i < 8 := hi
    have hc : i = 0 ∨ i = 1 ∨ i = 2 ∨ i = 3 ∨ i = 4 ∨ i = 5 ∨ i = 6 ∨ i = 7 := by omega
    rcases hc with rfl | rfl | rfl | rfl | rfl | rfl | rfl | rfl <;> first | (exfalso; revert hf; decide) | simp
  · intro h
    have h' : z = 1 ∨ z = 2 := by simpa using h
    rcases h' with rfl | rfl
    · exact ⟨1, by decide, by decide, rfl⟩
    · exact ⟨2, by decide, by decide, rfl⟩
theorem ring_f0 : firstL 4 ringL 2 0 1 = 0 := by
  have h : dist 4 ringL 2 (toF ringL 0) = 1 := ring_d1
  unfold firstL
  rw [ring_o0, List.find?_cons_of_pos (by simpa using h)]
  rfl
theorem ring_f1 : firstL 4 ringL 2 1 0 = 2 := by
  have h : dist 4 ringL 2 (toF ringL 1) ≠ 0 := by
    have : dist 4 ringL 2 (toF ringL 1) = 2 := ring_d0
    omega
  have h2 : dist 4 ringL 2 (toF ringL 2) = 0 := ring_d2
  unfold firstL
  rw [ring_o1, List.find?_cons_of_neg (by simpa using h), List.find?_cons_of_pos (by simpa using h2)]
  rfl
theorem ring_way : wayL 4 ringL 2 2 0 = [0, 2] := by
  have e : toF ringL 0 = 1 := rfl
  rw [wayL, ring_f0, e, wayL, ring_f1, wayL]
theorem ring_ls : lsI 4 ringL 0 2 = [0, 2] := by
  unfold lsI
  rw [if_pos (by decide), ring_d0, if_neg (by decide), ring_way]
theorem ring_er : erI 4 ringL 0 2 = 0 := by
  unfold erI
  rw [if_pos (by decide), ring_d0, if_neg (by decide)]
theorem ring_nx : nxI 4 ringL 0 2 = 0 := by
  unfold nxI
  rw [if_pos ring_er, ring_ls]
  rfl
theorem ring_ne : neI 4 ringL 0 2 = 0 := by
  unfold neI
  rw [if_pos ring_er, ring_ls]
  rfl
theorem ring_ah : ahL ringL [0, 2] = 2 := by decide
set_option maxRecDepth 100000 in
set_option maxHeartbeats 4000000 in
theorem known10_any (w : World) : Calls Tryz.prog 7 #[] w fun e w' => e = .returned (.bool true) ∧ Below w.heap.size w w' := by
  have cP := hidd (fun W => ring_any W)
  have cN := hidd (fun A c W h => New_any 4 A ringL c (by decide) ring_wide W h)
  have cR := hidd (fun m W h => NewR_yes m 4 ringL ring_valid ring_wide W h)
  have cW := hidd (fun B r bw m d W h hB => Way_all B r bw m 4 ringL ring_valid d 0 2 W h hB)
  have cX := hidd (fun B r bw m d W h hB => Next_all B r bw m 4 ringL ring_valid d 0 2 W h hB)
  have cA := hidd (fun B r bw m d W h hB => Ahead_all B r bw m 4 ringL ring_valid d 0 2 W h hB)
  rw [ring_ls, ring_er] at cW
  rw [ring_nx, ring_ne] at cX
  rw [ring_ls, ring_ah] at cA
  go_enter Tryz.func7, Tryz.ntmps7
  go_wp2_with fail
  refine (cP.out _).mono ?_
  rintro e w1 ⟨A, c, rfl, hl, hb1⟩
  have HL1 := hidd hl
  have HB1 := hidd hb1
  clear hl hb1
  go_wp2_with fail
  refine (cN.out _ _ _ HL1.out).mono ?_
  rintro e w2 (⟨h0, _⟩ | ⟨_, m, rfl, hm, _, hb2⟩)
  · exact absurd err_ring h0
  have HM2 := hidd hm
  have HB2 := hidd (below_step HB1.out hb2)
  clear hm hb2
  go_wp2_with fail
  refine (cR.out _ _ HM2.out).mono ?_
  rintro e w3 ⟨r, bw, m', rfl, hr, hb3⟩
  have HR3 := hidd hr
  have HB3 := hidd (below_step HB2.out hb3)
  have HS3 := hidd hb3.size
  clear hr hb3
  go_wp2_with fail
  refine (cW.out _ _ _ _ _ _ HR3.out HS3.out).mono ?_
  rintro e w4 ⟨⟨d4, hR4, hrd4, hb4, _, _⟩, A4, c4, rfl, hl4⟩
  have HR4 := hidd hR4
  have HB4 := hidd (HB3.out.trans (hb4.mono HB2.out.size))
  have HS4 := hidd (Nat.le_trans HS3.out hb4.size)
  have HRD4 := hidd hrd4
  have HL4 := hidd hl4
  clear hR4 hb4 hrd4 hl4
  go_wp2_with fail
  refine (cX.out _ _ _ _ _ _ HR4.out HS4.out).mono ?_
  rintro e w5 ⟨⟨d5, hR5, hrd5, hb5, hk5, _⟩, rfl⟩
  have hbb := hk5 HRD4.out
  have HR5 := hidd hR5
  have HB5 := hidd (below_step HB4.out hbb)
  have HS5 := hidd (Nat.le_trans HS4.out hbb.size)
  have HL5 := hidd (HL4.out.below hbb)
  obtain ⟨ad, rfl, _, hc0⟩ := HL5.out.int 0 (by decide)
  obtain ⟨ad', e', _, hc1⟩ := HL5.out.int 1 (by decide)
  cases e'
  have hc0' : w5.cell? ad = some (.int .i64 0) := by
    have e0 : ad.add 0 = ad := by unfold Addr.add; split <;> simp_all
    rw [← e0]; exact hc0
  have hc1' : w5.cell? ⟨ad.block, ad.off + 1, none⟩ = some (.int .i64 2) := hc1
  clear hR5 hb5 hrd5 hk5 hbb hc0 hc1
  go_wp2_with fail
  refine (cA.out _ _ _ _ _ _ HR5.out HS5.out).mono ?_
  rintro e w6 ⟨⟨d6, hR6, hrd6, hb6, hk6, _⟩, rfl⟩
  have HB6 := hidd (HB5.out.trans (hb6.mono HB2.out.size))
  clear hR6 hb6 hrd6 hk6 hc0' hc1'
  go_wp2_with fail
  go_ret
  exact ⟨rfl, HB6.out⟩
end Go.Proofs.YtalhbjmhipiiiaaGreat.Tp
