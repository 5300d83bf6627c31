/- The joint spec of three does not hang on their order; nor does the sum. The walk of SpecJoint. -/
import Derived.Test.YtlocclnpnghaaaaSpP
namespace Go.Proofs.Ytlocclnpnghaaaa
open Go.RowKit RowK

theorem mx_eq (x y : Int) : mx x y = max x y := by unfold mx; split <;> omega
theorem mn_eq (x y : Int) : mn x y = min x y := by unfold mn; split <;> omega
theorem noneB_three (a b c : Spc) : noneB [a, b, c] = !(rightS a && rightS b && rightS c) := by
  simp [noneB, allRight, Bool.and_assoc]
theorem jointR_turn (a b c : Spc) : jointR [c, a, b, a] = jointR [a, b, c] := by
  have h1 : noneB [c, a, b, a] = noneB [a, b, c] := by
    simp only [noneB, allRight, List.all_cons, List.all_nil, List.length_cons, List.length_nil]
    cases rightS a <;> cases rightS b <;> cases rightS c <;> rfl
  have h2 : acc jointV [c, a, b, a] 3 = acc jointV [a, b, c] 2 := by
    simp only [acc, spAt, jointV, mx_eq, mn_eq, List.getD_eq_getElem?_getD]
    simp
    refine ⟨?_, ?_, ?_, ?_, ?_⟩ <;> omega
  unfold jointR
  rw [h1]
  simp only [List.length_cons, List.length_nil]
  rw [show (0 + 1 + 1 + 1 + 1 - 1) = 3 from rfl, show (0 + 1 + 1 + 1 - 1) = 2 from rfl, h2]
theorem sumR_turn (a b c : Spc) : sumR [c, a, b] = sumR [a, b, c] := by
  have h1 : noneB [c, a, b] = noneB [a, b, c] := by
    simp only [noneB, allRight, List.all_cons, List.all_nil, List.length_cons, List.length_nil]
    cases rightS a <;> cases rightS b <;> cases rightS c <;> rfl
  have h2 : acc sumV [c, a, b] 2 = acc sumV [a, b, c] 2 := by
    simp only [acc, spAt, sumV, mx_eq, mn_eq, wrap64, List.getD_eq_getElem?_getD]
    simp
    refine ⟨?_, ?_, ?_, ?_, ?_⟩ <;> omega
  unfold sumR
  rw [h1]
  simp only [List.length_cons, List.length_nil]
  rw [show (0 + 1 + 1 + 1 - 1) = 2 from rfl, h2]
theorem lie_cells {w : World} {B b : Nat} {L : List Spc} (hb : b < B) (h : ∀ i x, L[i]? = some x → w.cell? ⟨b, i * 5, none⟩ = some (.int .i64 x.1) ∧ w.cell? ⟨b, i * 5 + 1, none⟩ = some (.int .i64 x.2.1) ∧ w.cell? ⟨b, i * 5 + 2, none⟩ = some (.int .i64 x.2.2.1) ∧ w.cell? ⟨b, i * 5 + 3, none⟩ = some (.int .i64 x.2.2.2.1) ∧ w.cell? ⟨b, i * 5 + 4, none⟩ = some (.int .i64 x.2.2.2.2)) :
    Lie specV 5 w B (some ⟨b, 0, none⟩) L := fun _ => by
  refine ⟨_, rfl, hb, fun i x hx j v hv => ?_⟩
  obtain ⟨h0, h1, h2, h3, h4⟩ := h i x hx
  rw [add_plain, Nat.zero_add]
  match j, hv with
  | 0, hv => simp [specV] at hv; subst hv; exact h0
  | 1, hv => simp [specV] at hv; subst hv; exact h1
  | 2, hv => simp [specV] at hv; subst hv; exact h2
  | 3, hv => simp [specV] at hv; subst hv; exact h3
  | 4, hv => simp [specV] at hv; subst hv; exact h4
  | j + 5, hv => simp [specV] at hv
theorem lie_three {w : World} (t : TypeId) (a b c : Spc) {B k : Nat} (hk : w.heap.size = k) (hb : k < B) : Lie specV 5 (w.alloc (.cells #[.int .i64 a.1, .int .i64 a.2.1, .int .i64 a.2.2.1, .int .i64 a.2.2.2.1, .int .i64 a.2.2.2.2, .int .i64 b.1, .int .i64 b.2.1, .int .i64 b.2.2.1, .int .i64 b.2.2.2.1, .int .i64 b.2.2.2.2, .int .i64 c.1, .int .i64 c.2.1, .int .i64 c.2.2.1, .int .i64 c.2.2.2.1, .int .i64 c.2.2.2.2] t)) B (some ⟨k, 0, none⟩) [a, b, c] := by
  subst hk
  refine lie_cells hb fun i x hx => ?_
  match i, hx with
  | 0, hx => simp at hx; subst hx; simp [go_sem]
  | 1, hx => simp at hx; subst hx; simp [go_sem]
  | 2, hx => simp at hx; subst hx; simp [go_sem]
  | i + 3, hx => simp at hx
theorem lie_four {w : World} (t : TypeId) (a b c d : Spc) {B k : Nat} (hk : w.heap.size = k) (hb : k < B) : Lie specV 5 (w.alloc (.cells #[.int .i64 a.1, .int .i64 a.2.1, .int .i64 a.2.2.1, .int .i64 a.2.2.2.1, .int .i64 a.2.2.2.2, .int .i64 b.1, .int .i64 b.2.1, .int .i64 b.2.2.1, .int .i64 b.2.2.2.1, .int .i64 b.2.2.2.2, .int .i64 c.1, .int .i64 c.2.1, .int .i64 c.2.2.1, .int .i64 c.2.2.2.1, .int .i64 c.2.2.2.2, .int .i64 d.1, .int .i64 d.2.1, .int .i64 d.2.2.1, .int .i64 d.2.2.2.1, .int .i64 d.2.2.2.2] t)) B (some ⟨k, 0, none⟩) [a, b, c, d] := by
  subst hk
  refine lie_cells hb fun i x hx => ?_
  match i, hx with
  | 0, hx => simp at hx; subst hx; simp [go_sem]
  | 1, hx => simp at hx; subst hx; simp [go_sem]
  | 2, hx => simp at hx; subst hx; simp [go_sem]
  | 3, hx => simp at hx; subst hx; simp [go_sem]
  | i + 4, hx => simp at hx

set_option maxHeartbeats 4000000 in
theorem joint_walk (a0 a1 a2 a3 a4 b0 b1 b2 b3 b4 c0 c1 c2 c3 c4 : Int) (w : World) :
    Calls Try.prog 9 #[.agg #[.int .i64 a0, .int .i64 a1, .int .i64 a2, .int .i64 a3, .int .i64 a4], .agg #[.int .i64 b0, .int .i64 b1, .int .i64 b2, .int .i64 b3, .int .i64 b4], .agg #[.int .i64 c0, .int .i64 c1, .int .i64 c2, .int .i64 c3, .int .i64 c4]] w fun e w' => e = .returned (.bool true) ∧ Below w.heap.size w w' := by
  have j1 := fun b W hl => Joint_any (some ⟨b, 0, none⟩) [(a0, a1, a2, a3, a4), (b0, b1, b2, b3, b4), (c0, c1, c2, c3, c4)] 3 3 rfl (by decide) (by decide) (by decide) W hl
  have j2 := fun b W hl => Joint_any (some ⟨b, 0, none⟩) [(c0, c1, c2, c3, c4), (a0, a1, a2, a3, a4), (b0, b1, b2, b3, b4), (a0, a1, a2, a3, a4)] 4 4 rfl (by decide) (by decide) (by decide) W hl
  have s1 := fun b W hl => Sum_any (some ⟨b, 0, none⟩) [(a0, a1, a2, a3, a4), (b0, b1, b2, b3, b4), (c0, c1, c2, c3, c4)] 3 3 rfl (by decide) (by decide) (by decide) W hl
  have s2 := fun b W hl => Sum_any (some ⟨b, 0, none⟩) [(c0, c1, c2, c3, c4), (a0, a1, a2, a3, a4), (b0, b1, b2, b3, b4)] 3 3 rfl (by decide) (by decide) (by decide) W hl
  rw [jointR_turn] at j2
  rw [sumR_turn] at s2
  generalize jointR [(a0, a1, a2, a3, a4), (b0, b1, b2, b3, b4), (c0, c1, c2, c3, c4)] = r at *
  generalize sumR [(a0, a1, a2, a3, a4), (b0, b1, b2, b3, b4), (c0, c1, c2, c3, c4)] = s at *
  obtain ⟨⟨x0, x1, x2, x3, x4⟩, xe⟩ := r
  obtain ⟨⟨y0, y1, y2, y3, y4⟩, ye⟩ := s
  unfold pairS specA at j1 j2 s1 s2
  dsimp only at j1 j2 s1 s2
  have J1 := hidd j1
  have J2 := hidd j2
  have S1 := hidd s1
  have S2 := hidd s2
  have ck := hidd (fun W => known_any W)
  have q1 := fun w => same_run x0 x1 x2 x3 x4 x0 x1 x2 x3 x4 w
  have q2 := fun w => same_run y0 y1 y2 y3 y4 y0 y1 y2 y3 y4 w
  have q3 := fun w => same_bin x0 x1 x2 x3 x4 x0 x1 x2 x3 x4 w
  have q4 := fun w => same_bin y0 y1 y2 y3 y4 y0 y1 y2 y3 y4 w
  have q5 : sameB (x0, x1, x2, x3, x4) (x0, x1, x2, x3, x4) = true := by simp [sameB]
  have q6 : sameB (y0, y1, y2, y3, y4) (y0, y1, y2, y3, y4) = true := by simp [sameB]
  rw [q5] at q1 q3
  rw [q6] at q2 q4
  clear j1 j2 s1 s2 q5 q6
  go_enter Try.func9, Try.ntmps9
  go_wp2_with fail
  refine (J1.out _ _ (lie_three _ (a0, a1, a2, a3, a4) (b0, b1, b2, b3, b4) (c0, c1, c2, c3, c4) (by simp) (by simp))).mono ?_
  rintro e w1 ⟨rfl, hb1⟩
  have Ha := ((((HasSpec.new w 23 a0 a1 a2 a3 a4).past _).past _).past _).step hb1
  have Hb := (((HasSpec.new' (b := w.heap.size + 1) (by simp) 23 b0 b1 b2 b3 b4).past _).past _).step hb1
  have Hc := ((HasSpec.new' (b := w.heap.size + 1 + 1) (by simp) 23 c0 c1 c2 c3 c4).past _).step hb1
  have L := below_step (below_new (below_new (below_new (below_new (Below.refl w.heap.size w) _) _) _) _) hb1
  obtain ⟨zHa, Ha_0, Ha_1, Ha_2, Ha_3, Ha_4⟩ := id Ha
  obtain ⟨zHb, Hb_0, Hb_1, Hb_2, Hb_3, Hb_4⟩ := id Hb
  obtain ⟨zHc, Hc_0, Hc_1, Hc_2, Hc_3, Hc_4⟩ := id Hc
  go_wp2_with fail
  refine (J2.out _ _ (lie_four _ (c0, c1, c2, c3, c4) (a0, a1, a2, a3, a4) (b0, b1, b2, b3, b4) (a0, a1, a2, a3, a4) (by simp) (by simp))).mono ?_
  rintro e w2 ⟨rfl, hb2⟩
  have Ha := ((Ha.past _).past _).step hb2
  have Hb := ((Hb.past _).past _).step hb2
  have Hc := ((Hc.past _).past _).step hb2
  have Hx := ((HasSpec.new w1 23 x0 x1 x2 x3 x4).past _).step hb2
  have L := below_step (below_new (below_new L _) _) hb2
  obtain ⟨zHa, Ha_0, Ha_1, Ha_2, Ha_3, Ha_4⟩ := id Ha
  obtain ⟨zHb, Hb_0, Hb_1, Hb_2, Hb_3, Hb_4⟩ := id Hb
  obtain ⟨zHc, Hc_0, Hc_1, Hc_2, Hc_3, Hc_4⟩ := id Hc
  obtain ⟨zHx, Hx_0, Hx_1, Hx_2, Hx_3, Hx_4⟩ := id Hx
  go_wp2_with fail
  refine (S1.out _ _ (lie_three _ (a0, a1, a2, a3, a4) (b0, b1, b2, b3, b4) (c0, c1, c2, c3, c4) (by simp) (by simp))).mono ?_
  rintro e w3 ⟨rfl, hb3⟩
  have Ha := ((Ha.past _).past _).step hb3
  have Hb := ((Hb.past _).past _).step hb3
  have Hc := ((Hc.past _).past _).step hb3
  have Hx := ((Hx.past _).past _).step hb3
  have Hy := ((HasSpec.new w2 23 x0 x1 x2 x3 x4).past _).step hb3
  have L := below_step (below_new (below_new L _) _) hb3
  obtain ⟨zHa, Ha_0, Ha_1, Ha_2, Ha_3, Ha_4⟩ := id Ha
  obtain ⟨zHb, Hb_0, Hb_1, Hb_2, Hb_3, Hb_4⟩ := id Hb
  obtain ⟨zHc, Hc_0, Hc_1, Hc_2, Hc_3, Hc_4⟩ := id Hc
  obtain ⟨zHx, Hx_0, Hx_1, Hx_2, Hx_3, Hx_4⟩ := id Hx
  obtain ⟨zHy, Hy_0, Hy_1, Hy_2, Hy_3, Hy_4⟩ := id Hy
  go_wp2_with fail
  refine (S2.out _ _ (lie_three _ (c0, c1, c2, c3, c4) (a0, a1, a2, a3, a4) (b0, b1, b2, b3, b4) (by simp) (by simp))).mono ?_
  rintro e w4 ⟨rfl, hb4⟩
  have Ha := ((Ha.past _).past _).step hb4
  have Hb := ((Hb.past _).past _).step hb4
  have Hc := ((Hc.past _).past _).step hb4
  have Hx := ((Hx.past _).past _).step hb4
  have Hy := ((Hy.past _).past _).step hb4
  have Hz := ((HasSpec.new w3 23 y0 y1 y2 y3 y4).past _).step hb4
  have L := below_step (below_new (below_new L _) _) hb4
  obtain ⟨zHa, Ha_0, Ha_1, Ha_2, Ha_3, Ha_4⟩ := id Ha
  obtain ⟨zHb, Hb_0, Hb_1, Hb_2, Hb_3, Hb_4⟩ := id Hb
  obtain ⟨zHc, Hc_0, Hc_1, Hc_2, Hc_3, Hc_4⟩ := id Hc
  obtain ⟨zHx, Hx_0, Hx_1, Hx_2, Hx_3, Hx_4⟩ := id Hx
  obtain ⟨zHy, Hy_0, Hy_1, Hy_2, Hy_3, Hy_4⟩ := id Hy
  obtain ⟨zHz, Hz_0, Hz_1, Hz_2, Hz_3, Hz_4⟩ := id Hz
  go_wp2_with fail
  refine (ck.out _).mono ?_
  rintro e w5 ⟨rfl, hb5⟩
  have L := below_step (below_new L _) hb5
  go_wp2_with fail
  go_ret
  exact ⟨by simp, L⟩
end Go.Proofs.Ytlocclnpnghaaaa
