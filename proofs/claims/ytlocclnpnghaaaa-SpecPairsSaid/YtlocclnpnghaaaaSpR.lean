/- Who keeps to a spec keeps to the joint one. The walk of SpecFollows. -/
import Derived.Test.YtlocclnpnghaaaaSpQ
import Derived.Test.YtlocclnpnghaaaaSpN
namespace Go.Proofs.Ytlocclnpnghaaaa
open Go.RowKit RowK

theorem rightS_iff {x : Spc} (h : rightS x = true) : 1 ≤ x.2.1 ∧ x.2.1 ≤ x.1 ∧ x.1 ≤ 1000000 ∧ 1 ≤ x.2.2.2.2 ∧ x.2.2.2.2 ≤ x.2.2.2.1 ∧ x.2.2.2.1 ≤ 2000 ∧ x.2.2.2.1 ≤ x.2.2.1 ∧ x.2.2.1 ≤ 10000000 := rightB_iff h
theorem joint_right {a b : Spc} (ha : rightS a = true) (hb : rightS b = true) : rightS (jointV a b) = true := by
  have h1 := rightS_iff ha
  have h2 := rightS_iff hb
  refine decide_eq_true ?_
  simp only [jointV, mx_eq, mn_eq]
  omega
theorem joint_left (a b : Spc) : sameB (jointV a (jointV a b)) (jointV a b) = true := by
  simp only [sameB, jointV, mx_eq, mn_eq]
  simp
  try (refine ⟨⟨⟨⟨?_, ?_⟩, ?_⟩, ?_⟩, ?_⟩ <;> omega)
theorem joint_rightly (a b : Spc) : sameB (jointV b (jointV a b)) (jointV a b) = true := by
  simp only [sameB, jointV, mx_eq, mn_eq]
  simp
  try (refine ⟨⟨⟨⟨?_, ?_⟩, ?_⟩, ?_⟩, ?_⟩ <;> omega)
theorem minl_more {p r u m p' r' u' m' t : Int} (ht : 0 ≤ t) (hp : p ≤ p') (hr : r ≤ r') (hu : u ≤ u') (hm : m ≤ m') : SM.minl p r u m t ≤ SM.minl p' r' u' m' t := by
  have h1 : p * t ≤ p' * t := Int.mul_le_mul_of_nonneg_right hp ht
  have h2 : r * t ≤ r' * t := Int.mul_le_mul_of_nonneg_right hr ht
  have h3 := (SM.le_minl (p := p) (r := r) (u := u) (m := m) (t := t) (x := SM.minl p r u m t)).1 (Int.le_refl _)
  exact SM.le_minl.2 ⟨by omega, by omega⟩
theorem ok_mono {a s : Nat → Int} {m l : Int} {n : Nat} (h : ∀ j, j < n → SM.OkAt a s m l j) (i : Nat) : ∀ k, i ≤ k → k < n → a i ≤ a k
  | 0, hik, _ => by
    obtain rfl : i = 0 := by omega
    omega
  | k + 1, hik, hk => by
    by_cases e : i = k + 1
    · subst e; omega
    · have ih := ok_mono h i k (by omega) (by omega)
      have := (h (k + 1) hk).2.2.2.2 (by omega)
      simp at this
      omega
theorem KP_more {a s : Nat → Int} {p r u m l p' r' u' m' l' : Int} {n : Nat} (h : SM.KP a s p r u m l n) (hp : p ≤ p') (hr : r ≤ r') (hu : u ≤ u') (hm : m ≤ m') (hl : l' ≤ l) : SM.KP a s p' r' u' m' l' n := by
  refine ⟨fun i hi => ?_, fun i k hik hk => ?_⟩
  · have := h.1 i hi
    exact ⟨this.1, this.2.1, by have := this.2.2.1; omega, by have := this.2.2.2.1; omega, this.2.2.2.2⟩
  · have h1 := ok_mono h.1 i k hik hk
    exact Int.le_trans (h.2 i k hik hk) (minl_more (by omega) hp hr hu hm)
def keepsS (x : Spc) (L : List (Int × Int)) : Bool := fb0 x.1 x.2.1 x.2.2.1 x.2.2.2.1 x.2.2.2.2 L == L.length
theorem keepsS_joint {a b : Spc} (ha : rightS a = true) (hb : rightS b = true) {L : List (Int × Int)} (h : keepsS a L = true) : keepsS (jointV a b) L = true := by
  have h1 := rightS_iff ha
  have h2 := rightS_iff (joint_right ha hb)
  have h3 : fb0 a.1 a.2.1 a.2.2.1 a.2.2.2.1 a.2.2.2.2 L = L.length := by simpa [keepsS] using h
  have h4 := (SM.fb_all (by omega) (by omega) L).1 h3
  have h5 := KP_more h4 (p' := (jointV a b).1) (r' := (jointV a b).2.1) (u' := (jointV a b).2.2.1) (m' := (jointV a b).2.2.2.1) (l' := (jointV a b).2.2.2.2) (by simp only [jointV, mx_eq]; omega) (by simp only [jointV, mx_eq]; omega) (by simp only [jointV, mx_eq]; omega) (by simp only [jointV, mx_eq]; omega) (by simp only [jointV, mn_eq]; omega)
  have h6 := (SM.fb_all (by omega) (by omega) L).2 h5
  simp only [keepsS, fb0, h6, beq_self_eq_true]
theorem keepsR_right {x : Spc} (h : rightS x = true) (L : List (Int × Int)) : keepsR x.1 x.2.1 x.2.2.1 x.2.2.2.1 x.2.2.2.2 L = (keepsS x L, 0) := by
  unfold rightS at h
  simp only [keepsR, h, if_true, keepsS]
theorem jointR_two {a b : Spc} (ha : rightS a = true) (hb : rightS b = true) : jointR [a, b] = (jointV a b, 0) := by
  have : noneB [a, b] = false := by simp [noneB, allRight, ha, hb]
  unfold jointR
  rw [this]
  rfl
theorem jointR_none {a b : Spc} (h : ¬ (rightS a = true ∧ rightS b = true)) : jointR [a, b] = (z5, 2) := by
  have : noneB [a, b] = true := by
    simp only [noneB, allRight, List.all_cons, List.all_nil, List.length_cons]
    revert h
    cases rightS a <;> cases rightS b <;> simp
  unfold jointR
  rw [if_pos this]
theorem lie_pair {w : World} (t : TypeId) (a b : Spc) {B k : Nat} (hk : w.heap.size = k) (hb : k < B) : Lie specV 5 (w.alloc (.cells #[.int .i64 a.1, .int .i64 a.2.1, .int .i64 a.2.2.1, .int .i64 a.2.2.2.1, .int .i64 a.2.2.2.2, .int .i64 b.1, .int .i64 b.2.1, .int .i64 b.2.2.1, .int .i64 b.2.2.2.1, .int .i64 b.2.2.2.2] t)) B (some ⟨k, 0, none⟩) [a, b] := by
  subst hk
  refine lie_cells hb fun i x hx => ?_
  match i, hx with
  | 0, hx => simp at hx; subst hx; simp [go_sem]
  | 1, hx => simp at hx; subst hx; simp [go_sem]
  | i + 2, hx => simp at hx

set_option maxHeartbeats 4000000 in
theorem follows_walk (a0 a1 a2 a3 a4 b0 b1 b2 b3 b4 : Int) (A : Option Addr) (L : List (Int × Int)) (c : Nat) (hm : L.length ≤ maxLen) (w : World) (hl : Lie sendV 2 w w.heap.size A L) :
    Calls Try.prog 6 #[.agg #[.int .i64 a0, .int .i64 a1, .int .i64 a2, .int .i64 a3, .int .i64 a4], .agg #[.int .i64 b0, .int .i64 b1, .int .i64 b2, .int .i64 b3, .int .i64 b4], .slice A L.length c] w fun e w' => e = .returned (.bool true) ∧ Below w.heap.size w w' := by
  unfold maxLen at hm
  have HL := hidd hl
  have ck := hidd (fun W => known_any W)
  clear hl
  by_cases h40 : 40 < L.length
  · have g1 : decide ((40 : Int) < (L.length : Int)) = true := decide_eq_true (by omega)
    have g2 : (40 : Int) < (L.length : Int) := by omega
    go_enter Try.func6, Try.ntmps6
    go_wp2_with fail
    refine (ck.out _).mono ?_
    rintro e w1 ⟨rfl, hb1⟩
    go_wp2_with fail
    go_ret
    exact ⟨rfl, by (repeat' (first | (with_reducible exact Below.refl _ _) | (with_reducible assumption) | (with_reducible apply Below.setCell) | (with_reducible apply Below.alloc) | (with_reducible apply Below.drew) | (with_reducible apply below_drewN) | (with_reducible refine Below.trans ?_ (Below.mono (by assumption) ?_)) | omega | (simp; done) | (simp; omega)))⟩
  · have g2 : (L.length : Int) ≤ 40 := by omega
    have j1 := fun b W hl => Joint_any (some ⟨b, 0, none⟩) [(a0, a1, a2, a3, a4), (b0, b1, b2, b3, b4)] 2 2 rfl (by decide) (by decide) (by decide) W hl
    by_cases hR : rightS (a0, a1, a2, a3, a4) = true ∧ rightS (b0, b1, b2, b3, b4) = true
    · have hj := joint_right hR.1 hR.2
      rw [jointR_two hR.1 hR.2] at j1
      have x1 := fun W => Within_any (a0, a1, a2, a3, a4) (jointV (a0, a1, a2, a3, a4) (b0, b1, b2, b3, b4)) W
      have x2 := fun W => Within_any (b0, b1, b2, b3, b4) (jointV (a0, a1, a2, a3, a4) (b0, b1, b2, b3, b4)) W
      have e1 : withinR (a0, a1, a2, a3, a4) (jointV (a0, a1, a2, a3, a4) (b0, b1, b2, b3, b4)) = (true, 0) := by
        unfold withinR; rw [if_pos ⟨hR.1, hj⟩, joint_left]
      have e2 : withinR (b0, b1, b2, b3, b4) (jointV (a0, a1, a2, a3, a4) (b0, b1, b2, b3, b4)) = (true, 0) := by
        unfold withinR; rw [if_pos ⟨hR.2, hj⟩, joint_rightly]
      rw [e1] at x1
      rw [e2] at x2
      have k1 := fun W hl => keeps_any a0 a1 a2 a3 a4 A L c (by omega) W hl
      have e3 := keepsR_right hR.1 L
      dsimp only at e3
      rw [e3] at k1
      have hmo := keepsS_joint hR.1 hR.2 (L := L)
      have e4 := keepsR_right hj L
      generalize jointV (a0, a1, a2, a3, a4) (b0, b1, b2, b3, b4) = j at *
      obtain ⟨j0, j1', j2, j3, j4⟩ := j
      dsimp only at e4
      have k2 := fun W hl => keeps_any j0 j1' j2 j3 j4 A L c (by omega) W hl
      rw [e4] at k2
      unfold pairS specA at j1
      unfold specA at x1 x2
      dsimp only at j1 x1 x2 k1 k2
      generalize keepsS (a0, a1, a2, a3, a4) L = ka at *
      generalize keepsS (j0, j1', j2, j3, j4) L = kj at *
      have J1 := hidd j1
      have X1 := hidd x1
      have X2 := hidd x2
      have K1 := hidd k1
      have K2 := hidd k2
      clear e1 e2 e3 e4 hR hj j1 x1 x2 k1 k2
      have hk : ka = false ∨ kj = true := by
        cases ka
        · exact .inl rfl
        · exact .inr (hmo rfl)
      clear hmo
      go_enter Try.func6, Try.ntmps6
      go_wp2_with fail
      refine (J1.out _ _ (lie_pair _ (a0, a1, a2, a3, a4) (b0, b1, b2, b3, b4) (by simp) (by simp))).mono ?_
      rintro e w1 ⟨rfl, hb1⟩
      have Ha := (((HasSpec.new w 23 a0 a1 a2 a3 a4).past _).past _).step hb1
      have Hb := ((HasSpec.new' (b := w.heap.size + 1) (by simp) 23 b0 b1 b2 b3 b4).past _).step hb1
      have Lw := below_step (below_new (below_new (below_new (Below.refl w.heap.size w) _) _) _) hb1
      obtain ⟨za, p0, p1, p2, p3, p4⟩ := id Ha
      obtain ⟨zb, q0, q1, q2, q3, q4⟩ := id Hb
      go_wp2_with fail
      refine (X1.out _).mono ?_
      rintro e w2 ⟨rfl, hb2⟩
      have Ha := (Ha.past _).step hb2
      have Hb := (Hb.past _).step hb2
      have Hj := (HasSpec.new w1 23 j0 j1' j2 j3 j4).step hb2
      have Lw := below_step (below_new Lw _) hb2
      obtain ⟨za, p0, p1, p2, p3, p4⟩ := id Ha
      obtain ⟨zb, q0, q1, q2, q3, q4⟩ := id Hb
      obtain ⟨zj, r0, r1, r2, r3, r4⟩ := id Hj
      go_wp2_with fail
      refine (X2.out _).mono ?_
      rintro e w3 ⟨rfl, hb3⟩
      have Ha := Ha.step hb3
      have Hj := Hj.step hb3
      have Lw := below_step Lw hb3
      obtain ⟨za, p0, p1, p2, p3, p4⟩ := id Ha
      obtain ⟨zj, r0, r1, r2, r3, r4⟩ := id Hj
      go_wp2_with fail
      refine (K1.out _ (HL.out.below Lw)).mono ?_
      rintro e w4 ⟨rfl, hb4⟩
      have Hj := Hj.step hb4
      have Lw := below_step Lw hb4
      obtain ⟨zj, r0, r1, r2, r3, r4⟩ := id Hj
      go_wp2_with fail
      refine (K2.out _ (HL.out.below Lw)).mono ?_
      rintro e w5 ⟨rfl, hb5⟩
      have Lw := below_step Lw hb5
      rcases hk with rfl | rfl
      · go_wp2_with fail
        refine (ck.out _).mono ?_
        rintro e w6 ⟨rfl, hb6⟩
        have Lw := below_step Lw hb6
        go_wp2_with fail
        go_ret
        exact ⟨by simp, Lw⟩
      · cases ka
        all_goals
          go_wp2_with fail
          refine (ck.out _).mono ?_
          rintro e w6 ⟨rfl, hb6⟩
          have Lw := below_step Lw hb6
          go_wp2_with fail
          go_ret
          exact ⟨by simp, Lw⟩
    · rw [jointR_none hR] at j1
      unfold pairS specA z5 at j1
      dsimp only at j1
      have J1 := hidd j1
      clear hR j1
      go_enter Try.func6, Try.ntmps6
      go_wp2_with fail
      refine (J1.out _ _ (lie_pair _ (a0, a1, a2, a3, a4) (b0, b1, b2, b3, b4) (by simp) (by simp))).mono ?_
      rintro e w1 ⟨rfl, hb1⟩
      have Lw := below_step (below_new (below_new (below_new (Below.refl w.heap.size w) _) _) _) hb1
      go_wp2_with fail
      refine (ck.out _).mono ?_
      rintro e w2 ⟨rfl, hb2⟩
      have Lw := below_step (below_new Lw _) hb2
      go_wp2_with fail
      go_ret
      exact ⟨by simp, Lw⟩
end Go.Proofs.Ytlocclnpnghaaaa
