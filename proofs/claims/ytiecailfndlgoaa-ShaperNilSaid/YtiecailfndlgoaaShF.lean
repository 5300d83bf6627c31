/- Shapers: New, Put. -/
import Derived.Test.YtiecailfndlgoaaShE
namespace Go.Proofs.Ytiecailfndlgoaa
open Go.RowKit Go.Sort
set_option linter.unusedVariables false
theorem isAny3 (k c : Nat) (b1 b2 b3 : Bool) (w : World) (h0 : w.cell? ⟨k, 0, none⟩ = some (.bool b1)) (h1 : w.cell? ⟨k, 1, none⟩ = some (.bool b2)) (h2 : w.cell? ⟨k, 2, none⟩ = some (.bool b3)) :
    Calls Try.prog 26 #[.slice (some ⟨k, 0, none⟩) 3 c] w fun e w' => e = .returned (.bool (b1 || (b2 || b3))) ∧ w' = w := by
  have := isAny_any (some ⟨k, 0, none⟩) [b1, b2, b3] c (by simp) w (fun _ => ⟨_, rfl, World.block_lt_of_cell? w _ h0, fun i x hx j v hv => by
    rw [Addr.add_lit]
    match i, hx, j, hv with
    | 0, hx, 0, hv => simp [boolV] at hx hv; subst hx; subst hv; exact h0
    | 1, hx, 0, hv => simp [boolV] at hx hv; subst hx; subst hv; exact h1
    | 2, hx, 0, hv => simp [boolV] at hx hv; subst hx; subst hv; exact h2⟩)
  simpa using this
theorem isAny2 (k c : Nat) (b1 b2 : Bool) (w : World) (h0 : w.cell? ⟨k, 0, none⟩ = some (.bool b1)) (h1 : w.cell? ⟨k, 1, none⟩ = some (.bool b2)) :
    Calls Try.prog 26 #[.slice (some ⟨k, 0, none⟩) 2 c] w fun e w' => e = .returned (.bool (b1 || b2)) ∧ w' = w := by
  have := isAny_any (some ⟨k, 0, none⟩) [b1, b2] c (by simp) w (fun _ => ⟨_, rfl, World.block_lt_of_cell? w _ h0, fun i x hx j v hv => by
    rw [Addr.add_lit]
    match i, hx, j, hv with
    | 0, hx, 0, hv => simp [boolV] at hx hv; subst hx; subst hv; exact h0
    | 1, hx, 0, hv => simp [boolV] at hx hv; subst hx; subst hv; exact h1⟩)
  simpa using this
/-- may a shaper be. -/
def newB (p r u m l room : Int) : Bool := rightB p r u m l && decide (0 ≤ room ∧ room ≤ 1000000000)
set_option maxHeartbeats 4000000 in
theorem shNew_no (p r u m l room : Int) (h : newB p r u m l room = false) (w : World) : Calls Try.prog 10 #[.agg #[.int .i64 p, .int .i64 r, .int .i64 u, .int .i64 m, .int .i64 l], .int .i64 room] w fun e w' => e = .returned (.tuple #[.pointer none, .int .i64 2]) ∧ Below w.heap.size w w' := by
  have ca := hidd (fun k c b1 b2 b3 W => isAny3 k c b1 b2 b3 W)
  cases hR : rightB p r u m l
  · have cn := hidd (fun W => bnew_no p r u m l hR W)
    clear h hR
    obtain ⟨D0, hD0⟩ : ∃ D : Bool, decide (room < 0) = D := ⟨_, rfl⟩
    obtain ⟨D1, hD1⟩ : ∃ D : Bool, decide (1000000000 < room) = D := ⟨_, rfl⟩
    go_enter Try.func10, Try.ntmps10
    go_wp2_with fail
    refine (cn.out _).mono ?_
    rintro e w1 ⟨rfl, hb1⟩
    have H1 := hidd (below_step (below_new (Below.refl _ _) _) hb1)
    clear hb1
    go_wp2_with fail
    refine (ca.out _ _ true D0 D1 _ (by simp [go_sem]) (by simp [go_sem]) (by simp [go_sem])).mono ?_
    rintro e w2 ⟨rfl, rfl⟩
    simp only [Bool.true_or]
    go_wp2_with fail
    go_ret2
    exact ⟨rfl, below_new H1.out _⟩
  · have cn := hidd (fun W => bnew_yes p r u m l hR W)
    have hq : ¬ (0 ≤ room ∧ room ≤ 1000000000) := by
      unfold newB at h
      rw [hR, Bool.true_and] at h
      exact of_decide_eq_false h
    clear h hR
    obtain ⟨D0, hD0⟩ : ∃ D : Bool, decide (room < 0) = D := ⟨_, rfl⟩
    obtain ⟨D1, hD1⟩ : ∃ D : Bool, decide (1000000000 < room) = D := ⟨_, rfl⟩
    have hor : Hid ((false || (D0 || D1)) = true) := hidd (by
      rw [← hD0, ← hD1]
      by_cases c : room < 0
      · simp [c]
      · have : 1000000000 < room := by omega
        simp [this])
    clear hq
    go_enter Try.func10, Try.ntmps10
    go_wp2_with fail
    refine (cn.out _).mono ?_
    rintro e w1 ⟨b, rfl, -, -, hb1⟩
    have H1 := hidd (below_step (below_new (Below.refl _ _) _) hb1)
    clear hb1
    go_wp2_with fail
    refine (ca.out _ _ false D0 D1 _ (by simp [go_sem]) (by simp [go_sem]) (by simp [go_sem])).mono ?_
    rintro e w2 ⟨rfl, rfl⟩
    rw [hor.out]
    go_wp2_with fail
    go_ret2
    exact ⟨rfl, below_new H1.out _⟩
set_option maxHeartbeats 4000000 in
theorem shNew_yes (p r u m l room : Int) (h : newB p r u m l room = true) (w : World) : Calls Try.prog 10 #[.agg #[.int .i64 p, .int .i64 r, .int .i64 u, .int .i64 m, .int .i64 l], .int .i64 room] w fun e w' => ∃ h g b, e = .returned (.tuple #[.pointer (some ⟨h, 0, none⟩), .int .i64 0]) ∧ w.heap.size ≤ h ∧ w.heap.size ≤ g ∧ w.heap.size ≤ b ∧ ShAt w' h g b (.slice none 0 0) p r u m l (0, u, m) room [] ∧ Below w.heap.size w w' := by
  have ca := hidd (fun k c b1 b2 b3 W => isAny3 k c b1 b2 b3 W)
  unfold newB at h
  obtain ⟨hR, hq⟩ := (Bool.and_eq_true _ _ ▸ h : rightB p r u m l = true ∧ decide (0 ≤ room ∧ room ≤ 1000000000) = true)
  have hq := of_decide_eq_true hq
  have HR := hidd hR
  have HQ := hidd hq
  have cn := hidd (fun W => bnew_yes p r u m l hR W)
  have hD0 : decide (room < 0) = false := decide_eq_false (by omega)
  have hD1 : decide (1000000000 < room) = false := decide_eq_false (by omega)
  clear h hR hq
  go_enter Try.func10, Try.ntmps10
  go_wp2_with fail
  refine (cn.out _).mono ?_
  rintro e w1 ⟨b, rfl, hle, hB, hb1⟩
  have H1 := hidd (below_step (below_new (Below.refl _ _) _) hb1)
  have HB := hidd hB
  have hwb : w.heap.size ≤ b := by simp at hle; omega
  have hlt := hB.lt
  clear hb1 hle hB
  go_wp2_with fail
  refine (ca.out _ _ false false false _ (by simp [go_sem]) (by simp [go_sem]) (by simp [go_sem])).mono ?_
  rintro e w2 ⟨rfl, rfl⟩
  simp only [Bool.or_false]
  go_wp2_with fail
  go_ret2
  have hs1 := H1.out.size
  refine ⟨_, w1.heap.size + 1, b, rfl, by omega, by omega, hwb, ⟨((HB.out.below (below_new (Below.refl _ _) _)).below (below_new (Below.refl _ _) _)).below (below_new (Below.refl _ _) _), QL.nil _, ?_, ?_, ?_, ?_, ?_, ?_, ?_, ?_, ?_, ?_, (fun e => by cases e), (fun e => by cases e), (fun e => by cases e), HR.out, BM.ok_first HR.out, fun x hx => by simp at hx, HQ.out.1, HQ.out.2, HQ.out.1⟩, below_new (below_new (below_new H1.out _) _) _⟩
  all_goals first | (simp [go_sem, sumB]; done) | (simp [go_sem]; omega) | (simp; omega) | omega
end Go.Proofs.Ytiecailfndlgoaa
