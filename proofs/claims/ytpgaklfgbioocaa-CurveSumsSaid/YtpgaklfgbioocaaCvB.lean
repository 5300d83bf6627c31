/- Curves: are two the same. -/
import Derived.Test.YtpgaklfgbioocaaCvA
namespace Go.Proofs.Ytpgaklfgbioocaa
set_option linter.unusedVariables false
open Go.RowKit RowK

set_option maxHeartbeats 2000000 in
theorem same_any (A B : Option Addr) (L M : List (Int × Int)) (c d : Nat) (hL : L.length ≤ 1000000) (hM : M.length ≤ 1000000) (w : World) (hA : Lie sendV 2 w w.heap.size A L) (hB : Lie sendV 2 w w.heap.size B M) :
    Calls Try.prog 15 #[.slice A L.length c, .slice B M.length d] w fun e w' => e = .returned (.bool (decide (L = M))) ∧ ∃ q, w' = w.drewN q := by
  have HA := hidd hA
  have HB := hidd hB
  obtain ⟨R, hR⟩ : ∃ R, decide (L = M) = R := ⟨_, rfl⟩
  rw [hR]
  have HR := hidd hR
  clear hA hB hR
  by_cases hn : L.length = M.length
  · have HN := hidd hn
    have hn2 : (L.length : Int) = (M.length : Int) := by omega
    obtain ⟨n, hln⟩ : ∃ n, L.length = n := ⟨_, rfl⟩
    have HLN := hidd hln
    rw [← hn, hln]
    rw [hln] at hL
    clear hn hln hn2 hM
    go_enter Try.func15, Try.ntmps15
    go_wp2_with fail
    go_loopg [5] (n + 1) (fun g s wr => ∃ (i q : Nat), i ≤ n ∧ i + g = n + 1 ∧ s = .int .i64 (i : Int) ∧ (∀ j, j < i → SM.av L j = SM.av M j ∧ SM.sv L j = SM.sv M j) ∧ wr = w.drewN q)
    case atStart => exact ⟨0, 0, by omega, by omega, rfl, fun j hj => absurd hj (by omega), rfl⟩
    case round =>
      obtain ⟨i, q, hi, hg, rfl, hs, rfl⟩ := hrel
      have HG := hidd hg
      have HS := hidd hs
      clear hg hs
      by_cases hin : i < n
      · obtain ⟨ad, rfl, ha, x0, x1⟩ := HA.out.send i (by rw [HLN.out]; exact hin)
        obtain ⟨bd, rfl, hb, y0, y1⟩ := HB.out.send i (by rw [← HN.out, HLN.out]; exact hin)
        rw [(av_at (by rw [HLN.out]; exact hin)).1] at x0
        rw [(av_at (by rw [HLN.out]; exact hin)).2] at x1
        rw [(av_at (by rw [← HN.out, HLN.out]; exact hin)).1] at y0
        rw [(av_at (by rw [← HN.out, HLN.out]; exact hin)).2] at y1
        have hin2 : (i : Int) < (n : Int) := by omega
        have hi0 : (0 : Int) ≤ (i : Int) := by omega
        have hno : (SM.av L i ≠ SM.av M i ∨ SM.sv L i ≠ SM.sv M i) → R = false := fun h => by
          rw [← HR.out]
          refine decide_eq_false (fun e => ?_)
          subst e
          rcases h with h | h <;> exact h rfl
        have HNO := hidd hno
        have hst : (SM.av L i = SM.av M i ∧ SM.sv L i = SM.sv M i) → ∀ j, j < i + 1 → SM.av L j = SM.av M j ∧ SM.sv L j = SM.sv M j := fun h j hj => by
          by_cases e : j = i
          · subst e; exact h
          · exact HS.out j (by omega)
        have HST := hidd hst
        clear hno hst
        generalize SM.av L i = a0 at *
        generalize SM.sv L i = a1 at *
        generalize SM.av M i = b0 at *
        generalize SM.sv M i = b1 at *
        by_cases h0 : a0 = b0
        · by_cases h1 : a1 = b1
          · subst h0 h1
            have hn1 := HST.out ⟨rfl, rfl⟩
            have HN1 := hidd hn1
            clear hn1
            go_wp2_with fail
            go_quiet (fail)
            go_wp2_with fail
            have hg := HG.out
            go_roundg (gk - 1)
            case measure => omega
            case rel => exact ⟨i + 1, _, by omega, by omega, by go_num, HN1.out, by first | rfl | (rw [World.drewN_drewN]; done)⟩
          · have hr := HNO.out (.inr h1)
            subst hr
            subst h0
            have h1' : (a1 == b1) = false := beq_eq_false_iff_ne.2 h1
            clear h1
            go_wp2_with fail
            go_quiet (fail)
            go_wp2_with fail
            go_ret
            exact ⟨by simp, _, by first | rfl | (rw [World.drewN_drewN]; done)⟩
        · have hr := HNO.out (.inl h0)
          subst hr
          have h0' : (a0 == b0) = false := beq_eq_false_iff_ne.2 h0
          clear h0
          go_wp2_with fail
          go_quiet (fail)
          go_wp2_with fail
          go_ret
          exact ⟨by simp, _, by first | rfl | (rw [World.drewN_drewN]; done)⟩
      · have hin2 : ¬ (i : Int) < (n : Int) := by omega
        have hr : R = true := by
          rw [← HR.out]
          refine decide_eq_true (List.ext_getElem HN.out fun j h1 h2 => ?_)
          have := HS.out j (by rw [HLN.out] at h1; omega)
          rw [← (av_at h1).1, ← (av_at h1).2, ← (av_at h2).1, ← (av_at h2).2] at this
          exact Prod.ext this.1 this.2
        subst hr
        go_wp2_with fail
        go_ret
        exact ⟨by simp, _, rfl⟩
  · have hne : ((L.length : Int) != (M.length : Int)) = true := by simp; omega
    have hr : R = false := by
      rw [← HR.out]
      exact decide_eq_false (fun e => hn (by rw [e]))
    subst hr
    clear hn
    go_enter Try.func15, Try.ntmps15
    go_wp2_with fail
    go_ret
    exact ⟨by simp, 0, rfl⟩
set_option maxHeartbeats 2000000 in
theorem equal_any (A B : Option Addr) (L M : List (Int × Int)) (c d : Nat) (hL : L.length ≤ 1000000) (hM : M.length ≤ 1000000) (w : World) (hA : Lie sendV 2 w w.heap.size A L) (hB : Lie sendV 2 w w.heap.size B M) :
    Calls Try.prog 45 #[.slice A L.length c, .slice B M.length d] w fun e w' => e = .returned (.bool (decide (L = M))) ∧ ∃ q, w' = w.drewN q := by
  have HA := hidd hA
  have HB := hidd hB
  obtain ⟨R, hR⟩ : ∃ R, decide (L = M) = R := ⟨_, rfl⟩
  rw [hR]
  have HR := hidd hR
  clear hA hB hR
  by_cases hn : L.length = M.length
  · have HN := hidd hn
    have hn2 : (L.length : Int) = (M.length : Int) := by omega
    obtain ⟨n, hln⟩ : ∃ n, L.length = n := ⟨_, rfl⟩
    have HLN := hidd hln
    rw [← hn, hln]
    rw [hln] at hL
    clear hn hln hn2 hM
    go_enter Try.func45, Try.ntmps45
    go_wp2_with fail
    go_loopg [13] (n + 1) (fun g s wr => ∃ (i q : Nat), i ≤ n ∧ i + g = n + 1 ∧ s = .int .i64 (i : Int) ∧ (∀ j, j < i → SM.av L j = SM.av M j ∧ SM.sv L j = SM.sv M j) ∧ wr = w.drewN q)
    case atStart => exact ⟨0, 0, by omega, by omega, rfl, fun j hj => absurd hj (by omega), rfl⟩
    case round =>
      obtain ⟨i, q, hi, hg, rfl, hs, rfl⟩ := hrel
      have HG := hidd hg
      have HS := hidd hs
      clear hg hs
      by_cases hin : i < n
      · obtain ⟨ad, rfl, ha, x0, x1⟩ := HA.out.send i (by rw [HLN.out]; exact hin)
        obtain ⟨bd, rfl, hb, y0, y1⟩ := HB.out.send i (by rw [← HN.out, HLN.out]; exact hin)
        rw [(av_at (by rw [HLN.out]; exact hin)).1] at x0
        rw [(av_at (by rw [HLN.out]; exact hin)).2] at x1
        rw [(av_at (by rw [← HN.out, HLN.out]; exact hin)).1] at y0
        rw [(av_at (by rw [← HN.out, HLN.out]; exact hin)).2] at y1
        have hin2 : (i : Int) < (n : Int) := by omega
        have hi0 : (0 : Int) ≤ (i : Int) := by omega
        have hno : (SM.av L i ≠ SM.av M i ∨ SM.sv L i ≠ SM.sv M i) → R = false := fun h => by
          rw [← HR.out]
          refine decide_eq_false (fun e => ?_)
          subst e
          rcases h with h | h <;> exact h rfl
        have HNO := hidd hno
        have hst : (SM.av L i = SM.av M i ∧ SM.sv L i = SM.sv M i) → ∀ j, j < i + 1 → SM.av L j = SM.av M j ∧ SM.sv L j = SM.sv M j := fun h j hj => by
          by_cases e : j = i
          · subst e; exact h
          · exact HS.out j (by omega)
        have HST := hidd hst
        clear hno hst
        generalize SM.av L i = a0 at *
        generalize SM.sv L i = a1 at *
        generalize SM.av M i = b0 at *
        generalize SM.sv M i = b1 at *
        by_cases h0 : a0 = b0
        · by_cases h1 : a1 = b1
          · subst h0 h1
            have hn1 := HST.out ⟨rfl, rfl⟩
            have HN1 := hidd hn1
            clear hn1
            go_wp2_with fail
            go_quiet (fail)
            go_wp2_with fail
            have hg := HG.out
            go_roundg (gk - 1)
            case measure => omega
            case rel => exact ⟨i + 1, _, by omega, by omega, by go_num, HN1.out, by first | rfl | (rw [World.drewN_drewN]; done)⟩
          · have hr := HNO.out (.inr h1)
            subst hr
            subst h0
            have h1' : (a1 == b1) = false := beq_eq_false_iff_ne.2 h1
            clear h1
            go_wp2_with fail
            go_quiet (fail)
            go_wp2_with fail
            go_ret
            exact ⟨by simp, _, by first | rfl | (rw [World.drewN_drewN]; done)⟩
        · have hr := HNO.out (.inl h0)
          subst hr
          have h0' : (a0 == b0) = false := beq_eq_false_iff_ne.2 h0
          clear h0
          go_wp2_with fail
          go_quiet (fail)
          go_wp2_with fail
          go_ret
          exact ⟨by simp, _, by first | rfl | (rw [World.drewN_drewN]; done)⟩
      · have hin2 : ¬ (i : Int) < (n : Int) := by omega
        have hr : R = true := by
          rw [← HR.out]
          refine decide_eq_true (List.ext_getElem HN.out fun j h1 h2 => ?_)
          have := HS.out j (by rw [HLN.out] at h1; omega)
          rw [← (av_at h1).1, ← (av_at h1).2, ← (av_at h2).1, ← (av_at h2).2] at this
          exact Prod.ext this.1 this.2
        subst hr
        go_wp2_with fail
        go_ret
        exact ⟨by simp, _, rfl⟩
  · have hne : ((L.length : Int) != (M.length : Int)) = true := by simp; omega
    have hr : R = false := by
      rw [← HR.out]
      exact decide_eq_false (fun e => hn (by rw [e]))
    subst hr
    clear hn
    go_enter Try.func45, Try.ntmps45
    go_wp2_with fail
    go_ret
    exact ⟨by simp, 0, rfl⟩
end Go.Proofs.Ytpgaklfgbioocaa
