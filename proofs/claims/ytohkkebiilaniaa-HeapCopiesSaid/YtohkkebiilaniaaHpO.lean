/- Heaps: the document's list: may an item be, where an ID stands, without an item, with one more. -/
import Derived.Test.YtohkkebiilaniaaHpL
import Derived.Test.YtohkkebiilaniaaBgU
namespace Go.Proofs.Ytohkkebiilaniaa.Hp
set_option linter.unusedVariables false
open Go.RowKit Go.Maps Go.Sort Go.Proofs.Ytohkkebiilaniaa.Tp

set_option maxHeartbeats 2000000 in
theorem may_any (id n d : Int) (h0 : -9223372036854775808 ≤ n) (h1 : n ≤ 9223372036854775807) (h2 : -9223372036854775808 ≤ d) (h3 : d ≤ 9223372036854775807) (w : World) :
    Calls Try.prog 39 #[.int .i64 id, .agg #[.int .i64 n, .int .i64 d]] w fun e w' => e = .returned (.bool (mayB id n d)) ∧ Below w.heap.size w w' := by
  have c := hidd (fun W => refRight_any n d h0 h1 h2 h3 W)
  by_cases k1 : 0 ≤ id
  · by_cases k2 : id ≤ 4611686018427387904
    · have e1 : mayB id n d = rightB n d := by unfold mayB; simp [k1, k2]
      rw [e1]
      clear e1
      generalize rightB n d = R at *
      go_enter Try.func39, Try.ntmps39
      go_wp2_with fail
      refine (c.out _).mono ?_
      rintro e w1 ⟨rfl, hb⟩
      go_wp2_with fail
      go_ret
      exact ⟨rfl, by (repeat' (first | (with_reducible exact Below.refl _ _) | (with_reducible assumption) | (with_reducible apply Below.setCell) | (with_reducible apply Below.alloc) | (with_reducible apply Below.drew) | (with_reducible apply below_drewN) | (with_reducible refine Below.trans ?_ (Below.mono (by assumption) ?_)) | omega | (simp; done) | (simp; omega)))⟩
    · have e1 : mayB id n d = false := by unfold mayB; simp; omega
      rw [e1]
      clear e1
      go_enter Try.func39, Try.ntmps39
      go_wp2_with fail
      go_ret
      exact ⟨rfl, by (repeat' (first | (with_reducible exact Below.refl _ _) | (with_reducible assumption) | (with_reducible apply Below.setCell) | (with_reducible apply Below.alloc) | (with_reducible apply Below.drew) | (with_reducible apply below_drewN) | (with_reducible refine Below.trans ?_ (Below.mono (by assumption) ?_)) | omega | (simp; done) | (simp; omega)))⟩
  · have e1 : mayB id n d = false := by unfold mayB; simp; omega
    rw [e1]
    clear e1
    go_enter Try.func39, Try.ntmps39
    go_wp2_with fail
    go_ret
    exact ⟨rfl, by (repeat' (first | (with_reducible exact Below.refl _ _) | (with_reducible assumption) | (with_reducible apply Below.setCell) | (with_reducible apply Below.alloc) | (with_reducible apply Below.drew) | (with_reducible apply below_drewN) | (with_reducible refine Below.trans ?_ (Below.mono (by assumption) ?_)) | omega | (simp; done) | (simp; omega)))⟩
/-- the document's list in memory. -/
abbrev RL (W : World) (v : Value) (M : List It) : Prop := OwnL itV 4 W 0 37 v M
theorem RL.below {W W' : World} {v : Value} {M : List It} (h : RL W v M) (hb : Below W.heap.size W W') : RL W' v M := OwnL.below h hb
/-- where an ID stands: the place, or -1. -/
def posI (M : List It) (id : Int) : Int := if ∃ x ∈ M, iD x = id then (M.findIdx (fun x => decide (iD x = id)) : Int) else -1
theorem posI_at {M : List It} {id : Int} {k : Nat} (hk : k < M.length) (e : iD (gI M k) = id) (h : ∀ j, j < k → iD (gI M j) ≠ id) : posI M id = k := by
  unfold posI
  rw [if_pos ⟨gI M k, gI_mem hk, e⟩]
  have : M.findIdx (fun x => decide (iD x = id)) = k := by
    rw [List.findIdx_eq hk]
    refine ⟨by rw [← gI_at hk]; simp [e], fun j hj => ?_⟩
    have := h j hj
    rw [gI_at (by omega)] at this
    simp [this]
  rw [this]
theorem posI_no {M : List It} {id : Int} (h : ∀ j, j < M.length → iD (gI M j) ≠ id) : posI M id = -1 := by
  unfold posI
  rw [if_neg]
  rintro ⟨x, hx, e⟩
  obtain ⟨i, hi, rfl⟩ := mem_gI hx
  exact h i hi e
set_option maxHeartbeats 4000000 in
theorem find11_any (v : Value) (M : List It) (T id : Int) (hm : M.length ≤ 1000000) (w : World) (H : RL w v M) :
    Calls Try.prog 10 #[.agg #[v, .int .i64 T], .int .i64 id] w fun e w' => e = .returned (.int .i64 (posI M id)) ∧ Below w.heap.size w w' := by
  have HH := hidd H
  obtain ⟨A, c, hv, hlc, hcm, _⟩ := OwnL.lie H itV_len
  have hi := hidd (fun i (hi : i < M.length) => (show ∃ g, A = some ⟨g, 0, none⟩ ∧ g < w.heap.size ∧ w.cell? ⟨g, i * 4, none⟩ = some (.int .i64 (iD (gI M i))) from by
    obtain ⟨g, c', hv', _, hg, _⟩ := OwnL.form H (by omega)
    rw [hv] at hv'
    cases hv'
    rw [hv] at H
    exact ⟨g, rfl, hg, (OwnL.item H hi).1⟩))
  have PA := hidd (fun k hk e h => posI_at (M := M) (id := id) (k := k) hk e h)
  have PN := hidd (fun h => posI_no (M := M) (id := id) h)
  generalize posI M id = P at *
  clear H
  subst hv
  go_enter Try.func10, Try.ntmps10
  go_wp2_with fail
  obtain ⟨W1, hW1⟩ : ∃ W1, w.alloc (.cells #[.slice A M.length c, .int .i64 T] 28) = W1 := ⟨_, rfl⟩
  rw [hW1]
  have B1 : Hid (Below w.heap.size w W1) := hidd (hW1 ▸ below_new (Below.refl _ _) _)
  have x0 : W1.cell? ⟨w.heap.size, 0, none⟩ = some (.slice A M.length c) := by rw [← hW1]; simp [go_sem]
  clear hW1
  go_loopg [5] M.length (fun gk s5 wr => ∃ k : Nat, k + gk = M.length ∧ s5 = .int .i64 (k : Int) ∧ (∀ j, j < k → iD (gI M j) ≠ id) ∧ wr = W1)
  case atStart => exact ⟨0, by omega, rfl, fun j hj => by omega, rfl⟩
  case round =>
    obtain ⟨k, hg, rfl, hno, rfl⟩ := hrel
    have HNO := hidd hno
    clear hno
    by_cases hk : k < M.length
    · have z1 : (k : Int) < (M.length : Int) := by omega
      have z2 : (0 : Int) ≤ (k : Int) := by omega
      obtain ⟨g, rfl, hgl, hc⟩ := hi.out k hk
      have hc1 := (B1.out.cell (p := ⟨g, k * 4, none⟩) hgl).trans hc
      by_cases e : iD (gI M k) = id
      · have hP := PA.out k hk e HNO.out
        rw [e] at hc1
        subst hP
        clear e hc
        go_wp2_with fail
        go_ret
        exact ⟨rfl, B1.out⟩
      · have HE := hidd e
        have e2 : (iD (gI M k) == id) = false := by simpa using e
        generalize hy : iD (gI M k) = y at *
        have HY := hidd hy
        clear hy hc
        go_wp2_with fail
        go_roundg (gk - 1)
        case measure => omega
        case rel => exact ⟨k + 1, by omega, by go_num, fun j hj => by
          by_cases q : j = k
          · subst q; rw [HY.out]; exact HE.out
          · exact HNO.out j (by omega), rfl⟩
    · have z1 : ¬ (k : Int) < (M.length : Int) := by omega
      have hP := PN.out (fun j hj => HNO.out j (by omega))
      subst hP
      go_wp2_with fail
      go_ret
      exact ⟨rfl, B1.out⟩
end Go.Proofs.Ytohkkebiilaniaa.Hp
