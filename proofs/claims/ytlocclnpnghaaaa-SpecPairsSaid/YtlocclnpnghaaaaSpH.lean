/- A spec in a box, carried along; the walk of SpecAllows. -/
import Derived.Test.YtlocclnpnghaaaaSpG
namespace Go.Proofs.Ytlocclnpnghaaaa
open Go.RowKit

/-- a spec lies in block b. -/
def HasSpec (w : World) (b : Nat) (p r u m l : Int) : Prop :=
  b < w.heap.size ∧ w.cell? ⟨b, 0, none⟩ = some (.int .i64 p) ∧ w.cell? ⟨b, 1, none⟩ = some (.int .i64 r) ∧ w.cell? ⟨b, 2, none⟩ = some (.int .i64 u) ∧ w.cell? ⟨b, 3, none⟩ = some (.int .i64 m) ∧ w.cell? ⟨b, 4, none⟩ = some (.int .i64 l)
section
variable {w w' : World} {b : Nat} {p r u m l : Int}
theorem HasSpec.step (h : HasSpec w b p r u m l) (hb : Below w.heap.size w w') : HasSpec w' b p r u m l :=
  ⟨Nat.lt_of_lt_of_le h.1 hb.size, (hb.cell h.1).trans h.2.1, (hb.cell h.1).trans h.2.2.1, (hb.cell h.1).trans h.2.2.2.1, (hb.cell h.1).trans h.2.2.2.2.1, (hb.cell h.1).trans h.2.2.2.2.2⟩
theorem HasSpec.past (h : HasSpec w b p r u m l) (o : Obj) : HasSpec (w.alloc o) b p r u m l := h.step ((Below.refl _ _).alloc (Nat.le_refl _) o)
theorem HasSpec.new (w : World) (t : TypeId) (p r u m l : Int) : HasSpec (w.alloc (.cells #[.int .i64 p, .int .i64 r, .int .i64 u, .int .i64 m, .int .i64 l] t)) w.heap.size p r u m l :=
  ⟨by simp, by simp [go_sem], by simp [go_sem], by simp [go_sem], by simp [go_sem], by simp [go_sem]⟩
theorem HasSpec.drew (h : HasSpec w b p r u m l) (n : Nat) : HasSpec (w.drewN n) b p r u m l := h
end

set_option maxRecDepth 100000 in
set_option maxHeartbeats 4000000 in
theorem allows_walk (p r u m l a b : Int) (a0 : -9223372036854775808 ≤ a) (a1 : a ≤ 9223372036854775807) (b0 : -9223372036854775808 ≤ b) (b1 : b ≤ 9223372036854775807) (w : World) :
    Calls Try.prog 4 #[.agg #[.int .i64 p, .int .i64 r, .int .i64 u, .int .i64 m, .int .i64 l], .int .i64 a, .int .i64 b] w fun e w' => e = .returned (.bool true) ∧ Below w.heap.size w w' := by
  have ca := hidd (fun t W => allows_any p r u m l t W)
  have cr := hidd (fun W => right_any p r u m l W)
  have cv := hidd (fun t hr k0 k1 W => refAllows_any p r u m l t hr k0 k1 W)
  have ck := hidd (fun W => known_any W)
  by_cases hR : rightB p r u m l = true ∧ tickB a = true
  · have q := of_decide_eq_true hR.2
    have e1 : allowsR p r u m l a = (allowsV p r u m a, 0) := by unfold allowsR; rw [if_pos hR]
    have c1 := hidd (ca.out a)
    have c3 := hidd (cv.out a hR.1 q.1 q.2)
    have bd := allowsV_bd hR.1 q.1 q.2
    rw [e1] at c1
    by_cases hb : tickB b = true ∧ tickB (a + b) = true
    · have q' := of_decide_eq_true hb.1
      have q'' := of_decide_eq_true hb.2
      have e2 : allowsR p r u m l b = (allowsV p r u m b, 0) := by unfold allowsR; rw [if_pos ⟨hR.1, hb.1⟩]
      have e3 : allowsR p r u m l (a + b) = (allowsV p r u m (a + b), 0) := by unfold allowsR; rw [if_pos ⟨hR.1, hb.2⟩]
      have c4 := hidd (ca.out b)
      have c5 := hidd (ca.out (a + b))
      rw [e2] at c4
      rw [e3] at c5
      have bd2 := allowsV_bd hR.1 q'.1 q'.2
      have hs := allowsV_sub hR.1 q.1 q'.1
      rw [hR.1] at cr
      obtain ⟨q1, q2⟩ := q
      obtain ⟨q3, q4⟩ := q'
      obtain ⟨q5, q6⟩ := q''
      obtain ⟨bd, bd'⟩ := bd
      obtain ⟨bd2, bd2'⟩ := bd2
      obtain ⟨hs, hs'⟩ := hs
      generalize allowsV p r u m a = n1 at *
      generalize allowsV p r u m b = n2 at *
      generalize allowsV p r u m (a + b) = n3 at *
      have q7 : ¬ 2147483647 - a < b := by omega
      clear e1 e2 e3 ca cv hb hR
      go_enter Try.func4, Try.ntmps4
      go_wp2_with fail
      have H := HasSpec.new w 23 p r u m l
      refine (c1.out _).mono ?_
      rintro e w1 ⟨rfl, hb1⟩
      have H := H.step hb1
      have L := below_step (below_new (Below.refl w.heap.size w) _) hb1
      obtain ⟨z, d0, d1, d2, d3, d4⟩ := id H
      go_wp2_with fail
      refine (cr.out _).mono ?_
      rintro e w2 ⟨rfl, hb2⟩
      have H := H.step hb2
      have L := below_step L hb2
      obtain ⟨z, d0, d1, d2, d3, d4⟩ := id H
      go_wp2_with fail
      refine (c3.out _).mono ?_
      rintro e w3 ⟨rfl, hb3⟩
      have H := H.step hb3
      have L := below_step L hb3
      obtain ⟨z, d0, d1, d2, d3, d4⟩ := id H
      go_wp2_with fail
      refine (c4.out _).mono ?_
      rintro e w4 ⟨rfl, hb4⟩
      have H := H.step hb4
      have L := below_step L hb4
      obtain ⟨z, d0, d1, d2, d3, d4⟩ := id H
      go_wp2_with fail
      refine (c5.out _).mono ?_
      rintro e w5 ⟨rfl, hb5⟩
      have L := below_step L hb5
      go_wp2_with fail
      refine (ck.out _).mono ?_
      rintro e w6 ⟨rfl, hb6⟩
      have L := below_step L hb6
      go_wp2_with fail
      go_ret
      exact ⟨by simp, L⟩
    · obtain ⟨q1, q2⟩ := q
      rw [hR.1] at cr
      clear e1 bd cv ca
      have hb2 : b < 0 ∨ (0 ≤ b ∧ 2147483647 - a < b) := by
        by_cases h : b < 0
        · exact .inl h
        · refine .inr ⟨by omega, Int.not_le.1 fun h2 => hb ⟨decide_eq_true ⟨by omega, by omega⟩, decide_eq_true ⟨by omega, by omega⟩⟩⟩
      clear hb hR
      generalize allowsV p r u m a = n1 at *
      rcases hb2 with hb2 | ⟨hb2, hb3⟩
      · have hb4 : ¬ 0 ≤ b := by omega
        go_enter Try.func4, Try.ntmps4
        go_wp2_with fail
        have H := HasSpec.new w 23 p r u m l
        refine (c1.out _).mono ?_
        rintro e w1 ⟨rfl, hb1⟩
        have H := H.step hb1
        obtain ⟨z, d0, d1, d2, d3, d4⟩ := id H
        have L := below_step (below_new (Below.refl w.heap.size w) _) hb1
        go_wp2_with fail
        refine (cr.out _).mono ?_
        rintro e w2 ⟨rfl, hb2⟩
        have H := H.step hb2
        obtain ⟨z, d0, d1, d2, d3, d4⟩ := id H
        have L := below_step L hb2
        go_wp2_with fail
        refine (c3.out _).mono ?_
        rintro e w3 ⟨rfl, hb3⟩
        have H := H.step hb3
        obtain ⟨z, d0, d1, d2, d3, d4⟩ := id H
        have L := below_step L hb3
        go_wp2_with fail
        refine (c3.out _).mono ?_
        rintro e w4 ⟨rfl, hb4⟩
        have H := H.step hb4
        obtain ⟨z, d0, d1, d2, d3, d4⟩ := id H
        have L := below_step L hb4
        go_wp2_with fail
        refine (ck.out _).mono ?_
        rintro e w5 ⟨rfl, hb5⟩
        have H := H.step hb5
        obtain ⟨z, d0, d1, d2, d3, d4⟩ := id H
        have L := below_step L hb5
        go_wp2_with fail
        go_ret
        exact ⟨by simp, L⟩
      · have hb4 : ¬ b < 0 := by omega
        go_enter Try.func4, Try.ntmps4
        go_wp2_with fail
        have H := HasSpec.new w 23 p r u m l
        refine (c1.out _).mono ?_
        rintro e w1 ⟨rfl, hb1⟩
        have H := H.step hb1
        obtain ⟨z, d0, d1, d2, d3, d4⟩ := id H
        have L := below_step (below_new (Below.refl w.heap.size w) _) hb1
        go_wp2_with fail
        refine (cr.out _).mono ?_
        rintro e w2 ⟨rfl, hb2⟩
        have H := H.step hb2
        obtain ⟨z, d0, d1, d2, d3, d4⟩ := id H
        have L := below_step L hb2
        go_wp2_with fail
        refine (c3.out _).mono ?_
        rintro e w3 ⟨rfl, hb3⟩
        have H := H.step hb3
        obtain ⟨z, d0, d1, d2, d3, d4⟩ := id H
        have L := below_step L hb3
        go_wp2_with fail
        refine (c3.out _).mono ?_
        rintro e w4 ⟨rfl, hb4⟩
        have H := H.step hb4
        obtain ⟨z, d0, d1, d2, d3, d4⟩ := id H
        have L := below_step L hb4
        go_wp2_with fail
        refine (ck.out _).mono ?_
        rintro e w5 ⟨rfl, hb5⟩
        have H := H.step hb5
        obtain ⟨z, d0, d1, d2, d3, d4⟩ := id H
        have L := below_step L hb5
        go_wp2_with fail
        go_ret
        exact ⟨by simp, L⟩
  · have e1 : allowsR p r u m l a = (0, 2) := by unfold allowsR; rw [if_neg hR]
    have c1 := hidd (ca.out a)
    rw [e1] at c1
    clear e1 ca cv
    by_cases hR2 : rightB p r u m l = true
    · have hb2 : a < 0 ∨ (0 ≤ a ∧ 2147483647 < a) := by
        by_cases h : a < 0
        · exact .inl h
        · refine .inr ⟨by omega, Int.not_le.1 fun h2 => hR ⟨hR2, decide_eq_true ⟨by omega, by omega⟩⟩⟩
      rw [hR2] at cr
      clear hR hR2
      rcases hb2 with hb2 | ⟨hb2, hb3⟩
      · have hb4 : ¬ 0 ≤ a := by omega
        go_enter Try.func4, Try.ntmps4
        go_wp2_with fail
        have H := HasSpec.new w 23 p r u m l
        refine (c1.out _).mono ?_
        rintro e w1 ⟨rfl, hb1⟩
        have H := H.step hb1
        obtain ⟨z, d0, d1, d2, d3, d4⟩ := id H
        have L := below_step (below_new (Below.refl w.heap.size w) _) hb1
        go_wp2_with fail
        refine (cr.out _).mono ?_
        rintro e w2 ⟨rfl, hb2⟩
        have H := H.step hb2
        obtain ⟨z, d0, d1, d2, d3, d4⟩ := id H
        have L := below_step L hb2
        go_wp2_with fail
        refine (ck.out _).mono ?_
        rintro e w3 ⟨rfl, hb3⟩
        have H := H.step hb3
        obtain ⟨z, d0, d1, d2, d3, d4⟩ := id H
        have L := below_step L hb3
        go_wp2_with fail
        go_ret
        exact ⟨by simp, L⟩
      · have hb4 : ¬ a < 0 := by omega
        go_enter Try.func4, Try.ntmps4
        go_wp2_with fail
        have H := HasSpec.new w 23 p r u m l
        refine (c1.out _).mono ?_
        rintro e w1 ⟨rfl, hb1⟩
        have H := H.step hb1
        obtain ⟨z, d0, d1, d2, d3, d4⟩ := id H
        have L := below_step (below_new (Below.refl w.heap.size w) _) hb1
        go_wp2_with fail
        refine (cr.out _).mono ?_
        rintro e w2 ⟨rfl, hb2⟩
        have H := H.step hb2
        obtain ⟨z, d0, d1, d2, d3, d4⟩ := id H
        have L := below_step L hb2
        go_wp2_with fail
        refine (ck.out _).mono ?_
        rintro e w3 ⟨rfl, hb3⟩
        have H := H.step hb3
        obtain ⟨z, d0, d1, d2, d3, d4⟩ := id H
        have L := below_step L hb3
        go_wp2_with fail
        go_ret
        exact ⟨by simp, L⟩
    · have hR3 : rightB p r u m l = false := by simpa using hR2
      rw [hR3] at cr
      clear hR hR2 hR3
      go_enter Try.func4, Try.ntmps4
      go_wp2_with fail
      have H := HasSpec.new w 23 p r u m l
      refine (c1.out _).mono ?_
      rintro e w1 ⟨rfl, hb1⟩
      have H := H.step hb1
      obtain ⟨z, d0, d1, d2, d3, d4⟩ := id H
      have L := below_step (below_new (Below.refl w.heap.size w) _) hb1
      go_wp2_with fail
      refine (cr.out _).mono ?_
      rintro e w2 ⟨rfl, hb2⟩
      have H := H.step hb2
      obtain ⟨z, d0, d1, d2, d3, d4⟩ := id H
      have L := below_step L hb2
      go_wp2_with fail
      refine (ck.out _).mono ?_
      rintro e w3 ⟨rfl, hb3⟩
      have H := H.step hb3
      obtain ⟨z, d0, d1, d2, d3, d4⟩ := id H
      have L := below_step L hb3
      go_wp2_with fail
      go_ret
      exact ⟨by simp, L⟩
end Go.Proofs.Ytlocclnpnghaaaa
