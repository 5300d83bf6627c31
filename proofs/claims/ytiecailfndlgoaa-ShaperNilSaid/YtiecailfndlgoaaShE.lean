/- Shapers: may a size ever go; when something goes; New. -/
import Derived.Test.YtiecailfndlgoaaShD
namespace Go.Proofs.Ytiecailfndlgoaa
open Go.RowKit Go.Sort
set_option linter.unusedVariables false
section
variable {w : World} {h g b : Nat} {v : Value} {p r u m l : Int} {s : BM.St} {room : Int} {L : List (Int × Int)}
theorem now_grown (hB : BktAt w b p r u m l s) (hp : 1 ≤ p) (d : Nat) (os : Array Obj) : Calls Try.prog 40 #[.pointer (some ⟨b, 0, none⟩)] (grow (redrawn w d) os) fun e w'' => e = .returned (.int .i64 s.1) ∧ ∃ q : Regrown, w'' = grow (redrawn w q.d) q.os :=
  Calls.regrown_of ((bnow_any (hB.below (below_regrown w d os)) hp).mono fun e w' ⟨he, hw⟩ => ⟨he, by rw [← hw]; exact Below.refl _ _⟩)
theorem when_grown (hB : BktAt w b p r u m l s) (hr : rightB p r u m l = true) (hs : BM.Ok u m s) (z t : Int) (hz : BM.sizeB m l z = true) (ht : BM.IsWhen p r u m s s.1 z t) (d : Nat) (os : Array Obj) : Calls Try.prog 39 #[.pointer (some ⟨b, 0, none⟩), .int .i64 s.1, .int .i64 z] (grow (redrawn w d) os) fun e w'' => e = .returned (.tuple #[.int .i64 t, .int .i64 0]) ∧ ∃ q : Regrown, w'' = grow (redrawn w q.d) q.os :=
  Calls.regrown_of (bwhen_at (hB.below (below_regrown w d os)) hr hs s.1 z t (decide_eq_true ⟨Int.le_refl _, hs.2.1⟩) hz ht)
theorem when_grown_no (hB : BktAt w b p r u m l s) (hr : rightB p r u m l = true) (hs : BM.Ok u m s) (z : Int) (hz : BM.sizeB m l z = false) (d : Nat) (os : Array Obj) : Calls Try.prog 39 #[.pointer (some ⟨b, 0, none⟩), .int .i64 s.1, .int .i64 z] (grow (redrawn w d) os) fun e w'' => e = .returned (.tuple #[.int .i64 0, .int .i64 220]) ∧ ∃ q : Regrown, w'' = grow (redrawn w q.d) q.os :=
  Calls.regrown_of (bwhen_not (hB.below (below_regrown w d os)) hr hs s.1 z (decide_eq_true ⟨Int.le_refl _, hs.2.1⟩) hz)
set_option maxHeartbeats 4000000 in
theorem checkSize_any (hB : BktAt w b p r u m l s) (hg : w.cell? ⟨g, 0, none⟩ = some (.pointer (some ⟨b, 0, none⟩))) (hr : rightB p r u m l = true) (hs : BM.Ok u m s) (z : Int) :
    Calls Try.prog 33 #[.pointer (some ⟨g, 0, none⟩), .int .i64 z] w fun e w' => e = .returned (.int .i64 (if BM.sizeB m l z then 0 else 220)) ∧ Below w.heap.size w w' := by
  have hb := rightB_iff hr
  have cN := fun d os => now_grown hB (by omega) d os
  have k0 := cell_regrown hg
  obtain ⟨t, cW⟩ : ∃ t : Int, ∀ d os, Calls Try.prog 39 #[.pointer (some ⟨b, 0, none⟩), .int .i64 s.1, .int .i64 z] (grow (redrawn w d) os) fun e w'' => e = .returned (.tuple #[.int .i64 t, .int .i64 (if BM.sizeB m l z then 0 else 220)]) ∧ ∃ q : Regrown, w'' = grow (redrawn w q.d) q.os := by
    cases hz : BM.sizeB m l z
    · exact ⟨0, fun d os => when_grown_no hB hr hs z hz d os⟩
    · obtain ⟨t, ht⟩ := BM.when_exists hr hs (Int.le_refl s.1) hz
      exact ⟨t, fun d os => when_grown hB hr hs z t hz ht d os⟩
  generalize (if BM.sizeB m l z = true then (0 : Int) else 220) = R at *
  generalize s.1 = now at *
  clear hB hr hs hb
  go_enter Try.func33, Try.ntmps33
  go_wp2_with fail
  refine wp_region_quiet_below (by kernel_rfl) (by kernel_rfl) ?_
  repeat (quiet_step (first | exact cN _ _ | exact cW _ _))
  refine wpQuiet_nil ?_
  intro _ hw'
  obtain ⟨⟨dq, osq⟩, hw''⟩ := hw'
  subst hw''
  go_wp2_with fail
  go_ret
  exact ⟨rfl, below_regrown w dq osq⟩
set_option maxHeartbeats 4000000 in
theorem next_none (H : ShAt w h g b v p r u m l s room []) : Calls Try.prog 19 #[.pointer (some ⟨h, 0, none⟩)] w fun e w' => e = .returned (.tuple #[.int .i64 0, .bool false]) ∧ w = w' := by
  have c := hidd (shNone_yes H.h0)
  have h0 := H.h0
  have g1 := H.g1
  obtain ⟨A, k, rfl, _, _, _⟩ := H.q.lie
  clear H
  simp only [List.length_nil] at g1
  go_enter Try.func19, Try.ntmps19
  go_wp2_with fail
  refine c.out.mono ?_
  rintro e w' ⟨rfl, rfl⟩
  go_wp2_with fail
  go_ret2
  exact ⟨rfl, rfl⟩
set_option maxHeartbeats 4000000 in
theorem next_some {x : Int × Int} (H : ShAt w h g b v p r u m l s room (x :: L)) {t : Int} (ht : BM.IsWhen p r u m s s.1 x.2 t) : Calls Try.prog 19 #[.pointer (some ⟨h, 0, none⟩)] w fun e w' => e = .returned (.tuple #[.int .i64 t, .bool true]) ∧ Below w.heap.size w w' := by
  have hb := rightB_iff H.rt
  have hz : BM.sizeB m l x.2 = true := decide_eq_true (H.sz x (by simp))
  have c := hidd (shNone_yes H.h0)
  have cN := fun d os => now_grown H.bk (by omega) d os
  have cW := fun d os => when_grown H.bk H.rt H.ok x.2 t hz ht d os
  have h0 := H.h0
  have g0 := H.g0
  have g1 := H.g1
  obtain ⟨A, k, hv, _, _, hA⟩ := H.q.lie
  obtain ⟨ad, hA0, ha, x0, x1⟩ := hA.send 0 (by simp)
  subst hA0
  subst hv
  rw [Nat.zero_mul] at x0 x1
  simp only [List.getElem_cons_zero] at x0 x1
  have hl := H.len
  have hl0 : (0 : Int) < ((x :: L).length : Int) := by simp
  have hl1 : ¬ ((x :: L).length : Int) = 0 := by simp; omega
  clear hA H hz ht
  generalize (x :: L).length = n at *
  have hn : 0 < n := by omega
  have e0 : (ad.add 0) = ad := rfl
  rw [e0] at x0 x1
  have h0q := cell_regrown h0
  have g0q := cell_regrown g0
  have g1q := cell_regrown g1
  have x1q := cell_regrown x1
  generalize s.1 = now at *
  generalize x.2 = z at *
  go_enter Try.func19, Try.ntmps19
  go_wp2_with fail
  refine c.out.mono ?_
  rintro e w' ⟨rfl, rfl⟩
  go_wp2_with fail
  refine wp_region_quiet_below (by kernel_rfl) (by kernel_rfl) ?_
  repeat (quiet_step (first | exact cN _ _ | exact cW _ _))
  refine wpQuiet_nil ?_
  intro _ hw'
  obtain ⟨⟨dq, osq⟩, hw''⟩ := hw'
  subst hw''
  go_wp2_with fail
  go_ret2
  exact ⟨rfl, below_regrown _ dq osq⟩
end
end Go.Proofs.Ytiecailfndlgoaa
