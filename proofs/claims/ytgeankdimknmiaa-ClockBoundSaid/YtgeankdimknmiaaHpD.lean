/- Heaps: may an item be, a new heap, how many, which of two goes ahead. -/
import Derived.Test.YtgeankdimknmiaaHpC
import Derived.Lib.QuietBelow
namespace Go.Proofs.Ytgeankdimknmiaa.Hp
set_option linter.unusedVariables false
open Go.RowKit Go.Maps Go.Sort Go.Proofs.Ytgeankdimknmiaa.Tp

def mayB (id n d : Int) : Bool := decide (0 ≤ id) && (decide (id ≤ 4611686018427387904) && rightB n d)
set_option maxHeartbeats 1000000 in
theorem check_no (id n d : Int) (w : World) : Calls Try.prog 34 #[.pointer none, .int .i64 id, .agg #[.int .i64 n, .int .i64 d]] w fun e w' => e = .returned (.int .i64 1) ∧ Below w.heap.size w w' := by
  have c := hidd (fun W => isNone_no W)
  go_enter Try.func34, Try.ntmps34
  go_wp2_with fail
  refine (c.out _).mono ?_
  rintro e w1 ⟨rfl, rfl⟩
  go_wp2_with fail
  go_ret
  exact ⟨rfl, by (repeat' (first | (with_reducible exact Below.refl _ _) | (with_reducible assumption) | (with_reducible apply Below.setCell) | (with_reducible apply Below.alloc) | (with_reducible apply Below.drew) | (with_reducible apply below_drewN) | (with_reducible refine Below.trans ?_ (Below.mono (by assumption) ?_)) | omega | (simp; done) | (simp; omega)))⟩
set_option maxHeartbeats 1000000 in
theorem check_zero (b : Nat) (id n d : Int) (w : World) (hc : w.cell? ⟨b, 0, none⟩ = some (.map none)) (hb : b < w.heap.size) : Calls Try.prog 34 #[.pointer (some ⟨b, 0, none⟩), .int .i64 id, .agg #[.int .i64 n, .int .i64 d]] w fun e w' => e = .returned (.int .i64 1) ∧ Below w.heap.size w w' := by
  have c := hidd (fun W h => isNone_at b none W h)
  go_enter Try.func34, Try.ntmps34
  go_wp2_with fail
  refine (c.out _ (by simp [go_sem, hc, hb])).mono ?_
  rintro e w1 ⟨rfl, rfl⟩
  go_wp2_with fail
  go_ret
  exact ⟨rfl, by (repeat' (first | (with_reducible exact Below.refl _ _) | (with_reducible assumption) | (with_reducible apply Below.setCell) | (with_reducible apply Below.alloc) | (with_reducible apply Below.drew) | (with_reducible apply below_drewN) | (with_reducible refine Below.trans ?_ (Below.mono (by assumption) ?_)) | omega | (simp; done) | (simp; omega)))⟩
set_option maxHeartbeats 1000000 in
theorem check_at (b mb : Nat) (id n d : Int) (h0 : -9223372036854775808 ≤ n) (h1 : n ≤ 9223372036854775807) (h2 : -9223372036854775808 ≤ d) (h3 : d ≤ 9223372036854775807) (w : World) (hc : w.cell? ⟨b, 0, none⟩ = some (.map (some mb))) (hb : b < w.heap.size) :
    Calls Try.prog 34 #[.pointer (some ⟨b, 0, none⟩), .int .i64 id, .agg #[.int .i64 n, .int .i64 d]] w fun e w' => e = .returned (.int .i64 (if mayB id n d = true then 0 else 2)) ∧ Below w.heap.size w w' := by
  have c := hidd (fun W h => isNone_at b (some mb) W h)
  have cr := hidd (fun W => ratCheck_any n d h0 h1 h2 h3 W)
  by_cases k1 : id < 0
  · have e1 : mayB id n d = false := by unfold mayB; simp; omega
    rw [e1]
    clear e1
    go_enter Try.func34, Try.ntmps34
    go_wp2_with fail
    refine (c.out _ (by simp [go_sem, hc, hb])).mono ?_
    rintro e w1 ⟨rfl, rfl⟩
    go_wp2_with fail
    go_ret
    exact ⟨rfl, by (repeat' (first | (with_reducible exact Below.refl _ _) | (with_reducible assumption) | (with_reducible apply Below.setCell) | (with_reducible apply Below.alloc) | (with_reducible apply Below.drew) | (with_reducible apply below_drewN) | (with_reducible refine Below.trans ?_ (Below.mono (by assumption) ?_)) | omega | (simp; done) | (simp; omega)))⟩
  · by_cases k2 : 4611686018427387904 < id
    · have e1 : mayB id n d = false := by unfold mayB; simp; omega
      rw [e1]
      clear e1
      go_enter Try.func34, Try.ntmps34
      go_wp2_with fail
      refine (c.out _ (by simp [go_sem, hc, hb])).mono ?_
      rintro e w1 ⟨rfl, rfl⟩
      go_wp2_with fail
      go_ret
      exact ⟨rfl, by (repeat' (first | (with_reducible exact Below.refl _ _) | (with_reducible assumption) | (with_reducible apply Below.setCell) | (with_reducible apply Below.alloc) | (with_reducible apply Below.drew) | (with_reducible apply below_drewN) | (with_reducible refine Below.trans ?_ (Below.mono (by assumption) ?_)) | omega | (simp; done) | (simp; omega)))⟩
    · have e1 : mayB id n d = rightB n d := by
        unfold mayB
        have a1 : 0 ≤ id := by omega
        have a2 : id ≤ 4611686018427387904 := by omega
        simp [a1, a2]
      rw [e1]
      clear e1
      generalize rightB n d = R at *
      obtain ⟨z, hz⟩ : ∃ z : Int, (if R = true then (0 : Int) else 2) = z := ⟨_, rfl⟩
      rw [hz]
      replace cr := hidd (fun W => (hz ▸ cr.out W : Calls Try.prog 56 #[.agg #[.int .i64 n, .int .i64 d]] W fun e w' => e = .returned (.int .i64 z) ∧ Below W.heap.size W w'))
      clear hz
      go_enter Try.func34, Try.ntmps34
      go_wp2_with fail
      refine (c.out _ (by simp [go_sem, hc, hb])).mono ?_
      rintro e w1 ⟨rfl, rfl⟩
      go_wp2_with fail
      refine (cr.out _).mono ?_
      rintro e w2 ⟨rfl, hb2⟩
      go_wp2_with fail
      go_ret
      exact ⟨rfl, by (repeat' (first | (with_reducible exact Below.refl _ _) | (with_reducible assumption) | (with_reducible apply Below.setCell) | (with_reducible apply Below.alloc) | (with_reducible apply Below.drew) | (with_reducible apply below_drewN) | (with_reducible refine Below.trans ?_ (Below.mono (by assumption) ?_)) | omega | (simp; done) | (simp; omega)))⟩
theorem below_next {w a b : World} (t : Below w.heap.size w a) (h : Below a.heap.size a b) : Below w.heap.size w b := t.trans (h.mono t.size)
/-- a heap that is there, whatever stands in it. -/
theorem new_any (w : World) : Calls Try.prog 14 #[] w fun e w' => e = .returned (.pointer (some ⟨w.heap.size + 1, 0, none⟩)) ∧ HpAt w' (w.heap.size + 1) w.heap.size (.slice none 0 0) [] 0 (.map []) ∧ Below w.heap.size w w' := by
  have hmm := @run_makeMap Try.prog
  have hO : ∀ o, ((w.alloc (.map #[] 0)).alloc o).ownsMap Try.prog 2 (plainElem (H := Unit) Try.prog 3) w.heap.size 0 (.map []) := fun o => World.ownsMap.alloc (World.ownsMap_made w _ _ _) o
  have HO := hidd hO
  clear hO
  go_enter Try.func14, Try.ntmps14
  go_wp2_with fail
  go_ret
  refine ⟨rfl, ⟨?_, ?_, ?_, ?_, ?_, ?_, ⟨0, HO.out _⟩, ?_⟩, by (repeat' (first | (with_reducible exact Below.refl _ _) | (with_reducible assumption) | (with_reducible apply Below.setCell) | (with_reducible apply Below.alloc) | (with_reducible apply Below.drew) | (with_reducible apply below_drewN) | (with_reducible refine Below.trans ?_ (Below.mono (by assumption) ?_)) | omega | (simp; done) | (simp; omega)))⟩
  · exact ⟨_, heap_alloc2_new _ _ _⟩
  · simp [go_sem]
  · simp [go_sem]
  · simp [go_sem]
  · simp [go_sem]
  · exact OwnL.nil _ _ _
  · simp [Value.ownBlock]
set_option maxHeartbeats 1000000 in
theorem len_no (w : World) : Calls Try.prog 29 #[.pointer none] w fun e w' => e = .returned (.int .i64 0) ∧ w = w' := by
  have c := hidd (fun W => isNone_no W)
  go_enter Try.func29, Try.ntmps29
  go_wp2_with fail
  refine (c.out _).mono ?_
  rintro e w1 ⟨rfl, rfl⟩
  go_wp2_with fail
  go_ret
  exact ⟨rfl, rfl⟩
set_option maxHeartbeats 1000000 in
theorem len_zero (b : Nat) (w : World) (hc : w.cell? ⟨b, 0, none⟩ = some (.map none)) : Calls Try.prog 29 #[.pointer (some ⟨b, 0, none⟩)] w fun e w' => e = .returned (.int .i64 0) ∧ w = w' := by
  have c := hidd (fun W h => isNone_at b none W h)
  go_enter Try.func29, Try.ntmps29
  go_wp2_with fail
  refine (c.out _ hc).mono ?_
  rintro e w1 ⟨rfl, rfl⟩
  go_wp2_with fail
  go_ret
  exact ⟨rfl, rfl⟩
set_option maxHeartbeats 1000000 in
theorem len_any {h mb : Nat} {v : Value} {L : List It} {T : Int} {D : DataW Unit} (w : World) (H : HpAt w h mb v L T D) : Calls Try.prog 29 #[.pointer (some ⟨h, 0, none⟩)] w fun e w' => e = .returned (.int .i64 (L.length : Int)) ∧ w = w' := by
  have c := hidd (isNone_at h (some mb) w H.c0)
  have c1 := H.c1
  obtain ⟨A, k, hv, _⟩ := OwnL.lie H.own itV_len
  subst hv
  clear H
  generalize L.length = n at *
  go_enter Try.func29, Try.ntmps29
  go_wp2_with fail
  refine c.out.mono ?_
  rintro e w1 ⟨rfl, rfl⟩
  go_wp2_with fail
  go_ret
  exact ⟨rfl, rfl⟩
def OkL (L : List It) : Prop := ∀ x ∈ L, OkI x
theorem OkL.at_ {L : List It} (h : OkL L) {i : Nat} (hi : i < L.length) : OkI (gI L i) := h _ (gI_mem hi)
theorem OkL.pos {L : List It} (h : OkL L) : PosD L := fun x hx => (h x hx).pos
theorem OkL.perm {L L' : List It} (h : OkL L) (hp : L'.Perm L) : OkL L' := fun x hx => h x (hp.mem_iff.1 hx)
set_option maxHeartbeats 2000000 in
theorem isAhead_any {h mb : Nat} {v : Value} {L : List It} {T : Int} {D : DataW Unit} (w : World) (H : HpAt w h mb v L T D) (hk : OkL L) (a b : Nat) (ha : a < L.length) (hb : b < L.length) (hm : L.length ≤ 1000000) :
    Calls Try.prog 83 #[.pointer (some ⟨h, 0, none⟩), .int .i64 (a : Int), .int .i64 (b : Int)] w fun e w' => e = .returned (.bool (decide (Lt (gI L a) (gI L b)))) ∧ Below w.heap.size w w' := by
  obtain ⟨g, k, hv, _, hg, hlk, _, _, _⟩ := OwnL.form H.own (by omega)
  subst hv
  obtain ⟨a0, a1, a2, a3⟩ := OwnL.item H.own ha
  obtain ⟨b0, b1, b2, b3⟩ := OwnL.item H.own hb
  have c := hidd (fun W => inTurn_any (gI L a) (gI L b) (hk.at_ ha) (hk.at_ hb) W)
  have hR : decide (Lt (gI L a) (gI L b)) = decide (turnZ (gI L a) (gI L b) < 0) := by
    by_cases q : Lt (gI L a) (gI L b)
    · have := (turnZ_lt _ _).2 q; simp [q, this]
    · have : ¬ turnZ (gI L a) (gI L b) < 0 := fun z => q ((turnZ_lt _ _).1 z)
      simp [q, this]
  rw [hR]
  have c1 := H.c1
  have c2 := H.c2
  have hh := H.lt
  have z1 : (0 : Int) ≤ (a : Int) := by omega
  have z2 : (a : Int) < (L.length : Int) := by omega
  have z3 : (0 : Int) ≤ (b : Int) := by omega
  have z4 : (b : Int) < (L.length : Int) := by omega
  clear H hR hk
  generalize turnZ (gI L a) (gI L b) = z at *
  generalize iD (gI L a) = x0 at *
  generalize kN (gI L a) = x1 at *
  generalize kD (gI L a) = x2 at *
  generalize tN (gI L a) = x3 at *
  generalize iD (gI L b) = y0 at *
  generalize kN (gI L b) = y1 at *
  generalize kD (gI L b) = y2 at *
  generalize tN (gI L b) = y3 at *
  generalize L.length = n at *
  have k1 := cell_regrown c1
  have k2 := cell_regrown c2
  have q0 := cell_regrown a0
  have q1 := cell_regrown a1
  have q2 := cell_regrown a2
  have q3 := cell_regrown a3
  have r0 := cell_regrown b0
  have r1 := cell_regrown b1
  have r2 := cell_regrown b2
  have r3 := cell_regrown b3
  have cQ : ∀ d os, Calls Try.prog 30 #[.agg #[.int .i64 x0, .int .i64 x1, .int .i64 x2, .int .i64 x3], .agg #[.int .i64 y0, .int .i64 y1, .int .i64 y2, .int .i64 y3]] (grow (redrawn w d) os) fun e w'' => e = .returned (.int .i64 z) ∧ ∃ p : Regrown, w'' = grow (redrawn w p.d) p.os := fun d os => Calls.regrown_of (c.out _)
  go_enter Try.func83, Try.ntmps83
  go_wp2_with fail
  refine wp_region_quiet_below (by kernel_rfl) (by kernel_rfl) ?_
  repeat (quiet_step (exact cQ _ _))
  refine wpQuiet_nil ?_
  intro _ hw'
  obtain ⟨⟨dq, osq⟩, hw''⟩ := hw'
  subst hw''
  go_wp2_with fail
  go_ret
  exact ⟨rfl, below_regrown w dq osq⟩
end Go.Proofs.Ytgeankdimknmiaa.Hp
