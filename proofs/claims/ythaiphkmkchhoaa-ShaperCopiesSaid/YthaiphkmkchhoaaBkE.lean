/- Buckets: what there is of both kinds at a tick. -/
import Derived.Test.YthaiphkmkchhoaaBkD
import Derived.Shelf.Abstract
import Derived.Shelf.RegionOpen
namespace Go.Proofs.Ythaiphkmkchhoaa
open Go.RowKit Go.Shelf
open Go.Proofs.Ythaiphkmkchhoaa.Tp (wpIn_held_round)
set_option linter.unusedVariables false
attribute [local go_sem] Oper.semAt_some
structure AtI (W0 : World) (B : Nat) (v0 v1 : Int) (pre : List Nat) (X : World) : Prop where
  but : But B W0 X
  lt : B < W0.heap.size
  ex : ∃ c0 c1 : Value, X.cell? ⟨B, 0, none⟩ = some c0 ∧ X.cell? ⟨B, 1, none⟩ = some c1 ∧ (0 ∈ pre → c0 = .int .i64 v0) ∧ (1 ∈ pre → c1 = .int .i64 v1)
  f0 : X.frozen? ⟨B, 0, none⟩ = false
  f1 : X.frozen? ⟨B, 1, none⟩ = false
section
variable {W0 X Y : World} {B : Nat} {v0 v1 : Int} {pre : List Nat}
theorem AtI.below (h : AtI W0 B v0 v1 pre X) (hb : Below W0.heap.size X Y) : AtI W0 B v0 v1 pre Y := by
  obtain ⟨hbut, hlt, ⟨c0, c1, e0, e1, h0, h1⟩, f0, f1⟩ := h
  exact ⟨⟨hb.os.trans hbut.os, hb.tape.trans hbut.tape, hb.output.trans hbut.output, Nat.le_trans hbut.size hb.size, fun k hk hn => (hb.block k hk).trans (hbut.block k hk hn)⟩, hlt, ⟨c0, c1, (hb.cell (p := ⟨B, 0, none⟩) hlt).trans e0, (hb.cell (p := ⟨B, 1, none⟩) hlt).trans e1, h0, h1⟩, (hb.frozen (p := ⟨B, 0, none⟩) hlt).trans f0, (hb.frozen (p := ⟨B, 1, none⟩) hlt).trans f1⟩
theorem AtI.put0 (h : AtI W0 B v0 v1 pre X) : AtI W0 B v0 v1 (pre ++ [0]) (X.setCell ⟨B, 0, none⟩ (.int .i64 v0)) := by
  obtain ⟨hbut, hlt, ⟨c0, c1, e0, e1, h0, h1⟩, f0, f1⟩ := h
  refine ⟨hbut.trans (But.set _ _ _), hlt, ⟨.int .i64 v0, c1, World.cell?_setCell_same' _ _ _ (by rw [e0]; rfl), (World.cell?_setCell_other _ _ _ _ (fun e => by cases e)).trans e1, fun _ => rfl, fun hm => h1 (by simpa using hm)⟩, (World.frozen?_setCell _ _ _ _).trans f0, (World.frozen?_setCell _ _ _ _).trans f1⟩
theorem AtI.put1 (h : AtI W0 B v0 v1 pre X) : AtI W0 B v0 v1 (pre ++ [1]) (X.setCell ⟨B, 1, none⟩ (.int .i64 v1)) := by
  obtain ⟨hbut, hlt, ⟨c0, c1, e0, e1, h0, h1⟩, f0, f1⟩ := h
  refine ⟨hbut.trans (But.set _ _ _), hlt, ⟨c0, .int .i64 v1, (World.cell?_setCell_other _ _ _ _ (fun e => by cases e)).trans e0, World.cell?_setCell_same' _ _ _ (by rw [e1]; rfl), fun hm => h0 (by simpa using hm), fun _ => rfl⟩, (World.frozen?_setCell _ _ _ _).trans f0, (World.frozen?_setCell _ _ _ _).trans f1⟩
end
set_option maxRecDepth 100000 in
set_option maxHeartbeats 4000000 in
theorem at_any {b : Nat} {p r u m l : Int} {s : BM.St} {w : World} (hB : BktAt w b p r u m l s) (hr : rightB p r u m l = true) (hs : BM.Ok u m s) (n : Int) (hn : BM.askB s n = true) :
    Calls Try.prog 47 #[.pointer (some ⟨b, 0, none⟩), .int .i64 n] w fun e w' => e = .returned (.agg #[.int .i64 (BM.lev0 r u s n), .int .i64 (BM.lev1 p m s n)]) ∧ Below w.heap.size w w' := by
  have hq := of_decide_eq_true hn
  have hb := rightB_iff hr
  obtain ⟨s0, s1, s2, s3, s4, s5⟩ := hs
  have hd : IntKind.i64.wrap (n - s.1) = n - s.1 := IntWalk.i64_in _ (by omega)
  have cL0 := hidd (fun W => later_any s.2.1 u r (n - s.1) s2 (by omega) (by omega) (by omega) (by omega) (by omega) W)
  have cL1 := hidd (fun W => later_any s.2.2 m p (n - s.1) s4 (by omega) (by omega) (by omega) (by omega) (by omega) W)
  have hv0 := hidd (show BM.later s.2.1 u r (n - s.1) = BM.lev0 r u s n from rfl)
  have hv1 := hidd (show BM.later s.2.2 m p (n - s.1) = BM.lev1 p m s n from rfl)
  rw [hv0.out] at cL0
  rw [hv1.out] at cL1
  have HD := hidd hd
  have nb : Hid (-9223372036854775808 ≤ n - s.1 ∧ n - s.1 ≤ 9223372036854775807) := hidd (by omega)
  clear hv0 hv1 hq hb hd hn hr s0 s1 s2 s3 s4 s5
  generalize BM.lev0 r u s n = v0 at *
  generalize BM.lev1 p m s n = v1 at *
  have HB := hidd hB
  have hlt := hB.lt
  have cB := hidd (fun W (h : BktAt W b p r u m l s) => both_any h)
  obtain ⟨W1, hW1⟩ : ∃ W1 : World, (((w.alloc (.cells #[.pointer (some ⟨b, 0, none⟩)] 57)).alloc (.cells #[.int .i64 n] 2)).alloc (.cells #[.int .i64 0, .int .i64 0] 85)).alloc (.cells #[.int .i64 0, .int .i64 0] 85) = W1 := ⟨_, rfl⟩
  have HW1 := hidd hW1
  have hb1 : Below w.heap.size w W1 := by rw [← hW1]; (repeat' (first | (with_reducible exact Below.refl _ _) | (with_reducible assumption) | (with_reducible apply Below.setCell) | (with_reducible apply Below.alloc) | (with_reducible apply Below.drew) | (with_reducible apply below_drewN) | (with_reducible refine Below.trans ?_ (Below.mono (by assumption) ?_)) | omega | (simp; done) | (simp; omega)))
  have q2 : W1.cell? ⟨w.heap.size, 0, none⟩ = some (.pointer (some ⟨b, 0, none⟩)) := by rw [← hW1]; simp [go_sem]
  have q3 : W1.cell? ⟨w.heap.size + 1, 0, none⟩ = some (.int .i64 n) := by rw [← hW1]; simp [go_sem]
  have q40 : W1.cell? ⟨w.heap.size + 2, 0, none⟩ = some (.int .i64 0) := by rw [← hW1]; simp [go_sem]
  have q41 : W1.cell? ⟨w.heap.size + 2, 1, none⟩ = some (.int .i64 0) := by rw [← hW1]; simp [go_sem]
  have g40 : W1.frozen? ⟨w.heap.size + 2, 0, none⟩ = false := by rw [← hW1]; simp [go_sem]
  have g41 : W1.frozen? ⟨w.heap.size + 2, 1, none⟩ = false := by rw [← hW1]; simp [go_sem]
  have q50 : W1.cell? ⟨w.heap.size + 3, 0, none⟩ = some (.int .i64 0) := by rw [← hW1]; simp [go_sem]
  have q51 : W1.cell? ⟨w.heap.size + 3, 1, none⟩ = some (.int .i64 0) := by rw [← hW1]; simp [go_sem]
  have g50 : W1.frozen? ⟨w.heap.size + 3, 0, none⟩ = false := by rw [← hW1]; simp [go_sem]
  have g51 : W1.frozen? ⟨w.heap.size + 3, 1, none⟩ = false := by rw [← hW1]; simp [go_sem]
  have z1 : W1.heap.size = w.heap.size + 4 := by rw [← hW1]; simp
  have hB1 : BktAt W1 b p r u m l s := hB.below hb1
  clear hW1 hB
  refine (callsIn_wide (n := 6)).1 ?_
  refine callsIn_of_wp_marks Try.func47 rfl trivial ?_ rfl
  simp only [Try.ntmps47, List.size_toArray, List.length_cons, List.length_nil, Nat.reduceAdd, Nat.reduceSub, Array.replicate_succ, Array.replicate_zero, List.push_toArray, List.append_toArray, List.nil_append, List.cons_append]
  refine wpIn_wide.2 ?_
  have Z1 := hidd z1
  clear z1
  go_wp2_with fail
  have hX := cB.out _ (show BktAt ((((w.alloc (.cells #[.pointer (some ⟨b, 0, none⟩)] 57)).alloc (.cells #[.int .i64 n] 2)).alloc (.cells #[.int .i64 0, .int .i64 0] 85)).alloc (.cells #[.int .i64 0, .int .i64 0] 85)) b p r u m l s from by rw [HW1.out]; exact hB1)
  rw [HW1.out] at hX
  rw [HW1.out]
  refine hX.mono ?_
  rintro e w1 ⟨rfl, q, rfl⟩
  clear hX
  obtain ⟨W0, hW0⟩ : ∃ W0 : World, (W1.alloc (.cells #[.int .i64 s.2.1, .int .i64 u, .int .i64 r, .int .i64 s.2.2, .int .i64 m, .int .i64 p] 112)).drewN q = W0 := ⟨_, rfl⟩
  have b0 : Below W1.heap.size W1 W0 := by rw [← hW0]; exact below_drewN ((Below.refl _ _).alloc (Nat.le_refl _) _) _
  have z0 : W0.heap.size = W1.heap.size + 1 := by rw [← hW0]; simp
  have K0 : Hid (KindsAt W0 W1.heap.size p r u m s) := hidd (by rw [← hW0]; exact World.alloc_heap_new W1 _)
  have z1 := Z1.out
  have q2 := (b0.cell (p := ⟨w.heap.size, 0, none⟩) (by show w.heap.size < _; omega)).trans q2
  have q3 := (b0.cell (p := ⟨w.heap.size + 1, 0, none⟩) (by show w.heap.size + 1 < _; omega)).trans q3
  have q40 := (b0.cell (p := ⟨w.heap.size + 2, 0, none⟩) (by show w.heap.size + 2 < _; omega)).trans q40
  have q41 := (b0.cell (p := ⟨w.heap.size + 2, 1, none⟩) (by show w.heap.size + 2 < _; omega)).trans q41
  have g40 := (b0.frozen (p := ⟨w.heap.size + 2, 0, none⟩) (by show w.heap.size + 2 < _; omega)).trans g40
  have g41 := (b0.frozen (p := ⟨w.heap.size + 2, 1, none⟩) (by show w.heap.size + 2 < _; omega)).trans g41
  have q50 := (b0.cell (p := ⟨w.heap.size + 3, 0, none⟩) (by show w.heap.size + 3 < _; omega)).trans q50
  have q51 := (b0.cell (p := ⟨w.heap.size + 3, 1, none⟩) (by show w.heap.size + 3 < _; omega)).trans q51
  have g50 := (b0.frozen (p := ⟨w.heap.size + 3, 0, none⟩) (by show w.heap.size + 3 < _; omega)).trans g50
  have g51 := (b0.frozen (p := ⟨w.heap.size + 3, 1, none⟩) (by show w.heap.size + 3 < _; omega)).trans g51
  have HB0 := hidd (hB1.below b0)
  have HW := hidd (hb1.trans (b0.mono (by omega)))
  have HA0 : Hid (AtI W0 (w.heap.size + 3) v0 v1 [] W0) := hidd ⟨But.refl _ _, by omega, ⟨_, _, q50, q51, by simp, by simp⟩, g50, g51⟩
  have Q2 := hidd q2
  have Q3 := hidd q3
  have Q40 := hidd q40
  have Q41 := hidd q41
  have G40 := hidd g40
  have G41 := hidd g41
  have Z0 := hidd z0
  have S0 := hidd (show W0.heap.size = w.heap.size + 5 by omega)
  clear hB1 hb1 b0 q2 q3 q40 q41 g40 g41 q50 q51 g50 g51 z0 z1
  rw [hW0]
  clear hW0
  go_wp2_with fail
  refine (wpIn_wide (n := 6)).1 ?_
  have SQ := hidd (both1_in (6 - 1) (by omega) W1.heap.size p r u m s W0 K0.out)
  refine wpIn_rangeFunc_N rfl (by omega) (gf := 56) (lb := #[.pointer (some ⟨W1.heap.size, 0, none⟩)]) rfl trivial (enters_of Try.func56 (by kernel_rfl) rfl)
    SQ.out (fun _ => rfl) (fun pre X => AtI W0 (w.heap.size + 3) v0 v1 pre X) (fun s X Y h hb => h.below hb) HA0.out ?a1 ?assign ?body ?done
  case assign =>
    intro l z X K hK
    unfold kindE
    gi_wp2
    exact hK
  case body =>
    intro l pre i X hi hA hX0
    have hmix : Try.prog.follows .mixedOrders = true := by kernel_rfl
    have y2 := (hA.but.cell (k := w.heap.size) (by have := S0.out; omega) (by omega) 0).trans Q2.out
    have y3 := (hA.but.cell (k := w.heap.size + 1) (by have := S0.out; omega) (by omega) 0).trans Q3.out
    have hBX := HB0.out.but hA.but (by omega)
    have y5 := hBX.c5
    have l2 : w.heap.size < X.heap.size := by have := S0.out; omega
    have l3 : w.heap.size + 1 < X.heap.size := by have := S0.out; omega
    have l5 : w.heap.size + 3 < X.heap.size := by have := S0.out; omega
    have lb : b < X.heap.size := hBX.lt
    have HX2 := hidd y2
    have HX3 := hidd y3
    have HX5 := hidd y5
    have HA := hidd hA
    clear hA hBX y2 y3 y5
    rcases (show i = 0 ∨ i = 1 by omega) with rfl | rfl
    · simp only [kindV, if_true]
      gi_wp2_with fail
      refine wpIn_held_round (fun Y => Y.cell? ⟨w.heap.size, 0, none⟩ = some (.pointer (some ⟨b, 0, none⟩)) ∧ Y.cell? ⟨w.heap.size + 1, 0, none⟩ = some (.int .i64 n) ∧ Y.cell? ⟨b, 5, none⟩ = some (.int .i64 s.1)) hmix ?_ rfl ⟨HX2.out, HX3.out, HX5.out⟩ (fun hSW => ?_)
      · rintro ⟨_, _, h⟩
        exact h
      refine wpAnyH_take (i := 0) (v := .int .i64 0) rfl (by kernel_rfl) (by kernel_rfl) (by kernel_rfl) (fun _ _ _ h => h) (Or.inl ⟨by rfl, fun Y hY => by (go_simp)⟩) hSW ?_
      simp only [Act.put, List.getElem_toArray, List.getElem_cons_zero, List.setIfInBounds_toArray, List.set_cons_succ, List.set_cons_zero]
      refine wpAnyH_take (i := 1) (v := .func (.func 57) #[.agg #[.int .i64 s.2.1, .int .i64 u, .int .i64 r]] #[]) rfl (by kernel_rfl) (by kernel_rfl) (by kernel_rfl) (fun _ _ _ h => h) (Or.inl ⟨by rfl, fun Y hY => by (go_simp)⟩) hSW ?_
      simp only [Act.put, List.getElem_toArray, List.getElem_cons_succ, List.getElem_cons_zero, List.setIfInBounds_toArray, List.set_cons_succ, List.set_cons_zero]
      refine wpAnyH_take (i := 2) (v := .int .i64 n) rfl (by kernel_rfl) (by kernel_rfl) (by kernel_rfl) (fun _ _ _ h => h) (Or.inl ⟨by rfl, fun Y hY => by (have y := hY.2.1; go_simp)⟩) hSW ?_
      simp only [Act.put, List.getElem_toArray, List.getElem_cons_succ, List.getElem_cons_zero, List.setIfInBounds_toArray, List.set_cons_succ, List.set_cons_zero]
      refine wpAnyH_take (i := 3) (v := .pointer (some ⟨b, 0, none⟩)) rfl (by kernel_rfl) (by kernel_rfl) (by kernel_rfl) (fun _ _ _ h => h) (Or.inl ⟨by rfl, fun Y hY => by (have y := hY.1; go_simp)⟩) hSW ?_
      simp only [Act.put, List.getElem_toArray, List.getElem_cons_succ, List.getElem_cons_zero, List.setIfInBounds_toArray, List.set_cons_succ, List.set_cons_zero]
      refine wpAnyH_take (i := 4) (v := .pointer (some ⟨b, 0, none⟩)) rfl (by kernel_rfl) (by kernel_rfl) (by kernel_rfl) (fun _ _ _ h => h) (Or.inl ⟨by rfl, fun Y hY => by (go_simp)⟩) hSW ?_
      simp only [Act.put, List.getElem_toArray, List.getElem_cons_succ, List.getElem_cons_zero, List.setIfInBounds_toArray, List.set_cons_succ, List.set_cons_zero]
      refine wpAnyH_take (i := 5) (v := .pointer (some ⟨b, 5, none⟩)) rfl (by kernel_rfl) (by kernel_rfl) (by kernel_rfl) (fun _ _ _ h => h) (Or.inl ⟨by rfl, fun Y hY => by (go_simp)⟩) hSW ?_
      simp only [Act.put, List.getElem_toArray, List.getElem_cons_succ, List.getElem_cons_zero, List.setIfInBounds_toArray, List.set_cons_succ, List.set_cons_zero]
      refine wpAnyH_take (i := 6) (v := .int .i64 s.1) rfl (by kernel_rfl) (by kernel_rfl) (by kernel_rfl) (fun _ _ _ h => h) (Or.inl ⟨by rfl, fun Y hY => by (have y := hY.2.2; go_simp)⟩) hSW ?_
      simp only [Act.put, List.getElem_toArray, List.getElem_cons_succ, List.getElem_cons_zero, List.setIfInBounds_toArray, List.set_cons_succ, List.set_cons_zero]
      refine wpAnyH_take (i := 7) (v := .int .i64 (n - s.1)) rfl (by kernel_rfl) (by kernel_rfl) (by kernel_rfl) (fun _ _ _ h => h) (Or.inl ⟨by rfl, fun Y hY => by (have y := HD.out; go_simp)⟩) hSW ?_
      simp only [Act.put, List.getElem_toArray, List.getElem_cons_succ, List.getElem_cons_zero, List.setIfInBounds_toArray, List.set_cons_succ, List.set_cons_zero]
      refine wpAnyH_ready (rs := [8]) (by kernel_rfl) (by simp) ?_
      refine AllReadyH.cons rfl (fun K hK => ?_) AllReadyH.nil
      go_simp
      refine (cL0.out _).mono ?_
      rintro e Y1 ⟨rfl, q1, hY1⟩
      have hS1 : Below X.heap.size X Y1 := by rw [hY1]; exact below_drewN ((Below.drew (Below.refl _ _)).alloc (Nat.le_refl _) _) _
      clear hY1
      have k2 := (hS1.cell (p := ⟨w.heap.size, 0, none⟩) l2).trans HX2.out
      have k3 := (hS1.cell (p := ⟨w.heap.size + 1, 0, none⟩) l3).trans HX3.out
      have k5 := (hS1.cell (p := ⟨b, 5, none⟩) lb).trans HX5.out
      refine hK.out _ _ ⟨k2, k3, k5⟩ (fun hS2 => ?_)
      clear hK hSW
      refine wpAnyH_take (i := 9) (v := .pointer (some ⟨w.heap.size + 3, 0, none⟩)) rfl (by kernel_rfl) (by kernel_rfl) (by kernel_rfl) (fun _ _ _ h => h) (Or.inl ⟨by rfl, fun Y hY => by (go_simp)⟩) hS2 ?_
      simp only [Act.put, List.getElem_toArray, List.getElem_cons_succ, List.getElem_cons_zero, List.setIfInBounds_toArray, List.set_cons_succ, List.set_cons_zero]
      clear hS2
      have HA1 := hidd (HA.out.below (hS1.mono (by have := S0.out; omega)))
      obtain ⟨c0, c1, e0, e1, -, -⟩ := HA1.out.ex
      have f0 := HA1.out.f0
      have f1 := HA1.out.f1
      have hne : ¬ b = w.heap.size + 3 := by omega
      have HS1 := hidd hS1
      clear hS1
      refine wpAnyH_ready (rs := [10]) (by kernel_rfl) (by simp) ?_
      refine AllReadyH.cons rfl (fun K hK => ?_) AllReadyH.nil
      go_simp
      refine hK.out _ _ ⟨by go_simp, by go_simp, by go_simp⟩ (fun hS2 => ?_)
      clear hK hS2
      (try simp only [Act.put])
      refine wpAnyH_done (by kernel_rfl) ?_ _
      gi_wp2_with fail
      refine ⟨(Tp.Above.below HS1.out).trans (Tp.Above.set _ _ _ (by show w.heap.size + 3 < _; have := S0.out; omega)), HA1.out.put0⟩
    · simp only [kindV, Nat.one_ne_zero, if_false]
      gi_wp2_with fail
      refine wpIn_held_round (fun Y => Y.cell? ⟨w.heap.size, 0, none⟩ = some (.pointer (some ⟨b, 0, none⟩)) ∧ Y.cell? ⟨w.heap.size + 1, 0, none⟩ = some (.int .i64 n) ∧ Y.cell? ⟨b, 5, none⟩ = some (.int .i64 s.1)) hmix ?_ rfl ⟨HX2.out, HX3.out, HX5.out⟩ (fun hSW => ?_)
      · rintro ⟨_, _, h⟩
        exact h
      refine wpAnyH_take (i := 0) (v := .int .i64 1) rfl (by kernel_rfl) (by kernel_rfl) (by kernel_rfl) (fun _ _ _ h => h) (Or.inl ⟨by rfl, fun Y hY => by (go_simp)⟩) hSW ?_
      simp only [Act.put, List.getElem_toArray, List.getElem_cons_zero, List.setIfInBounds_toArray, List.set_cons_succ, List.set_cons_zero]
      refine wpAnyH_take (i := 1) (v := .func (.func 57) #[.agg #[.int .i64 s.2.2, .int .i64 m, .int .i64 p]] #[]) rfl (by kernel_rfl) (by kernel_rfl) (by kernel_rfl) (fun _ _ _ h => h) (Or.inl ⟨by rfl, fun Y hY => by (go_simp)⟩) hSW ?_
      simp only [Act.put, List.getElem_toArray, List.getElem_cons_succ, List.getElem_cons_zero, List.setIfInBounds_toArray, List.set_cons_succ, List.set_cons_zero]
      refine wpAnyH_take (i := 2) (v := .int .i64 n) rfl (by kernel_rfl) (by kernel_rfl) (by kernel_rfl) (fun _ _ _ h => h) (Or.inl ⟨by rfl, fun Y hY => by (have y := hY.2.1; go_simp)⟩) hSW ?_
      simp only [Act.put, List.getElem_toArray, List.getElem_cons_succ, List.getElem_cons_zero, List.setIfInBounds_toArray, List.set_cons_succ, List.set_cons_zero]
      refine wpAnyH_take (i := 3) (v := .pointer (some ⟨b, 0, none⟩)) rfl (by kernel_rfl) (by kernel_rfl) (by kernel_rfl) (fun _ _ _ h => h) (Or.inl ⟨by rfl, fun Y hY => by (have y := hY.1; go_simp)⟩) hSW ?_
      simp only [Act.put, List.getElem_toArray, List.getElem_cons_succ, List.getElem_cons_zero, List.setIfInBounds_toArray, List.set_cons_succ, List.set_cons_zero]
      refine wpAnyH_take (i := 4) (v := .pointer (some ⟨b, 0, none⟩)) rfl (by kernel_rfl) (by kernel_rfl) (by kernel_rfl) (fun _ _ _ h => h) (Or.inl ⟨by rfl, fun Y hY => by (go_simp)⟩) hSW ?_
      simp only [Act.put, List.getElem_toArray, List.getElem_cons_succ, List.getElem_cons_zero, List.setIfInBounds_toArray, List.set_cons_succ, List.set_cons_zero]
      refine wpAnyH_take (i := 5) (v := .pointer (some ⟨b, 5, none⟩)) rfl (by kernel_rfl) (by kernel_rfl) (by kernel_rfl) (fun _ _ _ h => h) (Or.inl ⟨by rfl, fun Y hY => by (go_simp)⟩) hSW ?_
      simp only [Act.put, List.getElem_toArray, List.getElem_cons_succ, List.getElem_cons_zero, List.setIfInBounds_toArray, List.set_cons_succ, List.set_cons_zero]
      refine wpAnyH_take (i := 6) (v := .int .i64 s.1) rfl (by kernel_rfl) (by kernel_rfl) (by kernel_rfl) (fun _ _ _ h => h) (Or.inl ⟨by rfl, fun Y hY => by (have y := hY.2.2; go_simp)⟩) hSW ?_
      simp only [Act.put, List.getElem_toArray, List.getElem_cons_succ, List.getElem_cons_zero, List.setIfInBounds_toArray, List.set_cons_succ, List.set_cons_zero]
      refine wpAnyH_take (i := 7) (v := .int .i64 (n - s.1)) rfl (by kernel_rfl) (by kernel_rfl) (by kernel_rfl) (fun _ _ _ h => h) (Or.inl ⟨by rfl, fun Y hY => by (have y := HD.out; go_simp)⟩) hSW ?_
      simp only [Act.put, List.getElem_toArray, List.getElem_cons_succ, List.getElem_cons_zero, List.setIfInBounds_toArray, List.set_cons_succ, List.set_cons_zero]
      refine wpAnyH_ready (rs := [8]) (by kernel_rfl) (by simp) ?_
      refine AllReadyH.cons rfl (fun K hK => ?_) AllReadyH.nil
      go_simp
      refine (cL1.out _).mono ?_
      rintro e Y1 ⟨rfl, q1, hY1⟩
      have hS1 : Below X.heap.size X Y1 := by rw [hY1]; exact below_drewN ((Below.drew (Below.refl _ _)).alloc (Nat.le_refl _) _) _
      clear hY1
      have k2 := (hS1.cell (p := ⟨w.heap.size, 0, none⟩) l2).trans HX2.out
      have k3 := (hS1.cell (p := ⟨w.heap.size + 1, 0, none⟩) l3).trans HX3.out
      have k5 := (hS1.cell (p := ⟨b, 5, none⟩) lb).trans HX5.out
      refine hK.out _ _ ⟨k2, k3, k5⟩ (fun hS2 => ?_)
      clear hK hSW
      refine wpAnyH_take (i := 9) (v := .pointer (some ⟨w.heap.size + 3, 1, none⟩)) rfl (by kernel_rfl) (by kernel_rfl) (by kernel_rfl) (fun _ _ _ h => h) (Or.inl ⟨by rfl, fun Y hY => by (go_simp)⟩) hS2 ?_
      simp only [Act.put, List.getElem_toArray, List.getElem_cons_succ, List.getElem_cons_zero, List.setIfInBounds_toArray, List.set_cons_succ, List.set_cons_zero]
      clear hS2
      have HA1 := hidd (HA.out.below (hS1.mono (by have := S0.out; omega)))
      obtain ⟨c0, c1, e0, e1, -, -⟩ := HA1.out.ex
      have f0 := HA1.out.f0
      have f1 := HA1.out.f1
      have hne : ¬ b = w.heap.size + 3 := by omega
      have HS1 := hidd hS1
      clear hS1
      refine wpAnyH_ready (rs := [10]) (by kernel_rfl) (by simp) ?_
      refine AllReadyH.cons rfl (fun K hK => ?_) AllReadyH.nil
      go_simp
      refine hK.out _ _ ⟨by go_simp, by go_simp, by go_simp⟩ (fun hS2 => ?_)
      clear hK hS2
      (try simp only [Act.put])
      refine wpAnyH_done (by kernel_rfl) ?_ _
      gi_wp2_with fail
      refine ⟨(Tp.Above.below HS1.out).trans (Tp.Above.set _ _ _ (by show w.heap.size + 3 < _; have := S0.out; omega)), HA1.out.put1⟩
  case done =>
    intro D xs X hD hxs hA hK
    subst hxs
    obtain ⟨c0, c1, e0, e1, h0, h1⟩ := hA.ex
    obtain rfl := h0 (by simp)
    obtain rfl := h1 (by simp)
    have s0 := S0.out
    have d0 := (hA.but.cell (k := w.heap.size + 2) (by omega) (by omega) 0).trans Q40.out
    have d1 := (hA.but.cell (k := w.heap.size + 2) (by omega) (by omega) 1).trans Q41.out
    have kb := hA.but.block (w.heap.size + 2) (by omega) (by omega)
    have k0 := (World.frozen?_of_block (a := ⟨w.heap.size + 2, 0, none⟩) kb).trans G40.out
    have k1 := (World.frozen?_of_block (a := ⟨w.heap.size + 2, 1, none⟩) kb).trans G41.out
    have HBX := hidd (show Below w.heap.size w X from HW.out.trans (hA.but.below (by omega) (by omega)))
    have HK := hidd hK
    have HD := hidd hD
    have S0 := hidd s0
    clear hA hK hD s0 h0 h1 SQ kb
    go_wp2_with fail
    have hne : D ≠ w.heap.size + 2 := by have := HD.out; have := S0.out; omega
    obtain ⟨Z, hZ⟩ : ∃ Z : World, (X.setCell ⟨w.heap.size + 2, 0, none⟩ (.int .i64 v0)).setCell ⟨w.heap.size + 2, 1, none⟩ (.int .i64 v1) = Z := ⟨_, rfl⟩
    have HKS : Z.heap[D]? = some (.deferred (some [])) := by rw [← hZ]; exact (Below.heap_setCell _ _ _ _ hne).trans ((Below.heap_setCell _ _ _ _ hne).trans HK.out)
    have g0 : Z.cell? ⟨w.heap.size + 2, 0, none⟩ = some (.int .i64 v0) := by
      rw [← hZ]
      exact (World.cell?_setCell_other _ _ _ _ (fun e => by cases e)).trans (World.cell?_setCell_same' _ _ _ (by rw [d0]; rfl))
    have g1 : Z.cell? ⟨w.heap.size + 2, 1, none⟩ = some (.int .i64 v1) := by
      rw [← hZ]
      exact World.cell?_setCell_same' _ _ _ (by rw [World.cell?_setCell_other _ _ _ _ (fun e => by cases e), d1]; rfl)
    have q1 : Below w.heap.size w Z := by rw [← hZ]; exact (HBX.out.setCell (p := ⟨w.heap.size + 2, 0, none⟩) (Nat.le_add_right _ _) _).setCell (p := ⟨w.heap.size + 2, 1, none⟩) (Nat.le_add_right _ _) _
    rw [hZ]
    clear hZ
    refine ⟨by simp, .inl ⟨_, _, rfl, run_takeDeferred HKS, ?_⟩⟩
    have hgp := grownBy_putObj' Z D (.deferred none)
    have hp0 := cell_kept g0 hgp (fun r e => by cases e; exact ⟨_, HKS, rfl⟩)
    have hp1 := cell_kept g1 hgp (fun r e => by cases e; exact ⟨_, HKS, rfl⟩)
    refine ⟨.agg #[.int .i64 v0, .int .i64 v1], ?_, rfl, ?_⟩
    · simp [results, Try.results47, go_sem, hp0, hp1]
    · exact q1.grown hgp q1.size (fun k e => by cases e; have := HD.out; have := S0.out; omega)
end Go.Proofs.Ythaiphkmkchhoaa
