/- Buckets: When tells the first tick. -/
import Derived.Test.YthaiphkmkchhoaaBkJ
namespace Go.Proofs.Ythaiphkmkchhoaa
open Go.RowKit Go.Shelf
open Go.Proofs.Ythaiphkmkchhoaa.Tp (wpIn_held_round)
set_option linter.unusedVariables false
attribute [local go_sem] Oper.semAt_some
def WhenEnd (p r u m : Int) (s : BM.St) (n z : Int) (w : World) (e : Ending) (w' : World) : Prop := ∃ t : Int, e = .returned (.tuple #[.int .i64 t, .int .i64 0]) ∧ BM.IsWhen p r u m s n z t ∧ Below w.heap.size w w'
set_option maxRecDepth 100000 in
set_option maxHeartbeats 8000000 in
theorem bwhen_yes {b : Nat} {p r u m l : Int} {s : BM.St} {w : World} (hB : BktAt w b p r u m l s) (hr : rightB p r u m l = true) (hs : BM.Ok u m s) (n z : Int) (hn : BM.askB s n = true) (hz : BM.sizeB m l z = true) :
    Calls Try.prog 37 #[.pointer (some ⟨b, 0, none⟩), .int .i64 n, .int .i64 z] w (WhenEnd p r u m s n z w) := by
  have hb := rightB_iff hr
  have hq := of_decide_eq_true hn
  have hzz := of_decide_eq_true hz
  obtain ⟨s0, s1, s2, s3, s4, s5⟩ := hs
  have cc := hidd (fun W (h : BktAt W b p r u m l s) => bcheck_any h (by omega) s1 n)
  rw [hn] at cc
  have cs := hidd (fun W (h : BktAt W b p r u m l s) => isSize_any h (by omega) z)
  rw [hz] at cs
  have cT0 := hidd (fun W => till_any z s.2.1 u r s2 (by omega) (by omega) (by omega) (by omega) (by omega) (by omega) W)
  have cT1 := hidd (fun W => till_any z s.2.2 m p s4 (by omega) (by omega) (by omega) (by omega) (by omega) (by omega) W)
  unfold TillEnd at cT0 cT1
  have HF := hidd (fun f h0 h1 h2 => BM.when_of (p := p) (r := r) (u := u) (m := m) (s := s) (n := n) (z := z) (f := f) (by omega) (by omega) (by omega) (by omega) h0 h1 h2)
  obtain ⟨q0, q1⟩ := hq
  obtain ⟨z0, z1⟩ := hzz
  have z2 : z ≤ 2000 := by omega
  have z3 : 0 ≤ z := by omega
  have HB := hidd hB
  have hlt := hB.lt
  have cB := hidd (fun W (h : BktAt W b p r u m l s) => both_any h)
  obtain ⟨W1, hW1⟩ : ∃ W1 : World, ((w.alloc (.cells #[.pointer (some ⟨b, 0, none⟩)] 57)).alloc (.cells #[.int .i64 z] 2)).alloc (.cells #[.int .i64 n] 2) = W1 := ⟨_, rfl⟩
  have HW1 := hidd hW1
  have hb1 : Below w.heap.size w W1 := by rw [← hW1]; (repeat' (first | (with_reducible exact Below.refl _ _) | (with_reducible assumption) | (with_reducible apply Below.setCell) | (with_reducible apply Below.alloc) | (with_reducible apply Below.drew) | (with_reducible apply below_drewN) | (with_reducible refine Below.trans ?_ (Below.mono (by assumption) ?_)) | omega | (simp; done) | (simp; omega)))
  have Q2 : Hid (W1.cell? ⟨w.heap.size, 0, none⟩ = some (.pointer (some ⟨b, 0, none⟩))) := hidd (by rw [← hW1]; simp [go_sem])
  have Q3 : Hid (W1.cell? ⟨w.heap.size + 1, 0, none⟩ = some (.int .i64 z)) := hidd (by rw [← hW1]; simp [go_sem])
  have Q4 : Hid (W1.cell? ⟨w.heap.size + 2, 0, none⟩ = some (.int .i64 n)) := hidd (by rw [← hW1]; simp [go_sem])
  have G4 : Hid (W1.frozen? ⟨w.heap.size + 2, 0, none⟩ = false) := hidd (by rw [← hW1]; simp [go_sem])
  have Z1 : Hid (W1.heap.size = w.heap.size + 3) := hidd (by rw [← hW1]; simp)
  have HB1 := hidd (hB.below hb1)
  have Hb1 := hidd hb1
  clear hW1 hB hb hr hn hz s4 s5 s2 s3 hb1
  refine (callsIn_wide (n := 6)).1 ?_
  refine callsIn_of_wp_marks Try.func37 rfl trivial ?_ rfl
  simp only [Try.ntmps37, List.size_toArray, List.length_cons, List.length_nil, Nat.reduceAdd, Nat.reduceSub, Array.replicate_succ, Array.replicate_zero, List.push_toArray, List.append_toArray, List.nil_append, List.cons_append]
  refine wpIn_wide.2 ?_
  go_wp2_with fail
  refine wp_scope_fwd 0 (fun a' w' => False) rfl ?_ ?_
  case refine_2 => exact fun _ _ h => h.elim
  go_wp2_with fail
  refine (cc.out _ (HB.out.below (by (repeat' (first | (with_reducible exact Below.refl _ _) | (with_reducible assumption) | (with_reducible apply Below.setCell) | (with_reducible apply Below.alloc) | (with_reducible apply Below.drew) | (with_reducible apply below_drewN) | (with_reducible refine Below.trans ?_ (Below.mono (by assumption) ?_)) | omega | (simp; done) | (simp; omega)))))).mono ?_
  rintro e w1 ⟨rfl, rfl⟩
  go_wp2_with fail
  rw [HW1.out]
  refine (cs.out _ HB1.out).mono ?_
  rintro e w1 ⟨rfl, q, rfl⟩
  obtain ⟨W2, hW2⟩ : ∃ W2 : World, W1.drewN q = W2 := ⟨_, rfl⟩
  have b12 : Below W1.heap.size W1 W2 := by rw [← hW2]; exact below_drewN (Below.refl _ _) _
  have y2 : W2.cell? ⟨w.heap.size, 0, none⟩ = some (.pointer (some ⟨b, 0, none⟩)) := by rw [← hW2]; exact Q2.out
  have HB2 := hidd (HB1.out.below b12)
  have Z2 : Hid (W2.heap.size = w.heap.size + 3) := hidd (by rw [← hW2]; exact Z1.out)
  have B12 := hidd b12
  rw [hW2]
  clear hW2 b12
  go_wp2_with fail
  refine (cB.out _ HB2.out).mono ?_
  rintro e w1 ⟨rfl, q2, rfl⟩
  obtain ⟨W0, hW0⟩ : ∃ W0 : World, (W2.alloc (.cells #[.int .i64 s.2.1, .int .i64 u, .int .i64 r, .int .i64 s.2.2, .int .i64 m, .int .i64 p] 112)).drewN q2 = W0 := ⟨_, rfl⟩
  have b20 : Below W2.heap.size W2 W0 := by rw [← hW0]; exact below_drewN ((Below.refl _ _).alloc (Nat.le_refl _) _) _
  have z0' : W0.heap.size = W2.heap.size + 1 := by rw [← hW0]; simp
  have K0 : Hid (KindsAt W0 W2.heap.size p r u m s) := hidd (by rw [← hW0]; exact World.alloc_heap_new W2 _)
  have z1' := Z1.out
  have z2' := Z2.out
  have b10 : Below W1.heap.size W1 W0 := B12.out.trans (b20.mono (by omega))
  have HX2 := hidd ((b10.cell (p := ⟨w.heap.size, 0, none⟩) (by show w.heap.size < _; omega)).trans Q2.out)
  have HX3 := hidd ((b10.cell (p := ⟨w.heap.size + 1, 0, none⟩) (by show w.heap.size + 1 < _; omega)).trans Q3.out)
  have HX4 := hidd ((b10.cell (p := ⟨w.heap.size + 2, 0, none⟩) (by show w.heap.size + 2 < _; omega)).trans Q4.out)
  have GX4 := hidd ((b10.frozen (p := ⟨w.heap.size + 2, 0, none⟩) (by show w.heap.size + 2 < _; omega)).trans G4.out)
  have HB0 := hidd (HB2.out.below b20)
  have HW := hidd (Hb1.out.trans (b10.mono (by omega)))
  have S0 := hidd (show W0.heap.size = w.heap.size + 4 by omega)
  have HA0 : Hid (WhI W0 (w.heap.size + 2) p r u m s n z [] n W0) := hidd ⟨But.refl _ _, by omega, HX4.out, GX4.out, by omega, by omega, (fun i hi => by cases hi), .inl rfl⟩
  clear b20 z0' z1' z2' b10 y2
  rw [hW0]
  clear hW0
  go_wp2_with fail
  refine (wpIn_wide (n := 6)).1 ?_
  have SQ := hidd (both1_in (6 - 1) (by omega) W2.heap.size p r u m s W0 K0.out)
  refine wpIn_rangeFunc_N rfl (by omega) (gf := 56) (lb := #[.pointer (some ⟨W2.heap.size, 0, none⟩)]) rfl trivial (enters_of Try.func56 (by kernel_rfl) rfl)
    SQ.out (fun _ => rfl) (fun pre X => ∃ f, WhI W0 (w.heap.size + 2) p r u m s n z pre f X) (fun s X Y h hb => by obtain ⟨f, h⟩ := h; exact ⟨f, h.below hb⟩) ⟨n, HA0.out⟩ ?a1 ?assign ?body ?done
  case assign =>
    intro l z X K hK
    unfold kindE
    gi_wp2
    exact hK
  case body =>
    rintro l pre i X hi ⟨f, hA⟩ hX0
    have hmix : Try.prog.follows .mixedOrders = true := by kernel_rfl
    have y2 := (hA.but.cell (k := w.heap.size) (by have := S0.out; omega) (by omega) 0).trans HX2.out
    have y3 := (hA.but.cell (k := w.heap.size + 1) (by have := S0.out; omega) (by omega) 0).trans HX3.out
    have hBX := HB0.out.but hA.but (by omega)
    have y5 := hBX.c5
    have l2 : w.heap.size < X.heap.size := by have := S0.out; omega
    have l3 : w.heap.size + 1 < X.heap.size := by have := S0.out; omega
    have l4 : w.heap.size + 2 < X.heap.size := by have := S0.out; omega
    have lb : b < X.heap.size := hBX.lt
    have HX2 := hidd y2
    have HX3 := hidd y3
    have HX5 := hidd y5
    have HA := hidd hA
    clear hA hBX y2 y3 y5 HX4 GX4 HA0
    rcases (show i = 0 ∨ i = 1 by omega) with rfl | rfl
    · have cT := hidd (fun W => cT0.out W)
      simp only [kindV, if_true]
      gi_wp2_with fail
      refine wpIn_held_round (fun Y => Y.cell? ⟨w.heap.size, 0, none⟩ = some (.pointer (some ⟨b, 0, none⟩)) ∧ Y.cell? ⟨w.heap.size + 1, 0, none⟩ = some (.int .i64 z) ∧ Y.cell? ⟨b, 5, none⟩ = some (.int .i64 s.1)) hmix ?_ rfl ⟨HX2.out, HX3.out, HX5.out⟩ (fun hSW => ?_)
      · rintro ⟨_, _, h⟩
        exact h
      refine wpAnyH_take (i := 1) (v := .pointer (some ⟨b, 0, none⟩)) rfl (by kernel_rfl) (by kernel_rfl) (by kernel_rfl) (fun _ _ _ h => h) (Or.inl ⟨by rfl, fun Y hY => by (have y := hY.1; go_simp)⟩) hSW ?_
      simp only [Act.put, List.getElem_toArray, List.getElem_cons_succ, List.getElem_cons_zero, List.setIfInBounds_toArray, List.set_cons_succ, List.set_cons_zero]
      refine wpAnyH_take (i := 2) (v := .pointer (some ⟨b, 0, none⟩)) rfl (by kernel_rfl) (by kernel_rfl) (by kernel_rfl) (fun _ _ _ h => h) (Or.inl ⟨by rfl, fun Y hY => by (go_simp)⟩) hSW ?_
      simp only [Act.put, List.getElem_toArray, List.getElem_cons_succ, List.getElem_cons_zero, List.setIfInBounds_toArray, List.set_cons_succ, List.set_cons_zero]
      refine wpAnyH_take (i := 3) (v := .pointer (some ⟨b, 5, none⟩)) rfl (by kernel_rfl) (by kernel_rfl) (by kernel_rfl) (fun _ _ _ h => h) (Or.inl ⟨by rfl, fun Y hY => by (go_simp)⟩) hSW ?_
      simp only [Act.put, List.getElem_toArray, List.getElem_cons_succ, List.getElem_cons_zero, List.setIfInBounds_toArray, List.set_cons_succ, List.set_cons_zero]
      refine wpAnyH_take (i := 4) (v := .int .i64 s.1) rfl (by kernel_rfl) (by kernel_rfl) (by kernel_rfl) (fun _ _ _ h => h) (Or.inl ⟨by rfl, fun Y hY => by (have y := hY.2.2; go_simp)⟩) hSW ?_
      simp only [Act.put, List.getElem_toArray, List.getElem_cons_succ, List.getElem_cons_zero, List.setIfInBounds_toArray, List.set_cons_succ, List.set_cons_zero]
      refine wpAnyH_take (i := 5) (v := .int .i64 z) rfl (by kernel_rfl) (by kernel_rfl) (by kernel_rfl) (fun _ _ _ h => h) (Or.inl ⟨by rfl, fun Y hY => by (have y := hY.2.1; go_simp)⟩) hSW ?_
      simp only [Act.put, List.getElem_toArray, List.getElem_cons_succ, List.getElem_cons_zero, List.setIfInBounds_toArray, List.set_cons_succ, List.set_cons_zero]
      refine wpAnyH_take (i := 6) (v := .func (.func 57) #[.agg #[.int .i64 s.2.1, .int .i64 u, .int .i64 r]] #[]) rfl (by kernel_rfl) (by kernel_rfl) (by kernel_rfl) (fun _ _ _ h => h) (Or.inl ⟨by rfl, fun Y hY => by (go_simp)⟩) hSW ?_
      simp only [Act.put, List.getElem_toArray, List.getElem_cons_succ, List.getElem_cons_zero, List.setIfInBounds_toArray, List.set_cons_succ, List.set_cons_zero]
      have cX : X.drew.cell? ⟨w.heap.size + 2, 0, none⟩ = some (.int .i64 f) := HA.out.cell
      refine wpAnyH_ready (rs := [0, 7]) (by kernel_rfl) (by simp) ?_
      refine AllReadyH.cons rfl (fun K hK => ?_) (AllReadyH.cons rfl (fun K hK => ?_) AllReadyH.nil)
      · go_simp
        refine hK.out _ _ hSW (fun hS2 => ?_)
        clear hK hSW cX
        refine wpAnyH_ready (rs := [7]) (by kernel_rfl) (by simp) ?_
        refine AllReadyH.cons rfl (fun K hK => ?_) AllReadyH.nil
        go_simp
        refine (cT.out _).mono ?_
        rintro e Y1 ⟨t, rfl, hT, hS1'⟩
        have hS1 : Below X.heap.size X Y1 := Below.trans (Below.drew (Below.refl _ _)) hS1'
        clear hS1'
        have k2 := (hS1.cell (p := ⟨w.heap.size, 0, none⟩) l2).trans HX2.out
        have k3 := (hS1.cell (p := ⟨w.heap.size + 1, 0, none⟩) l3).trans HX3.out
        have k5 := (hS1.cell (p := ⟨b, 5, none⟩) lb).trans HX5.out
        have HA1 := hidd (HA.out.below (hS1.mono (by have := S0.out; omega)))
        have hT0 := hT.1
        have hT1 := hT.2.1
        have HWR : Hid (IntKind.i64.wrap (s.1 + t) = s.1 + t) := hidd (IntWalk.i64_in _ (by omega))
        have HT := hidd hT
        have HS1 := hidd hS1
        clear hT hS1
        refine hK.out _ _ ⟨k2, k3, k5⟩ (fun hS3 => ?_)
        clear hK
        clear hS2
        refine wpAnyH_take (i := 8) (v := .int .i64 (s.1 + t)) rfl (by kernel_rfl) (by kernel_rfl) (by kernel_rfl) (fun _ _ _ h => h) (Or.inl ⟨by rfl, fun Y hY => by (have y := HWR.out; go_simp)⟩) hS3 ?_
        simp only [Act.put, List.getElem_toArray, List.getElem_cons_succ, List.getElem_cons_zero, List.setIfInBounds_toArray, List.set_cons_succ, List.set_cons_zero]
        have ca := HA1.out.cell
        have cf := HA1.out.fz
        have hne : ¬ b = w.heap.size + 2 := by omega
        have HP := hidd (HA1.out.put (i := 0) (by omega) (show BM.TillOf p r u m s z 0 t from HT.out) (by omega))
        by_cases hlt : f < s.1 + t
        · have hm : max f (s.1 + t) = s.1 + t := by omega
          rw [hm] at HP
          refine wpAnyH_take (i := 9) (v := .int .i64 (s.1 + t)) rfl (by kernel_rfl) (by kernel_rfl) (by kernel_rfl) (fun _ _ _ h => h) (Or.inl ⟨by rfl, fun Y hY => by (go_simp)⟩) hS3 ?_
          simp only [Act.put, List.getElem_toArray, List.getElem_cons_succ, List.getElem_cons_zero, List.setIfInBounds_toArray, List.set_cons_succ, List.set_cons_zero]
          clear hm
          refine wpAnyH_ready (rs := [10]) (by kernel_rfl) (by simp) ?_
          refine AllReadyH.cons rfl (fun K hK => ?_) AllReadyH.nil
          go_simp
          refine hK.out _ _ ⟨by go_simp, by go_simp, by go_simp⟩ (fun hSz => ?_)
          clear hK hSz
          (try simp only [Act.put])
          refine wpAnyH_done (by kernel_rfl) ?_ _
          gi_wp2_with fail
          exact ⟨(Tp.Above.below HS1.out).trans (Tp.Above.set _ _ _ (by show w.heap.size + 2 < _; have := S0.out; omega)), _, HP.out⟩
        · have hm : max f (s.1 + t) = f := by omega
          rw [hm] at HP
          refine wpAnyH_take (i := 9) (v := .int .i64 (f)) rfl (by kernel_rfl) (by kernel_rfl) (by kernel_rfl) (fun _ _ _ h => h) (Or.inl ⟨by rfl, fun Y hY => by (go_simp)⟩) hS3 ?_
          simp only [Act.put, List.getElem_toArray, List.getElem_cons_succ, List.getElem_cons_zero, List.setIfInBounds_toArray, List.set_cons_succ, List.set_cons_zero]
          clear hm
          refine wpAnyH_ready (rs := [10]) (by kernel_rfl) (by simp) ?_
          refine AllReadyH.cons rfl (fun K hK => ?_) AllReadyH.nil
          go_simp
          refine hK.out _ _ ⟨by go_simp, by go_simp, by go_simp⟩ (fun hSz => ?_)
          clear hK hSz
          (try simp only [Act.put])
          refine wpAnyH_done (by kernel_rfl) ?_ _
          gi_wp2_with fail
          exact ⟨(Tp.Above.below HS1.out).trans (Tp.Above.set _ _ _ (by show w.heap.size + 2 < _; have := S0.out; omega)), _, HP.out⟩
      · go_simp
        refine (cT.out _).mono ?_
        rintro e Y1 ⟨t, rfl, hT, hS1'⟩
        have hS1 : Below X.heap.size X Y1 := Below.trans (Below.drew (Below.refl _ _)) hS1'
        clear hS1'
        have k2 := (hS1.cell (p := ⟨w.heap.size, 0, none⟩) l2).trans HX2.out
        have k3 := (hS1.cell (p := ⟨w.heap.size + 1, 0, none⟩) l3).trans HX3.out
        have k5 := (hS1.cell (p := ⟨b, 5, none⟩) lb).trans HX5.out
        have HA1 := hidd (HA.out.below (hS1.mono (by have := S0.out; omega)))
        have hT0 := hT.1
        have hT1 := hT.2.1
        have HWR : Hid (IntKind.i64.wrap (s.1 + t) = s.1 + t) := hidd (IntWalk.i64_in _ (by omega))
        have HT := hidd hT
        have HS1 := hidd hS1
        clear hT hS1
        refine hK.out _ _ ⟨k2, k3, k5⟩ (fun hS2 => ?_)
        clear hK
        clear hSW cX
        refine wpAnyH_take (i := 8) (v := .int .i64 (s.1 + t)) rfl (by kernel_rfl) (by kernel_rfl) (by kernel_rfl) (fun _ _ _ h => h) (Or.inl ⟨by rfl, fun Y hY => by (have y := HWR.out; go_simp)⟩) hS2 ?_
        simp only [Act.put, List.getElem_toArray, List.getElem_cons_succ, List.getElem_cons_zero, List.setIfInBounds_toArray, List.set_cons_succ, List.set_cons_zero]
        have ca0 := HA1.out.cell
        refine wpAnyH_ready (rs := [0]) (by kernel_rfl) (by simp) ?_
        refine AllReadyH.cons rfl (fun K hK => ?_) AllReadyH.nil
        go_simp
        refine hK.out _ _ hS2 (fun hS3 => ?_)
        clear hK hS2 ca0
        have ca := HA1.out.cell
        have cf := HA1.out.fz
        have hne : ¬ b = w.heap.size + 2 := by omega
        have HP := hidd (HA1.out.put (i := 0) (by omega) (show BM.TillOf p r u m s z 0 t from HT.out) (by omega))
        by_cases hlt : f < s.1 + t
        · have hm : max f (s.1 + t) = s.1 + t := by omega
          rw [hm] at HP
          refine wpAnyH_take (i := 9) (v := .int .i64 (s.1 + t)) rfl (by kernel_rfl) (by kernel_rfl) (by kernel_rfl) (fun _ _ _ h => h) (Or.inl ⟨by rfl, fun Y hY => by (go_simp)⟩) hS3 ?_
          simp only [Act.put, List.getElem_toArray, List.getElem_cons_succ, List.getElem_cons_zero, List.setIfInBounds_toArray, List.set_cons_succ, List.set_cons_zero]
          clear hm
          refine wpAnyH_ready (rs := [10]) (by kernel_rfl) (by simp) ?_
          refine AllReadyH.cons rfl (fun K hK => ?_) AllReadyH.nil
          go_simp
          refine hK.out _ _ ⟨by go_simp, by go_simp, by go_simp⟩ (fun hSz => ?_)
          clear hK hSz
          (try simp only [Act.put])
          refine wpAnyH_done (by kernel_rfl) ?_ _
          gi_wp2_with fail
          exact ⟨(Tp.Above.below HS1.out).trans (Tp.Above.set _ _ _ (by show w.heap.size + 2 < _; have := S0.out; omega)), _, HP.out⟩
        · have hm : max f (s.1 + t) = f := by omega
          rw [hm] at HP
          refine wpAnyH_take (i := 9) (v := .int .i64 (f)) rfl (by kernel_rfl) (by kernel_rfl) (by kernel_rfl) (fun _ _ _ h => h) (Or.inl ⟨by rfl, fun Y hY => by (go_simp)⟩) hS3 ?_
          simp only [Act.put, List.getElem_toArray, List.getElem_cons_succ, List.getElem_cons_zero, List.setIfInBounds_toArray, List.set_cons_succ, List.set_cons_zero]
          clear hm
          refine wpAnyH_ready (rs := [10]) (by kernel_rfl) (by simp) ?_
          refine AllReadyH.cons rfl (fun K hK => ?_) AllReadyH.nil
          go_simp
          refine hK.out _ _ ⟨by go_simp, by go_simp, by go_simp⟩ (fun hSz => ?_)
          clear hK hSz
          (try simp only [Act.put])
          refine wpAnyH_done (by kernel_rfl) ?_ _
          gi_wp2_with fail
          exact ⟨(Tp.Above.below HS1.out).trans (Tp.Above.set _ _ _ (by show w.heap.size + 2 < _; have := S0.out; omega)), _, HP.out⟩
    · have cT := hidd (fun W => cT1.out W)
      simp only [kindV, Nat.one_ne_zero, if_false]
      gi_wp2_with fail
      refine wpIn_held_round (fun Y => Y.cell? ⟨w.heap.size, 0, none⟩ = some (.pointer (some ⟨b, 0, none⟩)) ∧ Y.cell? ⟨w.heap.size + 1, 0, none⟩ = some (.int .i64 z) ∧ Y.cell? ⟨b, 5, none⟩ = some (.int .i64 s.1)) hmix ?_ rfl ⟨HX2.out, HX3.out, HX5.out⟩ (fun hSW => ?_)
      · rintro ⟨_, _, h⟩
        exact h
      refine wpAnyH_take (i := 1) (v := .pointer (some ⟨b, 0, none⟩)) rfl (by kernel_rfl) (by kernel_rfl) (by kernel_rfl) (fun _ _ _ h => h) (Or.inl ⟨by rfl, fun Y hY => by (have y := hY.1; go_simp)⟩) hSW ?_
      simp only [Act.put, List.getElem_toArray, List.getElem_cons_succ, List.getElem_cons_zero, List.setIfInBounds_toArray, List.set_cons_succ, List.set_cons_zero]
      refine wpAnyH_take (i := 2) (v := .pointer (some ⟨b, 0, none⟩)) rfl (by kernel_rfl) (by kernel_rfl) (by kernel_rfl) (fun _ _ _ h => h) (Or.inl ⟨by rfl, fun Y hY => by (go_simp)⟩) hSW ?_
      simp only [Act.put, List.getElem_toArray, List.getElem_cons_succ, List.getElem_cons_zero, List.setIfInBounds_toArray, List.set_cons_succ, List.set_cons_zero]
      refine wpAnyH_take (i := 3) (v := .pointer (some ⟨b, 5, none⟩)) rfl (by kernel_rfl) (by kernel_rfl) (by kernel_rfl) (fun _ _ _ h => h) (Or.inl ⟨by rfl, fun Y hY => by (go_simp)⟩) hSW ?_
      simp only [Act.put, List.getElem_toArray, List.getElem_cons_succ, List.getElem_cons_zero, List.setIfInBounds_toArray, List.set_cons_succ, List.set_cons_zero]
      refine wpAnyH_take (i := 4) (v := .int .i64 s.1) rfl (by kernel_rfl) (by kernel_rfl) (by kernel_rfl) (fun _ _ _ h => h) (Or.inl ⟨by rfl, fun Y hY => by (have y := hY.2.2; go_simp)⟩) hSW ?_
      simp only [Act.put, List.getElem_toArray, List.getElem_cons_succ, List.getElem_cons_zero, List.setIfInBounds_toArray, List.set_cons_succ, List.set_cons_zero]
      refine wpAnyH_take (i := 5) (v := .int .i64 z) rfl (by kernel_rfl) (by kernel_rfl) (by kernel_rfl) (fun _ _ _ h => h) (Or.inl ⟨by rfl, fun Y hY => by (have y := hY.2.1; go_simp)⟩) hSW ?_
      simp only [Act.put, List.getElem_toArray, List.getElem_cons_succ, List.getElem_cons_zero, List.setIfInBounds_toArray, List.set_cons_succ, List.set_cons_zero]
      refine wpAnyH_take (i := 6) (v := .func (.func 57) #[.agg #[.int .i64 s.2.2, .int .i64 m, .int .i64 p]] #[]) rfl (by kernel_rfl) (by kernel_rfl) (by kernel_rfl) (fun _ _ _ h => h) (Or.inl ⟨by rfl, fun Y hY => by (go_simp)⟩) hSW ?_
      simp only [Act.put, List.getElem_toArray, List.getElem_cons_succ, List.getElem_cons_zero, List.setIfInBounds_toArray, List.set_cons_succ, List.set_cons_zero]
      have cX : X.drew.cell? ⟨w.heap.size + 2, 0, none⟩ = some (.int .i64 f) := HA.out.cell
      refine wpAnyH_ready (rs := [0, 7]) (by kernel_rfl) (by simp) ?_
      refine AllReadyH.cons rfl (fun K hK => ?_) (AllReadyH.cons rfl (fun K hK => ?_) AllReadyH.nil)
      · go_simp
        refine hK.out _ _ hSW (fun hS2 => ?_)
        clear hK hSW cX
        refine wpAnyH_ready (rs := [7]) (by kernel_rfl) (by simp) ?_
        refine AllReadyH.cons rfl (fun K hK => ?_) AllReadyH.nil
        go_simp
        refine (cT.out _).mono ?_
        rintro e Y1 ⟨t, rfl, hT, hS1'⟩
        have hS1 : Below X.heap.size X Y1 := Below.trans (Below.drew (Below.refl _ _)) hS1'
        clear hS1'
        have k2 := (hS1.cell (p := ⟨w.heap.size, 0, none⟩) l2).trans HX2.out
        have k3 := (hS1.cell (p := ⟨w.heap.size + 1, 0, none⟩) l3).trans HX3.out
        have k5 := (hS1.cell (p := ⟨b, 5, none⟩) lb).trans HX5.out
        have HA1 := hidd (HA.out.below (hS1.mono (by have := S0.out; omega)))
        have hT0 := hT.1
        have hT1 := hT.2.1
        have HWR : Hid (IntKind.i64.wrap (s.1 + t) = s.1 + t) := hidd (IntWalk.i64_in _ (by omega))
        have HT := hidd hT
        have HS1 := hidd hS1
        clear hT hS1
        refine hK.out _ _ ⟨k2, k3, k5⟩ (fun hS3 => ?_)
        clear hK
        clear hS2
        refine wpAnyH_take (i := 8) (v := .int .i64 (s.1 + t)) rfl (by kernel_rfl) (by kernel_rfl) (by kernel_rfl) (fun _ _ _ h => h) (Or.inl ⟨by rfl, fun Y hY => by (have y := HWR.out; go_simp)⟩) hS3 ?_
        simp only [Act.put, List.getElem_toArray, List.getElem_cons_succ, List.getElem_cons_zero, List.setIfInBounds_toArray, List.set_cons_succ, List.set_cons_zero]
        have ca := HA1.out.cell
        have cf := HA1.out.fz
        have hne : ¬ b = w.heap.size + 2 := by omega
        have HP := hidd (HA1.out.put (i := 1) (by omega) (show BM.TillOf p r u m s z 1 t from HT.out) (by omega))
        by_cases hlt : f < s.1 + t
        · have hm : max f (s.1 + t) = s.1 + t := by omega
          rw [hm] at HP
          refine wpAnyH_take (i := 9) (v := .int .i64 (s.1 + t)) rfl (by kernel_rfl) (by kernel_rfl) (by kernel_rfl) (fun _ _ _ h => h) (Or.inl ⟨by rfl, fun Y hY => by (go_simp)⟩) hS3 ?_
          simp only [Act.put, List.getElem_toArray, List.getElem_cons_succ, List.getElem_cons_zero, List.setIfInBounds_toArray, List.set_cons_succ, List.set_cons_zero]
          clear hm
          refine wpAnyH_ready (rs := [10]) (by kernel_rfl) (by simp) ?_
          refine AllReadyH.cons rfl (fun K hK => ?_) AllReadyH.nil
          go_simp
          refine hK.out _ _ ⟨by go_simp, by go_simp, by go_simp⟩ (fun hSz => ?_)
          clear hK hSz
          (try simp only [Act.put])
          refine wpAnyH_done (by kernel_rfl) ?_ _
          gi_wp2_with fail
          exact ⟨(Tp.Above.below HS1.out).trans (Tp.Above.set _ _ _ (by show w.heap.size + 2 < _; have := S0.out; omega)), _, HP.out⟩
        · have hm : max f (s.1 + t) = f := by omega
          rw [hm] at HP
          refine wpAnyH_take (i := 9) (v := .int .i64 (f)) rfl (by kernel_rfl) (by kernel_rfl) (by kernel_rfl) (fun _ _ _ h => h) (Or.inl ⟨by rfl, fun Y hY => by (go_simp)⟩) hS3 ?_
          simp only [Act.put, List.getElem_toArray, List.getElem_cons_succ, List.getElem_cons_zero, List.setIfInBounds_toArray, List.set_cons_succ, List.set_cons_zero]
          clear hm
          refine wpAnyH_ready (rs := [10]) (by kernel_rfl) (by simp) ?_
          refine AllReadyH.cons rfl (fun K hK => ?_) AllReadyH.nil
          go_simp
          refine hK.out _ _ ⟨by go_simp, by go_simp, by go_simp⟩ (fun hSz => ?_)
          clear hK hSz
          (try simp only [Act.put])
          refine wpAnyH_done (by kernel_rfl) ?_ _
          gi_wp2_with fail
          exact ⟨(Tp.Above.below HS1.out).trans (Tp.Above.set _ _ _ (by show w.heap.size + 2 < _; have := S0.out; omega)), _, HP.out⟩
      · go_simp
        refine (cT.out _).mono ?_
        rintro e Y1 ⟨t, rfl, hT, hS1'⟩
        have hS1 : Below X.heap.size X Y1 := Below.trans (Below.drew (Below.refl _ _)) hS1'
        clear hS1'
        have k2 := (hS1.cell (p := ⟨w.heap.size, 0, none⟩) l2).trans HX2.out
        have k3 := (hS1.cell (p := ⟨w.heap.size + 1, 0, none⟩) l3).trans HX3.out
        have k5 := (hS1.cell (p := ⟨b, 5, none⟩) lb).trans HX5.out
        have HA1 := hidd (HA.out.below (hS1.mono (by have := S0.out; omega)))
        have hT0 := hT.1
        have hT1 := hT.2.1
        have HWR : Hid (IntKind.i64.wrap (s.1 + t) = s.1 + t) := hidd (IntWalk.i64_in _ (by omega))
        have HT := hidd hT
        have HS1 := hidd hS1
        clear hT hS1
        refine hK.out _ _ ⟨k2, k3, k5⟩ (fun hS2 => ?_)
        clear hK
        clear hSW cX
        refine wpAnyH_take (i := 8) (v := .int .i64 (s.1 + t)) rfl (by kernel_rfl) (by kernel_rfl) (by kernel_rfl) (fun _ _ _ h => h) (Or.inl ⟨by rfl, fun Y hY => by (have y := HWR.out; go_simp)⟩) hS2 ?_
        simp only [Act.put, List.getElem_toArray, List.getElem_cons_succ, List.getElem_cons_zero, List.setIfInBounds_toArray, List.set_cons_succ, List.set_cons_zero]
        have ca0 := HA1.out.cell
        refine wpAnyH_ready (rs := [0]) (by kernel_rfl) (by simp) ?_
        refine AllReadyH.cons rfl (fun K hK => ?_) AllReadyH.nil
        go_simp
        refine hK.out _ _ hS2 (fun hS3 => ?_)
        clear hK hS2 ca0
        have ca := HA1.out.cell
        have cf := HA1.out.fz
        have hne : ¬ b = w.heap.size + 2 := by omega
        have HP := hidd (HA1.out.put (i := 1) (by omega) (show BM.TillOf p r u m s z 1 t from HT.out) (by omega))
        by_cases hlt : f < s.1 + t
        · have hm : max f (s.1 + t) = s.1 + t := by omega
          rw [hm] at HP
          refine wpAnyH_take (i := 9) (v := .int .i64 (s.1 + t)) rfl (by kernel_rfl) (by kernel_rfl) (by kernel_rfl) (fun _ _ _ h => h) (Or.inl ⟨by rfl, fun Y hY => by (go_simp)⟩) hS3 ?_
          simp only [Act.put, List.getElem_toArray, List.getElem_cons_succ, List.getElem_cons_zero, List.setIfInBounds_toArray, List.set_cons_succ, List.set_cons_zero]
          clear hm
          refine wpAnyH_ready (rs := [10]) (by kernel_rfl) (by simp) ?_
          refine AllReadyH.cons rfl (fun K hK => ?_) AllReadyH.nil
          go_simp
          refine hK.out _ _ ⟨by go_simp, by go_simp, by go_simp⟩ (fun hSz => ?_)
          clear hK hSz
          (try simp only [Act.put])
          refine wpAnyH_done (by kernel_rfl) ?_ _
          gi_wp2_with fail
          exact ⟨(Tp.Above.below HS1.out).trans (Tp.Above.set _ _ _ (by show w.heap.size + 2 < _; have := S0.out; omega)), _, HP.out⟩
        · have hm : max f (s.1 + t) = f := by omega
          rw [hm] at HP
          refine wpAnyH_take (i := 9) (v := .int .i64 (f)) rfl (by kernel_rfl) (by kernel_rfl) (by kernel_rfl) (fun _ _ _ h => h) (Or.inl ⟨by rfl, fun Y hY => by (go_simp)⟩) hS3 ?_
          simp only [Act.put, List.getElem_toArray, List.getElem_cons_succ, List.getElem_cons_zero, List.setIfInBounds_toArray, List.set_cons_succ, List.set_cons_zero]
          clear hm
          refine wpAnyH_ready (rs := [10]) (by kernel_rfl) (by simp) ?_
          refine AllReadyH.cons rfl (fun K hK => ?_) AllReadyH.nil
          go_simp
          refine hK.out _ _ ⟨by go_simp, by go_simp, by go_simp⟩ (fun hSz => ?_)
          clear hK hSz
          (try simp only [Act.put])
          refine wpAnyH_done (by kernel_rfl) ?_ _
          gi_wp2_with fail
          exact ⟨(Tp.Above.below HS1.out).trans (Tp.Above.set _ _ _ (by show w.heap.size + 2 < _; have := S0.out; omega)), _, HP.out⟩
  case done =>
    rintro D xs X hD hxs ⟨f, hA⟩ hK
    subst hxs
    have hc := hA.cell
    have HR := hidd (HF.out f hA.ge (fun i hi => by
      rcases (show i = 0 ∨ i = 1 by omega) with rfl | rfl
      · exact hA.all_ 0 (by simp)
      · exact hA.all_ 1 (by simp)) hA.one)
    have HBX := hidd (show Below w.heap.size w X from HW.out.trans (hA.but.below (by omega) (by have := S0.out; omega)))
    have HK := hidd hK
    have HD := hidd hD
    clear hA hK hD SQ HA0
    go_wp2_with fail
    simp only [Exit.jump]
    refine ⟨by simp, .inl ⟨_, _, rfl, run_takeDeferred HK.out, ?_⟩⟩
    have hgp := grownBy_putObj' X D (.deferred none)
    refine ⟨.tuple #[.int .i64 f, .int .i64 0], ?_, f, rfl, HR.out, ?_⟩
    · simp [results, Try.results37, go_sem]
    · exact HBX.out.grown hgp HBX.out.size (fun k e => by cases e; have := HD.out; have := S0.out; omega)
end Go.Proofs.Ythaiphkmkchhoaa
