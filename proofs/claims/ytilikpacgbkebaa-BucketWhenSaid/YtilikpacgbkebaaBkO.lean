/- Buckets: BucketWhen's walk. -/
import Derived.Test.YtilikpacgbkebaaBkN0
namespace Go.Proofs.Ytilikpacgbkebaa
open Go.RowKit
set_option linter.unusedVariables false
namespace BM
theorem when_fit {p r u m l : Int} {s : St} {n z t : Int} (h : IsWhen p r u m s n z t) (hn : s.1 ≤ n) (hz : sizeB m l z = true) (ht : t ≤ 2147483647) : (step p r u m l s t z).2.1 = true ∧ (step p r u m l s t z).2.2 = 0 := by
  obtain ⟨h0, h1, h2, h3⟩ := h
  have e : step p r u m l s t z = ((t, lev0 r u s t - z, lev1 p m s t - z), true, 0) := by
    unfold step
    rw [if_pos (show askB s t = true from decide_eq_true ⟨by omega, ht⟩), if_pos (by unfold fitB; rw [hz, decide_eq_true h2]; rfl)]
  rw [e]
  exact ⟨rfl, rfl⟩
theorem when_early {p r u m l : Int} {s : St} {n z t k : Int} (h : IsWhen p r u m s n z t) (hn : s.1 ≤ n) (hk : n ≤ k) (hkt : k < t) (ht : t ≤ 2147483647) : (step p r u m l s k z).2.1 = false ∧ (step p r u m l s k z).2.2 = 0 := by
  obtain ⟨h0, h1, h2, h3⟩ := h
  have e : step p r u m l s k z = ((k, lev0 r u s k, lev1 p m s k), false, 0) := by
    unfold step
    rw [if_pos (show askB s k = true from decide_eq_true ⟨by omega, by omega⟩), if_neg (by unfold fitB; rw [decide_eq_false (h3 k hk hkt)]; simp)]
  rw [e]
  exact ⟨rfl, rfl⟩
end BM
set_option maxRecDepth 100000 in
set_option maxHeartbeats 8000000 in
theorem when12_walk (p r u m l : Int) (A : Option Addr) (L : List (Int × Int)) (ca : Nat) (x0 x1 : Int) (hL : L.length ≤ maxLen) (w : World) (lL : Lie sendV 2 w w.heap.size A L) :
    Calls Try.prog 8 #[.agg #[.int .i64 p, .int .i64 r, .int .i64 u, .int .i64 m, .int .i64 l], .slice A L.length ca, .agg #[.int .i64 x0, .int .i64 x1]] w fun e w' => e = .returned (.bool true) ∧ Below w.heap.size w w' := by
  have cK := hidd (fun W => known12_any W)
  have HL := hidd lL
  unfold maxLen at hL
  clear lL
  cases hR : rightB p r u m l
  · have cN := hidd (fun W => bnew_no p r u m l hR W)
    generalize hNL : L.length = N at *
    clear HL hNL hR
    by_cases h40 : (40 : Int) < (N : Int)
    all_goals
      go_enter Try.func8, Try.ntmps8
      go_wp2_with fail
      refine (cN.out _).mono ?_
      rintro e w1 ⟨rfl, hb1⟩
      go_wp2_with fail
      refine (cK.out _).mono ?_
      rintro e w2 ⟨rfl, hb2⟩
      go_wp2_with fail
      go_ret
      exact ⟨rfl, below_step (below_step (below_new (below_new (Below.refl _ _) _) _) hb1) hb2⟩
  have hp := rightB_iff hR
  have hp1 : 1 ≤ p := by omega
  have hl1 : 1 ≤ l := by omega
  clear hp
  have HR := hidd hR
  have cN := hidd (fun W => bnew_yes p r u m l hR W)
  have hO := hidd (BM.ok_first hR)
  have cT := hidd (fun b W s (h : BktAt W b p r u m l s) (hs : BM.Ok u m s) n z => btake_any h hR hs n z)
  have cW := hidd (fun b W s (h : BktAt W b p r u m l s) => bnow_any h hp1)
  have cC := hidd (fun b W s (h : BktAt W b p r u m l s) => bcopy_any h hp1)
  have cX := hidd (fun b W s (h : BktAt W b p r u m l s) (hs : BM.Ok u m s) (hn : BM.askB s s.1 = true) (hz : BM.sizeB m l x0 = true) => bwhen_yes h hR hs s.1 x0 hn hz)
  have cY := hidd (fun b W s (h : BktAt W b p r u m l s) (hs : BM.Ok u m s) (hn : BM.askB s s.1 = true) (hz : BM.sizeB m l x0 = false) => bwhen_not h hR hs s.1 x0 hn hz)
  unfold TakeEnd at cT
  unfold WhenEnd at cX
  by_cases h40 : (40 : Int) < (L.length : Int)
  · generalize hNL : L.length = N at *
    clear HL hNL hR
    go_enter Try.func8, Try.ntmps8
    go_wp2_with fail
    refine (cN.out _).mono ?_
    rintro e w1 ⟨b, rfl, -, -, hb1⟩
    go_wp2_with fail
    refine (cK.out _).mono ?_
    rintro e w2 ⟨rfl, hb2⟩
    go_wp2_with fail
    go_ret
    exact ⟨rfl, below_step (below_step (below_new (below_new (Below.refl _ _) _) _) hb1) hb2⟩
  clear hR
  obtain ⟨W0, hW0⟩ : ∃ W0 : World, (w.alloc (.cells #[.int .i64 p, .int .i64 r, .int .i64 u, .int .i64 m, .int .i64 l] 23)).alloc (.cells #[.int .i64 x0, .int .i64 x1] 54) = W0 := ⟨_, rfl⟩
  have HW0 := hidd hW0
  have B0 : Hid (Below w.heap.size w W0) := hidd (by rw [← hW0]; (repeat' (first | (with_reducible exact Below.refl _ _) | (with_reducible assumption) | (with_reducible apply Below.setCell) | (with_reducible apply Below.alloc) | (with_reducible apply Below.drew) | (with_reducible apply below_drewN) | (with_reducible refine Below.trans ?_ (Below.mono (by assumption) ?_)) | omega | (simp; done) | (simp; omega))))
  have Q0 : Hid (W0.cell? ⟨w.heap.size + 1, 0, none⟩ = some (.int .i64 x0)) := hidd (by rw [← hW0]; simp [go_sem])
  have Q1 : Hid (W0.cell? ⟨w.heap.size + 1, 1, none⟩ = some (.int .i64 x1)) := hidd (by rw [← hW0]; simp [go_sem])
  have Z0 : Hid (W0.heap.size = w.heap.size + 2) := hidd (by rw [← hW0]; simp)
  clear hW0
  go_enter Try.func8, Try.ntmps8
  go_wp2_with fail
  rw [HW0.out]
  refine (cN.out _).mono ?_
  rintro e w1 ⟨b, rfl, hle, hB, hb1⟩
  have HB := hidd hB
  have H1 := hidd hb1
  have hwb : w.heap.size + 2 ≤ b := by have := Z0.out; omega
  clear hB hb1 hle
  go_wp2_with fail
  go_loopg [9] (L.length + 1) (fun gk s9 wr => ∃ i : Nat, i ≤ L.length ∧ i + gk = L.length + 1 ∧ s9 = .int .i64 (i : Int) ∧ BktAt wr b p r u m l (BM.run p r u m l (0, u, m) (L.take i)) ∧ Below W0.heap.size W0 wr)
  case atStart => exact ⟨0, by omega, by omega, rfl, HB.out, H1.out⟩
  case round =>
    clear HB H1
    obtain ⟨i, hi, hk, rfl, hB, hW⟩ := hrel
    have HB := hidd hB
    have HW := hidd hW
    have HK := hidd hk
    clear hB hW hk
    by_cases hlt : i < L.length
    · obtain ⟨ad, rfl, hadb, y0, y1⟩ := (HL.out.keep (B0.out.trans (HW.out.mono (by have := Z0.out; omega)))).send i hlt
      have ht := hidd (BM.run_take p r u m l (0, u, m) L hlt)
      have hs := hidd (BM.run_ok (p := p) (r := r) (L := L.take i) hl1 hO.out)
      have z1 : (i : Int) < (L.length : Int) := by omega
      generalize BM.run p r u m l (0, u, m) (L.take i) = s at *
      generalize L[i].1 = n at *
      generalize L[i].2 = z at *
      generalize hNL : L.length = N at *
      have HNL := hidd hNL
      clear hNL
      go_wp2_with fail
      go_still_tail 11, (by kernel_rfl)
      change wpList _ _ _ _ _ wr.drew
      have ct := hidd (cT.out b wr.drew s HB.out.drew hs.out n z)
      rw [← ht.out] at ct
      generalize BM.step p r u m l s n z = St at *
      have HW2 : Hid (Below W0.heap.size W0 wr.drew) := hidd (Below.drew HW.out)
      generalize wr.drew = wd at *
      go_wp2_with fail
      refine ct.out.mono ?_
      rintro e w2 ⟨rfl, hB2, hb2⟩
      have HB2 := hidd hB2
      have HW3 := hidd (HW2.out.trans (hb2.below (by have := Z0.out; omega) HW2.out.size))
      clear hB2 hb2
      go_wp2_with fail
      have hk := HK.out
      have hN := HNL.out
      subst hN
      go_roundg (gk - 1)
      case measure => omega
      case rel => exact ⟨i + 1, by omega, by omega, by go_num, HB2.out, HW3.out⟩
    · have hs := hidd (BM.run_ok (p := p) (r := r) (L := L.take i) hl1 hO.out)
      generalize BM.run p r u m l (0, u, m) (L.take i) = s at *
      have z1 : ¬ (i : Int) < (L.length : Int) := by omega
      have hak : Hid (BM.askB s s.1 = true) := hidd (decide_eq_true ⟨Int.le_refl _, hs.out.2.1⟩)
      have HBW := hidd (B0.out.trans (HW.out.mono (by have := Z0.out; omega)))
      have q0 := (HW.out.cell (p := ⟨w.heap.size + 1, 0, none⟩) (by have := Z0.out; show w.heap.size + 1 < _; omega)).trans Q0.out
      have q1 := (HW.out.cell (p := ⟨w.heap.size + 1, 1, none⟩) (by have := Z0.out; show w.heap.size + 1 < _; omega)).trans Q1.out
      have lq : w.heap.size + 1 < wr.heap.size := by have := Z0.out; have := HW.out.size; omega
      clear HL HK HW Q0 Q1
      generalize hNL : L.length = N at *
      clear hNL
      go_wp2_with fail
      refine (cW.out b _ s HB.out).mono ?_
      rintro e w2 ⟨rfl, rfl⟩
      cases hz : BM.sizeB m l x0
      · have HZ := hidd hz
        clear hz
        go_wp2_with fail
        refine (cY.out b _ s HB.out hs.out hak.out HZ.out).mono ?_
        rintro e w2 ⟨rfl, hb2⟩
        have HW2 := hidd (below_step HBW.out hb2)
        clear hb2
        go_wp2_with fail
        refine (cK.out _).mono ?_
        rintro e w3 ⟨rfl, hb3⟩
        have HW3 := hidd (below_step HW2.out hb3)
        clear hb3
        go_wp2_with fail
        go_ret
        exact ⟨rfl, HW3.out⟩
      · have HZ := hidd hz
        clear hz
        go_wp2_with fail
        refine (cX.out b _ s HB.out hs.out hak.out HZ.out).mono ?_
        rintro e w2 ⟨t, rfl, ht, hb2⟩
        have HT := hidd ht
        have ht0 : s.1 ≤ t := ht.1
        have ht1 : t ≤ s.1 + 2000 := ht.2.1
        obtain ⟨s0, s1, -⟩ := id hs.out
        have HW2 := hidd (below_step HBW.out hb2)
        have HB2 := hidd (HB.out.below hb2)
        have k0 := (hb2.cell (p := ⟨w.heap.size + 1, 0, none⟩) lq).trans q0
        have k1 := (hb2.cell (p := ⟨w.heap.size + 1, 1, none⟩) lq).trans q1
        have lk : w.heap.size + 1 < w2.heap.size := Nat.lt_of_lt_of_le lq hb2.size
        clear hb2 ht q0 q1 lq HB HBW
        by_cases hmx : 2147483647 < t
        · go_wp2_with fail
          refine (cK.out _).mono ?_
          rintro e w3 ⟨rfl, hb3⟩
          have HW3 := hidd (below_step HW2.out hb3)
          clear hb3
          go_wp2_with fail
          go_ret
          exact ⟨rfl, HW3.out⟩
        · have hfit := BM.when_fit (l := l) HT.out (Int.le_refl _) HZ.out (by omega)
          have ct : Hid (∀ W, BktAt W b p r u m l s → Calls Try.prog 12 #[.pointer (some ⟨b, 0, none⟩), .int .i64 t, .int .i64 x0] W fun e w' => e = .returned (.tuple #[.bool true, .int .i64 0]) ∧ But b W w') := hidd (fun W h => (cT.out b W s h hs.out t x0).mono fun e w' ⟨he, _, hb⟩ => ⟨by rw [he, hfit.1, hfit.2], hb⟩)
          clear hfit
          by_cases hx : 0 < x1 ∧ x1 ≤ t - s.1
          · obtain ⟨x1a, x1b⟩ := hx
            have he := BM.when_early (l := l) HT.out (Int.le_refl _) (k := t - x1) (by omega) (by omega) (by omega)
            have ce : Hid (∀ c W, BktAt W c p r u m l s → Calls Try.prog 12 #[.pointer (some ⟨c, 0, none⟩), .int .i64 (t - x1), .int .i64 x0] W fun e w' => e = .returned (.tuple #[.bool false, .int .i64 0]) ∧ But c W w') := hidd (fun c W h => (cT.out c W s h hs.out (t - x1) x0).mono fun e w' ⟨he', _, hb⟩ => ⟨by rw [he', he.1, he.2], hb⟩)
            have e1 : IntKind.i64.wrap (t - x1) = t - x1 := IntWalk.i64_in _ (by omega)
            have e2 : IntKind.i64.wrap (t - s.1) = t - s.1 := IntWalk.i64_in _ (by omega)
            clear he
            have KEEP := hidd (fun Y (hb : Below w2.heap.size w2 Y) => (show Y.cell? ⟨w.heap.size + 1, 0, none⟩ = some (.int .i64 x0) ∧ Y.cell? ⟨w.heap.size + 1, 1, none⟩ = some (.int .i64 x1) from
              ⟨(hb.cell (p := ⟨w.heap.size + 1, 0, none⟩) lk).trans k0, (hb.cell (p := ⟨w.heap.size + 1, 1, none⟩) lk).trans k1⟩))
            go_wp2_with fail
            go_region_held3 (fun Y => Y.cell? ⟨w.heap.size + 1, 0, none⟩ = some (.int .i64 x0) ∧ Y.cell? ⟨w.heap.size + 1, 1, none⟩ = some (.int .i64 x1))
              ((first | exact KEEP.out _ cum2 | exact KEEP.out _ cum1 | exact ⟨k0, k1⟩ | go_keep))
              ((first
                | (go_at_call 16; refine (cC.out b _ s HB2.out.drew).mono ?_; rintro e w3 ⟨rfl, hC3, hb3⟩; have cum1 : Below w2.heap.size w2 w3 := Below.trans (Below.drew (Below.refl _ _)) hb3; have HC3 := hidd hC3; clear hC3 hb3)
                | (go_at_call 12; refine (ce.out _ _ HC3.out).mono ?_; rintro e w4 ⟨rfl, hb4⟩; have cum2 : Below w2.heap.size w2 w4 := cum1.trans (hb4.below (Nat.le_refl _) cum1.size); clear hb4)))
            have HB4 := hidd (HB2.out.below cum2)
            have HW4 := hidd (below_step HW2.out cum2)
            have k0 := (cum2.cell (p := ⟨w.heap.size + 1, 0, none⟩) lk).trans k0
            have k1 := (cum2.cell (p := ⟨w.heap.size + 1, 1, none⟩) lk).trans k1
            clear cum1 cum2 HC3 KEEP HB2 HW2
            go_wp2_with fail
            refine (ct.out _ HB4.out).mono ?_
            rintro e w8 ⟨rfl, hb8⟩
            have HW8 := hidd (HW4.out.trans (hb8.below (by have := Z0.out; omega) HW4.out.size))
            clear hb8
            go_wp2_with fail
            refine (cK.out _).mono ?_
            rintro e w9 ⟨rfl, hb9⟩
            have HW9 := hidd (below_step HW8.out hb9)
            clear hb9
            go_wp2_with fail
            go_ret
            exact ⟨rfl, HW9.out⟩
          · have e2 : IntKind.i64.wrap (t - s.1) = t - s.1 := IntWalk.i64_in _ (by omega)
            by_cases hx1 : 0 < x1
            · have hx2 : ¬ x1 ≤ t - s.1 := fun h => hx ⟨hx1, h⟩
              clear hx
              go_wp2_with fail
              refine (ct.out _ HB2.out).mono ?_
              rintro e w8 ⟨rfl, hb8⟩
              have HW8 := hidd (HW2.out.trans (hb8.below (by have := Z0.out; omega) HW2.out.size))
              clear hb8
              go_wp2_with fail
              refine (cK.out _).mono ?_
              rintro e w9 ⟨rfl, hb9⟩
              have HW9 := hidd (below_step HW8.out hb9)
              clear hb9
              go_wp2_with fail
              go_ret
              exact ⟨rfl, HW9.out⟩
            · clear hx
              go_wp2_with fail
              refine (ct.out _ HB2.out).mono ?_
              rintro e w8 ⟨rfl, hb8⟩
              have HW8 := hidd (HW2.out.trans (hb8.below (by have := Z0.out; omega) HW2.out.size))
              clear hb8
              go_wp2_with fail
              refine (cK.out _).mono ?_
              rintro e w9 ⟨rfl, hb9⟩
              have HW9 := hidd (below_step HW8.out hb9)
              clear hb9
              go_wp2_with fail
              go_ret
              exact ⟨rfl, HW9.out⟩
end Go.Proofs.Ytilikpacgbkebaa
