/- Texts that the claim hangs on, in one. -/
import Derived.Test.YtjnceoklnmmhjaaGreatTpW
import Derived.Test.YtjnceoklnmmhjaaGreatTpX
import Derived.Test.YtjnceoklnmmhjaaGreatTpN
import Derived.Test.YtjnceoklnmmhjaaGreatTpU
import Derived.Test.YtjnceoklnmmhjaaGreatTpJ
import Derived.Test.YtjnceoklnmmhjaaGreatBdI
import Derived.Test.YtjnceoklnmmhjaaGreatTpT
/- Maps: mathematics: the document's way to an error is the program's. -/
namespace Go.Proofs.YtjnceoklnmmhjaaGreat.Tp
set_option linter.unusedVariables false

theorem nodes_iff (n : Int) : nodesB n = true ↔ 1 ≤ n ∧ n ≤ 16 := inB_iff
theorem fault0_bad {n : Int} {L : List Lk} (h : ¬ (1 ≤ n ∧ n ≤ 16)) : faultE n L 0 = 2 := by
  have : nodesB n = false := inB_no h
  simp [faultE, this]
theorem fault0_wrong {n : Int} {L : List Lk} {i : Nat} (hi : i < L.length) (h : rightB n (lkAt L i) = false) : faultE n L 0 = 2 := by
  have : L.any (wrongP n) = true := List.any_eq_true.2 ⟨_, lkAt_mem hi, by unfold wrongP; rw [h]; rfl⟩
  simp [faultE, this]
theorem fault0_ok {n : Int} {L : List Lk} (h : 1 ≤ n ∧ n ≤ 16) (ha : ∀ i, i < L.length → rightB n (lkAt L i) = true) : faultE n L 0 = 0 := by
  have h1 : nodesB n = true := inB_iff.2 h
  have h2 : L.any (wrongP n) = false := by
    rw [List.any_eq_false]
    intro x hx
    obtain ⟨i, hi, rfl⟩ := List.getElem_of_mem hx
    have := ha i hi
    rw [lkAt_get hi] at this
    unfold wrongP
    rw [this]
    simp
  simp [faultE, h1, h2]
theorem errN_of0 {n : Int} {L : List Lk} (h : faultE n L 0 = 2) : errN n L = 2 := by simp [errN, h]
theorem errN_3 {n : Int} {L : List Lk} (h : faultE n L 0 = 0) (hl : 48 < L.length) : errN n L = 3 := by
  have h1 : faultE n L 1 = 3 := by simp [faultE]; omega
  simp [errN, h, h1]
theorem nodup_of_bet {L : List Lk} (h : ∀ i, i < L.length → bet (endsL L) (fr (lkAt L i), tw (lkAt L i)) = i) : (endsL L).Nodup := by
  refine List.pairwise_iff_getElem.2 (fun i j hi hj hij e => ?_)
  rw [endsL_len] at hi hj
  have h1 := h i hi
  have h2 := h j hj
  have e1 : ge (endsL L) i = ge (endsL L) j := by rw [ge_at (by rw [endsL_len]; exact hi), ge_at (by rw [endsL_len]; exact hj)]; exact e
  rw [ge_endsL hi, ge_endsL hj] at e1
  unfold ends1 at e1
  rw [e1, h2] at h1
  omega
theorem errN_190 {n : Int} {L : List Lk} (h : faultE n L 0 = 0) (hl : ¬ 48 < L.length) {i : Nat} (hi : i < L.length) (hb : bet (endsL L) (fr (lkAt L i), tw (lkAt L i)) ≠ i) : errN n L = 190 := by
  have hn : ¬ (endsL L).Nodup := fun hnd => hb (bet_of hnd hi rfl)
  have h1 : faultE n L 1 = 0 := by simp [faultE]; omega
  have h2 : faultE n L 2 = 190 := by simp [faultE, hn]
  simp [errN, h, h1, h2]
theorem errN_191 {n : Int} {L : List Lk} (h : faultE n L 0 = 0) (hl : ¬ 48 < L.length) (hd : ∀ i, i < L.length → bet (endsL L) (fr (lkAt L i), tw (lkAt L i)) = i) {i : Nat} (hi : i < L.length) (hb : bet (endsL L) (tw (lkAt L i), fr (lkAt L i)) < 0) : errN n L = 191 := by
  have hn := nodup_of_bet hd
  have h1 : faultE n L 1 = 0 := by simp [faultE]; omega
  have h2 : faultE n L 2 = 0 := by simp [faultE, hn]
  have hm : (tw (lkAt L i), fr (lkAt L i)) ∉ endsL L := by
    rcases bet_cases (endsL L) (tw (lkAt L i), fr (lkAt L i)) with ⟨h, _⟩ | ⟨k, _, _, _, hk⟩
    · exact h
    · omega
  have h3 : L.any (noBack (endsL L)) = true := List.any_eq_true.2 ⟨_, lkAt_mem hi, by unfold noBack; rw [decide_eq_false hm]; rfl⟩
  have h4 : faultE n L 3 = 191 := by simp [faultE, h3]
  simp [errN, h, h1, h2, h4]
theorem errN_0 {n : Int} {L : List Lk} (h : faultE n L 0 = 0) (hl : ¬ 48 < L.length) (hd : ∀ i, i < L.length → bet (endsL L) (fr (lkAt L i), tw (lkAt L i)) = i) (hb : ∀ i, i < L.length → ¬ bet (endsL L) (tw (lkAt L i), fr (lkAt L i)) < 0) : errN n L = 0 := by
  have hn := nodup_of_bet hd
  have h1 : faultE n L 1 = 0 := by simp [faultE]; omega
  have h2 : faultE n L 2 = 0 := by simp [faultE, hn]
  have h3 : L.any (noBack (endsL L)) = false := by
    rw [List.any_eq_false]
    intro x hx
    obtain ⟨i, hi, rfl⟩ := List.getElem_of_mem hx
    have := hb i hi
    rw [lkAt_get hi] at this
    rcases bet_cases (endsL L) (tw L[i], fr L[i]) with ⟨_, h⟩ | ⟨k, hk, he, _, _⟩
    · omega
    · have hm : (tw L[i], fr L[i]) ∈ endsL L := he ▸ ge_mem hk
      unfold noBack
      rw [decide_eq_true hm]
      simp
  have h4 : faultE n L 3 = 0 := by simp [faultE, h3]
  simp [errN, h, h1, h2, h4]
end Go.Proofs.YtjnceoklnmmhjaaGreat.Tp

/- Maps: the document's New. -/
namespace Go.Proofs.YtjnceoklnmmhjaaGreat.Tp
set_option linter.unusedVariables false
open Go.RowKit Go.Maps

def RefNewEnd (n : Int) (A : Option Addr) (L : List Lk) (c : Nat) (w : World) (e : Ending) (w' : World) : Prop :=
  Below w.heap.size w w' ∧ ((errN n L ≠ 0 ∧ e = .returned (.tuple #[.agg #[.int .i64 0, .slice none 0 0], .int .i64 (errN n L)])) ∨
  (errN n L = 0 ∧ e = .returned (.tuple #[.agg #[.int .i64 n, .slice A L.length c], .int .i64 0])))
set_option maxRecDepth 100000 in
set_option maxHeartbeats 8000000 in
theorem refNew_any (n : Int) (A : Option Addr) (L : List Lk) (c : Nat) (hL : L.length ≤ 1000000) (w : World) (hA : Lie linkV 8 w w.heap.size A L) :
    Calls Tryz.prog 6 #[.int .i64 n, .slice A L.length c] w (RefNewEnd n A L c w) := by
  have HNO : Hid (∀ z w', errN n L = z → z ≠ 0 → Below w.heap.size w w' → RefNewEnd n A L c w (.returned (.tuple #[.agg #[.int .i64 0, .slice none 0 0], .int .i64 z])) w') := hidd (fun z w' h h0 hb => ⟨hb, .inl ⟨by rw [h]; exact h0, by rw [h]⟩⟩)
  have HYES : Hid (∀ w', errN n L = 0 → Below w.heap.size w w' → RefNewEnd n A L c w (.returned (.tuple #[.agg #[.int .i64 n, .slice A L.length c], .int .i64 0])) w') := hidd (fun w' h hb => ⟨hb, .inr ⟨h, rfl⟩⟩)
  have H2 : Hid (faultE n L 0 = 2 → errN n L = 2) := hidd errN_of0
  have HBAD : Hid (¬ (1 ≤ n ∧ n ≤ 16) → faultE n L 0 = 2) := hidd fault0_bad
  have HWR : Hid (∀ i, i < L.length → rightB n (lkAt L i) = false → faultE n L 0 = 2) := hidd (fun i hi => fault0_wrong hi)
  have HOK : Hid (1 ≤ n ∧ n ≤ 16 → (∀ i, i < L.length → rightB n (lkAt L i) = true) → faultE n L 0 = 0) := hidd fault0_ok
  have H3 : Hid (faultE n L 0 = 0 → 48 < L.length → errN n L = 3) := hidd errN_3
  have H190 : Hid (faultE n L 0 = 0 → ¬ 48 < L.length → ∀ i, i < L.length → bet (endsL L) (fr (lkAt L i), tw (lkAt L i)) ≠ i → errN n L = 190) := hidd (fun h hl i hi => errN_190 h hl hi)
  have H191 : Hid (faultE n L 0 = 0 → ¬ 48 < L.length → (∀ i, i < L.length → bet (endsL L) (fr (lkAt L i), tw (lkAt L i)) = i) → ∀ i, i < L.length → bet (endsL L) (tw (lkAt L i), fr (lkAt L i)) < 0 → errN n L = 191) := hidd (fun h hl hd i hi => errN_191 h hl hd hi)
  have H0 : Hid (faultE n L 0 = 0 → ¬ 48 < L.length → (∀ i, i < L.length → bet (endsL L) (fr (lkAt L i), tw (lkAt L i)) = i) → (∀ i, i < L.length → ¬ bet (endsL L) (tw (lkAt L i), fr (lkAt L i)) < 0) → errN n L = 0) := hidd errN_0
  obtain ⟨PO, hPO⟩ : ∃ PO, RefNewEnd n A L c w = PO := ⟨_, rfl⟩
  rw [hPO] at HNO HYES ⊢
  generalize errN n L = EN at *
  generalize faultE n L 0 = F0 at *
  obtain ⟨W0, hW0⟩ : ∃ W0, ((w.alloc (.cells #[.int .i64 0, .slice none 0 0] 30)).alloc (.cells #[.int .i64 n, .slice A L.length c] 30)) = W0 := ⟨_, rfl⟩
  have hb0 : Below w.heap.size w W0 := by rw [← hW0]; (repeat' (first | (with_reducible exact Below.refl _ _) | (with_reducible assumption) | (with_reducible apply Below.setCell) | (with_reducible apply Below.alloc) | (with_reducible apply Below.drew) | (with_reducible apply below_drewN) | (with_reducible refine Below.trans ?_ (Below.mono (by assumption) ?_)) | omega | (simp; done) | (simp; omega)))
  have hz : W0.heap.size = w.heap.size + 2 := by rw [← hW0]; simp
  have r0 : W0.cell? ⟨w.heap.size, 0, none⟩ = some (.int .i64 0) := by rw [← hW0]; simp [go_sem]
  have r1 : W0.cell? ⟨w.heap.size, 1, none⟩ = some (.slice none 0 0) := by rw [← hW0]; simp [go_sem]
  have q0 : W0.cell? ⟨w.heap.size + 1, 0, none⟩ = some (.int .i64 n) := by rw [← hW0]; simp [go_sem]
  have q1 : W0.cell? ⟨w.heap.size + 1, 1, none⟩ = some (.slice A L.length c) := by rw [← hW0]; simp [go_sem]
  have CB := hidd (fun (W : World) (h : Below W0.heap.size W0 W) (x y : Int) => refBetween_any n A L c hL x y W ((hA.below hb0).below h))
  have CR := hidd (fun (W : World) a0 a1 a2 a3 a4 a5 a6 a7 => refRight_any a0 a1 a2 a3 a4 a5 a6 a7 n W)
  have QC := hidd (fun W (h : Below W0.heap.size W0 W) => show W.cell? ⟨w.heap.size, 0, none⟩ = some (.int .i64 0) ∧ W.cell? ⟨w.heap.size, 1, none⟩ = some (.slice none 0 0) ∧ W.cell? ⟨w.heap.size + 1, 0, none⟩ = some (.int .i64 n) ∧ W.cell? ⟨w.heap.size + 1, 1, none⟩ = some (.slice A L.length c) from ⟨(h.cell (p := ⟨w.heap.size, 0, none⟩) (show w.heap.size < W0.heap.size by omega)).trans r0, (h.cell (p := ⟨w.heap.size, 1, none⟩) (show w.heap.size < W0.heap.size by omega)).trans r1, (h.cell (p := ⟨w.heap.size + 1, 0, none⟩) (show w.heap.size + 1 < W0.heap.size by omega)).trans q0, (h.cell (p := ⟨w.heap.size + 1, 1, none⟩) (show w.heap.size + 1 < W0.heap.size by omega)).trans q1⟩)
  have f0 : W0.frozen? ⟨w.heap.size, 0, none⟩ = false := by rw [← hW0]; simp [go_sem]
  have f1 : W0.frozen? ⟨w.heap.size, 1, none⟩ = false := by rw [← hW0]; simp [go_sem]
  have FZ := hidd (fun W (h : Below W0.heap.size W0 W) => show (W.frozen? ⟨w.heap.size, 0, none⟩ = false ∧ W.frozen? ⟨w.heap.size, 1, none⟩ = false) ∧ w.heap.size < W.heap.size from ⟨⟨(h.frozen (p := ⟨w.heap.size, 0, none⟩) (show w.heap.size < W0.heap.size by omega)).trans f0, (h.frozen (p := ⟨w.heap.size, 1, none⟩) (show w.heap.size < W0.heap.size by omega)).trans f1⟩, Nat.lt_of_lt_of_le (by omega) h.size⟩)
  have HA := hidd (fun W (h : Below W0.heap.size W0 W) => (hA.below hb0).below h)
  have HLE := hidd (endsL_len L)
  have HBI := hidd (fun p => And.intro (bet_lo (endsL L) p) (bet_hi (endsL L) p))
  have HB0 := hidd hb0
  have HZ := hidd hz
  have HW := hidd hW0
  have HS2 : Hid (∀ W, Below W0.heap.size W0 W → ∀ a b, Below w.heap.size w ((W.setCell ⟨w.heap.size, 0, none⟩ a).setCell ⟨w.heap.size, 1, none⟩ b)) := hidd (fun W h a b => ((hb0.trans (h.mono hb0.size)).setCell (Nat.le_refl _) _).setCell (Nat.le_refl _) _)
  have HS := hidd (fun W (h : Below W0.heap.size W0 W) => show Below w.heap.size w W from hb0.trans (h.mono hb0.size))
  clear hA hb0 hW0 hPO hz
  by_cases hn1 : n < 1
  · have hbad := hidd (HNO.out 2 · (H2.out (HBAD.out (by omega))) (by decide))
    have b1 : decide (n < 1) = true := decide_eq_true hn1
    go_enter Tryz.func6, Tryz.ntmps6
    go_wp2_with fail
    rw [HW.out]
    go_wp2_with fail
    exact bodyPost_ret (v := .tuple #[.agg #[.int .i64 0, .slice none 0 0], .int .i64 2]) (by simp [results, Tryz.results6, go_sem, *]) rfl (hbad.out _ (HS.out _ (Below.refl _ _)))
  by_cases hn2 : 16 < n
  · have hbad := hidd (HNO.out 2 · (H2.out (HBAD.out (by omega))) (by decide))
    have b1 : decide (n < 1) = false := decide_eq_false hn1
    have b2 : decide (16 < n) = true := decide_eq_true hn2
    go_enter Tryz.func6, Tryz.ntmps6
    go_wp2_with fail
    rw [HW.out]
    go_wp2_with fail
    exact bodyPost_ret (v := .tuple #[.agg #[.int .i64 0, .slice none 0 0], .int .i64 2]) (by simp [results, Tryz.results6, go_sem, *]) rfl (hbad.out _ (HS.out _ (Below.refl _ _)))
  have b1 : decide (n < 1) = false := decide_eq_false hn1
  have b2 : decide (16 < n) = false := decide_eq_false hn2
  have HOK1 := hidd (HOK.out (by omega))
  go_enter Tryz.func6, Tryz.ntmps6
  go_wp2_with fail
  rw [HW.out]
  go_wp2_with fail
  clear b1 b2 hn1 hn2 HBAD HOK r0 r1 q0 q1
  go_loopg [7] (L.length + 2) (fun g s7 wr => ∃ i : Nat, i ≤ L.length ∧ i + g = L.length + 2 ∧ s7 = .int .i64 (i : Int) ∧ (∀ j, j < i → rightB n (lkAt L j) = true) ∧ Below W0.heap.size W0 wr)
  case atStart => exact ⟨0, by omega, by omega, rfl, fun j h => absurd h (by omega), Below.refl _ _⟩
  case round =>
    obtain ⟨i, hi1, hg, rfl, hs, hB⟩ := hrel
    have HGG := hidd hg
    have HS1 := hidd hs
    have HB := hidd hB
    obtain ⟨r0, r1, q0, q1⟩ := QC.out _ hB
    clear hg hs hB
    by_cases hin : i < L.length
    · have hin2 : (i : Int) < (L.length : Int) := by omega
      have hi0 : (0 : Int) ≤ (i : Int) := by omega
      obtain ⟨ad, rfl, ha, x0, x1, x2, x3, x4, x5, x6, x7⟩ := (HA.out _ HB.out).link i hin
      have hR : rightB n (lkAt L i) = rightB n (fr (lkAt L i), tw (lkAt L i), rt (lkAt L i), sh (lkAt L i), fa (lkAt L i), mo (lkAt L i), ro (lkAt L i), fi (lkAt L i)) := rfl
      have HST : Hid (rightB n (lkAt L i) = true → ∀ j, j < i + 1 → rightB n (lkAt L j) = true) := hidd (fun h j hj => by
        by_cases e : j = i
        · rw [e]; exact h
        · exact HS1.out j (by omega))
      have HFI : Hid (rightB n (lkAt L i) = false → EN = 2) := hidd (fun h => H2.out (HWR.out i hin h))
      rw [hR] at HST HFI
      generalize fr (lkAt L i) = a0 at *
      generalize tw (lkAt L i) = a1 at *
      generalize rt (lkAt L i) = a2 at *
      generalize sh (lkAt L i) = a3 at *
      generalize fa (lkAt L i) = a4 at *
      generalize mo (lkAt L i) = a5 at *
      generalize ro (lkAt L i) = a6 at *
      generalize fi (lkAt L i) = a7 at *
      have cr := hidd (fun W => CR.out W a0 a1 a2 a3 a4 a5 a6 a7)
      clear hR
      generalize rightB n (a0, a1, a2, a3, a4, a5, a6, a7) = V at *
      cases V
      · have hbad := hidd (HNO.out 2 · (HFI.out rfl) (by decide))
        clear HST HFI
        go_wp2_with fail
        refine (cr.out _).mono ?_
        rintro e w2 ⟨rfl, hb2⟩
        have HB2 := hidd (below_step HB.out hb2)
        obtain ⟨r0', r1', q0', q1'⟩ := QC.out _ HB2.out
        obtain ⟨⟨f0', f1'⟩, hsz'⟩ := FZ.out _ HB2.out
        clear hb2
        go_wp2_with fail
        exact bodyPost_ret (v := .tuple #[.agg #[.int .i64 0, .slice none 0 0], .int .i64 2]) (by simp [results, Tryz.results6, go_sem, *]) rfl (hbad.out _ (HS2.out _ HB2.out _ _))
      · have hst := hidd (HST.out rfl)
        clear HST HFI
        go_wp2_with fail
        refine (cr.out _).mono ?_
        rintro e w2 ⟨rfl, hb2⟩
        have HB2 := hidd (below_step HB.out hb2)
        clear hb2
        go_wp2_with fail
        have hg := HGG.out
        go_roundg (gk - 1)
        case measure => omega
        case rel => exact ⟨i + 1, by omega, by omega, by go_num, hst.out, HB2.out⟩
    · have hin2 : ¬ (i : Int) < (L.length : Int) := by omega
      have HF0 := hidd (HOK1.out (fun j hj => HS1.out j (by omega)))
      have HSZ := HB.out.size
      clear hin hi1 HGG HS1
      by_cases hl : 48 < L.length
      · have hl2 : (48 : Int) < (L.length : Int) := by omega
        obtain ⟨⟨f0', f1'⟩, hsz'⟩ := FZ.out _ HB.out
        have hbad := hidd (HNO.out 3 · (H3.out HF0.out hl) (by decide))
        go_wp2_with fail
        exact bodyPost_ret (v := .tuple #[.agg #[.int .i64 0, .slice none 0 0], .int .i64 3]) (by simp [results, Tryz.results6, go_sem, *]) rfl (hbad.out _ (HS2.out _ HB.out _ _))
      · have hl2 : ¬ (48 : Int) < (L.length : Int) := by omega
        go_wp2_with fail
        clear r0 r1 q0 q1
        go_loopg [8] (L.length + 2) (fun g s wr => ∃ i : Nat, i ≤ L.length ∧ i + g = L.length + 2 ∧ s = .int .i64 (i : Int) ∧ (∀ j, j < L.length → j < i → bet (endsL L) (fr (lkAt L j), tw (lkAt L j)) = (j : Int)) ∧ Below W0.heap.size W0 wr)
        case atStart => exact ⟨0, by omega, by omega, rfl, fun j _ h => absurd h (by omega), HB.out⟩
        case round =>
          obtain ⟨i, hi1, hg, rfl, hs, hB⟩ := hrel
          have HGG := hidd hg
          have HS1 := hidd hs
          have HB := hidd hB
          clear hg hs hB
          by_cases hin : i < L.length
          · have hin2 : (i : Int) < (L.length : Int) := by omega
            have hi0 : (0 : Int) ≤ (i : Int) := by omega
            obtain ⟨ad, rfl, ha, x0, x1, x2, x3, x4, x5, x6, x7⟩ := (HA.out _ HB.out).link i hin
            have HST : Hid (bet (endsL L) (fr (lkAt L i), tw (lkAt L i)) = (i : Int) → ∀ j, j < L.length → j < i + 1 → bet (endsL L) (fr (lkAt L j), tw (lkAt L j)) = (j : Int)) := hidd (fun h j hj1 hj => by
              by_cases e : j = i
              · rw [e]; exact h
              · exact HS1.out j hj1 (by omega))
            have HFI : Hid (¬ (bet (endsL L) (fr (lkAt L i), tw (lkAt L i)) = (i : Int)) → EN = 190) := hidd (fun h => H190.out HF0.out hl i hin h)
            have hlo := (HBI.out (fr (lkAt L i), tw (lkAt L i))).1
            have hhi := (HBI.out (fr (lkAt L i), tw (lkAt L i))).2
            have hle := HLE.out
            have cb := hidd (fun W h => CB.out W h (fr (lkAt L i)) (tw (lkAt L i)))
            generalize bet (endsL L) (fr (lkAt L i), tw (lkAt L i)) = V at *
            generalize fr (lkAt L i) = a0 at *
            generalize tw (lkAt L i) = a1 at *
            obtain ⟨r0, r1, q0, q1⟩ := QC.out _ HB.out
            obtain ⟨p, hp⟩ : ∃ p, ad.add (i * 8) = p := ⟨_, rfl⟩
            rw [hp] at ha x0 x1
            have hp2 : ad.add (8 * i) = p := by rw [Nat.mul_comm]; exact hp
            have KEEP := hidd (fun w' (hb : Below wr.heap.size wr w') => show (w'.cell? ⟨w.heap.size + 1, 0, none⟩ = some (.int .i64 n) ∧ w'.cell? ⟨w.heap.size + 1, 1, none⟩ = some (.slice (some ad) L.length c) ∧ w'.cell? p = some (.int .i64 a0) ∧ w'.cell? ⟨p.block, p.off + 1, none⟩ = some (.int .i64 a1)) from ⟨(hb.cell (p := ⟨w.heap.size + 1, 0, none⟩) (by have := HZ.out; have := HB.out.size; show w.heap.size + 1 < _; omega)).trans q0, (hb.cell (p := ⟨w.heap.size + 1, 1, none⟩) (by have := HZ.out; have := HB.out.size; show w.heap.size + 1 < _; omega)).trans q1, (hb.cell (p := p) ha).trans x0, (hb.cell (p := ⟨p.block, p.off + 1, none⟩) ha).trans x1⟩)
            have K0 : Hid (wr.cell? ⟨w.heap.size + 1, 0, none⟩ = some (.int .i64 n) ∧ wr.cell? ⟨w.heap.size + 1, 1, none⟩ = some (.slice (some ad) L.length c) ∧ wr.cell? p = some (.int .i64 a0) ∧ wr.cell? ⟨p.block, p.off + 1, none⟩ = some (.int .i64 a1)) := hidd ⟨q0, q1, x0, x1⟩
            clear x2 x3 x4 x5 x6 x7 r0 r1
            by_cases hv : V = (i : Int)
            · have hst := hidd (HST.out hv)
              have hd : (V == (i : Int)) = true := by rw [hv]; simp
              have hd2 : (V != (i : Int)) = false := by rw [hv]; simp
              clear HST HFI
              go_wp2_with fail
              go_region_held3 (fun w' => (w'.cell? ⟨w.heap.size + 1, 0, none⟩ = some (.int .i64 n) ∧ w'.cell? ⟨w.heap.size + 1, 1, none⟩ = some (.slice (some ad) L.length c) ∧ w'.cell? p = some (.int .i64 a0) ∧ w'.cell? ⟨p.block, p.off + 1, none⟩ = some (.int .i64 a1)))
                ((first | exact KEEP.out _ cum1 | exact K0.out | go_keep))
                ((first
                  | (go_at_call 9; refine (cb.out _ (by first | exact Below.drew HB.out | exact HB.out)).mono ?_; rintro E1 v1 ⟨rfl, l1⟩; have cum1 : Below wr.heap.size wr v1 := (by first | exact below_step (Below.drew (Below.refl _ _)) l1 | exact below_step (Below.refl _ _) l1); have HB2 := hidd (below_step HB.out cum1); obtain ⟨r0', r1', q0', q1'⟩ := QC.out _ HB2.out; obtain ⟨⟨f0', f1'⟩, hsz'⟩ := FZ.out _ HB2.out)))
              all_goals go_wp2_with fail
              have hg := HGG.out
              go_roundg (gk - 1)
              case measure => omega
              case rel => exact ⟨i + 1, by omega, by omega, by go_num, hst.out, HB2.out⟩
            · have hbad := hidd (HNO.out 190 · (HFI.out hv) (by decide))
              have hd : (V == (i : Int)) = false := beq_eq_false_iff_ne.2 hv
              have hd2 : (V != (i : Int)) = true := by simp [hv]
              clear HST HFI
              go_wp2_with fail
              go_region_held3 (fun w' => (w'.cell? ⟨w.heap.size + 1, 0, none⟩ = some (.int .i64 n) ∧ w'.cell? ⟨w.heap.size + 1, 1, none⟩ = some (.slice (some ad) L.length c) ∧ w'.cell? p = some (.int .i64 a0) ∧ w'.cell? ⟨p.block, p.off + 1, none⟩ = some (.int .i64 a1)))
                ((first | exact KEEP.out _ cum1 | exact K0.out | go_keep))
                ((first
                  | (go_at_call 9; refine (cb.out _ (by first | exact Below.drew HB.out | exact HB.out)).mono ?_; rintro E1 v1 ⟨rfl, l1⟩; have cum1 : Below wr.heap.size wr v1 := (by first | exact below_step (Below.drew (Below.refl _ _)) l1 | exact below_step (Below.refl _ _) l1); have HB2 := hidd (below_step HB.out cum1); obtain ⟨r0', r1', q0', q1'⟩ := QC.out _ HB2.out; obtain ⟨⟨f0', f1'⟩, hsz'⟩ := FZ.out _ HB2.out)))
              all_goals go_wp2_with fail
              exact bodyPost_ret (v := .tuple #[.agg #[.int .i64 0, .slice none 0 0], .int .i64 190]) (by simp [results, Tryz.results6, go_sem, *]) rfl (hbad.out _ (HS2.out _ HB2.out _ _))
          · have hin2 : ¬ (i : Int) < (L.length : Int) := by omega
            have hdone := hidd (show ∀ j, j < L.length → bet (endsL L) (fr (lkAt L j), tw (lkAt L j)) = (j : Int) from fun j hj => HS1.out j hj (by omega))
            obtain ⟨r0, r1, q0, q1⟩ := QC.out _ HB.out
            obtain ⟨⟨f0', f1'⟩, hsz'⟩ := FZ.out _ HB.out
            clear HGG HS1 hi1 hin
            have d190 := hdone
            clear hdone f0' f1'
            go_wp2_with fail
            clear r0 r1 q0 q1
            go_loopg [9] (L.length + 2) (fun g s wr => ∃ i : Nat, i ≤ L.length ∧ i + g = L.length + 2 ∧ s = .int .i64 (i : Int) ∧ (∀ j, j < L.length → j < i → ¬ bet (endsL L) (tw (lkAt L j), fr (lkAt L j)) < 0) ∧ Below W0.heap.size W0 wr)
            case atStart => exact ⟨0, by omega, by omega, rfl, fun j _ h => absurd h (by omega), HB.out⟩
            case round =>
              obtain ⟨i, hi1, hg, rfl, hs, hB⟩ := hrel
              have HGG := hidd hg
              have HS1 := hidd hs
              have HB := hidd hB
              clear hg hs hB
              by_cases hin : i < L.length
              · have hin2 : (i : Int) < (L.length : Int) := by omega
                have hi0 : (0 : Int) ≤ (i : Int) := by omega
                obtain ⟨ad, rfl, ha, x0, x1, x2, x3, x4, x5, x6, x7⟩ := (HA.out _ HB.out).link i hin
                have HST : Hid (¬ bet (endsL L) (tw (lkAt L i), fr (lkAt L i)) < 0 → ∀ j, j < L.length → j < i + 1 → ¬ bet (endsL L) (tw (lkAt L j), fr (lkAt L j)) < 0) := hidd (fun h j hj1 hj => by
                  by_cases e : j = i
                  · rw [e]; exact h
                  · exact HS1.out j hj1 (by omega))
                have HFI : Hid (¬ (¬ bet (endsL L) (tw (lkAt L i), fr (lkAt L i)) < 0) → EN = 191) := hidd (fun h => H191.out HF0.out hl d190.out i hin (by omega))
                have hlo := (HBI.out (tw (lkAt L i), fr (lkAt L i))).1
                have hhi := (HBI.out (tw (lkAt L i), fr (lkAt L i))).2
                have hle := HLE.out
                have cb := hidd (fun W h => CB.out W h (tw (lkAt L i)) (fr (lkAt L i)))
                generalize bet (endsL L) (tw (lkAt L i), fr (lkAt L i)) = V at *
                generalize fr (lkAt L i) = a0 at *
                generalize tw (lkAt L i) = a1 at *
                obtain ⟨r0, r1, q0, q1⟩ := QC.out _ HB.out
                obtain ⟨p, hp⟩ : ∃ p, ad.add (i * 8) = p := ⟨_, rfl⟩
                rw [hp] at ha x0 x1
                have hp2 : ad.add (8 * i) = p := by rw [Nat.mul_comm]; exact hp
                have KEEP := hidd (fun w' (hb : Below wr.heap.size wr w') => show (w'.cell? ⟨w.heap.size + 1, 0, none⟩ = some (.int .i64 n) ∧ w'.cell? ⟨w.heap.size + 1, 1, none⟩ = some (.slice (some ad) L.length c) ∧ w'.cell? p = some (.int .i64 a0) ∧ w'.cell? ⟨p.block, p.off + 1, none⟩ = some (.int .i64 a1)) from ⟨(hb.cell (p := ⟨w.heap.size + 1, 0, none⟩) (by have := HZ.out; have := HB.out.size; show w.heap.size + 1 < _; omega)).trans q0, (hb.cell (p := ⟨w.heap.size + 1, 1, none⟩) (by have := HZ.out; have := HB.out.size; show w.heap.size + 1 < _; omega)).trans q1, (hb.cell (p := p) ha).trans x0, (hb.cell (p := ⟨p.block, p.off + 1, none⟩) ha).trans x1⟩)
                have K0 : Hid (wr.cell? ⟨w.heap.size + 1, 0, none⟩ = some (.int .i64 n) ∧ wr.cell? ⟨w.heap.size + 1, 1, none⟩ = some (.slice (some ad) L.length c) ∧ wr.cell? p = some (.int .i64 a0) ∧ wr.cell? ⟨p.block, p.off + 1, none⟩ = some (.int .i64 a1)) := hidd ⟨q0, q1, x0, x1⟩
                clear x2 x3 x4 x5 x6 x7 r0 r1
                by_cases hv : ¬ V < 0
                · have hst := hidd (HST.out hv)
                  have hd : decide (V < 0) = false := decide_eq_false hv
                  clear HST HFI
                  go_wp2_with fail
                  go_region_held3 (fun w' => (w'.cell? ⟨w.heap.size + 1, 0, none⟩ = some (.int .i64 n) ∧ w'.cell? ⟨w.heap.size + 1, 1, none⟩ = some (.slice (some ad) L.length c) ∧ w'.cell? p = some (.int .i64 a0) ∧ w'.cell? ⟨p.block, p.off + 1, none⟩ = some (.int .i64 a1)))
                    ((first | exact KEEP.out _ cum1 | exact K0.out | go_keep))
                    ((first
                      | (go_at_call 9; refine (cb.out _ (by first | exact Below.drew HB.out | exact HB.out)).mono ?_; rintro E1 v1 ⟨rfl, l1⟩; have cum1 : Below wr.heap.size wr v1 := (by first | exact below_step (Below.drew (Below.refl _ _)) l1 | exact below_step (Below.refl _ _) l1); have HB2 := hidd (below_step HB.out cum1); obtain ⟨r0', r1', q0', q1'⟩ := QC.out _ HB2.out; obtain ⟨⟨f0', f1'⟩, hsz'⟩ := FZ.out _ HB2.out)))
                  all_goals go_wp2_with fail
                  have hg := HGG.out
                  go_roundg (gk - 1)
                  case measure => omega
                  case rel => exact ⟨i + 1, by omega, by omega, by go_num, hst.out, HB2.out⟩
                · have hbad := hidd (HNO.out 191 · (HFI.out hv) (by decide))
                  have hd : decide (V < 0) = true := decide_eq_true (by omega)
                  clear HST HFI
                  go_wp2_with fail
                  go_region_held3 (fun w' => (w'.cell? ⟨w.heap.size + 1, 0, none⟩ = some (.int .i64 n) ∧ w'.cell? ⟨w.heap.size + 1, 1, none⟩ = some (.slice (some ad) L.length c) ∧ w'.cell? p = some (.int .i64 a0) ∧ w'.cell? ⟨p.block, p.off + 1, none⟩ = some (.int .i64 a1)))
                    ((first | exact KEEP.out _ cum1 | exact K0.out | go_keep))
                    ((first
                      | (go_at_call 9; refine (cb.out _ (by first | exact Below.drew HB.out | exact HB.out)).mono ?_; rintro E1 v1 ⟨rfl, l1⟩; have cum1 : Below wr.heap.size wr v1 := (by first | exact below_step (Below.drew (Below.refl _ _)) l1 | exact below_step (Below.refl _ _) l1); have HB2 := hidd (below_step HB.out cum1); obtain ⟨r0', r1', q0', q1'⟩ := QC.out _ HB2.out; obtain ⟨⟨f0', f1'⟩, hsz'⟩ := FZ.out _ HB2.out)))
                  all_goals go_wp2_with fail
                  exact bodyPost_ret (v := .tuple #[.agg #[.int .i64 0, .slice none 0 0], .int .i64 191]) (by simp [results, Tryz.results6, go_sem, *]) rfl (hbad.out _ (HS2.out _ HB2.out _ _))
              · have hin2 : ¬ (i : Int) < (L.length : Int) := by omega
                have hdone := hidd (show ∀ j, j < L.length → ¬ bet (endsL L) (tw (lkAt L j), fr (lkAt L j)) < 0 from fun j hj => HS1.out j hj (by omega))
                obtain ⟨r0, r1, q0, q1⟩ := QC.out _ HB.out
                obtain ⟨⟨f0', f1'⟩, hsz'⟩ := FZ.out _ HB.out
                clear HGG HS1 hi1 hin
                have hyes := hidd (HYES.out · (H0.out HF0.out hl d190.out (fun j hj => by have := hdone.out j hj; omega)))
                go_wp2_with fail
                exact bodyPost_ret (v := .tuple #[.agg #[.int .i64 n, .slice A L.length c], .int .i64 0]) (by simp [results, Tryz.results6, go_sem, *]) rfl (hyes.out _ (HS2.out _ HB.out _ _))
end Go.Proofs.YtjnceoklnmmhjaaGreat.Tp

/- Maps: the terms of a link that is there. -/
namespace Go.Proofs.YtjnceoklnmmhjaaGreat.Tp
set_option linter.unusedVariables false
open Go.RowKit Go.Maps

theorem right_link {n : Int} {x : Lk} (h : rightB n x = true) : linkB (rt x) (mo x) (fa x) = true := by
  have h' := (rightB_iff n x).1 h
  unfold linkB
  rw [Bool.and_eq_true, Bool.and_eq_true]
  exact ⟨⟨fromB_iff.2 (by omega), fromB_iff.2 (by omega)⟩, fromB_iff.2 (by omega)⟩
theorem linkC_any (rate most far : Int) (h : linkB rate most far = true) (w : World) : Calls Tryz.prog 32 #[.int .i64 rate, .int .i64 most, .int .i64 far] w fun e w' => e = .returned (.tuple #[.agg #[.int .i64 most, .int .i64 (upZ most rate + 1 + far)], .int .i64 0]) ∧ Below w.heap.size w w' := by
  have := Link_any rate most far w
  rw [if_pos h] at this
  exact this
theorem refLinkC_any (rate most far : Int) (h : linkB rate most far = true) (w : World) : Calls Tryz.prog 20 #[.int .i64 rate, .int .i64 most, .int .i64 far] w fun e w' => e = .returned (.tuple #[.agg #[.int .i64 most, .int .i64 (upZ most rate + 1 + far)], .bool true]) ∧ Below w.heap.size w w' := by
  have := refLink_any rate most far w
  rw [if_pos h] at this
  exact this
set_option maxHeartbeats 2000000 in
theorem Terms_in (m : Nat) (n : Int) (hn : 1 ≤ n) (L : List Lk) (hL : L.length ≤ 1000000) (i : Nat) (hi : i < L.length) (hr : rightB n (lkAt L i) = true) (w : World) (h : MapAt w m n L) : Calls Tryz.prog 19 #[.pointer (some ⟨m, 0, none⟩), .int .i64 (i : Int)] w fun e w' => e = .returned (.tuple #[.agg #[.int .i64 (mo (lkAt L i)), .int .i64 (upZ (mo (lkAt L i)) (rt (lkAt L i)) + 1 + fa (lkAt L i))], .int .i64 0]) ∧ Below w.heap.size w w' := by
  have c := hidd (fun (W : World) (hW : Below w.heap.size w W) => Link_in m n hn L hL i hi W (h.below hW))
  have cl := hidd (fun W => linkC_any (rt (lkAt L i)) (mo (lkAt L i)) (fa (lkAt L i)) (right_link hr) W)
  have hb0 : Below w.heap.size w (w.alloc (.cells #[.int .i64 0, .int .i64 0] 58)) := by (repeat' (first | (with_reducible exact Below.refl _ _) | (with_reducible assumption) | (with_reducible apply Below.setCell) | (with_reducible apply Below.alloc) | (with_reducible apply Below.drew) | (with_reducible apply below_drewN) | (with_reducible refine Below.trans ?_ (Below.mono (by assumption) ?_)) | omega | (simp; done) | (simp; omega)))
  have HB0 := hidd hb0
  unfold linkA at c
  generalize upZ (mo (lkAt L i)) (rt (lkAt L i)) + 1 + fa (lkAt L i) = U at *
  generalize fr (lkAt L i) = a0 at *
  generalize tw (lkAt L i) = a1 at *
  generalize rt (lkAt L i) = a2 at *
  generalize sh (lkAt L i) = a3 at *
  generalize fa (lkAt L i) = a4 at *
  generalize mo (lkAt L i) = a5 at *
  generalize ro (lkAt L i) = a6 at *
  generalize fi (lkAt L i) = a7 at *
  clear h hi hb0 hr
  go_enter Tryz.func19, Tryz.ntmps19
  go_wp2_with fail
  refine (c.out _ HB0.out).mono ?_
  rintro e w1 ⟨rfl, hb⟩
  have hbs := hb.size
  obtain ⟨bc, bf⟩ := bcell hb
  have z : w.heap.size < w1.heap.size := by simp at hbs; omega
  have HB := hidd (below_step HB0.out hb)
  have c0 : w1.cell? ⟨w.heap.size, 0, none⟩ = some (.int .i64 0) := by rw [bc _ _ (by (first | omega | (simp; done) | (simp; omega)))]; simp [go_sem]
  have c1 : w1.cell? ⟨w.heap.size, 1, none⟩ = some (.int .i64 0) := by rw [bc _ _ (by (first | omega | (simp; done) | (simp; omega)))]; simp [go_sem]
  have f0 : w1.frozen? ⟨w.heap.size, 0, none⟩ = false := by rw [bf _ _ (by (first | omega | (simp; done) | (simp; omega)))]; simp [go_sem]
  have f1 : w1.frozen? ⟨w.heap.size, 1, none⟩ = false := by rw [bf _ _ (by (first | omega | (simp; done) | (simp; omega)))]; simp [go_sem]
  have nz : ¬ w1.heap.size = w.heap.size := by omega
  clear bc bf hb hbs
  go_wp2_with fail
  refine (cl.out _).mono ?_
  rintro e w2 ⟨rfl, hb2⟩
  have hbs2 := hb2.size
  simp at hbs2
  have z2 : w.heap.size < w2.heap.size := by omega
  have y0 : w2.cell? ⟨w.heap.size, 0, none⟩ = some (.int .i64 0) := (hb2.cell (p := ⟨w.heap.size, 0, none⟩) (by simp; omega)).trans (by simp [go_sem, *])
  have y1 : w2.cell? ⟨w.heap.size, 1, none⟩ = some (.int .i64 0) := (hb2.cell (p := ⟨w.heap.size, 1, none⟩) (by simp; omega)).trans (by simp [go_sem, *])
  have g0 : w2.frozen? ⟨w.heap.size, 0, none⟩ = false := (hb2.frozen (p := ⟨w.heap.size, 0, none⟩) (by simp; omega)).trans (by simp [go_sem, *])
  have g1 : w2.frozen? ⟨w.heap.size, 1, none⟩ = false := (hb2.frozen (p := ⟨w.heap.size, 1, none⟩) (by simp; omega)).trans (by simp [go_sem, *])
  have HB2 := hidd (below_step (below_new HB.out _) hb2)
  clear hb2 hbs2
  go_wp2_with fail
  exact bodyPost_ret (v := .tuple #[.agg #[.int .i64 a5, .int .i64 U], .int .i64 0]) (by simp [results, Tryz.results19, go_sem, *]) rfl ⟨rfl, by have q := HB2.out; (repeat' (first | (with_reducible exact Below.refl _ _) | (with_reducible assumption) | (with_reducible apply Below.setCell) | (with_reducible apply Below.alloc) | (with_reducible apply Below.drew) | (with_reducible apply below_drewN) | (with_reducible refine Below.trans ?_ (Below.mono (by assumption) ?_)) | omega | (simp; done) | (simp; omega)))⟩
end Go.Proofs.YtjnceoklnmmhjaaGreat.Tp

/- Maps: mathematics: all nodes' links are the links; marks of ranges left behind one another. -/
namespace Go.Proofs.YtjnceoklnmmhjaaGreat.Tp
set_option linter.unusedVariables false
open Go.RowKit Go.Maps

def fromSum (L : List Lk) (k : Nat) : Nat → Nat
  | 0 => 0
  | t + 1 => fromSum L k t + (fromK L (t : Int) k).length
theorem fromSum_zero (L : List Lk) : ∀ t, fromSum L 0 t = 0
  | 0 => rfl
  | t + 1 => by rw [fromSum, fromSum_zero L t]; rfl
theorem fromSum_next (L : List Lk) {k : Nat} (hk : k < L.length) : ∀ t, fromSum L (k + 1) t = fromSum L k t + (if 0 ≤ fr (lkAt L k) ∧ fr (lkAt L k) < (t : Int) then 1 else 0)
  | 0 => by
    have : ¬ (0 ≤ fr (lkAt L k) ∧ fr (lkAt L k) < ((0 : Nat) : Int)) := by omega
    simp only [fromSum, if_neg this]
  | t + 1 => by
    have ih := fromSum_next L hk t
    rw [fromSum, ih, fromSum]
    have hstep : (fromK L (t : Int) (k + 1)).length = (fromK L (t : Int) k).length + (if fr (lkAt L k) = (t : Int) then 1 else 0) := by
      rw [fromK]
      by_cases h : fr (lkAt L k) = (t : Int)
      · rw [dif_pos ⟨hk, h⟩, if_pos h]; simp
      · rw [dif_neg (fun e => h e.2), if_neg h]; rfl
    rw [hstep]
    by_cases h : fr (lkAt L k) = (t : Int)
    · rw [if_pos h, if_neg (by omega), if_pos (by omega)]
      omega
    · rw [if_neg h]
      by_cases h2 : 0 ≤ fr (lkAt L k) ∧ fr (lkAt L k) < (t : Int)
      · rw [if_pos h2, if_pos (by omega)]; omega
      · rw [if_neg h2, if_neg (by omega)]; omega
theorem fromSum_all {n : Int} {L : List Lk} (h : Valid n L) : ∀ k, k ≤ L.length → fromSum L k n.toNat = k
  | 0, _ => fromSum_zero L _
  | k + 1, hk => by
    have ih := fromSum_all h k (by omega)
    have hr := (rightB_iff n (lkAt L k)).1 (h.all _ (lkAt_mem (by omega)))
    have h1 := h.lo
    rw [fromSum_next L (by omega), ih, if_pos (by omega)]
/-- how many links the first t nodes have. -/
def outSum (L : List Lk) : Nat → Nat
  | 0 => 0
  | t + 1 => outSum L t + (outs L (t : Int)).length
theorem outSum_eq (L : List Lk) : ∀ t, outSum L t = fromSum L L.length t
  | 0 => rfl
  | t + 1 => by rw [outSum, fromSum, outSum_eq L t, outs_len]
theorem outSum_all {n : Int} {L : List Lk} (h : Valid n L) : outSum L n.toNat = L.length := by
  rw [outSum_eq]; exact fromSum_all h _ (Nat.le_refl _)
theorem outSum_le (L : List Lk) : ∀ t, outSum L t ≤ t * L.length
  | 0 => by simp [outSum]
  | t + 1 => by
    have := outSum_le L t
    have h2 := fromK_len L (t : Int) L.length
    rw [outSum, outs_len, Nat.succ_mul]
    omega

/-- the link back of the link back is the link. -/
theorem back_back {n : Int} {L : List Lk} (h : Valid n L) {d : Nat} (hd : d < L.length) : ∃ j, j < L.length ∧ ends1 (lkAt L j) = (tw (lkAt L d), fr (lkAt L d)) ∧ lastAt (endsL L) (tw (lkAt L d), fr (lkAt L d)) (endsL L).length = (j : Int) ∧ bet (endsL L) (tw (lkAt L d), fr (lkAt L d)) = (j : Int) ∧ lastAt (endsL L) (tw (lkAt L j), fr (lkAt L j)) (endsL L).length = (d : Int) := by
  have hm := h.back _ (lkAt_mem hd)
  obtain ⟨j, hj, he⟩ := mem_ge hm
  have hj' : j < L.length := by rw [endsL_len] at hj; exact hj
  have hl := lastAt_eq h.nod hj he
  have he' : ends1 (lkAt L j) = (tw (lkAt L d), fr (lkAt L d)) := by rw [← ge_endsL hj']; exact he
  refine ⟨j, hj', he', hl, by rw [bet_last h.nod hm]; exact hl, ?_⟩
  have e1 : fr (lkAt L j) = tw (lkAt L d) := congrArg Prod.fst he'
  have e2 : tw (lkAt L j) = fr (lkAt L d) := congrArg Prod.snd he'
  rw [e1, e2]
  exact lastAt_eq h.nod (by rw [endsL_len]; exact hd) (by rw [ge_endsL hd]; rfl)
def markOf (D : Nat) : Deferred := { target := .collected D, args := #[] }
/-- the marks' blocks stand open: one for each. -/
def OpenAt (B : Nat) (w : World) (Ds : List Nat) : Prop := Ds.Nodup ∧ ∀ D ∈ Ds, B ≤ D ∧ w.heap[D]? = some (.deferred (some []))
theorem OpenAt.nil (B : Nat) (w : World) : OpenAt B w [] := ⟨List.Pairwise.nil, fun D h => by cases h⟩
theorem OpenAt.below {B : Nat} {w w' : World} {Ds : List Nat} (h : OpenAt B w Ds) (hb : Below w.heap.size w w') : OpenAt B w' Ds := ⟨h.1, fun D hD => by
  obtain ⟨h1, h2⟩ := h.2 D hD
  have hl : D < w.heap.size := (Array.getElem?_eq_some_iff.1 h2).1
  exact ⟨h1, (hb.block D hl).trans h2⟩⟩
theorem OpenAt.lt {B : Nat} {w : World} {Ds : List Nat} (h : OpenAt B w Ds) : ∀ D ∈ Ds, D < w.heap.size := fun D hD => (Array.getElem?_eq_some_iff.1 (h.2 D hD).2).1
theorem OpenAt.snoc {B : Nat} {w : World} {Ds : List Nat} (h : OpenAt B w Ds) {D : Nat} (hD : B ≤ D) (hn : D ∉ Ds) (he : w.heap[D]? = some (.deferred (some []))) : OpenAt B w (D :: Ds) := ⟨List.pairwise_cons.2 ⟨fun x hx e => hn (e ▸ hx), h.1⟩, fun x hx => by
  rcases List.mem_cons.1 hx with e | e
  · subst e; exact ⟨hD, he⟩
  · exact h.2 x e⟩
/-- a function leaves, all its marks taken. -/
theorem leaves_marks {F : Fence} {n : Nat} {P : Program} {fn : Func} {tmps : Array Value} {R : Ending → World → Prop} (B : Nat) : ∀ (Ds : List Nat) (w : World), B ≤ w.heap.size → OpenAt B w Ds →
    (∀ w', Below B w w' → LeavesInM F n P fn tmps R [] .returning w') → LeavesInM F n P fn tmps R (Ds.map markOf) .returning w
  | [], w, _, _, h => h w (Below.refl _ _)
  | D :: Ds, w, hBw, ho, h => by
    obtain ⟨hD, he⟩ := ho.2 D (by simp)
    have hnd := List.pairwise_cons.1 ho.1
    have hg := grownBy_putObj' w D (.deferred none)
    have hb : Below B w (w.putObj D (.deferred none)) := (Below.refl B w).grown hg hBw (fun k e => by cases e; exact hD)
    refine ⟨by simp, .inl ⟨D, _, rfl, run_takeDeferred he, ?_⟩⟩
    refine leaves_marks B Ds _ (Nat.le_trans hBw hb.size) ⟨hnd.2, fun x hx => ?_⟩ (fun w' hb' => h w' (hb.trans hb'))
    obtain ⟨h1, h2⟩ := ho.2 x (List.mem_cons_of_mem _ hx)
    exact ⟨h1, (World.putObj_heap_other (fun e => hnd.1 x hx (by rw [e]))).trans h2⟩
def ToI (W8 : World) (bi : Nat) (OU : List Int) (pre : List Int) (W : World) : Prop := Below W8.heap.size W8 W ∧ (W.cell? ⟨bi, 0, none⟩ = some (.int .i64 (pre.length : Int)) ∧ W.frozen? ⟨bi, 0, none⟩ = false) ∧ pre <+: OU
def ToX (OU : List Int) (c : Code) (pre : List Int) (W : World) : Prop := ¬ pre <+: OU
theorem ToI.own {W8 : World} {bi : Nat} {OU : List Int} {B : Nat} (hB : W8.heap.size ≤ B) : OwnFrom B (ToI W8 bi OU) := fun s X Y row hs hg hr =>
  ⟨hs.1.grown hg hs.1.size (fun k e => Nat.le_trans hB (hr k e).1), ⟨cell_kept hs.2.1.1 hg (fun r e => (hr r e).2), (frozen_kept hs.2.1.1 hg (fun r e => (hr r e).2)).trans hs.2.1.2⟩, hs.2.2⟩
theorem ToX.own (OU : List Int) {B : Nat} (c : Code) : OwnFrom B (ToX OU c) := fun s X Y row hs hg hr => hs
theorem pre_step2 {OU pre : List Int} (h : pre <+: OU) (hl : pre.length < OU.length) (x : Int) : pre ++ [x] <+: OU ↔ x = av OU pre.length := by
  obtain ⟨t, rfl⟩ := h
  cases t with
  | nil => simp at hl
  | cons y t =>
    have e : av (pre ++ y :: t) pre.length = y := by simp [av]
    rw [e]
    constructor
    · rintro ⟨t', h'⟩
      rw [List.append_assoc] at h'
      have := List.append_cancel_left h'
      simp at this
      exact this.1
    · rintro rfl
      exact ⟨t, by simp⟩
end Go.Proofs.YtjnceoklnmmhjaaGreat.Tp

