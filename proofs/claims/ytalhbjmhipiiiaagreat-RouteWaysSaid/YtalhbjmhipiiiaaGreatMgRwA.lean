/- Texts that the claim hangs on, in one. -/
import Derived.Test.YtalhbjmhipiiiaaGreatTpW
import Derived.Test.YtalhbjmhipiiiaaGreatTpB
/- Maps: the document's links between nodes, and from one. -/
namespace Go.Proofs.YtalhbjmhipiiiaaGreat.Tp
set_option linter.unusedVariables false
open Go.RowKit Go.Maps

set_option maxRecDepth 100000 in
set_option maxHeartbeats 4000000 in
theorem refBetween_any (n : Int) (A : Option Addr) (L : List Lk) (c : Nat) (hL : L.length ≤ 1000000) (x y : Int) (w : World) (hA : Lie linkV 8 w w.heap.size A L) :
    Calls Tryz.prog 26 #[.agg #[.int .i64 n, .slice A L.length c], .int .i64 x, .int .i64 y] w fun e w' => e = .returned (.int .i64 (bet (endsL L) (x, y))) ∧ Below w.heap.size w w' := by
  obtain ⟨W0, hW0⟩ : ∃ W0, w.alloc (.cells #[.int .i64 n, .slice A L.length c] 30) = W0 := ⟨_, rfl⟩
  have hb0 : Below w.heap.size w W0 := by rw [← hW0]; (repeat' (first | (with_reducible exact Below.refl _ _) | (with_reducible assumption) | (with_reducible apply Below.setCell) | (with_reducible apply Below.alloc) | (with_reducible apply Below.drew) | (with_reducible apply below_drewN) | (with_reducible refine Below.trans ?_ (Below.mono (by assumption) ?_)) | omega | (simp; done) | (simp; omega)))
  have q0 : W0.cell? ⟨w.heap.size, 0, none⟩ = some (.int .i64 n) := by rw [← hW0]; simp [go_sem]
  have q1 : W0.cell? ⟨w.heap.size, 1, none⟩ = some (.slice A L.length c) := by rw [← hW0]; simp [go_sem]
  have HA := hidd (hA.below hb0)
  have HB0 := hidd hb0
  have HW := hidd hW0
  have HF := hidd (fun i h1 h2 h3 => bet_found (E := endsL L) (p := (x, y)) i h1 h2 h3)
  have HN := hidd (fun h => bet_none (E := endsL L) (p := (x, y)) h)
  have HG := hidd (fun i h => ge_endsL (L := L) (i := i) h)
  have HLE := hidd (endsL_len L)
  generalize bet (endsL L) (x, y) = R at *
  generalize endsL L = E at *
  clear hA hb0 hW0
  go_enter Tryz.func26, Tryz.ntmps26
  go_wp2_with fail
  rw [HW.out]
  go_loopg [7] (L.length + 2) (fun g s7 wr => ∃ i : Nat, i ≤ L.length ∧ i + g = L.length + 2 ∧ s7 = .int .i64 (i : Int) ∧ (∀ j, j < i → ge E j ≠ (x, y)) ∧ wr = W0)
  case atStart => exact ⟨0, by omega, by omega, rfl, fun j h => absurd h (by omega), rfl⟩
  case round =>
    obtain ⟨i, hi1, hg, rfl, hs, rfl⟩ := hrel
    have HGG := hidd hg
    have HS := hidd hs
    clear hg hs
    by_cases hin : i < L.length
    · have hin2 : (i : Int) < (L.length : Int) := by omega
      have hi0 : (0 : Int) ≤ (i : Int) := by omega
      obtain ⟨ad, rfl, ha, x0, x1, x2, x3, x4, x5, x6, x7⟩ := HA.out.link i hin
      have hge := hidd (HG.out i hin)
      have HST : Hid (ge E i ≠ (x, y) → ∀ j, j < i + 1 → ge E j ≠ (x, y)) := hidd (fun h j hj => by
        by_cases e : j = i
        · rw [e]; exact h
        · exact HS.out j (by omega))
      have HFI : Hid (ge E i = (x, y) → R = (i : Int)) := hidd (fun h => HF.out i (by have := HLE.out; omega) h HS.out)
      unfold ends1 at hge
      generalize fr (lkAt L i) = a0 at *
      generalize tw (lkAt L i) = a1 at *
      generalize rt (lkAt L i) = a2 at *
      generalize sh (lkAt L i) = a3 at *
      generalize fa (lkAt L i) = a4 at *
      generalize mo (lkAt L i) = a5 at *
      generalize ro (lkAt L i) = a6 at *
      generalize fi (lkAt L i) = a7 at *
      clear x2 x3 x4 x5 x6 x7
      by_cases hx : a0 = x
      · subst hx
        by_cases hy : a1 = y
        · subst hy
          have hR := hidd (HFI.out hge.out)
          go_wp2_with fail
          go_ret
          exact ⟨by rw [hR.out]; first | rfl | simp, HB0.out⟩
        · have hy2 : (a1 == y) = false := beq_eq_false_iff_ne.2 hy
          have hy3 : decide (a1 = y) = false := decide_eq_false hy
          have hns := hidd (HST.out (by rw [hge.out]; intro e; exact hy (congrArg Prod.snd e)))
          go_wp2_with fail
          have hg := HGG.out
          go_roundg (gk - 1)
          case measure => omega
          case rel => exact ⟨i + 1, by omega, by omega, by go_num, hns.out, rfl⟩
      · have hx2 : (a0 == x) = false := beq_eq_false_iff_ne.2 hx
        have hx3 : decide (a0 = x) = false := decide_eq_false hx
        have hns := hidd (HST.out (by rw [hge.out]; intro e; exact hx (congrArg Prod.fst e)))
        go_wp2_with fail
        have hg := HGG.out
        go_roundg (gk - 1)
        case measure => omega
        case rel => exact ⟨i + 1, by omega, by omega, by go_num, hns.out, rfl⟩
    · have hin2 : ¬ (i : Int) < (L.length : Int) := by omega
      have hR := hidd (HN.out (fun j hj => HS.out j (by have := HLE.out; omega)))
      go_wp2_with fail
      go_ret
      exact ⟨by rw [hR.out]; first | rfl | simp, HB0.out⟩

def RefOutEnd (L : List Lk) (n node : Int) (w : World) (e : Ending) (w' : World) : Prop := ∃ A c, e = .returned (.slice A (outK (endsL L) node n.toNat).length c) ∧ Lie intV 1 w' w'.heap.size A (outK (endsL L) node n.toNat) ∧ Below w.heap.size w w'
set_option maxRecDepth 100000 in
set_option maxHeartbeats 4000000 in
theorem refOut_any (n : Int) (hn1 : 0 ≤ n) (hn2 : n ≤ 16) (A : Option Addr) (L : List Lk) (c : Nat) (hL : L.length ≤ 1000000) (node : Int) (w : World) (hA : Lie linkV 8 w w.heap.size A L) :
    Calls Tryz.prog 33 #[.agg #[.int .i64 n, .slice A L.length c], .int .i64 node] w (RefOutEnd L n node w) := by
  obtain ⟨i0, hi, hz0, hz1, hz2⟩ := info_parts intInfo
  obtain ⟨W0, hW0⟩ : ∃ W0, w.alloc (.cells #[.int .i64 n, .slice A L.length c] 30) = W0 := ⟨_, rfl⟩
  have hb0 : Below w.heap.size w W0 := by rw [← hW0]; (repeat' (first | (with_reducible exact Below.refl _ _) | (with_reducible assumption) | (with_reducible apply Below.setCell) | (with_reducible apply Below.alloc) | (with_reducible apply Below.drew) | (with_reducible apply below_drewN) | (with_reducible refine Below.trans ?_ (Below.mono (by assumption) ?_)) | omega | (simp; done) | (simp; omega)))
  have hz : W0.heap.size = w.heap.size + 1 := by rw [← hW0]; simp
  have q0 : W0.cell? ⟨w.heap.size, 0, none⟩ = some (.int .i64 n) := by rw [← hW0]; simp [go_sem]
  have q1 : W0.cell? ⟨w.heap.size, 1, none⟩ = some (.slice A L.length c) := by rw [← hW0]; simp [go_sem]
  have CB := hidd (fun (W : World) (h : Below W0.heap.size W0 W) (y : Int) => refBetween_any n A L c hL node y W ((hA.below hb0).below h))
  have QC := hidd (fun W (h : Below W0.heap.size W0 W) => show W.cell? ⟨w.heap.size, 0, none⟩ = some (.int .i64 n) ∧ W.cell? ⟨w.heap.size, 1, none⟩ = some (.slice A L.length c) from ⟨(h.cell (p := ⟨w.heap.size, 0, none⟩) (show w.heap.size < W0.heap.size by omega)).trans q0, (h.cell (p := ⟨w.heap.size, 1, none⟩) (show w.heap.size < W0.heap.size by omega)).trans q1⟩)
  have HB0 := hidd hb0
  have HW := hidd hW0
  have HNN : Hid (((n.toNat : Nat) : Int) = n) := hidd (Int.toNat_of_nonneg hn1)
  have HB := hidd (fun p => And.intro (bet_lo (endsL L) p) (bet_hi (endsL L) p))
  have HLE := hidd (endsL_len L)
  have HEND : Hid (∀ (A : Option Addr) (c : Nat) w', Lie intV 1 w' w'.heap.size A (outK (endsL L) node n.toNat) → Below w.heap.size w w' → RefOutEnd L n node w (.returned (.slice A (outK (endsL L) node n.toNat).length c)) w') := hidd (fun A c w' h1 h2 => ⟨A, c, rfl, h1, h2⟩)
  obtain ⟨PO, hPO⟩ : ∃ PO, RefOutEnd L n node w = PO := ⟨_, rfl⟩
  rw [hPO] at HEND ⊢
  generalize endsL L = E at *
  clear hA hb0 hW0 hz hPO
  go_enter Tryz.func33, Tryz.ntmps33
  go_wp2_with fail
  rw [HW.out]
  go_loopg [5, 6] 20 (fun g s5 s6 wr => ∃ k : Nat, (k : Int) ≤ n ∧ k + g = 20 ∧ s6 = .int .i64 (k : Int) ∧ OwnL intV 1 wr W0.heap.size 3 s5 (outK E node k) ∧ Below W0.heap.size W0 wr)
  case atStart => exact ⟨0, by omega, by omega, rfl, OwnL.nil _ _ _, Below.refl _ _⟩
  case round =>
    obtain ⟨k, hk1, hg, rfl, hO, hB⟩ := hrel
    obtain ⟨A5, c5, rfl, _, _, hl5⟩ := hO.lie intV_len
    have HG := hidd hg
    have HBW := hidd hB
    have hsz := hB.size
    have hlen := outK_len E node k
    have HO := hidd hO
    obtain ⟨r0, r1⟩ := QC.out _ hB
    clear hg hB hO
    by_cases hin : (k : Int) < n
    · have hk0 : (0 : Int) ≤ (k : Int) := by omega
      have hbb := HB.out (node, (k : Int))
      have cb := hidd (CB.out wr HBW.out (k : Int))
      have hst : Hid (0 ≤ bet E (node, (k : Int)) → outK E node (k + 1) = outK E node k ++ [bet E (node, (k : Int))]) := hidd (fun h => by rw [outK, if_pos h])
      have hsn : Hid (¬ 0 ≤ bet E (node, (k : Int)) → outK E node (k + 1) = outK E node k) := hidd (fun h => by rw [outK, if_neg h])
      have hbhi : bet E (node, (k : Int)) ≤ 1000000 := by have := HLE.out; omega
      have hblo := hbb.1
      generalize bet E (node, (k : Int)) = V at *
      generalize outK E node k = D at *
      have HO1 : Hid (wr.ownsRow W0.heap.size 3 1 (.slice A5 D.length c5) D.length (rowOf intV D)) := HO
      obtain ⟨K, hK⟩ : ∃ K, D.length = K := ⟨_, rfl⟩
      rw [hK] at HO1 hlen ⊢
      have HK := hidd hK
      clear hK hbb hl5
      by_cases hv : 0 ≤ V
      · have hd1 : ¬ V < 0 := by omega
        go_wp2_with fail
        refine cb.out.mono ?_
        rintro e w2 ⟨rfl, hb2⟩
        have HB2 := hidd (below_step HBW.out hb2)
        have HO2 := hidd ((OwnL.below HO.out hb2))
        have hs2 := hb2.size
        have HO3 : Hid ((w2.alloc (.cells #[.int .i64 V] 3)).ownsRow W0.heap.size 3 1 (.slice A5 K c5) K (rowOf intV D)) := hidd (by rw [← HK.out]; exact World.ownsRow.alloc HO2.out _)
        have hsrc : Hid (0 < 1 → ∃ ad', some (⟨w2.heap.size, 0, none⟩ : Addr) = some ad' ∧ ∀ j u, [Value.int .i64 V][j]? = some u → (w2.alloc (.cells #[.int .i64 V] 3)).cell? (ad'.add j) = some u) := hidd (fun _ => ⟨_, rfl, fun j u hj => by
          match j, hj with
          | 0, hj => simp at hj; subst hj; simp [Addr.add, go_sem]⟩)
        have HONE : Hid (∀ u ∈ [Value.int .i64 V], u.oneCell' = true) := hidd (fun u hu => by simp at hu; subst hu; rfl)
        have hmax : Hid (K + 1 ≤ maxLen) := hidd (by unfold maxLen; omega)
        have hby : Hid ((K + 1) * 8 ≤ 140737488355328) := hidd (by omega)
        have hbase : Hid (W0.heap.size ≤ (w2.alloc (.cells #[.int .i64 V] 3)).heap.size) := hidd (by simp; omega)
        clear hb2
        go_wp2_with (first | (at_builtin; refine wpList_append_some rfl _ _ 36 rfl W0.heap.size 3 i0 (.int .i64 0) 1 8 Tryz.underlying36 hi hz0 hz1 hz2 rfl (by decide) (.slice A5 K c5) K (rowOf intV D) rfl HO3.out (some ⟨w2.heap.size, 0, none⟩) 1 1 [.int .i64 V] rfl rfl hsrc.out HONE.out hmax.out hby.out hbase.out ?_; intro v' w3 hown' hgrow hor; have HO4 := hidd hown'; have HG3 := hidd hgrow; clear hown' hgrow hor) | fail)
        have hg := HG.out
        go_roundg (gk - 1)
        case measure => omega
        case rel => exact ⟨k + 1, by omega, by omega, by go_num, by rw [hst.out hv]; exact OwnL.snoc (L := D) (x := V) HO4.out (by rw [HK.out]) rfl, (below_new HB2.out _).grown HG3.out hbase.out (fun k' e => (World.ownsRow.lt HO3.out k' e).1)⟩
      · have hd1 : V < 0 := by omega
        go_wp2_with fail
        refine cb.out.mono ?_
        rintro e w2 ⟨rfl, hb2⟩
        have HB2 := hidd (below_step HBW.out hb2)
        have HO2 := hidd ((OwnL.below HO.out hb2))
        clear hb2
        go_wp2_with fail
        have hg := HG.out
        go_roundg (gk - 1)
        case measure => omega
        case rel => exact ⟨k + 1, by omega, by omega, by go_num, by rw [hsn.out hv]; have q := HO2.out; rw [HK.out] at q; exact q, HB2.out⟩
    · have hd1 : ¬ (k : Int) < n := hin
      have hke : k = n.toNat := by have := HNN.out; omega
      have HKE := hidd hke
      have hfin := HEND.out A5 c5 wr (by rw [← hke]; exact hl5) (HB0.out.trans (HBW.out.mono HB0.out.size))
      rw [← hke] at hfin
      clear hke hl5
      go_wp2_with fail
      first | exact hfin | (go_ret; exact hfin)
end Go.Proofs.YtalhbjmhipiiiaaGreat.Tp

/- Maps: mathematics: the document's way to an error is the program's. -/
namespace Go.Proofs.YtalhbjmhipiiiaaGreat.Tp
set_option linter.unusedVariables false

theorem nodes_iff (n : Int) : nodesB n = true ↔ 1 ≤ n ∧ n ≤ 16 := inB_iff
theorem fault0_bad {n : Int} {L : List Lk} (h : ¬ (1 ≤ n ∧ n ≤ 16)) : faultE n L 0 = 2 := by
  have : nodesB n = false := inB_no h
  simp [faultE, this]
theorem fault0_wrong {n : Int} {L : List Lk} {i : Nat} (hi : i < L.length) (h : rightB n (lkAt L i) = false) : faultE n L 0 = 2 := by
  have : L.any (wrongP n) = true := List.any_eq_true.2 ⟨_, lkAt_mem hi, by unfold wrongP; rw [h]; rfl⟩
  simp [faultE, this]
theorem fault0_ok {n : Int} {L : List Lk} (h : 1 ≤ n ∧ n ≤ 16) (ha : ∀ i, i < L.length → rightB n (lkAt L i) = true) : faultE n L 0 = 0 := by
  have h1 : nodesB n = true := inB_iff.2 h
  have h2 : L.any (wrongP n) = false := by
    rw [List.any_eq_false]
    intro x hx
    obtain ⟨i, hi, rfl⟩ := List.getElem_of_mem hx
    have := ha i hi
    rw [lkAt_get hi] at this
    unfold wrongP
    rw [this]
    simp
  simp [faultE, h1, h2]
theorem errN_of0 {n : Int} {L : List Lk} (h : faultE n L 0 = 2) : errN n L = 2 := by simp [errN, h]
theorem errN_3 {n : Int} {L : List Lk} (h : faultE n L 0 = 0) (hl : 48 < L.length) : errN n L = 3 := by
  have h1 : faultE n L 1 = 3 := by simp [faultE]; omega
  simp [errN, h, h1]
theorem nodup_of_bet {L : List Lk} (h : ∀ i, i < L.length → bet (endsL L) (fr (lkAt L i), tw (lkAt L i)) = i) : (endsL L).Nodup := by
  refine List.pairwise_iff_getElem.2 (fun i j hi hj hij e => ?_)
  rw [endsL_len] at hi hj
  have h1 := h i hi
  have h2 := h j hj
  have e1 : ge (endsL L) i = ge (endsL L) j := by rw [ge_at (by rw [endsL_len]; exact hi), ge_at (by rw [endsL_len]; exact hj)]; exact e
  rw [ge_endsL hi, ge_endsL hj] at e1
  unfold ends1 at e1
  rw [e1, h2] at h1
  omega
theorem errN_190 {n : Int} {L : List Lk} (h : faultE n L 0 = 0) (hl : ¬ 48 < L.length) {i : Nat} (hi : i < L.length) (hb : bet (endsL L) (fr (lkAt L i), tw (lkAt L i)) ≠ i) : errN n L = 190 := by
  have hn : ¬ (endsL L).Nodup := fun hnd => hb (bet_of hnd hi rfl)
  have h1 : faultE n L 1 = 0 := by simp [faultE]; omega
  have h2 : faultE n L 2 = 190 := by simp [faultE, hn]
  simp [errN, h, h1, h2]
theorem errN_191 {n : Int} {L : List Lk} (h : faultE n L 0 = 0) (hl : ¬ 48 < L.length) (hd : ∀ i, i < L.length → bet (endsL L) (fr (lkAt L i), tw (lkAt L i)) = i) {i : Nat} (hi : i < L.length) (hb : bet (endsL L) (tw (lkAt L i), fr (lkAt L i)) < 0) : errN n L = 191 := by
  have hn := nodup_of_bet hd
  have h1 : faultE n L 1 = 0 := by simp [faultE]; omega
  have h2 : faultE n L 2 = 0 := by simp [faultE, hn]
  have hm : (tw (lkAt L i), fr (lkAt L i)) ∉ endsL L := by
    rcases bet_cases (endsL L) (tw (lkAt L i), fr (lkAt L i)) with ⟨h, _⟩ | ⟨k, _, _, _, hk⟩
    · exact h
    · omega
  have h3 : L.any (noBack (endsL L)) = true := List.any_eq_true.2 ⟨_, lkAt_mem hi, by unfold noBack; rw [decide_eq_false hm]; rfl⟩
  have h4 : faultE n L 3 = 191 := by simp [faultE, h3]
  simp [errN, h, h1, h2, h4]
theorem errN_0 {n : Int} {L : List Lk} (h : faultE n L 0 = 0) (hl : ¬ 48 < L.length) (hd : ∀ i, i < L.length → bet (endsL L) (fr (lkAt L i), tw (lkAt L i)) = i) (hb : ∀ i, i < L.length → ¬ bet (endsL L) (tw (lkAt L i), fr (lkAt L i)) < 0) : errN n L = 0 := by
  have hn := nodup_of_bet hd
  have h1 : faultE n L 1 = 0 := by simp [faultE]; omega
  have h2 : faultE n L 2 = 0 := by simp [faultE, hn]
  have h3 : L.any (noBack (endsL L)) = false := by
    rw [List.any_eq_false]
    intro x hx
    obtain ⟨i, hi, rfl⟩ := List.getElem_of_mem hx
    have := hb i hi
    rw [lkAt_get hi] at this
    rcases bet_cases (endsL L) (tw L[i], fr L[i]) with ⟨_, h⟩ | ⟨k, hk, he, _, _⟩
    · omega
    · have hm : (tw L[i], fr L[i]) ∈ endsL L := he ▸ ge_mem hk
      unfold noBack
      rw [decide_eq_true hm]
      simp
  have h4 : faultE n L 3 = 0 := by simp [faultE, h3]
  simp [errN, h, h1, h2, h4]
end Go.Proofs.YtalhbjmhipiiiaaGreat.Tp

/- Maps: may a link be, as the document says it. -/
namespace Go.Proofs.YtalhbjmhipiiiaaGreat.Tp
set_option linter.unusedVariables false
open Go.RowKit

theorem right_of (n a0 a1 a2 a3 a4 a5 a6 a7 : Int) (B : Bool) (h : B = true ↔ (1 ≤ n ∧ n ≤ 16) ∧ (0 ≤ a0 ∧ a0 ≤ n - 1) ∧ (0 ≤ a1 ∧ a1 ≤ n - 1) ∧ a0 ≠ a1 ∧ (1 ≤ a2 ∧ a2 ≤ 1000000) ∧ (0 ≤ a3 ∧ a3 ≤ a2) ∧ (0 ≤ a4 ∧ a4 ≤ 1000) ∧ (1 ≤ a5 ∧ a5 ≤ 2000) ∧ (0 ≤ a6 ∧ a6 ≤ 1000000000) ∧ (0 ≤ a7 ∧ a7 ≤ 1000000)) : rightB n (a0, a1, a2, a3, a4, a5, a6, a7) = B := by
  have := rightB_iff n (a0, a1, a2, a3, a4, a5, a6, a7)
  simp only [fr, tw, rt, sh, fa, mo, ro, fi] at this
  rw [Bool.eq_iff_iff]
  exact this.trans h.symm
set_option maxRecDepth 100000 in
set_option maxHeartbeats 4000000 in
theorem right_x0 (a0 a1 a2 a3 a4 a5 a6 a7 n : Int) (w : World) (h0 : a0 < 0) : Calls Tryz.prog 25 #[.agg #[.int .i64 a0, .int .i64 a1, .int .i64 a2, .int .i64 a3, .int .i64 a4, .int .i64 a5, .int .i64 a6, .int .i64 a7], .int .i64 n] w fun e w' => e = .returned (.bool false) ∧ Below w.heap.size w w' := by
  have b0 : decide (a0 < 0) = true := decide_eq_true h0
  go_enter Tryz.func25, Tryz.ntmps25
  go_wp2
  go_ret
  exact ⟨by first | rfl | simp, by (repeat' (first | (with_reducible exact Below.refl _ _) | (with_reducible assumption) | (with_reducible apply Below.setCell) | (with_reducible apply Below.alloc) | (with_reducible apply Below.drew) | (with_reducible apply below_drewN) | (with_reducible refine Below.trans ?_ (Below.mono (by assumption) ?_)) | omega | (simp; done) | (simp; omega)))⟩
set_option maxRecDepth 100000 in
set_option maxHeartbeats 4000000 in
theorem right_x1 (a0 a1 a2 a3 a4 a5 a6 a7 n : Int) (w : World) (h0 : ¬ (a0 < 0)) (h1 : n ≤ a0) : Calls Tryz.prog 25 #[.agg #[.int .i64 a0, .int .i64 a1, .int .i64 a2, .int .i64 a3, .int .i64 a4, .int .i64 a5, .int .i64 a6, .int .i64 a7], .int .i64 n] w fun e w' => e = .returned (.bool false) ∧ Below w.heap.size w w' := by
  have b0 : decide (a0 < 0) = false := decide_eq_false h0
  have b1 : decide (n ≤ a0) = true := decide_eq_true h1
  go_enter Tryz.func25, Tryz.ntmps25
  go_wp2
  go_ret
  exact ⟨by first | rfl | simp, by (repeat' (first | (with_reducible exact Below.refl _ _) | (with_reducible assumption) | (with_reducible apply Below.setCell) | (with_reducible apply Below.alloc) | (with_reducible apply Below.drew) | (with_reducible apply below_drewN) | (with_reducible refine Below.trans ?_ (Below.mono (by assumption) ?_)) | omega | (simp; done) | (simp; omega)))⟩
set_option maxRecDepth 100000 in
set_option maxHeartbeats 4000000 in
theorem right_x2 (a0 a1 a2 a3 a4 a5 a6 a7 n : Int) (w : World) (h0 : ¬ (a0 < 0)) (h1 : ¬ (n ≤ a0)) (h2 : a1 < 0) : Calls Tryz.prog 25 #[.agg #[.int .i64 a0, .int .i64 a1, .int .i64 a2, .int .i64 a3, .int .i64 a4, .int .i64 a5, .int .i64 a6, .int .i64 a7], .int .i64 n] w fun e w' => e = .returned (.bool false) ∧ Below w.heap.size w w' := by
  have b0 : decide (a0 < 0) = false := decide_eq_false h0
  have b1 : decide (n ≤ a0) = false := decide_eq_false h1
  have b2 : decide (a1 < 0) = true := decide_eq_true h2
  go_enter Tryz.func25, Tryz.ntmps25
  go_wp2
  go_ret
  exact ⟨by first | rfl | simp, by (repeat' (first | (with_reducible exact Below.refl _ _) | (with_reducible assumption) | (with_reducible apply Below.setCell) | (with_reducible apply Below.alloc) | (with_reducible apply Below.drew) | (with_reducible apply below_drewN) | (with_reducible refine Below.trans ?_ (Below.mono (by assumption) ?_)) | omega | (simp; done) | (simp; omega)))⟩
set_option maxRecDepth 100000 in
set_option maxHeartbeats 4000000 in
theorem right_x3 (a0 a1 a2 a3 a4 a5 a6 a7 n : Int) (w : World) (h0 : ¬ (a0 < 0)) (h1 : ¬ (n ≤ a0)) (h2 : ¬ (a1 < 0)) (h3 : n ≤ a1) : Calls Tryz.prog 25 #[.agg #[.int .i64 a0, .int .i64 a1, .int .i64 a2, .int .i64 a3, .int .i64 a4, .int .i64 a5, .int .i64 a6, .int .i64 a7], .int .i64 n] w fun e w' => e = .returned (.bool false) ∧ Below w.heap.size w w' := by
  have b0 : decide (a0 < 0) = false := decide_eq_false h0
  have b1 : decide (n ≤ a0) = false := decide_eq_false h1
  have b2 : decide (a1 < 0) = false := decide_eq_false h2
  have b3 : decide (n ≤ a1) = true := decide_eq_true h3
  go_enter Tryz.func25, Tryz.ntmps25
  go_wp2
  go_ret
  exact ⟨by first | rfl | simp, by (repeat' (first | (with_reducible exact Below.refl _ _) | (with_reducible assumption) | (with_reducible apply Below.setCell) | (with_reducible apply Below.alloc) | (with_reducible apply Below.drew) | (with_reducible apply below_drewN) | (with_reducible refine Below.trans ?_ (Below.mono (by assumption) ?_)) | omega | (simp; done) | (simp; omega)))⟩
set_option maxRecDepth 100000 in
set_option maxHeartbeats 4000000 in
theorem right_x4 (a0 a1 a2 a3 a4 a5 a6 a7 n : Int) (w : World) (h0 : ¬ (a0 < 0)) (h1 : ¬ (n ≤ a0)) (h2 : ¬ (a1 < 0)) (h3 : ¬ (n ≤ a1)) (h4 : a0 = a1) : Calls Tryz.prog 25 #[.agg #[.int .i64 a0, .int .i64 a1, .int .i64 a2, .int .i64 a3, .int .i64 a4, .int .i64 a5, .int .i64 a6, .int .i64 a7], .int .i64 n] w fun e w' => e = .returned (.bool false) ∧ Below w.heap.size w w' := by
  have b0 : decide (a0 < 0) = false := decide_eq_false h0
  have b1 : decide (n ≤ a0) = false := decide_eq_false h1
  have b2 : decide (a1 < 0) = false := decide_eq_false h2
  have b3 : decide (n ≤ a1) = false := decide_eq_false h3
  have b4 : decide (a0 = a1) = true := decide_eq_true h4
  go_enter Tryz.func25, Tryz.ntmps25
  go_wp2
  go_ret
  exact ⟨by first | rfl | simp, by (repeat' (first | (with_reducible exact Below.refl _ _) | (with_reducible assumption) | (with_reducible apply Below.setCell) | (with_reducible apply Below.alloc) | (with_reducible apply Below.drew) | (with_reducible apply below_drewN) | (with_reducible refine Below.trans ?_ (Below.mono (by assumption) ?_)) | omega | (simp; done) | (simp; omega)))⟩
set_option maxRecDepth 100000 in
set_option maxHeartbeats 4000000 in
theorem right_x5 (a0 a1 a2 a3 a4 a5 a6 a7 n : Int) (w : World) (h0 : ¬ (a0 < 0)) (h1 : ¬ (n ≤ a0)) (h2 : ¬ (a1 < 0)) (h3 : ¬ (n ≤ a1)) (h4 : ¬ (a0 = a1)) (h5 : 16 < n) : Calls Tryz.prog 25 #[.agg #[.int .i64 a0, .int .i64 a1, .int .i64 a2, .int .i64 a3, .int .i64 a4, .int .i64 a5, .int .i64 a6, .int .i64 a7], .int .i64 n] w fun e w' => e = .returned (.bool false) ∧ Below w.heap.size w w' := by
  have b0 : decide (a0 < 0) = false := decide_eq_false h0
  have b1 : decide (n ≤ a0) = false := decide_eq_false h1
  have b2 : decide (a1 < 0) = false := decide_eq_false h2
  have b3 : decide (n ≤ a1) = false := decide_eq_false h3
  have b4 : decide (a0 = a1) = false := decide_eq_false h4
  have b5 : decide (16 < n) = true := decide_eq_true h5
  go_enter Tryz.func25, Tryz.ntmps25
  go_wp2
  go_ret
  exact ⟨by first | rfl | simp, by (repeat' (first | (with_reducible exact Below.refl _ _) | (with_reducible assumption) | (with_reducible apply Below.setCell) | (with_reducible apply Below.alloc) | (with_reducible apply Below.drew) | (with_reducible apply below_drewN) | (with_reducible refine Below.trans ?_ (Below.mono (by assumption) ?_)) | omega | (simp; done) | (simp; omega)))⟩
set_option maxRecDepth 100000 in
set_option maxHeartbeats 4000000 in
theorem right_y0 (a0 a1 a2 a3 a4 a5 a6 a7 n : Int) (w : World) (h0 : ¬ (a0 < 0)) (h1 : ¬ (n ≤ a0)) (h2 : ¬ (a1 < 0)) (h3 : ¬ (n ≤ a1)) (h4 : ¬ (a0 = a1)) (h5 : ¬ (16 < n)) (h6 : ¬ (1 ≤ a2)) : Calls Tryz.prog 25 #[.agg #[.int .i64 a0, .int .i64 a1, .int .i64 a2, .int .i64 a3, .int .i64 a4, .int .i64 a5, .int .i64 a6, .int .i64 a7], .int .i64 n] w fun e w' => e = .returned (.bool false) ∧ Below w.heap.size w w' := by
  have b0 : decide (a0 < 0) = false := decide_eq_false h0
  have b1 : decide (n ≤ a0) = false := decide_eq_false h1
  have b2 : decide (a1 < 0) = false := decide_eq_false h2
  have b3 : decide (n ≤ a1) = false := decide_eq_false h3
  have b4 : decide (a0 = a1) = false := decide_eq_false h4
  have b5 : decide (16 < n) = false := decide_eq_false h5
  have b6 : decide (1 ≤ a2) = false := decide_eq_false h6
  go_enter Tryz.func25, Tryz.ntmps25
  go_wp2
  go_ret
  exact ⟨by first | rfl | simp, by (repeat' (first | (with_reducible exact Below.refl _ _) | (with_reducible assumption) | (with_reducible apply Below.setCell) | (with_reducible apply Below.alloc) | (with_reducible apply Below.drew) | (with_reducible apply below_drewN) | (with_reducible refine Below.trans ?_ (Below.mono (by assumption) ?_)) | omega | (simp; done) | (simp; omega)))⟩
set_option maxRecDepth 100000 in
set_option maxHeartbeats 4000000 in
theorem right_y1 (a0 a1 a2 a3 a4 a5 a6 a7 n : Int) (w : World) (h0 : ¬ (a0 < 0)) (h1 : ¬ (n ≤ a0)) (h2 : ¬ (a1 < 0)) (h3 : ¬ (n ≤ a1)) (h4 : ¬ (a0 = a1)) (h5 : ¬ (16 < n)) (h6 : 1 ≤ a2) (h7 : ¬ (a2 ≤ 1000000)) : Calls Tryz.prog 25 #[.agg #[.int .i64 a0, .int .i64 a1, .int .i64 a2, .int .i64 a3, .int .i64 a4, .int .i64 a5, .int .i64 a6, .int .i64 a7], .int .i64 n] w fun e w' => e = .returned (.bool false) ∧ Below w.heap.size w w' := by
  have b0 : decide (a0 < 0) = false := decide_eq_false h0
  have b1 : decide (n ≤ a0) = false := decide_eq_false h1
  have b2 : decide (a1 < 0) = false := decide_eq_false h2
  have b3 : decide (n ≤ a1) = false := decide_eq_false h3
  have b4 : decide (a0 = a1) = false := decide_eq_false h4
  have b5 : decide (16 < n) = false := decide_eq_false h5
  have b6 : decide (1 ≤ a2) = true := decide_eq_true h6
  have b7 : decide (a2 ≤ 1000000) = false := decide_eq_false h7
  go_enter Tryz.func25, Tryz.ntmps25
  go_wp2
  go_ret
  exact ⟨by first | rfl | simp, by (repeat' (first | (with_reducible exact Below.refl _ _) | (with_reducible assumption) | (with_reducible apply Below.setCell) | (with_reducible apply Below.alloc) | (with_reducible apply Below.drew) | (with_reducible apply below_drewN) | (with_reducible refine Below.trans ?_ (Below.mono (by assumption) ?_)) | omega | (simp; done) | (simp; omega)))⟩
set_option maxRecDepth 100000 in
set_option maxHeartbeats 4000000 in
theorem right_y2 (a0 a1 a2 a3 a4 a5 a6 a7 n : Int) (w : World) (h0 : ¬ (a0 < 0)) (h1 : ¬ (n ≤ a0)) (h2 : ¬ (a1 < 0)) (h3 : ¬ (n ≤ a1)) (h4 : ¬ (a0 = a1)) (h5 : ¬ (16 < n)) (h6 : 1 ≤ a2) (h7 : a2 ≤ 1000000) (h8 : ¬ (0 ≤ a3)) : Calls Tryz.prog 25 #[.agg #[.int .i64 a0, .int .i64 a1, .int .i64 a2, .int .i64 a3, .int .i64 a4, .int .i64 a5, .int .i64 a6, .int .i64 a7], .int .i64 n] w fun e w' => e = .returned (.bool false) ∧ Below w.heap.size w w' := by
  have b0 : decide (a0 < 0) = false := decide_eq_false h0
  have b1 : decide (n ≤ a0) = false := decide_eq_false h1
  have b2 : decide (a1 < 0) = false := decide_eq_false h2
  have b3 : decide (n ≤ a1) = false := decide_eq_false h3
  have b4 : decide (a0 = a1) = false := decide_eq_false h4
  have b5 : decide (16 < n) = false := decide_eq_false h5
  have b6 : decide (1 ≤ a2) = true := decide_eq_true h6
  have b7 : decide (a2 ≤ 1000000) = true := decide_eq_true h7
  have b8 : decide (0 ≤ a3) = false := decide_eq_false h8
  go_enter Tryz.func25, Tryz.ntmps25
  go_wp2
  go_ret
  exact ⟨by first | rfl | simp, by (repeat' (first | (with_reducible exact Below.refl _ _) | (with_reducible assumption) | (with_reducible apply Below.setCell) | (with_reducible apply Below.alloc) | (with_reducible apply Below.drew) | (with_reducible apply below_drewN) | (with_reducible refine Below.trans ?_ (Below.mono (by assumption) ?_)) | omega | (simp; done) | (simp; omega)))⟩
set_option maxRecDepth 100000 in
set_option maxHeartbeats 4000000 in
theorem right_y3 (a0 a1 a2 a3 a4 a5 a6 a7 n : Int) (w : World) (h0 : ¬ (a0 < 0)) (h1 : ¬ (n ≤ a0)) (h2 : ¬ (a1 < 0)) (h3 : ¬ (n ≤ a1)) (h4 : ¬ (a0 = a1)) (h5 : ¬ (16 < n)) (h6 : 1 ≤ a2) (h7 : a2 ≤ 1000000) (h8 : 0 ≤ a3) (h9 : ¬ (a3 ≤ a2)) : Calls Tryz.prog 25 #[.agg #[.int .i64 a0, .int .i64 a1, .int .i64 a2, .int .i64 a3, .int .i64 a4, .int .i64 a5, .int .i64 a6, .int .i64 a7], .int .i64 n] w fun e w' => e = .returned (.bool false) ∧ Below w.heap.size w w' := by
  have b0 : decide (a0 < 0) = false := decide_eq_false h0
  have b1 : decide (n ≤ a0) = false := decide_eq_false h1
  have b2 : decide (a1 < 0) = false := decide_eq_false h2
  have b3 : decide (n ≤ a1) = false := decide_eq_false h3
  have b4 : decide (a0 = a1) = false := decide_eq_false h4
  have b5 : decide (16 < n) = false := decide_eq_false h5
  have b6 : decide (1 ≤ a2) = true := decide_eq_true h6
  have b7 : decide (a2 ≤ 1000000) = true := decide_eq_true h7
  have b8 : decide (0 ≤ a3) = true := decide_eq_true h8
  have b9 : decide (a3 ≤ a2) = false := decide_eq_false h9
  go_enter Tryz.func25, Tryz.ntmps25
  go_wp2
  go_ret
  exact ⟨by first | rfl | simp, by (repeat' (first | (with_reducible exact Below.refl _ _) | (with_reducible assumption) | (with_reducible apply Below.setCell) | (with_reducible apply Below.alloc) | (with_reducible apply Below.drew) | (with_reducible apply below_drewN) | (with_reducible refine Below.trans ?_ (Below.mono (by assumption) ?_)) | omega | (simp; done) | (simp; omega)))⟩
set_option maxRecDepth 100000 in
set_option maxHeartbeats 4000000 in
theorem right_y4 (a0 a1 a2 a3 a4 a5 a6 a7 n : Int) (w : World) (h0 : ¬ (a0 < 0)) (h1 : ¬ (n ≤ a0)) (h2 : ¬ (a1 < 0)) (h3 : ¬ (n ≤ a1)) (h4 : ¬ (a0 = a1)) (h5 : ¬ (16 < n)) (h6 : 1 ≤ a2) (h7 : a2 ≤ 1000000) (h8 : 0 ≤ a3) (h9 : a3 ≤ a2) (h10 : ¬ (0 ≤ a4)) : Calls Tryz.prog 25 #[.agg #[.int .i64 a0, .int .i64 a1, .int .i64 a2, .int .i64 a3, .int .i64 a4, .int .i64 a5, .int .i64 a6, .int .i64 a7], .int .i64 n] w fun e w' => e = .returned (.bool false) ∧ Below w.heap.size w w' := by
  have b0 : decide (a0 < 0) = false := decide_eq_false h0
  have b1 : decide (n ≤ a0) = false := decide_eq_false h1
  have b2 : decide (a1 < 0) = false := decide_eq_false h2
  have b3 : decide (n ≤ a1) = false := decide_eq_false h3
  have b4 : decide (a0 = a1) = false := decide_eq_false h4
  have b5 : decide (16 < n) = false := decide_eq_false h5
  have b6 : decide (1 ≤ a2) = true := decide_eq_true h6
  have b7 : decide (a2 ≤ 1000000) = true := decide_eq_true h7
  have b8 : decide (0 ≤ a3) = true := decide_eq_true h8
  have b9 : decide (a3 ≤ a2) = true := decide_eq_true h9
  have b10 : decide (0 ≤ a4) = false := decide_eq_false h10
  go_enter Tryz.func25, Tryz.ntmps25
  go_wp2
  go_ret
  exact ⟨by first | rfl | simp, by (repeat' (first | (with_reducible exact Below.refl _ _) | (with_reducible assumption) | (with_reducible apply Below.setCell) | (with_reducible apply Below.alloc) | (with_reducible apply Below.drew) | (with_reducible apply below_drewN) | (with_reducible refine Below.trans ?_ (Below.mono (by assumption) ?_)) | omega | (simp; done) | (simp; omega)))⟩
set_option maxRecDepth 100000 in
set_option maxHeartbeats 4000000 in
theorem right_y5 (a0 a1 a2 a3 a4 a5 a6 a7 n : Int) (w : World) (h0 : ¬ (a0 < 0)) (h1 : ¬ (n ≤ a0)) (h2 : ¬ (a1 < 0)) (h3 : ¬ (n ≤ a1)) (h4 : ¬ (a0 = a1)) (h5 : ¬ (16 < n)) (h6 : 1 ≤ a2) (h7 : a2 ≤ 1000000) (h8 : 0 ≤ a3) (h9 : a3 ≤ a2) (h10 : 0 ≤ a4) (h11 : ¬ (a4 ≤ 1000)) : Calls Tryz.prog 25 #[.agg #[.int .i64 a0, .int .i64 a1, .int .i64 a2, .int .i64 a3, .int .i64 a4, .int .i64 a5, .int .i64 a6, .int .i64 a7], .int .i64 n] w fun e w' => e = .returned (.bool false) ∧ Below w.heap.size w w' := by
  have b0 : decide (a0 < 0) = false := decide_eq_false h0
  have b1 : decide (n ≤ a0) = false := decide_eq_false h1
  have b2 : decide (a1 < 0) = false := decide_eq_false h2
  have b3 : decide (n ≤ a1) = false := decide_eq_false h3
  have b4 : decide (a0 = a1) = false := decide_eq_false h4
  have b5 : decide (16 < n) = false := decide_eq_false h5
  have b6 : decide (1 ≤ a2) = true := decide_eq_true h6
  have b7 : decide (a2 ≤ 1000000) = true := decide_eq_true h7
  have b8 : decide (0 ≤ a3) = true := decide_eq_true h8
  have b9 : decide (a3 ≤ a2) = true := decide_eq_true h9
  have b10 : decide (0 ≤ a4) = true := decide_eq_true h10
  have b11 : decide (a4 ≤ 1000) = false := decide_eq_false h11
  go_enter Tryz.func25, Tryz.ntmps25
  go_wp2
  go_ret
  exact ⟨by first | rfl | simp, by (repeat' (first | (with_reducible exact Below.refl _ _) | (with_reducible assumption) | (with_reducible apply Below.setCell) | (with_reducible apply Below.alloc) | (with_reducible apply Below.drew) | (with_reducible apply below_drewN) | (with_reducible refine Below.trans ?_ (Below.mono (by assumption) ?_)) | omega | (simp; done) | (simp; omega)))⟩
set_option maxRecDepth 100000 in
set_option maxHeartbeats 4000000 in
theorem right_y6 (a0 a1 a2 a3 a4 a5 a6 a7 n : Int) (w : World) (h0 : ¬ (a0 < 0)) (h1 : ¬ (n ≤ a0)) (h2 : ¬ (a1 < 0)) (h3 : ¬ (n ≤ a1)) (h4 : ¬ (a0 = a1)) (h5 : ¬ (16 < n)) (h6 : 1 ≤ a2) (h7 : a2 ≤ 1000000) (h8 : 0 ≤ a3) (h9 : a3 ≤ a2) (h10 : 0 ≤ a4) (h11 : a4 ≤ 1000) (h12 : ¬ (1 ≤ a5)) : Calls Tryz.prog 25 #[.agg #[.int .i64 a0, .int .i64 a1, .int .i64 a2, .int .i64 a3, .int .i64 a4, .int .i64 a5, .int .i64 a6, .int .i64 a7], .int .i64 n] w fun e w' => e = .returned (.bool false) ∧ Below w.heap.size w w' := by
  have b0 : decide (a0 < 0) = false := decide_eq_false h0
  have b1 : decide (n ≤ a0) = false := decide_eq_false h1
  have b2 : decide (a1 < 0) = false := decide_eq_false h2
  have b3 : decide (n ≤ a1) = false := decide_eq_false h3
  have b4 : decide (a0 = a1) = false := decide_eq_false h4
  have b5 : decide (16 < n) = false := decide_eq_false h5
  have b6 : decide (1 ≤ a2) = true := decide_eq_true h6
  have b7 : decide (a2 ≤ 1000000) = true := decide_eq_true h7
  have b8 : decide (0 ≤ a3) = true := decide_eq_true h8
  have b9 : decide (a3 ≤ a2) = true := decide_eq_true h9
  have b10 : decide (0 ≤ a4) = true := decide_eq_true h10
  have b11 : decide (a4 ≤ 1000) = true := decide_eq_true h11
  have b12 : decide (1 ≤ a5) = false := decide_eq_false h12
  go_enter Tryz.func25, Tryz.ntmps25
  go_wp2
  go_ret
  exact ⟨by first | rfl | simp, by (repeat' (first | (with_reducible exact Below.refl _ _) | (with_reducible assumption) | (with_reducible apply Below.setCell) | (with_reducible apply Below.alloc) | (with_reducible apply Below.drew) | (with_reducible apply below_drewN) | (with_reducible refine Below.trans ?_ (Below.mono (by assumption) ?_)) | omega | (simp; done) | (simp; omega)))⟩
set_option maxRecDepth 100000 in
set_option maxHeartbeats 4000000 in
theorem right_y7 (a0 a1 a2 a3 a4 a5 a6 a7 n : Int) (w : World) (h0 : ¬ (a0 < 0)) (h1 : ¬ (n ≤ a0)) (h2 : ¬ (a1 < 0)) (h3 : ¬ (n ≤ a1)) (h4 : ¬ (a0 = a1)) (h5 : ¬ (16 < n)) (h6 : 1 ≤ a2) (h7 : a2 ≤ 1000000) (h8 : 0 ≤ a3) (h9 : a3 ≤ a2) (h10 : 0 ≤ a4) (h11 : a4 ≤ 1000) (h12 : 1 ≤ a5) (h13 : ¬ (a5 ≤ 2000)) : Calls Tryz.prog 25 #[.agg #[.int .i64 a0, .int .i64 a1, .int .i64 a2, .int .i64 a3, .int .i64 a4, .int .i64 a5, .int .i64 a6, .int .i64 a7], .int .i64 n] w fun e w' => e = .returned (.bool false) ∧ Below w.heap.size w w' := by
  have b0 : decide (a0 < 0) = false := decide_eq_false h0
  have b1 : decide (n ≤ a0) = false := decide_eq_false h1
  have b2 : decide (a1 < 0) = false := decide_eq_false h2
  have b3 : decide (n ≤ a1) = false := decide_eq_false h3
  have b4 : decide (a0 = a1) = false := decide_eq_false h4
  have b5 : decide (16 < n) = false := decide_eq_false h5
  have b6 : decide (1 ≤ a2) = true := decide_eq_true h6
  have b7 : decide (a2 ≤ 1000000) = true := decide_eq_true h7
  have b8 : decide (0 ≤ a3) = true := decide_eq_true h8
  have b9 : decide (a3 ≤ a2) = true := decide_eq_true h9
  have b10 : decide (0 ≤ a4) = true := decide_eq_true h10
  have b11 : decide (a4 ≤ 1000) = true := decide_eq_true h11
  have b12 : decide (1 ≤ a5) = true := decide_eq_true h12
  have b13 : decide (a5 ≤ 2000) = false := decide_eq_false h13
  go_enter Tryz.func25, Tryz.ntmps25
  go_wp2
  go_ret
  exact ⟨by first | rfl | simp, by (repeat' (first | (with_reducible exact Below.refl _ _) | (with_reducible assumption) | (with_reducible apply Below.setCell) | (with_reducible apply Below.alloc) | (with_reducible apply Below.drew) | (with_reducible apply below_drewN) | (with_reducible refine Below.trans ?_ (Below.mono (by assumption) ?_)) | omega | (simp; done) | (simp; omega)))⟩
set_option maxRecDepth 100000 in
set_option maxHeartbeats 4000000 in
theorem right_y8 (a0 a1 a2 a3 a4 a5 a6 a7 n : Int) (w : World) (h0 : ¬ (a0 < 0)) (h1 : ¬ (n ≤ a0)) (h2 : ¬ (a1 < 0)) (h3 : ¬ (n ≤ a1)) (h4 : ¬ (a0 = a1)) (h5 : ¬ (16 < n)) (h6 : 1 ≤ a2) (h7 : a2 ≤ 1000000) (h8 : 0 ≤ a3) (h9 : a3 ≤ a2) (h10 : 0 ≤ a4) (h11 : a4 ≤ 1000) (h12 : 1 ≤ a5) (h13 : a5 ≤ 2000) (h14 : ¬ (0 ≤ a6)) : Calls Tryz.prog 25 #[.agg #[.int .i64 a0, .int .i64 a1, .int .i64 a2, .int .i64 a3, .int .i64 a4, .int .i64 a5, .int .i64 a6, .int .i64 a7], .int .i64 n] w fun e w' => e = .returned (.bool false) ∧ Below w.heap.size w w' := by
  have b0 : decide (a0 < 0) = false := decide_eq_false h0
  have b1 : decide (n ≤ a0) = false := decide_eq_false h1
  have b2 : decide (a1 < 0) = false := decide_eq_false h2
  have b3 : decide (n ≤ a1) = false := decide_eq_false h3
  have b4 : decide (a0 = a1) = false := decide_eq_false h4
  have b5 : decide (16 < n) = false := decide_eq_false h5
  have b6 : decide (1 ≤ a2) = true := decide_eq_true h6
  have b7 : decide (a2 ≤ 1000000) = true := decide_eq_true h7
  have b8 : decide (0 ≤ a3) = true := decide_eq_true h8
  have b9 : decide (a3 ≤ a2) = true := decide_eq_true h9
  have b10 : decide (0 ≤ a4) = true := decide_eq_true h10
  have b11 : decide (a4 ≤ 1000) = true := decide_eq_true h11
  have b12 : decide (1 ≤ a5) = true := decide_eq_true h12
  have b13 : decide (a5 ≤ 2000) = true := decide_eq_true h13
  have b14 : decide (0 ≤ a6) = false := decide_eq_false h14
  go_enter Tryz.func25, Tryz.ntmps25
  go_wp2
  go_ret
  exact ⟨by first | rfl | simp, by (repeat' (first | (with_reducible exact Below.refl _ _) | (with_reducible assumption) | (with_reducible apply Below.setCell) | (with_reducible apply Below.alloc) | (with_reducible apply Below.drew) | (with_reducible apply below_drewN) | (with_reducible refine Below.trans ?_ (Below.mono (by assumption) ?_)) | omega | (simp; done) | (simp; omega)))⟩
set_option maxRecDepth 100000 in
set_option maxHeartbeats 4000000 in
theorem right_y9 (a0 a1 a2 a3 a4 a5 a6 a7 n : Int) (w : World) (h0 : ¬ (a0 < 0)) (h1 : ¬ (n ≤ a0)) (h2 : ¬ (a1 < 0)) (h3 : ¬ (n ≤ a1)) (h4 : ¬ (a0 = a1)) (h5 : ¬ (16 < n)) (h6 : 1 ≤ a2) (h7 : a2 ≤ 1000000) (h8 : 0 ≤ a3) (h9 : a3 ≤ a2) (h10 : 0 ≤ a4) (h11 : a4 ≤ 1000) (h12 : 1 ≤ a5) (h13 : a5 ≤ 2000) (h14 : 0 ≤ a6) (h15 : ¬ (a6 ≤ 1000000000)) : Calls Tryz.prog 25 #[.agg #[.int .i64 a0, .int .i64 a1, .int .i64 a2, .int .i64 a3, .int .i64 a4, .int .i64 a5, .int .i64 a6, .int .i64 a7], .int .i64 n] w fun e w' => e = .returned (.bool false) ∧ Below w.heap.size w w' := by
  have b0 : decide (a0 < 0) = false := decide_eq_false h0
  have b1 : decide (n ≤ a0) = false := decide_eq_false h1
  have b2 : decide (a1 < 0) = false := decide_eq_false h2
  have b3 : decide (n ≤ a1) = false := decide_eq_false h3
  have b4 : decide (a0 = a1) = false := decide_eq_false h4
  have b5 : decide (16 < n) = false := decide_eq_false h5
  have b6 : decide (1 ≤ a2) = true := decide_eq_true h6
  have b7 : decide (a2 ≤ 1000000) = true := decide_eq_true h7
  have b8 : decide (0 ≤ a3) = true := decide_eq_true h8
  have b9 : decide (a3 ≤ a2) = true := decide_eq_true h9
  have b10 : decide (0 ≤ a4) = true := decide_eq_true h10
  have b11 : decide (a4 ≤ 1000) = true := decide_eq_true h11
  have b12 : decide (1 ≤ a5) = true := decide_eq_true h12
  have b13 : decide (a5 ≤ 2000) = true := decide_eq_true h13
  have b14 : decide (0 ≤ a6) = true := decide_eq_true h14
  have b15 : decide (a6 ≤ 1000000000) = false := decide_eq_false h15
  go_enter Tryz.func25, Tryz.ntmps25
  go_wp2
  go_ret
  exact ⟨by first | rfl | simp, by (repeat' (first | (with_reducible exact Below.refl _ _) | (with_reducible assumption) | (with_reducible apply Below.setCell) | (with_reducible apply Below.alloc) | (with_reducible apply Below.drew) | (with_reducible apply below_drewN) | (with_reducible refine Below.trans ?_ (Below.mono (by assumption) ?_)) | omega | (simp; done) | (simp; omega)))⟩
set_option maxRecDepth 100000 in
set_option maxHeartbeats 4000000 in
theorem right_y10 (a0 a1 a2 a3 a4 a5 a6 a7 n : Int) (w : World) (h0 : ¬ (a0 < 0)) (h1 : ¬ (n ≤ a0)) (h2 : ¬ (a1 < 0)) (h3 : ¬ (n ≤ a1)) (h4 : ¬ (a0 = a1)) (h5 : ¬ (16 < n)) (h6 : 1 ≤ a2) (h7 : a2 ≤ 1000000) (h8 : 0 ≤ a3) (h9 : a3 ≤ a2) (h10 : 0 ≤ a4) (h11 : a4 ≤ 1000) (h12 : 1 ≤ a5) (h13 : a5 ≤ 2000) (h14 : 0 ≤ a6) (h15 : a6 ≤ 1000000000) (h16 : ¬ (0 ≤ a7)) : Calls Tryz.prog 25 #[.agg #[.int .i64 a0, .int .i64 a1, .int .i64 a2, .int .i64 a3, .int .i64 a4, .int .i64 a5, .int .i64 a6, .int .i64 a7], .int .i64 n] w fun e w' => e = .returned (.bool false) ∧ Below w.heap.size w w' := by
  have b0 : decide (a0 < 0) = false := decide_eq_false h0
  have b1 : decide (n ≤ a0) = false := decide_eq_false h1
  have b2 : decide (a1 < 0) = false := decide_eq_false h2
  have b3 : decide (n ≤ a1) = false := decide_eq_false h3
  have b4 : decide (a0 = a1) = false := decide_eq_false h4
  have b5 : decide (16 < n) = false := decide_eq_false h5
  have b6 : decide (1 ≤ a2) = true := decide_eq_true h6
  have b7 : decide (a2 ≤ 1000000) = true := decide_eq_true h7
  have b8 : decide (0 ≤ a3) = true := decide_eq_true h8
  have b9 : decide (a3 ≤ a2) = true := decide_eq_true h9
  have b10 : decide (0 ≤ a4) = true := decide_eq_true h10
  have b11 : decide (a4 ≤ 1000) = true := decide_eq_true h11
  have b12 : decide (1 ≤ a5) = true := decide_eq_true h12
  have b13 : decide (a5 ≤ 2000) = true := decide_eq_true h13
  have b14 : decide (0 ≤ a6) = true := decide_eq_true h14
  have b15 : decide (a6 ≤ 1000000000) = true := decide_eq_true h15
  have b16 : decide (0 ≤ a7) = false := decide_eq_false h16
  go_enter Tryz.func25, Tryz.ntmps25
  go_wp2
  go_ret
  exact ⟨by first | rfl | simp, by (repeat' (first | (with_reducible exact Below.refl _ _) | (with_reducible assumption) | (with_reducible apply Below.setCell) | (with_reducible apply Below.alloc) | (with_reducible apply Below.drew) | (with_reducible apply below_drewN) | (with_reducible refine Below.trans ?_ (Below.mono (by assumption) ?_)) | omega | (simp; done) | (simp; omega)))⟩
set_option maxRecDepth 100000 in
set_option maxHeartbeats 4000000 in
theorem right_y11 (a0 a1 a2 a3 a4 a5 a6 a7 n : Int) (w : World) (h0 : ¬ (a0 < 0)) (h1 : ¬ (n ≤ a0)) (h2 : ¬ (a1 < 0)) (h3 : ¬ (n ≤ a1)) (h4 : ¬ (a0 = a1)) (h5 : ¬ (16 < n)) (h6 : 1 ≤ a2) (h7 : a2 ≤ 1000000) (h8 : 0 ≤ a3) (h9 : a3 ≤ a2) (h10 : 0 ≤ a4) (h11 : a4 ≤ 1000) (h12 : 1 ≤ a5) (h13 : a5 ≤ 2000) (h14 : 0 ≤ a6) (h15 : a6 ≤ 1000000000) (h16 : 0 ≤ a7) (h17 : ¬ (a7 ≤ 1000000)) : Calls Tryz.prog 25 #[.agg #[.int .i64 a0, .int .i64 a1, .int .i64 a2, .int .i64 a3, .int .i64 a4, .int .i64 a5, .int .i64 a6, .int .i64 a7], .int .i64 n] w fun e w' => e = .returned (.bool false) ∧ Below w.heap.size w w' := by
  have b0 : decide (a0 < 0) = false := decide_eq_false h0
  have b1 : decide (n ≤ a0) = false := decide_eq_false h1
  have b2 : decide (a1 < 0) = false := decide_eq_false h2
  have b3 : decide (n ≤ a1) = false := decide_eq_false h3
  have b4 : decide (a0 = a1) = false := decide_eq_false h4
  have b5 : decide (16 < n) = false := decide_eq_false h5
  have b6 : decide (1 ≤ a2) = true := decide_eq_true h6
  have b7 : decide (a2 ≤ 1000000) = true := decide_eq_true h7
  have b8 : decide (0 ≤ a3) = true := decide_eq_true h8
  have b9 : decide (a3 ≤ a2) = true := decide_eq_true h9
  have b10 : decide (0 ≤ a4) = true := decide_eq_true h10
  have b11 : decide (a4 ≤ 1000) = true := decide_eq_true h11
  have b12 : decide (1 ≤ a5) = true := decide_eq_true h12
  have b13 : decide (a5 ≤ 2000) = true := decide_eq_true h13
  have b14 : decide (0 ≤ a6) = true := decide_eq_true h14
  have b15 : decide (a6 ≤ 1000000000) = true := decide_eq_true h15
  have b16 : decide (0 ≤ a7) = true := decide_eq_true h16
  have b17 : decide (a7 ≤ 1000000) = false := decide_eq_false h17
  go_enter Tryz.func25, Tryz.ntmps25
  go_wp2
  go_ret
  exact ⟨by first | rfl | simp, by (repeat' (first | (with_reducible exact Below.refl _ _) | (with_reducible assumption) | (with_reducible apply Below.setCell) | (with_reducible apply Below.alloc) | (with_reducible apply Below.drew) | (with_reducible apply below_drewN) | (with_reducible refine Below.trans ?_ (Below.mono (by assumption) ?_)) | omega | (simp; done) | (simp; omega)))⟩
set_option maxRecDepth 100000 in
set_option maxHeartbeats 4000000 in
theorem right_z (a0 a1 a2 a3 a4 a5 a6 a7 n : Int) (w : World) (h0 : ¬ (a0 < 0)) (h1 : ¬ (n ≤ a0)) (h2 : ¬ (a1 < 0)) (h3 : ¬ (n ≤ a1)) (h4 : ¬ (a0 = a1)) (h5 : ¬ (16 < n)) (h6 : 1 ≤ a2) (h7 : a2 ≤ 1000000) (h8 : 0 ≤ a3) (h9 : a3 ≤ a2) (h10 : 0 ≤ a4) (h11 : a4 ≤ 1000) (h12 : 1 ≤ a5) (h13 : a5 ≤ 2000) (h14 : 0 ≤ a6) (h15 : a6 ≤ 1000000000) (h16 : 0 ≤ a7) (h17 : a7 ≤ 1000000) : Calls Tryz.prog 25 #[.agg #[.int .i64 a0, .int .i64 a1, .int .i64 a2, .int .i64 a3, .int .i64 a4, .int .i64 a5, .int .i64 a6, .int .i64 a7], .int .i64 n] w fun e w' => e = .returned (.bool true) ∧ Below w.heap.size w w' := by
  have b0 : decide (a0 < 0) = false := decide_eq_false h0
  have b1 : decide (n ≤ a0) = false := decide_eq_false h1
  have b2 : decide (a1 < 0) = false := decide_eq_false h2
  have b3 : decide (n ≤ a1) = false := decide_eq_false h3
  have b4 : decide (a0 = a1) = false := decide_eq_false h4
  have b5 : decide (16 < n) = false := decide_eq_false h5
  have b6 : decide (1 ≤ a2) = true := decide_eq_true h6
  have b7 : decide (a2 ≤ 1000000) = true := decide_eq_true h7
  have b8 : decide (0 ≤ a3) = true := decide_eq_true h8
  have b9 : decide (a3 ≤ a2) = true := decide_eq_true h9
  have b10 : decide (0 ≤ a4) = true := decide_eq_true h10
  have b11 : decide (a4 ≤ 1000) = true := decide_eq_true h11
  have b12 : decide (1 ≤ a5) = true := decide_eq_true h12
  have b13 : decide (a5 ≤ 2000) = true := decide_eq_true h13
  have b14 : decide (0 ≤ a6) = true := decide_eq_true h14
  have b15 : decide (a6 ≤ 1000000000) = true := decide_eq_true h15
  have b16 : decide (0 ≤ a7) = true := decide_eq_true h16
  have b17 : decide (a7 ≤ 1000000) = true := decide_eq_true h17
  go_enter Tryz.func25, Tryz.ntmps25
  go_wp2
  go_ret
  exact ⟨by first | rfl | simp, by (repeat' (first | (with_reducible exact Below.refl _ _) | (with_reducible assumption) | (with_reducible apply Below.setCell) | (with_reducible apply Below.alloc) | (with_reducible apply Below.drew) | (with_reducible apply below_drewN) | (with_reducible refine Below.trans ?_ (Below.mono (by assumption) ?_)) | omega | (simp; done) | (simp; omega)))⟩
theorem refRight_any (a0 a1 a2 a3 a4 a5 a6 a7 n : Int) (w : World) : Calls Tryz.prog 25 #[.agg #[.int .i64 a0, .int .i64 a1, .int .i64 a2, .int .i64 a3, .int .i64 a4, .int .i64 a5, .int .i64 a6, .int .i64 a7], .int .i64 n] w fun e w' => e = .returned (.bool (rightB n (a0, a1, a2, a3, a4, a5, a6, a7))) ∧ Below w.heap.size w w' := by
  by_cases h0 : a0 < 0
  · rw [right_of n a0 a1 a2 a3 a4 a5 a6 a7 false ⟨fun h => absurd h (by decide), fun h => by omega⟩]
    exact right_x0 a0 a1 a2 a3 a4 a5 a6 a7 n w h0
  by_cases h1 : n ≤ a0
  · rw [right_of n a0 a1 a2 a3 a4 a5 a6 a7 false ⟨fun h => absurd h (by decide), fun h => by omega⟩]
    exact right_x1 a0 a1 a2 a3 a4 a5 a6 a7 n w h0 h1
  by_cases h2 : a1 < 0
  · rw [right_of n a0 a1 a2 a3 a4 a5 a6 a7 false ⟨fun h => absurd h (by decide), fun h => by omega⟩]
    exact right_x2 a0 a1 a2 a3 a4 a5 a6 a7 n w h0 h1 h2
  by_cases h3 : n ≤ a1
  · rw [right_of n a0 a1 a2 a3 a4 a5 a6 a7 false ⟨fun h => absurd h (by decide), fun h => by omega⟩]
    exact right_x3 a0 a1 a2 a3 a4 a5 a6 a7 n w h0 h1 h2 h3
  by_cases h4 : a0 = a1
  · rw [right_of n a0 a1 a2 a3 a4 a5 a6 a7 false ⟨fun h => absurd h (by decide), fun h => by omega⟩]
    exact right_x4 a0 a1 a2 a3 a4 a5 a6 a7 n w h0 h1 h2 h3 h4
  by_cases h5 : 16 < n
  · rw [right_of n a0 a1 a2 a3 a4 a5 a6 a7 false ⟨fun h => absurd h (by decide), fun h => by omega⟩]
    exact right_x5 a0 a1 a2 a3 a4 a5 a6 a7 n w h0 h1 h2 h3 h4 h5
  by_cases g0 : 1 ≤ a2
  rotate_left
  · rw [right_of n a0 a1 a2 a3 a4 a5 a6 a7 false ⟨fun h => absurd h (by decide), fun h => by omega⟩]
    exact right_y0 a0 a1 a2 a3 a4 a5 a6 a7 n w h0 h1 h2 h3 h4 h5 g0
  by_cases g1 : a2 ≤ 1000000
  rotate_left
  · rw [right_of n a0 a1 a2 a3 a4 a5 a6 a7 false ⟨fun h => absurd h (by decide), fun h => by omega⟩]
    exact right_y1 a0 a1 a2 a3 a4 a5 a6 a7 n w h0 h1 h2 h3 h4 h5 g0 g1
  by_cases g2 : 0 ≤ a3
  rotate_left
  · rw [right_of n a0 a1 a2 a3 a4 a5 a6 a7 false ⟨fun h => absurd h (by decide), fun h => by omega⟩]
    exact right_y2 a0 a1 a2 a3 a4 a5 a6 a7 n w h0 h1 h2 h3 h4 h5 g0 g1 g2
  by_cases g3 : a3 ≤ a2
  rotate_left
  · rw [right_of n a0 a1 a2 a3 a4 a5 a6 a7 false ⟨fun h => absurd h (by decide), fun h => by omega⟩]
    exact right_y3 a0 a1 a2 a3 a4 a5 a6 a7 n w h0 h1 h2 h3 h4 h5 g0 g1 g2 g3
  by_cases g4 : 0 ≤ a4
  rotate_left
  · rw [right_of n a0 a1 a2 a3 a4 a5 a6 a7 false ⟨fun h => absurd h (by decide), fun h => by omega⟩]
    exact right_y4 a0 a1 a2 a3 a4 a5 a6 a7 n w h0 h1 h2 h3 h4 h5 g0 g1 g2 g3 g4
  by_cases g5 : a4 ≤ 1000
  rotate_left
  · rw [right_of n a0 a1 a2 a3 a4 a5 a6 a7 false ⟨fun h => absurd h (by decide), fun h => by omega⟩]
    exact right_y5 a0 a1 a2 a3 a4 a5 a6 a7 n w h0 h1 h2 h3 h4 h5 g0 g1 g2 g3 g4 g5
  by_cases g6 : 1 ≤ a5
  rotate_left
  · rw [right_of n a0 a1 a2 a3 a4 a5 a6 a7 false ⟨fun h => absurd h (by decide), fun h => by omega⟩]
    exact right_y6 a0 a1 a2 a3 a4 a5 a6 a7 n w h0 h1 h2 h3 h4 h5 g0 g1 g2 g3 g4 g5 g6
  by_cases g7 : a5 ≤ 2000
  rotate_left
  · rw [right_of n a0 a1 a2 a3 a4 a5 a6 a7 false ⟨fun h => absurd h (by decide), fun h => by omega⟩]
    exact right_y7 a0 a1 a2 a3 a4 a5 a6 a7 n w h0 h1 h2 h3 h4 h5 g0 g1 g2 g3 g4 g5 g6 g7
  by_cases g8 : 0 ≤ a6
  rotate_left
  · rw [right_of n a0 a1 a2 a3 a4 a5 a6 a7 false ⟨fun h => absurd h (by decide), fun h => by omega⟩]
    exact right_y8 a0 a1 a2 a3 a4 a5 a6 a7 n w h0 h1 h2 h3 h4 h5 g0 g1 g2 g3 g4 g5 g6 g7 g8
  by_cases g9 : a6 ≤ 1000000000
  rotate_left
  · rw [right_of n a0 a1 a2 a3 a4 a5 a6 a7 false ⟨fun h => absurd h (by decide), fun h => by omega⟩]
    exact right_y9 a0 a1 a2 a3 a4 a5 a6 a7 n w h0 h1 h2 h3 h4 h5 g0 g1 g2 g3 g4 g5 g6 g7 g8 g9
  by_cases g10 : 0 ≤ a7
  rotate_left
  · rw [right_of n a0 a1 a2 a3 a4 a5 a6 a7 false ⟨fun h => absurd h (by decide), fun h => by omega⟩]
    exact right_y10 a0 a1 a2 a3 a4 a5 a6 a7 n w h0 h1 h2 h3 h4 h5 g0 g1 g2 g3 g4 g5 g6 g7 g8 g9 g10
  by_cases g11 : a7 ≤ 1000000
  rotate_left
  · rw [right_of n a0 a1 a2 a3 a4 a5 a6 a7 false ⟨fun h => absurd h (by decide), fun h => by omega⟩]
    exact right_y11 a0 a1 a2 a3 a4 a5 a6 a7 n w h0 h1 h2 h3 h4 h5 g0 g1 g2 g3 g4 g5 g6 g7 g8 g9 g10 g11
  rw [right_of n a0 a1 a2 a3 a4 a5 a6 a7 true ⟨fun _ => by omega, fun _ => rfl⟩]
  exact right_z a0 a1 a2 a3 a4 a5 a6 a7 n w h0 h1 h2 h3 h4 h5 g0 g1 g2 g3 g4 g5 g6 g7 g8 g9 g10 g11
end Go.Proofs.YtalhbjmhipiiiaaGreat.Tp

/- Maps: the document's New. -/
namespace Go.Proofs.YtalhbjmhipiiiaaGreat.Tp
set_option linter.unusedVariables false
open Go.RowKit Go.Maps

def RefNewEnd (n : Int) (A : Option Addr) (L : List Lk) (c : Nat) (w : World) (e : Ending) (w' : World) : Prop :=
  Below w.heap.size w w' ∧ ((errN n L ≠ 0 ∧ e = .returned (.tuple #[.agg #[.int .i64 0, .slice none 0 0], .int .i64 (errN n L)])) ∨
  (errN n L = 0 ∧ e = .returned (.tuple #[.agg #[.int .i64 n, .slice A L.length c], .int .i64 0])))
set_option maxRecDepth 100000 in
set_option maxHeartbeats 8000000 in
theorem refNew_any (n : Int) (A : Option Addr) (L : List Lk) (c : Nat) (hL : L.length ≤ 1000000) (w : World) (hA : Lie linkV 8 w w.heap.size A L) :
    Calls Tryz.prog 9 #[.int .i64 n, .slice A L.length c] w (RefNewEnd n A L c w) := by
  have HNO : Hid (∀ z w', errN n L = z → z ≠ 0 → Below w.heap.size w w' → RefNewEnd n A L c w (.returned (.tuple #[.agg #[.int .i64 0, .slice none 0 0], .int .i64 z])) w') := hidd (fun z w' h h0 hb => ⟨hb, .inl ⟨by rw [h]; exact h0, by rw [h]⟩⟩)
  have HYES : Hid (∀ w', errN n L = 0 → Below w.heap.size w w' → RefNewEnd n A L c w (.returned (.tuple #[.agg #[.int .i64 n, .slice A L.length c], .int .i64 0])) w') := hidd (fun w' h hb => ⟨hb, .inr ⟨h, rfl⟩⟩)
  have H2 : Hid (faultE n L 0 = 2 → errN n L = 2) := hidd errN_of0
  have HBAD : Hid (¬ (1 ≤ n ∧ n ≤ 16) → faultE n L 0 = 2) := hidd fault0_bad
  have HWR : Hid (∀ i, i < L.length → rightB n (lkAt L i) = false → faultE n L 0 = 2) := hidd (fun i hi => fault0_wrong hi)
  have HOK : Hid (1 ≤ n ∧ n ≤ 16 → (∀ i, i < L.length → rightB n (lkAt L i) = true) → faultE n L 0 = 0) := hidd fault0_ok
  have H3 : Hid (faultE n L 0 = 0 → 48 < L.length → errN n L = 3) := hidd errN_3
  have H190 : Hid (faultE n L 0 = 0 → ¬ 48 < L.length → ∀ i, i < L.length → bet (endsL L) (fr (lkAt L i), tw (lkAt L i)) ≠ i → errN n L = 190) := hidd (fun h hl i hi => errN_190 h hl hi)
  have H191 : Hid (faultE n L 0 = 0 → ¬ 48 < L.length → (∀ i, i < L.length → bet (endsL L) (fr (lkAt L i), tw (lkAt L i)) = i) → ∀ i, i < L.length → bet (endsL L) (tw (lkAt L i), fr (lkAt L i)) < 0 → errN n L = 191) := hidd (fun h hl hd i hi => errN_191 h hl hd hi)
  have H0 : Hid (faultE n L 0 = 0 → ¬ 48 < L.length → (∀ i, i < L.length → bet (endsL L) (fr (lkAt L i), tw (lkAt L i)) = i) → (∀ i, i < L.length → ¬ bet (endsL L) (tw (lkAt L i), fr (lkAt L i)) < 0) → errN n L = 0) := hidd errN_0
  obtain ⟨PO, hPO⟩ : ∃ PO, RefNewEnd n A L c w = PO := ⟨_, rfl⟩
  rw [hPO] at HNO HYES ⊢
  generalize errN n L = EN at *
  generalize faultE n L 0 = F0 at *
  obtain ⟨W0, hW0⟩ : ∃ W0, ((w.alloc (.cells #[.int .i64 0, .slice none 0 0] 30)).alloc (.cells #[.int .i64 n, .slice A L.length c] 30)) = W0 := ⟨_, rfl⟩
  have hb0 : Below w.heap.size w W0 := by rw [← hW0]; (repeat' (first | (with_reducible exact Below.refl _ _) | (with_reducible assumption) | (with_reducible apply Below.setCell) | (with_reducible apply Below.alloc) | (with_reducible apply Below.drew) | (with_reducible apply below_drewN) | (with_reducible refine Below.trans ?_ (Below.mono (by assumption) ?_)) | omega | (simp; done) | (simp; omega)))
  have hz : W0.heap.size = w.heap.size + 2 := by rw [← hW0]; simp
  have r0 : W0.cell? ⟨w.heap.size, 0, none⟩ = some (.int .i64 0) := by rw [← hW0]; simp [go_sem]
  have r1 : W0.cell? ⟨w.heap.size, 1, none⟩ = some (.slice none 0 0) := by rw [← hW0]; simp [go_sem]
  have q0 : W0.cell? ⟨w.heap.size + 1, 0, none⟩ = some (.int .i64 n) := by rw [← hW0]; simp [go_sem]
  have q1 : W0.cell? ⟨w.heap.size + 1, 1, none⟩ = some (.slice A L.length c) := by rw [← hW0]; simp [go_sem]
  have CB := hidd (fun (W : World) (h : Below W0.heap.size W0 W) (x y : Int) => refBetween_any n A L c hL x y W ((hA.below hb0).below h))
  have CR := hidd (fun (W : World) a0 a1 a2 a3 a4 a5 a6 a7 => refRight_any a0 a1 a2 a3 a4 a5 a6 a7 n W)
  have QC := hidd (fun W (h : Below W0.heap.size W0 W) => show W.cell? ⟨w.heap.size, 0, none⟩ = some (.int .i64 0) ∧ W.cell? ⟨w.heap.size, 1, none⟩ = some (.slice none 0 0) ∧ W.cell? ⟨w.heap.size + 1, 0, none⟩ = some (.int .i64 n) ∧ W.cell? ⟨w.heap.size + 1, 1, none⟩ = some (.slice A L.length c) from ⟨(h.cell (p := ⟨w.heap.size, 0, none⟩) (show w.heap.size < W0.heap.size by omega)).trans r0, (h.cell (p := ⟨w.heap.size, 1, none⟩) (show w.heap.size < W0.heap.size by omega)).trans r1, (h.cell (p := ⟨w.heap.size + 1, 0, none⟩) (show w.heap.size + 1 < W0.heap.size by omega)).trans q0, (h.cell (p := ⟨w.heap.size + 1, 1, none⟩) (show w.heap.size + 1 < W0.heap.size by omega)).trans q1⟩)
  have f0 : W0.frozen? ⟨w.heap.size, 0, none⟩ = false := by rw [← hW0]; simp [go_sem]
  have f1 : W0.frozen? ⟨w.heap.size, 1, none⟩ = false := by rw [← hW0]; simp [go_sem]
  have FZ := hidd (fun W (h : Below W0.heap.size W0 W) => show (W.frozen? ⟨w.heap.size, 0, none⟩ = false ∧ W.frozen? ⟨w.heap.size, 1, none⟩ = false) ∧ w.heap.size < W.heap.size from ⟨⟨(h.frozen (p := ⟨w.heap.size, 0, none⟩) (show w.heap.size < W0.heap.size by omega)).trans f0, (h.frozen (p := ⟨w.heap.size, 1, none⟩) (show w.heap.size < W0.heap.size by omega)).trans f1⟩, Nat.lt_of_lt_of_le (by omega) h.size⟩)
  have HA := hidd (fun W (h : Below W0.heap.size W0 W) => (hA.below hb0).below h)
  have HLE := hidd (endsL_len L)
  have HBI := hidd (fun p => And.intro (bet_lo (endsL L) p) (bet_hi (endsL L) p))
  have HB0 := hidd hb0
  have HZ := hidd hz
  have HW := hidd hW0
  have HS2 : Hid (∀ W, Below W0.heap.size W0 W → ∀ a b, Below w.heap.size w ((W.setCell ⟨w.heap.size, 0, none⟩ a).setCell ⟨w.heap.size, 1, none⟩ b)) := hidd (fun W h a b => ((hb0.trans (h.mono hb0.size)).setCell (Nat.le_refl _) _).setCell (Nat.le_refl _) _)
  have HS := hidd (fun W (h : Below W0.heap.size W0 W) => show Below w.heap.size w W from hb0.trans (h.mono hb0.size))
  clear hA hb0 hW0 hPO hz
  by_cases hn1 : n < 1
  · have hbad := hidd (HNO.out 2 · (H2.out (HBAD.out (by omega))) (by decide))
    have b1 : decide (n < 1) = true := decide_eq_true hn1
    go_enter Tryz.func9, Tryz.ntmps9
    go_wp2_with fail
    rw [HW.out]
    go_wp2_with fail
    exact bodyPost_ret (v := .tuple #[.agg #[.int .i64 0, .slice none 0 0], .int .i64 2]) (by simp [results, Tryz.results9, go_sem, *]) rfl (hbad.out _ (HS.out _ (Below.refl _ _)))
  by_cases hn2 : 16 < n
  · have hbad := hidd (HNO.out 2 · (H2.out (HBAD.out (by omega))) (by decide))
    have b1 : decide (n < 1) = false := decide_eq_false hn1
    have b2 : decide (16 < n) = true := decide_eq_true hn2
    go_enter Tryz.func9, Tryz.ntmps9
    go_wp2_with fail
    rw [HW.out]
    go_wp2_with fail
    exact bodyPost_ret (v := .tuple #[.agg #[.int .i64 0, .slice none 0 0], .int .i64 2]) (by simp [results, Tryz.results9, go_sem, *]) rfl (hbad.out _ (HS.out _ (Below.refl _ _)))
  have b1 : decide (n < 1) = false := decide_eq_false hn1
  have b2 : decide (16 < n) = false := decide_eq_false hn2
  have HOK1 := hidd (HOK.out (by omega))
  go_enter Tryz.func9, Tryz.ntmps9
  go_wp2_with fail
  rw [HW.out]
  go_wp2_with fail
  clear b1 b2 hn1 hn2 HBAD HOK r0 r1 q0 q1
  go_loopg [7] (L.length + 2) (fun g s7 wr => ∃ i : Nat, i ≤ L.length ∧ i + g = L.length + 2 ∧ s7 = .int .i64 (i : Int) ∧ (∀ j, j < i → rightB n (lkAt L j) = true) ∧ Below W0.heap.size W0 wr)
  case atStart => exact ⟨0, by omega, by omega, rfl, fun j h => absurd h (by omega), Below.refl _ _⟩
  case round =>
    obtain ⟨i, hi1, hg, rfl, hs, hB⟩ := hrel
    have HGG := hidd hg
    have HS1 := hidd hs
    have HB := hidd hB
    obtain ⟨r0, r1, q0, q1⟩ := QC.out _ hB
    clear hg hs hB
    by_cases hin : i < L.length
    · have hin2 : (i : Int) < (L.length : Int) := by omega
      have hi0 : (0 : Int) ≤ (i : Int) := by omega
      obtain ⟨ad, rfl, ha, x0, x1, x2, x3, x4, x5, x6, x7⟩ := (HA.out _ HB.out).link i hin
      have hR : rightB n (lkAt L i) = rightB n (fr (lkAt L i), tw (lkAt L i), rt (lkAt L i), sh (lkAt L i), fa (lkAt L i), mo (lkAt L i), ro (lkAt L i), fi (lkAt L i)) := rfl
      have HST : Hid (rightB n (lkAt L i) = true → ∀ j, j < i + 1 → rightB n (lkAt L j) = true) := hidd (fun h j hj => by
        by_cases e : j = i
        · rw [e]; exact h
        · exact HS1.out j (by omega))
      have HFI : Hid (rightB n (lkAt L i) = false → EN = 2) := hidd (fun h => H2.out (HWR.out i hin h))
      rw [hR] at HST HFI
      generalize fr (lkAt L i) = a0 at *
      generalize tw (lkAt L i) = a1 at *
      generalize rt (lkAt L i) = a2 at *
      generalize sh (lkAt L i) = a3 at *
      generalize fa (lkAt L i) = a4 at *
      generalize mo (lkAt L i) = a5 at *
      generalize ro (lkAt L i) = a6 at *
      generalize fi (lkAt L i) = a7 at *
      have cr := hidd (fun W => CR.out W a0 a1 a2 a3 a4 a5 a6 a7)
      clear hR
      generalize rightB n (a0, a1, a2, a3, a4, a5, a6, a7) = V at *
      cases V
      · have hbad := hidd (HNO.out 2 · (HFI.out rfl) (by decide))
        clear HST HFI
        go_wp2_with fail
        refine (cr.out _).mono ?_
        rintro e w2 ⟨rfl, hb2⟩
        have HB2 := hidd (below_step HB.out hb2)
        obtain ⟨r0', r1', q0', q1'⟩ := QC.out _ HB2.out
        obtain ⟨⟨f0', f1'⟩, hsz'⟩ := FZ.out _ HB2.out
        clear hb2
        go_wp2_with fail
        exact bodyPost_ret (v := .tuple #[.agg #[.int .i64 0, .slice none 0 0], .int .i64 2]) (by simp [results, Tryz.results9, go_sem, *]) rfl (hbad.out _ (HS2.out _ HB2.out _ _))
      · have hst := hidd (HST.out rfl)
        clear HST HFI
        go_wp2_with fail
        refine (cr.out _).mono ?_
        rintro e w2 ⟨rfl, hb2⟩
        have HB2 := hidd (below_step HB.out hb2)
        clear hb2
        go_wp2_with fail
        have hg := HGG.out
        go_roundg (gk - 1)
        case measure => omega
        case rel => exact ⟨i + 1, by omega, by omega, by go_num, hst.out, HB2.out⟩
    · have hin2 : ¬ (i : Int) < (L.length : Int) := by omega
      have HF0 := hidd (HOK1.out (fun j hj => HS1.out j (by omega)))
      have HSZ := HB.out.size
      clear hin hi1 HGG HS1
      by_cases hl : 48 < L.length
      · have hl2 : (48 : Int) < (L.length : Int) := by omega
        obtain ⟨⟨f0', f1'⟩, hsz'⟩ := FZ.out _ HB.out
        have hbad := hidd (HNO.out 3 · (H3.out HF0.out hl) (by decide))
        go_wp2_with fail
        exact bodyPost_ret (v := .tuple #[.agg #[.int .i64 0, .slice none 0 0], .int .i64 3]) (by simp [results, Tryz.results9, go_sem, *]) rfl (hbad.out _ (HS2.out _ HB.out _ _))
      · have hl2 : ¬ (48 : Int) < (L.length : Int) := by omega
        go_wp2_with fail
        clear r0 r1 q0 q1
        go_loopg [8] (L.length + 2) (fun g s wr => ∃ i : Nat, i ≤ L.length ∧ i + g = L.length + 2 ∧ s = .int .i64 (i : Int) ∧ (∀ j, j < L.length → j < i → bet (endsL L) (fr (lkAt L j), tw (lkAt L j)) = (j : Int)) ∧ Below W0.heap.size W0 wr)
        case atStart => exact ⟨0, by omega, by omega, rfl, fun j _ h => absurd h (by omega), HB.out⟩
        case round =>
          obtain ⟨i, hi1, hg, rfl, hs, hB⟩ := hrel
          have HGG := hidd hg
          have HS1 := hidd hs
          have HB := hidd hB
          clear hg hs hB
          by_cases hin : i < L.length
          · have hin2 : (i : Int) < (L.length : Int) := by omega
            have hi0 : (0 : Int) ≤ (i : Int) := by omega
            obtain ⟨ad, rfl, ha, x0, x1, x2, x3, x4, x5, x6, x7⟩ := (HA.out _ HB.out).link i hin
            have HST : Hid (bet (endsL L) (fr (lkAt L i), tw (lkAt L i)) = (i : Int) → ∀ j, j < L.length → j < i + 1 → bet (endsL L) (fr (lkAt L j), tw (lkAt L j)) = (j : Int)) := hidd (fun h j hj1 hj => by
              by_cases e : j = i
              · rw [e]; exact h
              · exact HS1.out j hj1 (by omega))
            have HFI : Hid (¬ (bet (endsL L) (fr (lkAt L i), tw (lkAt L i)) = (i : Int)) → EN = 190) := hidd (fun h => H190.out HF0.out hl i hin h)
            have hlo := (HBI.out (fr (lkAt L i), tw (lkAt L i))).1
            have hhi := (HBI.out (fr (lkAt L i), tw (lkAt L i))).2
            have hle := HLE.out
            have cb := hidd (fun W h => CB.out W h (fr (lkAt L i)) (tw (lkAt L i)))
            generalize bet (endsL L) (fr (lkAt L i), tw (lkAt L i)) = V at *
            generalize fr (lkAt L i) = a0 at *
            generalize tw (lkAt L i) = a1 at *
            obtain ⟨r0, r1, q0, q1⟩ := QC.out _ HB.out
            obtain ⟨p, hp⟩ : ∃ p, ad.add (i * 8) = p := ⟨_, rfl⟩
            rw [hp] at ha x0 x1
            have hp2 : ad.add (8 * i) = p := by rw [Nat.mul_comm]; exact hp
            have KEEP := hidd (fun w' (hb : Below wr.heap.size wr w') => show (w'.cell? ⟨w.heap.size + 1, 0, none⟩ = some (.int .i64 n) ∧ w'.cell? ⟨w.heap.size + 1, 1, none⟩ = some (.slice (some ad) L.length c) ∧ w'.cell? p = some (.int .i64 a0) ∧ w'.cell? ⟨p.block, p.off + 1, none⟩ = some (.int .i64 a1)) from ⟨(hb.cell (p := ⟨w.heap.size + 1, 0, none⟩) (by have := HZ.out; have := HB.out.size; show w.heap.size + 1 < _; omega)).trans q0, (hb.cell (p := ⟨w.heap.size + 1, 1, none⟩) (by have := HZ.out; have := HB.out.size; show w.heap.size + 1 < _; omega)).trans q1, (hb.cell (p := p) ha).trans x0, (hb.cell (p := ⟨p.block, p.off + 1, none⟩) ha).trans x1⟩)
            have K0 : Hid (wr.cell? ⟨w.heap.size + 1, 0, none⟩ = some (.int .i64 n) ∧ wr.cell? ⟨w.heap.size + 1, 1, none⟩ = some (.slice (some ad) L.length c) ∧ wr.cell? p = some (.int .i64 a0) ∧ wr.cell? ⟨p.block, p.off + 1, none⟩ = some (.int .i64 a1)) := hidd ⟨q0, q1, x0, x1⟩
            clear x2 x3 x4 x5 x6 x7 r0 r1
            by_cases hv : V = (i : Int)
            · have hst := hidd (HST.out hv)
              have hd : (V == (i : Int)) = true := by rw [hv]; simp
              have hd2 : (V != (i : Int)) = false := by rw [hv]; simp
              clear HST HFI
              go_wp2_with fail
              go_region_held3 (fun w' => (w'.cell? ⟨w.heap.size + 1, 0, none⟩ = some (.int .i64 n) ∧ w'.cell? ⟨w.heap.size + 1, 1, none⟩ = some (.slice (some ad) L.length c) ∧ w'.cell? p = some (.int .i64 a0) ∧ w'.cell? ⟨p.block, p.off + 1, none⟩ = some (.int .i64 a1)))
                ((first | exact KEEP.out _ cum1 | exact K0.out | go_keep))
                ((first
                  | (go_at_call 26; refine (cb.out _ (by first | exact Below.drew HB.out | exact HB.out)).mono ?_; rintro E1 v1 ⟨rfl, l1⟩; have cum1 : Below wr.heap.size wr v1 := (by first | exact below_step (Below.drew (Below.refl _ _)) l1 | exact below_step (Below.refl _ _) l1); have HB2 := hidd (below_step HB.out cum1); obtain ⟨r0', r1', q0', q1'⟩ := QC.out _ HB2.out; obtain ⟨⟨f0', f1'⟩, hsz'⟩ := FZ.out _ HB2.out)))
              all_goals go_wp2_with fail
              have hg := HGG.out
              go_roundg (gk - 1)
              case measure => omega
              case rel => exact ⟨i + 1, by omega, by omega, by go_num, hst.out, HB2.out⟩
            · have hbad := hidd (HNO.out 190 · (HFI.out hv) (by decide))
              have hd : (V == (i : Int)) = false := beq_eq_false_iff_ne.2 hv
              have hd2 : (V != (i : Int)) = true := by simp [hv]
              clear HST HFI
              go_wp2_with fail
              go_region_held3 (fun w' => (w'.cell? ⟨w.heap.size + 1, 0, none⟩ = some (.int .i64 n) ∧ w'.cell? ⟨w.heap.size + 1, 1, none⟩ = some (.slice (some ad) L.length c) ∧ w'.cell? p = some (.int .i64 a0) ∧ w'.cell? ⟨p.block, p.off + 1, none⟩ = some (.int .i64 a1)))
                ((first | exact KEEP.out _ cum1 | exact K0.out | go_keep))
                ((first
                  | (go_at_call 26; refine (cb.out _ (by first | exact Below.drew HB.out | exact HB.out)).mono ?_; rintro E1 v1 ⟨rfl, l1⟩; have cum1 : Below wr.heap.size wr v1 := (by first | exact below_step (Below.drew (Below.refl _ _)) l1 | exact below_step (Below.refl _ _) l1); have HB2 := hidd (below_step HB.out cum1); obtain ⟨r0', r1', q0', q1'⟩ := QC.out _ HB2.out; obtain ⟨⟨f0', f1'⟩, hsz'⟩ := FZ.out _ HB2.out)))
              all_goals go_wp2_with fail
              exact bodyPost_ret (v := .tuple #[.agg #[.int .i64 0, .slice none 0 0], .int .i64 190]) (by simp [results, Tryz.results9, go_sem, *]) rfl (hbad.out _ (HS2.out _ HB2.out _ _))
          · have hin2 : ¬ (i : Int) < (L.length : Int) := by omega
            have hdone := hidd (show ∀ j, j < L.length → bet (endsL L) (fr (lkAt L j), tw (lkAt L j)) = (j : Int) from fun j hj => HS1.out j hj (by omega))
            obtain ⟨r0, r1, q0, q1⟩ := QC.out _ HB.out
            obtain ⟨⟨f0', f1'⟩, hsz'⟩ := FZ.out _ HB.out
            clear HGG HS1 hi1 hin
            have d190 := hdone
            clear hdone f0' f1'
            go_wp2_with fail
            clear r0 r1 q0 q1
            go_loopg [9] (L.length + 2) (fun g s wr => ∃ i : Nat, i ≤ L.length ∧ i + g = L.length + 2 ∧ s = .int .i64 (i : Int) ∧ (∀ j, j < L.length → j < i → ¬ bet (endsL L) (tw (lkAt L j), fr (lkAt L j)) < 0) ∧ Below W0.heap.size W0 wr)
            case atStart => exact ⟨0, by omega, by omega, rfl, fun j _ h => absurd h (by omega), HB.out⟩
            case round =>
              obtain ⟨i, hi1, hg, rfl, hs, hB⟩ := hrel
              have HGG := hidd hg
              have HS1 := hidd hs
              have HB := hidd hB
              clear hg hs hB
              by_cases hin : i < L.length
              · have hin2 : (i : Int) < (L.length : Int) := by omega
                have hi0 : (0 : Int) ≤ (i : Int) := by omega
                obtain ⟨ad, rfl, ha, x0, x1, x2, x3, x4, x5, x6, x7⟩ := (HA.out _ HB.out).link i hin
                have HST : Hid (¬ bet (endsL L) (tw (lkAt L i), fr (lkAt L i)) < 0 → ∀ j, j < L.length → j < i + 1 → ¬ bet (endsL L) (tw (lkAt L j), fr (lkAt L j)) < 0) := hidd (fun h j hj1 hj => by
                  by_cases e : j = i
                  · rw [e]; exact h
                  · exact HS1.out j hj1 (by omega))
                have HFI : Hid (¬ (¬ bet (endsL L) (tw (lkAt L i), fr (lkAt L i)) < 0) → EN = 191) := hidd (fun h => H191.out HF0.out hl d190.out i hin (by omega))
                have hlo := (HBI.out (tw (lkAt L i), fr (lkAt L i))).1
                have hhi := (HBI.out (tw (lkAt L i), fr (lkAt L i))).2
                have hle := HLE.out
                have cb := hidd (fun W h => CB.out W h (tw (lkAt L i)) (fr (lkAt L i)))
                generalize bet (endsL L) (tw (lkAt L i), fr (lkAt L i)) = V at *
                generalize fr (lkAt L i) = a0 at *
                generalize tw (lkAt L i) = a1 at *
                obtain ⟨r0, r1, q0, q1⟩ := QC.out _ HB.out
                obtain ⟨p, hp⟩ : ∃ p, ad.add (i * 8) = p := ⟨_, rfl⟩
                rw [hp] at ha x0 x1
                have hp2 : ad.add (8 * i) = p := by rw [Nat.mul_comm]; exact hp
                have KEEP := hidd (fun w' (hb : Below wr.heap.size wr w') => show (w'.cell? ⟨w.heap.size + 1, 0, none⟩ = some (.int .i64 n) ∧ w'.cell? ⟨w.heap.size + 1, 1, none⟩ = some (.slice (some ad) L.length c) ∧ w'.cell? p = some (.int .i64 a0) ∧ w'.cell? ⟨p.block, p.off + 1, none⟩ = some (.int .i64 a1)) from ⟨(hb.cell (p := ⟨w.heap.size + 1, 0, none⟩) (by have := HZ.out; have := HB.out.size; show w.heap.size + 1 < _; omega)).trans q0, (hb.cell (p := ⟨w.heap.size + 1, 1, none⟩) (by have := HZ.out; have := HB.out.size; show w.heap.size + 1 < _; omega)).trans q1, (hb.cell (p := p) ha).trans x0, (hb.cell (p := ⟨p.block, p.off + 1, none⟩) ha).trans x1⟩)
                have K0 : Hid (wr.cell? ⟨w.heap.size + 1, 0, none⟩ = some (.int .i64 n) ∧ wr.cell? ⟨w.heap.size + 1, 1, none⟩ = some (.slice (some ad) L.length c) ∧ wr.cell? p = some (.int .i64 a0) ∧ wr.cell? ⟨p.block, p.off + 1, none⟩ = some (.int .i64 a1)) := hidd ⟨q0, q1, x0, x1⟩
                clear x2 x3 x4 x5 x6 x7 r0 r1
                by_cases hv : ¬ V < 0
                · have hst := hidd (HST.out hv)
                  have hd : decide (V < 0) = false := decide_eq_false hv
                  clear HST HFI
                  go_wp2_with fail
                  go_region_held3 (fun w' => (w'.cell? ⟨w.heap.size + 1, 0, none⟩ = some (.int .i64 n) ∧ w'.cell? ⟨w.heap.size + 1, 1, none⟩ = some (.slice (some ad) L.length c) ∧ w'.cell? p = some (.int .i64 a0) ∧ w'.cell? ⟨p.block, p.off + 1, none⟩ = some (.int .i64 a1)))
                    ((first | exact KEEP.out _ cum1 | exact K0.out | go_keep))
                    ((first
                      | (go_at_call 26; refine (cb.out _ (by first | exact Below.drew HB.out | exact HB.out)).mono ?_; rintro E1 v1 ⟨rfl, l1⟩; have cum1 : Below wr.heap.size wr v1 := (by first | exact below_step (Below.drew (Below.refl _ _)) l1 | exact below_step (Below.refl _ _) l1); have HB2 := hidd (below_step HB.out cum1); obtain ⟨r0', r1', q0', q1'⟩ := QC.out _ HB2.out; obtain ⟨⟨f0', f1'⟩, hsz'⟩ := FZ.out _ HB2.out)))
                  all_goals go_wp2_with fail
                  have hg := HGG.out
                  go_roundg (gk - 1)
                  case measure => omega
                  case rel => exact ⟨i + 1, by omega, by omega, by go_num, hst.out, HB2.out⟩
                · have hbad := hidd (HNO.out 191 · (HFI.out hv) (by decide))
                  have hd : decide (V < 0) = true := decide_eq_true (by omega)
                  clear HST HFI
                  go_wp2_with fail
                  go_region_held3 (fun w' => (w'.cell? ⟨w.heap.size + 1, 0, none⟩ = some (.int .i64 n) ∧ w'.cell? ⟨w.heap.size + 1, 1, none⟩ = some (.slice (some ad) L.length c) ∧ w'.cell? p = some (.int .i64 a0) ∧ w'.cell? ⟨p.block, p.off + 1, none⟩ = some (.int .i64 a1)))
                    ((first | exact KEEP.out _ cum1 | exact K0.out | go_keep))
                    ((first
                      | (go_at_call 26; refine (cb.out _ (by first | exact Below.drew HB.out | exact HB.out)).mono ?_; rintro E1 v1 ⟨rfl, l1⟩; have cum1 : Below wr.heap.size wr v1 := (by first | exact below_step (Below.drew (Below.refl _ _)) l1 | exact below_step (Below.refl _ _) l1); have HB2 := hidd (below_step HB.out cum1); obtain ⟨r0', r1', q0', q1'⟩ := QC.out _ HB2.out; obtain ⟨⟨f0', f1'⟩, hsz'⟩ := FZ.out _ HB2.out)))
                  all_goals go_wp2_with fail
                  exact bodyPost_ret (v := .tuple #[.agg #[.int .i64 0, .slice none 0 0], .int .i64 191]) (by simp [results, Tryz.results9, go_sem, *]) rfl (hbad.out _ (HS2.out _ HB2.out _ _))
              · have hin2 : ¬ (i : Int) < (L.length : Int) := by omega
                have hdone := hidd (show ∀ j, j < L.length → ¬ bet (endsL L) (tw (lkAt L j), fr (lkAt L j)) < 0 from fun j hj => HS1.out j hj (by omega))
                obtain ⟨r0, r1, q0, q1⟩ := QC.out _ HB.out
                obtain ⟨⟨f0', f1'⟩, hsz'⟩ := FZ.out _ HB.out
                clear HGG HS1 hi1 hin
                have hyes := hidd (HYES.out · (H0.out HF0.out hl d190.out (fun j hj => by have := hdone.out j hj; omega)))
                go_wp2_with fail
                exact bodyPost_ret (v := .tuple #[.agg #[.int .i64 n, .slice A L.length c], .int .i64 0]) (by simp [results, Tryz.results9, go_sem, *]) rfl (hyes.out _ (HS2.out _ HB.out _ _))
end Go.Proofs.YtalhbjmhipiiiaaGreat.Tp

