/- Maps: the document's links between nodes, and from one. -/
import Derived.Test.YtjnceoklnmmhjaaGreatTpW
namespace Go.Proofs.YtjnceoklnmmhjaaGreat.Tp
set_option linter.unusedVariables false
open Go.RowKit Go.Maps

set_option maxRecDepth 100000 in
set_option maxHeartbeats 4000000 in
theorem refBetween_any (n : Int) (A : Option Addr) (L : List Lk) (c : Nat) (hL : L.length ≤ 1000000) (x y : Int) (w : World) (hA : Lie linkV 8 w w.heap.size A L) :
    Calls Tryz.prog 9 #[.agg #[.int .i64 n, .slice A L.length c], .int .i64 x, .int .i64 y] w fun e w' => e = .returned (.int .i64 (bet (endsL L) (x, y))) ∧ Below w.heap.size w w' := by
  obtain ⟨W0, hW0⟩ : ∃ W0, w.alloc (.cells #[.int .i64 n, .slice A L.length c] 30) = W0 := ⟨_, rfl⟩
  have hb0 : Below w.heap.size w W0 := by rw [← hW0]; (repeat' (first | (with_reducible exact Below.refl _ _) | (with_reducible assumption) | (with_reducible apply Below.setCell) | (with_reducible apply Below.alloc) | (with_reducible apply Below.drew) | (with_reducible apply below_drewN) | (with_reducible refine Below.trans ?_ (Below.mono (by assumption) ?_)) | omega | (simp; done) | (simp; omega)))
  have q0 : W0.cell? ⟨w.heap.size, 0, none⟩ = some (.int .i64 n) := by rw [← hW0]; simp [go_sem]
  have q1 : W0.cell? ⟨w.heap.size, 1, none⟩ = some (.slice A L.length c) := by rw [← hW0]; simp [go_sem]
  have HA := hidd (hA.below hb0)
  have HB0 := hidd hb0
  have HW := hidd hW0
  have HF := hidd (fun i h1 h2 h3 => bet_found (E := endsL L) (p := (x, y)) i h1 h2 h3)
  have HN := hidd (fun h => bet_none (E := endsL L) (p := (x, y)) h)
  have HG := hidd (fun i h => ge_endsL (L := L) (i := i) h)
  have HLE := hidd (endsL_len L)
  generalize bet (endsL L) (x, y) = R at *
  generalize endsL L = E at *
  clear hA hb0 hW0
  go_enter Tryz.func9, Tryz.ntmps9
  go_wp2_with fail
  rw [HW.out]
  go_loopg [7] (L.length + 2) (fun g s7 wr => ∃ i : Nat, i ≤ L.length ∧ i + g = L.length + 2 ∧ s7 = .int .i64 (i : Int) ∧ (∀ j, j < i → ge E j ≠ (x, y)) ∧ wr = W0)
  case atStart => exact ⟨0, by omega, by omega, rfl, fun j h => absurd h (by omega), rfl⟩
  case round =>
    obtain ⟨i, hi1, hg, rfl, hs, rfl⟩ := hrel
    have HGG := hidd hg
    have HS := hidd hs
    clear hg hs
    by_cases hin : i < L.length
    · have hin2 : (i : Int) < (L.length : Int) := by omega
      have hi0 : (0 : Int) ≤ (i : Int) := by omega
      obtain ⟨ad, rfl, ha, x0, x1, x2, x3, x4, x5, x6, x7⟩ := HA.out.link i hin
      have hge := hidd (HG.out i hin)
      have HST : Hid (ge E i ≠ (x, y) → ∀ j, j < i + 1 → ge E j ≠ (x, y)) := hidd (fun h j hj => by
        by_cases e : j = i
        · rw [e]; exact h
        · exact HS.out j (by omega))
      have HFI : Hid (ge E i = (x, y) → R = (i : Int)) := hidd (fun h => HF.out i (by have := HLE.out; omega) h HS.out)
      unfold ends1 at hge
      generalize fr (lkAt L i) = a0 at *
      generalize tw (lkAt L i) = a1 at *
      generalize rt (lkAt L i) = a2 at *
      generalize sh (lkAt L i) = a3 at *
      generalize fa (lkAt L i) = a4 at *
      generalize mo (lkAt L i) = a5 at *
      generalize ro (lkAt L i) = a6 at *
      generalize fi (lkAt L i) = a7 at *
      clear x2 x3 x4 x5 x6 x7
      by_cases hx : a0 = x
      · subst hx
        by_cases hy : a1 = y
        · subst hy
          have hR := hidd (HFI.out hge.out)
          go_wp2_with fail
          go_ret
          exact ⟨by rw [hR.out]; first | rfl | simp, HB0.out⟩
        · have hy2 : (a1 == y) = false := beq_eq_false_iff_ne.2 hy
          have hy3 : decide (a1 = y) = false := decide_eq_false hy
          have hns := hidd (HST.out (by rw [hge.out]; intro e; exact hy (congrArg Prod.snd e)))
          go_wp2_with fail
          have hg := HGG.out
          go_roundg (gk - 1)
          case measure => omega
          case rel => exact ⟨i + 1, by omega, by omega, by go_num, hns.out, rfl⟩
      · have hx2 : (a0 == x) = false := beq_eq_false_iff_ne.2 hx
        have hx3 : decide (a0 = x) = false := decide_eq_false hx
        have hns := hidd (HST.out (by rw [hge.out]; intro e; exact hx (congrArg Prod.fst e)))
        go_wp2_with fail
        have hg := HGG.out
        go_roundg (gk - 1)
        case measure => omega
        case rel => exact ⟨i + 1, by omega, by omega, by go_num, hns.out, rfl⟩
    · have hin2 : ¬ (i : Int) < (L.length : Int) := by omega
      have hR := hidd (HN.out (fun j hj => HS.out j (by have := HLE.out; omega)))
      go_wp2_with fail
      go_ret
      exact ⟨by rw [hR.out]; first | rfl | simp, HB0.out⟩

def RefOutEnd (L : List Lk) (n node : Int) (w : World) (e : Ending) (w' : World) : Prop := ∃ A c, e = .returned (.slice A (outK (endsL L) node n.toNat).length c) ∧ Lie intV 1 w' w'.heap.size A (outK (endsL L) node n.toNat) ∧ Below w.heap.size w w'
set_option maxRecDepth 100000 in
set_option maxHeartbeats 4000000 in
theorem refOut_any (n : Int) (hn1 : 0 ≤ n) (hn2 : n ≤ 16) (A : Option Addr) (L : List Lk) (c : Nat) (hL : L.length ≤ 1000000) (node : Int) (w : World) (hA : Lie linkV 8 w w.heap.size A L) :
    Calls Tryz.prog 21 #[.agg #[.int .i64 n, .slice A L.length c], .int .i64 node] w (RefOutEnd L n node w) := by
  obtain ⟨i0, hi, hz0, hz1, hz2⟩ := info_parts intInfo
  obtain ⟨W0, hW0⟩ : ∃ W0, w.alloc (.cells #[.int .i64 n, .slice A L.length c] 30) = W0 := ⟨_, rfl⟩
  have hb0 : Below w.heap.size w W0 := by rw [← hW0]; (repeat' (first | (with_reducible exact Below.refl _ _) | (with_reducible assumption) | (with_reducible apply Below.setCell) | (with_reducible apply Below.alloc) | (with_reducible apply Below.drew) | (with_reducible apply below_drewN) | (with_reducible refine Below.trans ?_ (Below.mono (by assumption) ?_)) | omega | (simp; done) | (simp; omega)))
  have hz : W0.heap.size = w.heap.size + 1 := by rw [← hW0]; simp
  have q0 : W0.cell? ⟨w.heap.size, 0, none⟩ = some (.int .i64 n) := by rw [← hW0]; simp [go_sem]
  have q1 : W0.cell? ⟨w.heap.size, 1, none⟩ = some (.slice A L.length c) := by rw [← hW0]; simp [go_sem]
  have CB := hidd (fun (W : World) (h : Below W0.heap.size W0 W) (y : Int) => refBetween_any n A L c hL node y W ((hA.below hb0).below h))
  have QC := hidd (fun W (h : Below W0.heap.size W0 W) => show W.cell? ⟨w.heap.size, 0, none⟩ = some (.int .i64 n) ∧ W.cell? ⟨w.heap.size, 1, none⟩ = some (.slice A L.length c) from ⟨(h.cell (p := ⟨w.heap.size, 0, none⟩) (show w.heap.size < W0.heap.size by omega)).trans q0, (h.cell (p := ⟨w.heap.size, 1, none⟩) (show w.heap.size < W0.heap.size by omega)).trans q1⟩)
  have HB0 := hidd hb0
  have HW := hidd hW0
  have HNN : Hid (((n.toNat : Nat) : Int) = n) := hidd (Int.toNat_of_nonneg hn1)
  have HB := hidd (fun p => And.intro (bet_lo (endsL L) p) (bet_hi (endsL L) p))
  have HLE := hidd (endsL_len L)
  have HEND : Hid (∀ (A : Option Addr) (c : Nat) w', Lie intV 1 w' w'.heap.size A (outK (endsL L) node n.toNat) → Below w.heap.size w w' → RefOutEnd L n node w (.returned (.slice A (outK (endsL L) node n.toNat).length c)) w') := hidd (fun A c w' h1 h2 => ⟨A, c, rfl, h1, h2⟩)
  obtain ⟨PO, hPO⟩ : ∃ PO, RefOutEnd L n node w = PO := ⟨_, rfl⟩
  rw [hPO] at HEND ⊢
  generalize endsL L = E at *
  clear hA hb0 hW0 hz hPO
  go_enter Tryz.func21, Tryz.ntmps21
  go_wp2_with fail
  rw [HW.out]
  go_loopg [5, 6] 20 (fun g s5 s6 wr => ∃ k : Nat, (k : Int) ≤ n ∧ k + g = 20 ∧ s6 = .int .i64 (k : Int) ∧ OwnL intV 1 wr W0.heap.size 3 s5 (outK E node k) ∧ Below W0.heap.size W0 wr)
  case atStart => exact ⟨0, by omega, by omega, rfl, OwnL.nil _ _ _, Below.refl _ _⟩
  case round =>
    obtain ⟨k, hk1, hg, rfl, hO, hB⟩ := hrel
    obtain ⟨A5, c5, rfl, _, _, hl5⟩ := hO.lie intV_len
    have HG := hidd hg
    have HBW := hidd hB
    have hsz := hB.size
    have hlen := outK_len E node k
    have HO := hidd hO
    obtain ⟨r0, r1⟩ := QC.out _ hB
    clear hg hB hO
    by_cases hin : (k : Int) < n
    · have hk0 : (0 : Int) ≤ (k : Int) := by omega
      have hbb := HB.out (node, (k : Int))
      have cb := hidd (CB.out wr HBW.out (k : Int))
      have hst : Hid (0 ≤ bet E (node, (k : Int)) → outK E node (k + 1) = outK E node k ++ [bet E (node, (k : Int))]) := hidd (fun h => by rw [outK, if_pos h])
      have hsn : Hid (¬ 0 ≤ bet E (node, (k : Int)) → outK E node (k + 1) = outK E node k) := hidd (fun h => by rw [outK, if_neg h])
      have hbhi : bet E (node, (k : Int)) ≤ 1000000 := by have := HLE.out; omega
      have hblo := hbb.1
      generalize bet E (node, (k : Int)) = V at *
      generalize outK E node k = D at *
      have HO1 : Hid (wr.ownsRow W0.heap.size 3 1 (.slice A5 D.length c5) D.length (rowOf intV D)) := HO
      obtain ⟨K, hK⟩ : ∃ K, D.length = K := ⟨_, rfl⟩
      rw [hK] at HO1 hlen ⊢
      have HK := hidd hK
      clear hK hbb hl5
      by_cases hv : 0 ≤ V
      · have hd1 : ¬ V < 0 := by omega
        go_wp2_with fail
        refine cb.out.mono ?_
        rintro e w2 ⟨rfl, hb2⟩
        have HB2 := hidd (below_step HBW.out hb2)
        have HO2 := hidd ((OwnL.below HO.out hb2))
        have hs2 := hb2.size
        have HO3 : Hid ((w2.alloc (.cells #[.int .i64 V] 3)).ownsRow W0.heap.size 3 1 (.slice A5 K c5) K (rowOf intV D)) := hidd (by rw [← HK.out]; exact World.ownsRow.alloc HO2.out _)
        have hsrc : Hid (0 < 1 → ∃ ad', some (⟨w2.heap.size, 0, none⟩ : Addr) = some ad' ∧ ∀ j u, [Value.int .i64 V][j]? = some u → (w2.alloc (.cells #[.int .i64 V] 3)).cell? (ad'.add j) = some u) := hidd (fun _ => ⟨_, rfl, fun j u hj => by
          match j, hj with
          | 0, hj => simp at hj; subst hj; simp [Addr.add, go_sem]⟩)
        have HONE : Hid (∀ u ∈ [Value.int .i64 V], u.oneCell' = true) := hidd (fun u hu => by simp at hu; subst hu; rfl)
        have hmax : Hid (K + 1 ≤ maxLen) := hidd (by unfold maxLen; omega)
        have hby : Hid ((K + 1) * 8 ≤ 140737488355328) := hidd (by omega)
        have hbase : Hid (W0.heap.size ≤ (w2.alloc (.cells #[.int .i64 V] 3)).heap.size) := hidd (by simp; omega)
        clear hb2
        go_wp2_with (first | (at_builtin; refine wpList_append_some rfl _ _ 63 rfl W0.heap.size 3 i0 (.int .i64 0) 1 8 Tryz.underlying63 hi hz0 hz1 hz2 rfl (by decide) (.slice A5 K c5) K (rowOf intV D) rfl HO3.out (some ⟨w2.heap.size, 0, none⟩) 1 1 [.int .i64 V] rfl rfl hsrc.out HONE.out hmax.out hby.out hbase.out ?_; intro v' w3 hown' hgrow hor; have HO4 := hidd hown'; have HG3 := hidd hgrow; clear hown' hgrow hor) | fail)
        have hg := HG.out
        go_roundg (gk - 1)
        case measure => omega
        case rel => exact ⟨k + 1, by omega, by omega, by go_num, by rw [hst.out hv]; exact OwnL.snoc (L := D) (x := V) HO4.out (by rw [HK.out]) rfl, (below_new HB2.out _).grown HG3.out hbase.out (fun k' e => (World.ownsRow.lt HO3.out k' e).1)⟩
      · have hd1 : V < 0 := by omega
        go_wp2_with fail
        refine cb.out.mono ?_
        rintro e w2 ⟨rfl, hb2⟩
        have HB2 := hidd (below_step HBW.out hb2)
        have HO2 := hidd ((OwnL.below HO.out hb2))
        clear hb2
        go_wp2_with fail
        have hg := HG.out
        go_roundg (gk - 1)
        case measure => omega
        case rel => exact ⟨k + 1, by omega, by omega, by go_num, by rw [hsn.out hv]; have q := HO2.out; rw [HK.out] at q; exact q, HB2.out⟩
    · have hd1 : ¬ (k : Int) < n := hin
      have hke : k = n.toNat := by have := HNN.out; omega
      have HKE := hidd hke
      have hfin := HEND.out A5 c5 wr (by rw [← hke]; exact hl5) (HB0.out.trans (HBW.out.mono HB0.out.size))
      rw [← hke] at hfin
      clear hke hl5
      go_wp2_with fail
      first | exact hfin | (go_ret; exact hfin)
end Go.Proofs.YtjnceoklnmmhjaaGreat.Tp
