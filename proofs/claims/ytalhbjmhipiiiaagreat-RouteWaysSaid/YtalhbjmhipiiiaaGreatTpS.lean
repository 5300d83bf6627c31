/- Maps: the links of a node, in order. -/
import Derived.Test.YtalhbjmhipiiiaaGreatTpM
import Derived.Test.YtalhbjmhipiiiaaGreatTpI
namespace Go.Proofs.YtalhbjmhipiiiaaGreat.Tp
set_option linter.unusedVariables false
open Go.RowKit Go.Maps

theorem intInfo : (Tryz.prog.info? 3).map (fun i => (i.zero, i.size, i.bytes)) = some (some (.int .i64 0), 1, 8) := by kernel_rfl
/-- the numbers of the first k links that come from a node. -/
def fromK (L : List Lk) (node : Int) : Nat → List (NodeIx L node)
  | 0 => []
  | k + 1 => if h : k < L.length ∧ fr (lkAt L k) = node then fromK L node k ++ [⟨k, h⟩] else fromK L node k
theorem fromK_len (L : List Lk) (node : Int) : ∀ k, (fromK L node k).length ≤ k
  | 0 => Nat.le_refl _
  | k + 1 => by
    have := fromK_len L node k
    unfold fromK
    split
    · simp; omega
    · omega
theorem fromK_mem (L : List Lk) (node : Int) (x : NodeIx L node) : ∀ k, x ∈ fromK L node k ↔ x.1 < k
  | 0 => by simp [fromK]
  | k + 1 => by
    have ih := fromK_mem L node x k
    unfold fromK
    split
    · rename_i h
      rw [List.mem_append, ih, List.mem_singleton]
      constructor
      · rintro (h1 | h1)
        · omega
        · rw [h1]; simp
      · intro h1
        by_cases e : x.1 = k
        · exact .inr (Subtype.ext e)
        · exact .inl (by omega)
    · rename_i h
      rw [ih]
      constructor
      · omega
      · intro h1
        have : x.1 ≠ k := fun e => h (e ▸ x.2)
        omega
theorem ixL_snoc {L : List Lk} {node : Int} (d : List (NodeIx L node)) (x : NodeIx L node) : ixL (d ++ [x]) = ixL d ++ [(x.1 : Int)] := by simp [ixL]
set_option maxHeartbeats 2000000 in
theorem rising_some (L : List Lk) (node : Int) (hnd : ∀ x y : NodeIx L node, tw (lkAt L x.1) = tw (lkAt L y.1) → x = y) (hL : L.length ≤ 1000000) (q m g cap base : Nat) (Ad : Addr) (d : List (NodeIx L node)) (hne : d ≠ []) (hd : d.length ≤ 1000000) (w : World)
    (hO : OwnL intV 1 w base 3 (.slice (some ⟨g, 0, none⟩) d.length cap) (ixL d)) (h : FromBox w q m L Ad) (hq : q ≠ g) (hm : m ≠ g) (hA : Ad.block ≠ g) :
    Calls Tryz.prog 141 #[.slice (some ⟨g, 0, none⟩) d.length cap, .func (.func 142) #[] #[.pointer (some ⟨q, 0, none⟩)]] w fun e w' =>
      e = .returned (.slice (some ⟨g, 0, none⟩) d.length cap) ∧ OwnL intV 1 w' base 3 (.slice (some ⟨g, 0, none⟩) d.length cap) (ixL (ixSort d)) ∧ w.heap.size ≤ w'.heap.size ∧ ∀ B, B ≤ g → Below B w w' := by
  obtain ⟨x0, hx0⟩ := List.exists_mem_of_ne_nil d hne
  have : Inhabited (NodeIx L node) := ⟨x0⟩
  have hmf : ∀ (fn : Fn) (first cap : Array Value) (w : World), (Instr.makeFunc fn first cap).run Tryz.prog w = .ok (.func fn first cap) w := fun _ _ _ _ => rfl
  have hg : g < w.heap.size := (hO.lt g rfl).2
  obtain ⟨W1, hW1⟩ : ∃ W1, w.alloc (.cells #[.func (.func 142) #[] #[.pointer (some ⟨q, 0, none⟩)]] 191) = W1 := ⟨_, rfl⟩
  have hz : W1.heap.size = w.heap.size + 1 := by rw [← hW1]; simp
  have hO1 : OwnL intV 1 W1 base 3 (.slice (some ⟨g, 0, none⟩) d.length cap) (ixL d) := by rw [← hW1]; exact hO.alloc _
  have hb1 : Below w.heap.size w W1 := by rw [← hW1]; (repeat' (first | (with_reducible exact Below.refl _ _) | (with_reducible assumption) | (with_reducible apply Below.setCell) | (with_reducible apply Below.alloc) | (with_reducible apply Below.drew) | (with_reducible apply below_drewN) | (with_reducible refine Below.trans ?_ (Below.mono (by assumption) ?_)) | omega | (simp; done) | (simp; omega)))
  have hc1 : W1.cell? ⟨w.heap.size, 0, none⟩ = some (.func (.func 142) #[] #[.pointer (some ⟨q, 0, none⟩)]) := by rw [← hW1]; simp [go_sem]
  have h1 : FromBox W1 q m L Ad := by
    obtain ⟨g1, ⟨c, g2⟩, g3⟩ := h
    have go : ∀ (a : Addr) v, w.cell? a = some v → W1.cell? a = some v := fun a v hv => (hb1.cell (World.block_lt_of_cell? _ _ hv)).trans hv
    exact ⟨go _ _ g1, ⟨c, go _ _ g2⟩, fun i hi => go _ _ (g3 i hi)⟩
  have cs := sortsInts hnd hL w.heap.size q m g cap base Ad d.toArray (by simpa using hd) W1 (by simpa using hO1) hc1 (by omega) h1 hq hm hA
  simp only [List.size_toArray] at cs
  have CS := hidd cs
  have HW := hidd hW1
  have HB := hidd hb1
  have HZ := hidd hz
  clear cs hW1 hb1 hz hO1 hO h h1 hc1
  go_enter Tryz.func141, Tryz.ntmps141
  go_wp2_with fail
  rw [HW.out]
  refine CS.out.mono ?_
  rintro e w2 ⟨rfl, hO2, hg2⟩
  have HO2 := hidd hO2
  have HG2 := hidd hg2
  clear hO2 hg2
  go_wp2_with fail
  go_ret
  exact ⟨rfl, HO2.out, by have := HG2.out.size; have := HZ.out; omega, fun B hB => (HB.out.mono (by omega)).grown HG2.out (by have := HZ.out; omega) (fun k hk => by cases hk; exact hB)⟩
theorem rising_none (A : Option Addr) (cap : Nat) (fv : Value) (hone : fv.oneCell' = true) (q : Nat) (hfv : fv = .func (.func 142) #[] #[.pointer (some ⟨q, 0, none⟩)]) (w : World) :
    Calls Tryz.prog 141 #[.slice A 0 cap, fv] w fun e w' => e = .returned (.slice A 0 cap) ∧ Below w.heap.size w w' := by
  subst hfv
  have hmf : ∀ (fn : Fn) (first cap : Array Value) (w : World), (Instr.makeFunc fn first cap).run Tryz.prog w = .ok (.func fn first cap) w := fun _ _ _ _ => rfl
  have CS := hidd (fun fv W => sortsNone A cap fv W)
  go_enter Tryz.func141, Tryz.ntmps141
  go_wp2_with fail
  refine (CS.out _ _).mono ?_
  rintro e w2 ⟨rfl, rfl⟩
  go_wp2_with fail
  go_ret
  exact ⟨rfl, by (repeat' (first | (with_reducible exact Below.refl _ _) | (with_reducible assumption) | (with_reducible apply Below.setCell) | (with_reducible apply Below.alloc) | (with_reducible apply Below.drew) | (with_reducible apply below_drewN) | (with_reducible refine Below.trans ?_ (Below.mono (by assumption) ?_)) | omega | (simp; done) | (simp; omega)))⟩

/-- the links of a node, in order. -/
def outs (L : List Lk) (node : Int) : List Int := ixL (ixSort (fromK L node L.length))
theorem outs_len (L : List Lk) (node : Int) : (outs L node).length = (fromK L node L.length).length := by unfold outs; rw [ixL_len, ixSort_len]
def FromEnd (L : List Lk) (node : Int) (w : World) (e : Ending) (w' : World) : Prop := ∃ A c, e = .returned (.slice A (outs L node).length c) ∧ Lie intV 1 w' w'.heap.size A (outs L node) ∧ (∀ ad, A = some ad → 0 < (outs L node).length → w.heap.size ≤ ad.block) ∧ Below w.heap.size w w'
set_option maxRecDepth 100000 in
set_option maxHeartbeats 4000000 in
theorem from_any (m : Nat) (n : Int) (L : List Lk) (hL : L.length ≤ 1000000) (node : Int) (hnd : ∀ x y : NodeIx L node, tw (lkAt L x.1) = tw (lkAt L y.1) → x = y) (w : World) (h : MapAt w m n L) :
    Calls Tryz.prog 126 #[.pointer (some ⟨m, 0, none⟩), .int .i64 node] w (FromEnd L node w) := by
  obtain ⟨i0, hi, hz0, hz1, hz2⟩ := info_parts intInfo
  have hmf : ∀ (fn : Fn) (first cap : Array Value) (w : World), (Instr.makeFunc fn first cap).run Tryz.prog w = .ok (.func fn first cap) w := fun _ _ _ _ => rfl
  obtain ⟨A, c, b, h1, h2, h3, h4, h5, h6⟩ := h
  obtain ⟨W0, hW0⟩ : ∃ W0, w.alloc (.cells #[.pointer (some ⟨m, 0, none⟩)] 25) = W0 := ⟨_, rfl⟩
  have hz : W0.heap.size = w.heap.size + 1 := by rw [← hW0]; simp
  have hb0 : Below w.heap.size w W0 := by rw [← hW0]; (repeat' (first | (with_reducible exact Below.refl _ _) | (with_reducible assumption) | (with_reducible apply Below.setCell) | (with_reducible apply Below.alloc) | (with_reducible apply Below.drew) | (with_reducible apply below_drewN) | (with_reducible refine Below.trans ?_ (Below.mono (by assumption) ?_)) | omega | (simp; done) | (simp; omega)))
  have q0 : W0.cell? ⟨w.heap.size, 0, none⟩ = some (.pointer (some ⟨m, 0, none⟩)) := by rw [← hW0]; simp [go_sem]
  have m1 : W0.cell? ⟨m, 1, none⟩ = some (.slice A L.length c) := (hb0.cell (p := ⟨m, 1, none⟩) h1).trans h3
  have HA := hidd (h5.below hb0)
  have HAB : Hid (∀ ad, A = some ad → 0 < L.length → ad.block < w.heap.size) := hidd (fun ad e hl => by obtain ⟨ad', e', hB', _⟩ := h5 hl; rw [e] at e'; cases e'; exact hB')
  have HB0 := hidd hb0
  have HZ := hidd hz
  have HW := hidd hW0
  have hm0 : m < W0.heap.size := by omega
  have HEND : Hid (∀ (A : Option Addr) (c : Nat) w', Lie intV 1 w' w'.heap.size A (outs L node) → (∀ ad, A = some ad → 0 < (outs L node).length → w.heap.size ≤ ad.block) → Below w.heap.size w w' → FromEnd L node w (.returned (.slice A (outs L node).length c)) w') := hidd (fun A c w' h1 h0 h2 => ⟨A, c, rfl, h1, h0, h2⟩)
  have HND := hidd hnd
  obtain ⟨PO, hPO⟩ : ∃ PO, FromEnd L node w = PO := ⟨_, rfl⟩
  rw [hPO] at HEND ⊢
  have nm : ¬ m = w.heap.size := by omega
  clear h2 h4 h5 h6 hb0 hz hW0 hPO hnd
  go_enter Tryz.func126, Tryz.ntmps126
  go_wp2_with fail
  rw [HW.out]
  clear h3
  go_loopg [5, 13] (L.length + 2) (fun g s5 s13 wr => ∃ i : Nat, i ≤ L.length ∧ i + g = L.length + 2 ∧ s13 = .int .i64 (i : Int) ∧ OwnL intV 1 wr W0.heap.size 3 s5 (ixL (fromK L node i)) ∧ Below W0.heap.size W0 wr)
  case atStart => exact ⟨0, by omega, by omega, rfl, OwnL.nil _ _ _, Below.refl _ _⟩
  case round =>
    obtain ⟨i, hi1, hg, rfl, hO, hB⟩ := hrel
    obtain ⟨A5, c5, rfl, _, _, _⟩ := hO.lie intV_len
    have HG := hidd hg
    have HO := hidd hO
    have HB := hidd hB
    have hsz : W0.heap.size ≤ wr.heap.size := hB.size
    clear hg hO hB
    by_cases hin : i < L.length
    · have hin2 : (i : Int) < (L.length : Int) := by omega
      have hi0 : (0 : Int) ≤ (i : Int) := by omega
      obtain ⟨ad, rfl, ha, x0, x1, x2, x3, x4, x5, x6, x7⟩ := (HA.out.below HB.out).link i hin
      have hst : Hid (fr (lkAt L i) = node → ixL (fromK L node (i + 1)) = ixL (fromK L node i) ++ [(i : Int)]) := hidd (fun e => by
        rw [fromK, dif_pos ⟨hin, e⟩, ixL_snoc])
      have hsn : Hid (¬ fr (lkAt L i) = node → ixL (fromK L node (i + 1)) = ixL (fromK L node i)) := hidd (fun e => by
        rw [fromK, dif_neg (fun h => e h.2)])
      have hlen := fromK_len L node i
      have hlen2 : (ixL (fromK L node i)).length = (fromK L node i).length := ixL_len _
      generalize fromK L node i = D at *
      generalize ixL D = ID at *
      have HO1 : Hid (wr.ownsRow W0.heap.size 3 1 (.slice A5 ID.length c5) ID.length (rowOf intV ID)) := hidd HO.out
      obtain ⟨K, hK⟩ : ∃ K, ID.length = K := ⟨_, rfl⟩
      rw [hK] at HO1 hlen2 ⊢
      have HK := hidd hK
      have hK6 : K ≤ 1000000 := by omega
      clear hlen hlen2 hK
      generalize fr (lkAt L i) = a0 at *
      generalize tw (lkAt L i) = a1 at *
      generalize rt (lkAt L i) = a2 at *
      generalize sh (lkAt L i) = a3 at *
      generalize fa (lkAt L i) = a4 at *
      generalize mo (lkAt L i) = a5 at *
      generalize ro (lkAt L i) = a6 at *
      generalize fi (lkAt L i) = a7 at *
      by_cases hf : a0 = node
      · subst hf
        have HO2 := hidd ((World.ownsRow.alloc HO1.out (.cells #[.int .i64 a0, .int .i64 a1, .int .i64 a2, .int .i64 a3, .int .i64 a4, .int .i64 a5, .int .i64 a6, .int .i64 a7] 51)).alloc (.cells #[.int .i64 (i : Int)] 3))
        have hsrc : Hid (0 < 1 → ∃ ad', some (⟨wr.heap.size + 1, 0, none⟩ : Addr) = some ad' ∧ ∀ j u, [Value.int .i64 (i : Int)][j]? = some u → ((wr.alloc (.cells #[.int .i64 a0, .int .i64 a1, .int .i64 a2, .int .i64 a3, .int .i64 a4, .int .i64 a5, .int .i64 a6, .int .i64 a7] 51)).alloc (.cells #[.int .i64 (i : Int)] 3)).cell? (ad'.add j) = some u) := hidd (fun _ => ⟨_, rfl, fun j u hj => by
          match j, hj with
          | 0, hj => simp at hj; subst hj; simp [Addr.add, go_sem]⟩)
        have HONE : Hid (∀ u ∈ [Value.int .i64 (i : Int)], u.oneCell' = true) := hidd (fun u hu => by simp at hu; subst hu; rfl)
        have hmax : Hid (K + 1 ≤ maxLen) := hidd (by unfold maxLen; omega)
        have hby : Hid ((K + 1) * 8 ≤ 140737488355328) := hidd (by omega)
        have hbase : Hid (W0.heap.size ≤ ((wr.alloc (.cells #[.int .i64 a0, .int .i64 a1, .int .i64 a2, .int .i64 a3, .int .i64 a4, .int .i64 a5, .int .i64 a6, .int .i64 a7] 51)).alloc (.cells #[.int .i64 (i : Int)] 3)).heap.size) := hidd (by simp; omega)
        go_wp2_with (first | (at_builtin; refine wpList_append_some rfl _ _ 36 rfl W0.heap.size 3 i0 (.int .i64 0) 1 8 Tryz.underlying36 hi hz0 hz1 hz2 rfl (by decide) (.slice A5 K c5) K (rowOf intV ID) rfl HO2.out (some ⟨wr.heap.size + 1, 0, none⟩) 1 1 [.int .i64 (i : Int)] rfl rfl hsrc.out HONE.out hmax.out hby.out hbase.out ?_; intro v' w1 hown' hgrow hor; have HO3 := hidd hown'; have HG3 := hidd hgrow; clear hown' hgrow hor) | fail)
        have hg := HG.out
        go_roundg (gk - 1)
        case measure => omega
        case rel => exact ⟨i + 1, by omega, by omega, by go_num, by rw [hst.out (by simp)]; exact OwnL.snoc (L := ID) (x := (i : Int)) HO3.out (by rw [HK.out]) rfl, ((below_new (below_new HB.out _) _)).grown HG3.out hbase.out (fun k hk => by
            have := (World.ownsRow.lt HO1.out k hk).1
            omega)⟩
      · have hf2 : (a0 == node) = false := beq_eq_false_iff_ne.2 hf
        have hd2 : decide (a0 = node) = false := decide_eq_false hf
        go_wp2_with fail
        have hg := HG.out
        go_roundg (gk - 1)
        case measure => omega
        case rel => exact ⟨i + 1, by omega, by omega, by go_num, by rw [hsn.out hf]; have q := HO.out.alloc (.cells #[.int .i64 a0, .int .i64 a1, .int .i64 a2, .int .i64 a3, .int .i64 a4, .int .i64 a5, .int .i64 a6, .int .i64 a7] 51); rw [HK.out] at q; exact q, below_new HB.out _⟩
    · have hin2 : ¬ (i : Int) < (L.length : Int) := by omega
      have he : i = L.length := by omega
      subst he
      have hlen := fromK_len L node L.length
      have hq0 := (HB.out.cell (p := ⟨w.heap.size, 0, none⟩) (show w.heap.size < W0.heap.size by have := HZ.out; omega)).trans q0
      have hm1 := (HB.out.cell (p := ⟨m, 1, none⟩) hm0).trans m1
      have hBW := hidd (HB0.out.trans (HB.out.mono HB0.out.size))
      by_cases hne : fromK L node L.length = []
      · have h0 : (outs L node) = [] := by unfold outs; rw [hne]; simp [ixSort, ixL]
        have e0 : (ixL (fromK L node L.length)).length = 0 := by rw [hne]; rfl
        rw [e0]
        have H0 := hidd h0
        have cr := hidd (fun W => rising_none A5 c5 _ rfl w.heap.size rfl W)
        clear h0 hne hlen e0
        go_wp2_with fail
        refine (cr.out _).mono ?_
        rintro e w2 ⟨rfl, hb2⟩
        have HB2 := hidd (below_step hBW.out hb2)
        clear hb2
        go_wp2_with fail
        have hfin := HEND.out A5 c5 w2 (by rw [H0.out]; exact Lie.nil) (fun ad _ h => by rw [H0.out] at h; exact absurd h (by simp)) HB2.out
        rw [H0.out] at hfin
        first | exact hfin | (go_ret; exact hfin)
      · have hpos : 0 < (fromK L node L.length).length := List.length_pos_iff.2 hne
        have hLp : 0 < L.length := by omega
        obtain ⟨ad, rfl, hadB, hcl⟩ := (HA.out.below HB.out) hLp
        have hadw := HAB.out ad rfl hLp
        have hO := HO.out
        obtain ⟨g, cap, hv, hgb, hgl⟩ := World.ownsRow.form hO (by rw [ixL_len]; exact hpos)
        have hbx : FromBox wr w.heap.size m L ad := ⟨hq0, ⟨c, hm1⟩, fun j hj => by
          have := hcl j L[j] (List.getElem?_eq_getElem hj) 1 _ rfl
          rw [← add_of_add] at this
          rw [lkAt_get hj]
          exact this⟩
        simp only [Value.slice.injEq] at hv
        obtain ⟨rfl, _, rfl⟩ := hv
        rw [ixL_len] at hO
        rw [ixL_len]
        have cr := hidd (rising_some L node HND.out hL w.heap.size m g c5 W0.heap.size ad (fromK L node L.length) hne (by omega) wr hO hbx (by have := HZ.out; omega) (by omega) (by have := HZ.out; omega))
        have HLO := hidd (outs_len L node)
        have HGB := hidd hgb
        have HOS : Hid (ixL (ixSort (fromK L node L.length)) = outs L node) := hidd rfl
        rw [HOS.out] at cr
        rw [← HLO.out] at cr
        have hvl : Hid ((fromK L node L.length).length = (outs L node).length) := hidd HLO.out.symm
        rw [hvl.out]
        clear hO hbx hne hlen hpos hcl hadB hgl hgb
        generalize outs L node = OU at *
        go_wp2_with fail
        refine cr.out.mono ?_
        rintro e w2 ⟨rfl, hO2, hs2, hb2⟩
        have HO2 := hidd hO2
        have HB2 := hidd (hBW.out.trans (hb2 w.heap.size (by have := HGB.out; have := HZ.out; omega)))
        clear hO2 hb2
        go_wp2_with fail
        obtain ⟨A', c', e, _, _, hl⟩ := HO2.out.lie intV_len
        have hfin := HEND.out A' c' w2 hl (fun ad ea _ => by
          rw [ea] at e
          simp only [Value.slice.injEq, Option.some.injEq] at e
          rw [← e.1]
          have := HGB.out
          have := HZ.out
          show w.heap.size ≤ g
          omega) HB2.out
        rw [← e] at hfin
        first | exact hfin | (go_ret; exact hfin)
end Go.Proofs.YtalhbjmhipiiiaaGreat.Tp
