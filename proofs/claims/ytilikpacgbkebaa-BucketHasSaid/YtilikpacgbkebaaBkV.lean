/- Buckets: BucketHas' walk. -/
import Derived.Test.YtilikpacgbkebaaBkS
import Derived.Test.YtilikpacgbkebaaBkU
namespace Go.Proofs.Ytilikpacgbkebaa
open Go.RowKit
set_option linter.unusedVariables false
/-- a spec and a packet in boxes one behind the other. -/
def HasTwo (w : World) (a : Nat) (p r u m l x z : Int) : Prop := HasSpec w a p r u m l ∧ a + 1 < w.heap.size ∧ w.cell? ⟨a + 1, 0, none⟩ = some (.int .i64 x) ∧ w.cell? ⟨a + 1, 1, none⟩ = some (.int .i64 z)
theorem HasTwo.but {w w' : World} {a g : Nat} {p r u m l x z : Int} (h : HasTwo w a p r u m l x z) (hb : But g w w') (hg : a + 1 < g) : HasTwo w' a p r u m l x z :=
  ⟨⟨Nat.lt_of_lt_of_le h.1.1 hb.size, (hb.cell h.1.1 (by omega) _).trans h.1.2.1, (hb.cell h.1.1 (by omega) _).trans h.1.2.2.1, (hb.cell h.1.1 (by omega) _).trans h.1.2.2.2.1, (hb.cell h.1.1 (by omega) _).trans h.1.2.2.2.2.1, (hb.cell h.1.1 (by omega) _).trans h.1.2.2.2.2.2⟩, Nat.lt_of_lt_of_le h.2.1 hb.size, (hb.cell h.2.1 (by omega) _).trans h.2.2.1, (hb.cell h.2.1 (by omega) _).trans h.2.2.2⟩
theorem HasTwo.step {w w' : World} {a : Nat} {p r u m l x z : Int} (h : HasTwo w a p r u m l x z) (hb : Below w.heap.size w w') : HasTwo w' a p r u m l x z :=
  ⟨h.1.step hb, Nat.lt_of_lt_of_le h.2.1 hb.size, (hb.cell (p := ⟨a + 1, 0, none⟩) h.2.1).trans h.2.2.1, (hb.cell (p := ⟨a + 1, 1, none⟩) h.2.1).trans h.2.2.2⟩
/-- all that the law holds. -/
structure Zz (w : World) (b c g : Nat) (p r u m l xa xs : Int) (GA : Option Addr) (T : List (Int × Int)) (n gc : Nat) (s : BM.St) (W : World) : Prop where
  b : BktAt W b p r u m l s
  c : BktAt W c p r u m l s
  g : GAt W g p r u m l GA n gc s.1
  t : Lie sendV 2 W W.heap.size GA T
  x : HasTwo W w.heap.size p r u m l xa xs
  w : Below w.heap.size w W
theorem Zz.step {w : World} {b c g : Nat} {p r u m l xa xs : Int} {GA : Option Addr} {T : List (Int × Int)} {n gc : Nat} {s : BM.St} {W W' : World} (h : Zz w b c g p r u m l xa xs GA T n gc s W) (hb : Below W.heap.size W W') : Zz w b c g p r u m l xa xs GA T n gc s W' :=
  ⟨h.b.below hb, h.c.below hb, h.g.below hb, h.t.below hb, h.x.step hb, below_step h.w hb⟩
theorem Zz.drewN {w : World} {b c g : Nat} {p r u m l xa xs : Int} {GA : Option Addr} {T : List (Int × Int)} {n gc : Nat} {s : BM.St} {W : World} (h : Zz w b c g p r u m l xa xs GA T n gc s W) (k : Nat) : Zz w b c g p r u m l xa xs GA T n gc s (W.drewN k) :=
  ⟨h.b.drewN k, h.c.drewN k, h.g, h.t, h.x, below_drewN h.w k⟩
set_option maxRecDepth 100000 in
set_option maxHeartbeats 16000000 in
theorem has12_walk (p r u m l : Int) (A : Option Addr) (L : List (Int × Int)) (ca : Nat) (xa xs : Int) (hL : L.length ≤ maxLen) (w : World) (lL : Lie sendV 2 w w.heap.size A L) :
    Calls Try.prog 4 #[.agg #[.int .i64 p, .int .i64 r, .int .i64 u, .int .i64 m, .int .i64 l], .slice A L.length ca, .agg #[.int .i64 xa, .int .i64 xs]] w fun e w' => e = .returned (.bool true) ∧ Below w.heap.size w w' := by
  have cK := hidd (fun W => known12_any W)
  have HL := hidd lL
  unfold maxLen at hL
  clear lL
  by_cases h40 : (40 : Int) < (L.length : Int)
  · generalize hNL : L.length = N at *
    clear HL hNL
    go_enter Try.func4, Try.ntmps4
    go_wp2_with fail
    refine (cK.out _).mono ?_
    rintro e w2 ⟨rfl, hb2⟩
    go_wp2_with fail
    go_ret
    exact ⟨rfl, below_step (below_new (below_new (Below.refl _ _) _) _) hb2⟩
  cases hR : rightB p r u m l
  · have cN := hidd (fun W => bnew_no p r u m l hR W)
    generalize hNL : L.length = N at *
    clear HL hNL hR
    go_enter Try.func4, Try.ntmps4
    go_wp2_with fail
    refine (cN.out _).mono ?_
    rintro e w1 ⟨rfl, hb1⟩
    go_wp2_with fail
    refine (cK.out _).mono ?_
    rintro e w2 ⟨rfl, hb2⟩
    go_wp2_with fail
    go_ret
    exact ⟨rfl, below_step (below_step (below_new (below_new (Below.refl _ _) _) _) hb1) hb2⟩
  have hp := rightB_iff hR
  have hp1 : 1 ≤ p := by omega
  have hp0 : 0 ≤ p := by omega
  have hr0 : 0 ≤ r := by omega
  have hl1 : 1 ≤ l := by omega
  have hl0 : 0 ≤ l := by omega
  clear hp
  have HR := hidd hR
  have cN := hidd (fun W => bnew_yes p r u m l hR W)
  have hO := hidd (BM.ok_first hR)
  have hI := hidd (BM.Inv.nil hR)
  have cT := hidd (fun b W s (h : BktAt W b p r u m l s) (hs : BM.Ok u m s) n z => btake_any h hR hs n z)
  have cC := hidd (fun b W s (h : BktAt W b p r u m l s) => bcopy_any h hp1)
  have cS := hidd (fun a b W s (h : BktAt W a p r u m l s) (h' : BktAt W b p r u m l s) => bsame_eq h h' hp1)
  unfold TakeEnd at cT
  clear hR
  go_enter Try.func4, Try.ntmps4
  go_wp2_with fail
  refine (cN.out _).mono ?_
  rintro e w1 ⟨b, rfl, hle, hB, hb1⟩
  have HB := hidd hB
  obtain ⟨bc, bf⟩ := bcell hb1
  have z0 : w.heap.size + 1 < w1.heap.size := by have := hb1.size; simp at this; omega
  have HX1 := hidd (show HasTwo w1 w.heap.size p r u m l xa xs from ⟨⟨by omega, by rw [bc _ _ (by (first | omega | (simp; done) | (simp; omega)))]; simp [go_sem], by rw [bc _ _ (by (first | omega | (simp; done) | (simp; omega)))]; simp [go_sem], by rw [bc _ _ (by (first | omega | (simp; done) | (simp; omega)))]; simp [go_sem], by rw [bc _ _ (by (first | omega | (simp; done) | (simp; omega)))]; simp [go_sem], by rw [bc _ _ (by (first | omega | (simp; done) | (simp; omega)))]; simp [go_sem]⟩, z0, by rw [bc _ _ (by (first | omega | (simp; done) | (simp; omega)))]; simp [go_sem], by rw [bc _ _ (by (first | omega | (simp; done) | (simp; omega)))]; simp [go_sem]⟩)
  have H1 := hidd (below_step (below_new (below_new (Below.refl _ _) _) _) hb1)
  have hwb : w.heap.size + 2 ≤ b := by simp at hle; omega
  clear bc bf hb1 hB hle
  obtain ⟨⟨zs, k0, k1, k2, k3, k4⟩, zt, k5, k6⟩ := id HX1.out
  go_wp2_with fail
  obtain ⟨W0, hW0⟩ : ∃ W0 : World, w1.alloc (.cells #[.int .i64 p, .int .i64 r, .int .i64 u, .int .i64 m, .int .i64 l, .slice none 0 0, .int .i64 0] 32) = W0 := ⟨_, rfl⟩
  have HG0 : Hid (GAt W0 w1.heap.size p r u m l none ([] : List (Int × Int)).length 0 (0 : Int)) := hidd (by rw [← hW0]; exact GAt.new _ _ _ _ _ _ _ _ _ _)
  have H0 : Hid (Below w.heap.size w W0) := hidd (by rw [← hW0]; exact below_new H1.out _)
  have HB0 : Hid (BktAt W0 b p r u m l (0, u, m)) := hidd (by rw [← hW0]; exact HB.out.below (below_new (Below.refl _ _) _))
  have HX0 : Hid (HasTwo W0 w.heap.size p r u m l xa xs) := hidd (by rw [← hW0]; exact HX1.out.step (below_new (Below.refl _ _) _))
  have hbg : b < w1.heap.size := HB.out.lt
  rw [hW0]
  clear hW0 H1 HB HX1 k0 k1 k2 k3 k4 k5 k6 zs zt z0
  generalize w1.heap.size = g at *
  go_loopg [10] (L.length + 1) (fun gk s10 wr => ∃ (i : Nat) (T : List (Int × Int)) (s : BM.St) (GA : Option Addr) (gc : Nat), i ≤ L.length ∧ i + gk = L.length + 1 ∧ s10 = .int .i64 (i : Int) ∧ T.length ≤ i ∧ BktAt wr b p r u m l s ∧ BM.Ok u m s ∧ BM.Inv p r u m l T s ∧ GAt wr g p r u m l GA T.length gc s.1 ∧ Lie sendV 2 wr wr.heap.size GA T ∧ FarB (g + 1) GA T ∧ HasTwo wr w.heap.size p r u m l xa xs ∧ Below w.heap.size w wr)
  case atStart => exact ⟨0, [], (0, u, m), none, 0, by omega, by omega, rfl, by simp, HB0.out, hO.out, hI.out, HG0.out, Lie.nil, fun h => absurd h (by simp), HX0.out, H0.out⟩
  case round =>
    clear HB0 HG0 HX0 H0
    obtain ⟨i, T, s, GA, gc, hi, hk, rfl, hTi, hB, hs, hInv, hG, hLT, hF, hSp, hW⟩ := hrel
    have HB := hidd hB
    have HS := hidd hs
    have HI := hidd hInv
    have HG := hidd hG
    have HLT := hidd hLT
    have HF := hidd hF
    have HX := hidd hSp
    have HW := hidd hW
    have HK := hidd hk
    clear hB hs hInv hG hLT hF hSp hW hk
    by_cases hlt : i < L.length
    · obtain ⟨ad, rfl, hadb, y0, y1⟩ := (HL.out.keep HW.out).send i hlt
      have z1 : (i : Int) < (L.length : Int) := by omega
      have hT40 : T.length ≤ 40 := by omega
      generalize L[i].1 = n at *
      generalize L[i].2 = z at *
      generalize hNL : L.length = N at *
      have HNL := hidd hNL
      clear hNL
      have hadw : (ad.add (i * 2)).block < w.heap.size := by
        have e : (ad.add (i * 2)).block = ad.block := block_of_add _ _
        rw [e]
        omega
      go_wp2_with fail
      go_still_tail 11, (by kernel_rfl)
      change wpList _ _ _ _ _ wr.drew
      have ct := hidd (cT.out b wr.drew s HB.out.drew HS.out n z)
      have cu := hidd (fun W (hl : Lie sendV 2 W W.heap.size GA T) => take12_any HR.out GA HI.out HS.out gc n z (by omega) W hl)
      have hok := hidd (BM.step_ok (p := p) (r := r) (l := l) HS.out hl1 n z)
      have hinv := hidd (HI.out.step hp0 hr0 hl0 HS.out n z)
      unfold Take12End gV at cu
      generalize BM.step p r u m l s n z = St at *
      have HW' : Hid (Below w.heap.size w wr.drew) := hidd (Below.drew HW.out)
      have HLT' : Hid (Lie sendV 2 wr.drew wr.drew.heap.size GA T) := HLT
      have HG' : Hid (GAt wr.drew g p r u m l GA T.length gc s.1) := HG
      have HX' : Hid (HasTwo wr.drew w.heap.size p r u m l xa xs) := HX
      have y0' : wr.drew.cell? (ad.add (i * 2)) = some (.int .i64 n) := y0
      have y1' : wr.drew.cell? ⟨(ad.add (i * 2)).block, (ad.add (i * 2)).off + 1, none⟩ = some (.int .i64 z) := y1
      clear HW HLT HG HX y0 y1 HB
      generalize wr.drew = wd at *
      go_wp2_with fail
      refine ct.out.mono ?_
      rintro e wk ⟨rfl, hB2, hbut⟩
      have hbg2 : b < g + 1 := by omega
      have HB2 := hidd hB2
      have HLT2 := hidd (HLT'.out.but hbut HF.out hbg2)
      have HG2 := hidd (HG'.out.but hbut (by omega))
      have HX2 := hidd (HX'.out.but hbut (by omega))
      have HW2 := hidd (HW'.out.trans (hbut.below (by omega) HW'.out.size))
      have hadc : (ad.add (i * 2)).block < wk.heap.size := Nat.lt_of_lt_of_le hadw HW2.out.size
      have x0 : wk.cell? (ad.add (i * 2)) = some (.int .i64 n) := (World.cell?_of_block (hbut.block _ (Nat.lt_of_lt_of_le hadw HW'.out.size) (by omega))).trans y0'
      have x1 : wk.cell? ⟨(ad.add (i * 2)).block, (ad.add (i * 2)).off + 1, none⟩ = some (.int .i64 z) := (hbut.cell (Nat.lt_of_lt_of_le hadw HW'.out.size) (by omega) _).trans y1'
      have hT' : (BM.took T St.2.1 n z).length ≤ i + 1 := by
        unfold BM.took
        split
        · simp; omega
        · omega
      clear hB2 hbut HLT' HG' HX' HW' y0' y1' ct HI HS
      generalize BM.took T St.2.1 n z = T' at *
      obtain ⟨⟨g0, g1, g2, g3, g4⟩, g5, g6⟩ := HG2.out.cells
      generalize hTl : T.length = tl at *
      have HTL := hidd hTl
      clear hTl
      go_wp2_with fail
      refine wp_region_held_drew (S := (fun Y => Y.cell? (ad.add (i * 2)) = some (.int .i64 n) ∧ Y.cell? ⟨(ad.add (i * 2)).block, (ad.add (i * 2)).off + 1, none⟩ = some (.int .i64 z))) (by kernel_rfl) ⟨x0, x1⟩ (fun hH => ?_)
      refine wpAnyH_take (i := 1) (v := ?va1) (by (conv => lhs; simp only [List.getElem?_toArray, List.getElem?_cons_succ, List.getElem?_cons_zero])) (by kernel_rfl) (by kernel_rfl) (by kernel_rfl) ?hQ (Or.inl ⟨by rfl, ?hya1⟩) hH ?resta1
      case hQ => exact fun _ _ _ h => h
      case hya1 => (intro Y hY; obtain ⟨e0, e1⟩ := hY; go_simp; try (with_reducible rfl))
      try simp only [Act.put, List.setIfInBounds_toArray, List.set_cons_zero, List.set_cons_succ]
      refine wpAnyH_take (i := 2) (v := ?va2) (by (conv => lhs; simp only [List.getElem?_toArray, List.getElem?_cons_succ, List.getElem?_cons_zero])) (by kernel_rfl) (by kernel_rfl) (by kernel_rfl) ?hQ (Or.inl ⟨by rfl, ?hya2⟩) hH ?resta2
      case hQ => exact fun _ _ _ h => h
      case hya2 => (intro Y hY; obtain ⟨e0, e1⟩ := hY; go_simp; try (with_reducible rfl))
      try simp only [Act.put, List.setIfInBounds_toArray, List.set_cons_zero, List.set_cons_succ]
      refine wpAnyH_take (i := 3) (v := ?va3) (by (conv => lhs; simp only [List.getElem?_toArray, List.getElem?_cons_succ, List.getElem?_cons_zero])) (by kernel_rfl) (by kernel_rfl) (by kernel_rfl) ?hQ (Or.inl ⟨by rfl, ?hya3⟩) hH ?resta3
      case hQ => exact fun _ _ _ h => h
      case hya3 => (intro Y hY; obtain ⟨e0, e1⟩ := hY; go_simp; try (with_reducible rfl))
      try simp only [Act.put, List.setIfInBounds_toArray, List.set_cons_zero, List.set_cons_succ]
      refine wpAnyH_take (i := 4) (v := ?va4) (by (conv => lhs; simp only [List.getElem?_toArray, List.getElem?_cons_succ, List.getElem?_cons_zero])) (by kernel_rfl) (by kernel_rfl) (by kernel_rfl) ?hQ (Or.inl ⟨by rfl, ?hya4⟩) hH ?resta4
      case hQ => exact fun _ _ _ h => h
      case hya4 => (intro Y hY; obtain ⟨e0, e1⟩ := hY; go_simp; try (with_reducible rfl))
      try simp only [Act.put, List.setIfInBounds_toArray, List.set_cons_zero, List.set_cons_succ]
      refine wpAnyH_take (i := 5) (v := ?va5) (by (conv => lhs; simp only [List.getElem?_toArray, List.getElem?_cons_succ, List.getElem?_cons_zero])) (by kernel_rfl) (by kernel_rfl) (by kernel_rfl) ?hQ (Or.inl ⟨by rfl, ?hya5⟩) hH ?resta5
      case hQ => exact fun _ _ _ h => h
      case hya5 => (intro Y hY; obtain ⟨e0, e1⟩ := hY; go_simp; try (with_reducible rfl))
      try simp only [Act.put, List.setIfInBounds_toArray, List.set_cons_zero, List.set_cons_succ]
      refine wpAnyH_take (i := 6) (v := ?va6) (by (conv => lhs; simp only [List.getElem?_toArray, List.getElem?_cons_succ, List.getElem?_cons_zero])) (by kernel_rfl) (by kernel_rfl) (by kernel_rfl) ?hQ (Or.inl ⟨by rfl, ?hya6⟩) hH ?resta6
      case hQ => exact fun _ _ _ h => h
      case hya6 => (intro Y hY; obtain ⟨e0, e1⟩ := hY; go_simp; try (with_reducible rfl))
      try simp only [Act.put, List.setIfInBounds_toArray, List.set_cons_zero, List.set_cons_succ]
      refine wpAnyH_take (i := 7) (v := ?va7) (by (conv => lhs; simp only [List.getElem?_toArray, List.getElem?_cons_succ, List.getElem?_cons_zero])) (by kernel_rfl) (by kernel_rfl) (by kernel_rfl) ?hQ (Or.inl ⟨by rfl, ?hya7⟩) hH ?resta7
      case hQ => exact fun _ _ _ h => h
      case hya7 => (intro Y hY; obtain ⟨e0, e1⟩ := hY; go_simp; try (with_reducible rfl))
      try simp only [Act.put, List.setIfInBounds_toArray, List.set_cons_zero, List.set_cons_succ]
      refine wpAnyH_take (i := 8) (v := ?va8) (by (conv => lhs; simp only [List.getElem?_toArray, List.getElem?_cons_succ, List.getElem?_cons_zero])) (by kernel_rfl) (by kernel_rfl) (by kernel_rfl) ?hQ (Or.inl ⟨by rfl, ?hya8⟩) hH ?resta8
      case hQ => exact fun _ _ _ h => h
      case hya8 => (intro Y hY; obtain ⟨e0, e1⟩ := hY; go_simp; try (with_reducible rfl))
      try simp only [Act.put, List.setIfInBounds_toArray, List.set_cons_zero, List.set_cons_succ]
      refine wpAnyH_take (i := 9) (v := ?va9) (by (conv => lhs; simp only [List.getElem?_toArray, List.getElem?_cons_succ, List.getElem?_cons_zero])) (by kernel_rfl) (by kernel_rfl) (by kernel_rfl) ?hQ (Or.inl ⟨by rfl, ?hya9⟩) hH ?resta9
      case hQ => exact fun _ _ _ h => h
      case hya9 => (intro Y hY; obtain ⟨e0, e1⟩ := hY; go_simp; try (with_reducible rfl))
      try simp only [Act.put, List.setIfInBounds_toArray, List.set_cons_zero, List.set_cons_succ]
      refine wpAnyH_take (i := 10) (v := ?va10) (by (conv => lhs; simp only [List.getElem?_toArray, List.getElem?_cons_succ, List.getElem?_cons_zero])) (by kernel_rfl) (by kernel_rfl) (by kernel_rfl) ?hQ (Or.inl ⟨by rfl, ?hya10⟩) hH ?resta10
      case hQ => exact fun _ _ _ h => h
      case hya10 => (intro Y hY; obtain ⟨e0, e1⟩ := hY; go_simp; try (with_reducible rfl))
      try simp only [Act.put, List.setIfInBounds_toArray, List.set_cons_zero, List.set_cons_succ]
      have u0 : wk.drew.cell? ⟨g, 0, none⟩ = some (.int .i64 p) := g0
      have u1 : wk.drew.cell? ⟨g, 1, none⟩ = some (.int .i64 r) := g1
      have u2 : wk.drew.cell? ⟨g, 2, none⟩ = some (.int .i64 u) := g2
      have u3 : wk.drew.cell? ⟨g, 3, none⟩ = some (.int .i64 m) := g3
      have u4 : wk.drew.cell? ⟨g, 4, none⟩ = some (.int .i64 l) := g4
      have u5 : wk.drew.cell? ⟨g, 5, none⟩ = some (.slice GA tl gc) := g5
      have u6 : wk.drew.cell? ⟨g, 6, none⟩ = some (.int .i64 s.1) := g6
      refine wpAnyH_ready (rs := [0]) (by kernel_rfl) (by simp) ?_
      refine AllReadyH.cons (by (conv => lhs; simp only [List.getElem?_toArray, List.getElem?_cons_succ, List.getElem?_cons_zero])) (fun K hK => ?_) AllReadyH.nil
      go_simp
      refine hK.out _ _ hH (fun hH0 => ?_)
      clear hK hH u0 u1 u2 u3 u4 u5 u6
      try simp only [Act.put, List.setIfInBounds_toArray, List.set_cons_zero, List.set_cons_succ]
      refine wpAnyH_ready (rs := [11]) (by kernel_rfl) (by simp) ?_
      refine AllReadyH.cons (by (conv => lhs; simp only [List.getElem?_toArray, List.getElem?_cons_succ, List.getElem?_cons_zero])) (fun K hK => ?_) AllReadyH.nil
      go_simp
      go_at_call 13; refine (cu.out _ (HLT2.out.below (Below.drew (Below.refl _ _)))).mono ?_; rintro e w5 ⟨GA', gc', rfl, hl', hfar, hb5⟩
      have cum1 : Below wk.heap.size wk w5 := (Below.drew (Below.refl _ _)).trans hb5
      have hH1 : w5.cell? (ad.add (i * 2)) = some (.int .i64 n) ∧ w5.cell? ⟨(ad.add (i * 2)).block, (ad.add (i * 2)).off + 1, none⟩ = some (.int .i64 z) := ⟨(cum1.cell hadc).trans x0, (cum1.cell (p := ⟨(ad.add (i * 2)).block, (ad.add (i * 2)).off + 1, none⟩) hadc).trans x1⟩
      refine hK.out _ _ hH1 (fun hH2 => ?_)
      clear hK hH0
      try simp only [Act.put, List.setIfInBounds_toArray, List.set_cons_zero, List.set_cons_succ]
      refine wpAnyH_take (i := 12) (v := ?vb12) (by (conv => lhs; simp only [List.getElem?_toArray, List.getElem?_cons_succ, List.getElem?_cons_zero])) (by kernel_rfl) (by kernel_rfl) (by kernel_rfl) ?hQ (Or.inl ⟨by rfl, ?hyb12⟩) hH2 ?restb12
      case hQ => exact fun _ _ _ h => h
      case hyb12 => (intro Y hY; obtain ⟨e0, e1⟩ := hY; go_simp; try (with_reducible rfl))
      try simp only [Act.put, List.setIfInBounds_toArray, List.set_cons_zero, List.set_cons_succ]
      refine wpAnyH_take (i := 13) (v := ?vb13) (by (conv => lhs; simp only [List.getElem?_toArray, List.getElem?_cons_succ, List.getElem?_cons_zero])) (by kernel_rfl) (by kernel_rfl) (by kernel_rfl) ?hQ (Or.inl ⟨by rfl, ?hyb13⟩) hH2 ?restb13
      case hQ => exact fun _ _ _ h => h
      case hyb13 => (intro Y hY; obtain ⟨e0, e1⟩ := hY; go_simp; try (with_reducible rfl))
      try simp only [Act.put, List.setIfInBounds_toArray, List.set_cons_zero, List.set_cons_succ]
      refine wpAnyH_take (i := 14) (v := ?vb14) (by (conv => lhs; simp only [List.getElem?_toArray, List.getElem?_cons_succ, List.getElem?_cons_zero])) (by kernel_rfl) (by kernel_rfl) (by kernel_rfl) ?hQ (Or.inl ⟨by rfl, ?hyb14⟩) hH2 ?restb14
      case hQ => exact fun _ _ _ h => h
      case hyb14 => (intro Y hY; obtain ⟨e0, e1⟩ := hY; go_simp; try (with_reducible rfl))
      try simp only [Act.put, List.setIfInBounds_toArray, List.set_cons_zero, List.set_cons_succ]
      refine wpAnyH_take (i := 15) (v := ?vb15) (by (conv => lhs; simp only [List.getElem?_toArray, List.getElem?_cons_succ, List.getElem?_cons_zero])) (by kernel_rfl) (by kernel_rfl) (by kernel_rfl) ?hQ (Or.inl ⟨by rfl, ?hyb15⟩) hH2 ?restb15
      case hQ => exact fun _ _ _ h => h
      case hyb15 => (intro Y hY; obtain ⟨e0, e1⟩ := hY; go_simp; try (with_reducible rfl))
      try simp only [Act.put, List.setIfInBounds_toArray, List.set_cons_zero, List.set_cons_succ]
      refine wpAnyH_ready (rs := [16]) (by kernel_rfl) (by simp) ?_
      refine AllReadyH.cons (by (conv => lhs; simp only [List.getElem?_toArray, List.getElem?_cons_succ, List.getElem?_cons_zero])) (fun K hK => ?_) AllReadyH.nil
      have hrow : w5.heap[g]? = some (.cells (gCells p r u m l GA tl gc s.1) 32 (0, 0)) := (cum1.block g HG2.out.lt).trans HG2.out
      rw [if_pos (by rfl)]
      refine wp_store_row 32 (.tmp 9) (.tmp 65) (by rfl) g (gCells p r u m l GA' T'.length gc' St.1.1) (by rfl) (by rfl) _ _ hrow (by kernel_rfl) (by rfl) (by simp [gCells, Value.oneCell']) ?_
      have hGr : GAt (w5.setRow g (gCells p r u m l GA' T'.length gc' St.1.1)) g p r u m l GA' T'.length gc' St.1.1 := setRow_heap w5 g _ _ _ _ hrow
      have hbutg : But g wk (w5.setRow g (gCells p r u m l GA' T'.length gc' St.1.1)) := ⟨cum1.os, cum1.tape, cum1.output, by rw [setRow_size]; exact cum1.size, fun k h1 h2 => (setRow_other w5 g k _ h2).trans (cum1.block k h1)⟩
      have hF3 : FarB (g + 1) GA' T' := by
        rcases hfar with ⟨h3, h4⟩ | h3
        · rw [h3, h4]; exact HF.out
        · exact fun hl ad h2 => by have h5 := h3 hl ad h2; have := HG2.out.lt; simp at h5; omega
      have hLr := hl'.row (q := g) (fun hl ad' h2 => by have := hF3 hl ad' h2; omega) (gCells p r u m l GA' T'.length gc' St.1.1)
      have hH3 : (w5.setRow g (gCells p r u m l GA' T'.length gc' St.1.1)).cell? (ad.add (i * 2)) = some (.int .i64 n) ∧ (w5.setRow g (gCells p r u m l GA' T'.length gc' St.1.1)).cell? ⟨(ad.add (i * 2)).block, (ad.add (i * 2)).off + 1, none⟩ = some (.int .i64 z) := ⟨(cell_setRow_other _ _ _ _ (by omega)).trans hH1.1, (cell_setRow_other _ _ _ ⟨(ad.add (i * 2)).block, (ad.add (i * 2)).off + 1, none⟩ (by show (ad.add (i * 2)).block ≠ g; omega)).trans hH1.2⟩
      have HGR := hidd hGr
      have HBG := hidd hbutg
      have HF3 := hidd hF3
      have HLR := hidd hLr
      clear hGr hbutg hF3 hLr hfar hl' hb5 hrow hH1 hH2
      refine hK.out _ _ hH3 (fun hH4 => ?_)
      clear hK
      try simp only [Act.put]
      refine wpAnyH_done (by kernel_rfl) ?_ _
      obtain ⟨wz, hwz⟩ : ∃ wz : World, w5.setRow g (gCells p r u m l GA' T'.length gc' St.1.1) = wz := ⟨_, rfl⟩
      rw [hwz] at HGR HBG HLR
      rw [hwz]
      clear hwz hH3 hH4 cum1
      go_wp2_with fail
      have hk := HK.out
      have hN := HNL.out
      subst hN
      go_roundg (gk - 1)
      case measure => omega
      case rel => exact ⟨i + 1, T', St.1, GA', gc', by omega, by omega, by go_num, by omega, HB2.out.but HBG.out (by omega), hok.out, hinv.out, HGR.out, HLR.out, HF3.out, HX2.out.but HBG.out (by omega), HW2.out.trans (HBG.out.below (by omega) HW2.out.size)⟩
    · have z1 : ¬ (i : Int) < (L.length : Int) := by omega
      have hT40 : T.length ≤ 40 := by omega
      clear HL HK
      generalize hNL : L.length = N at *
      clear hNL
      have hlc := hidd (cC.out b wr s HB.out)
      have cZs := hidd (fun a b W h h' => cS.out a b W s h h')
      have cAs := hidd (fun W => asked12_any p r u m l GA T.length gc s.1 xa W)
      have cHs := hidd (fun (h0 : 0 ≤ xa) (h1 : xa ≤ 2147483647) (h2 : BM.last T ≤ xa) W hl => has12_any p r u m l HR.out GA T gc s.1 xa (by omega) HI.out.keep h2 h0 h1 W hl)
      have cKs := hidd (fun t W hl => keeps12_any p r u m l HR.out GA T gc s.1 t xs (by omega) W hl)
      have hfit := hidd (fun t h0 h1 => HI.out.fit hp0 hr0 HS.out (t := t) (z := xs) h0 h1)
      have hle0 := hidd (fun t h0 => HI.out.lev0 hr0 HS.out (t := t) h0)
      have hle1 := hidd (fun t h0 => HI.out.lev1 hp0 HS.out (t := t) h0)
      have hla := HI.out.le
      have s0 := HS.out.1
      have cB0 := hidd (fun W (h : BktAt W b p r u m l s) hn => bhas_no h HR.out HS.out xa hn)
      have cB1 := hidd (fun W (h : BktAt W b p r u m l s) hn => bhas_yes h HR.out HS.out xa hn)
      have cW0 := hidd (fun W (h : BktAt W b p r u m l s) hn => bwhen_ask h HR.out HS.out xa xs hn)
      have cW1 := hidd (fun W (h : BktAt W b p r u m l s) hn hz => bwhen_not h HR.out HS.out xa xs hn hz)
      have cW2 := hidd (fun W (h : BktAt W b p r u m l s) hn hz => bwhen_yes h HR.out HS.out xa xs hn hz)
      unfold WhenEnd at cW2
      unfold gV at cHs cKs
      unfold Keeps12End at cKs
      clear HI HS cT cC cS cN hO hI
      generalize hTl : T.length = tl at *
      clear hTl
      obtain ⟨⟨zs, k0, k1, k2, k3, k4⟩, zt, k5, k6⟩ := id HX.out
      obtain ⟨⟨g0, g1, g2, g3, g4⟩, g5, g6⟩ := HG.out.cells
      have gl := HG.out.lt
      go_wp2_with fail
      refine hlc.out.mono ?_
      rintro e w2 ⟨rfl, hC, hb⟩
      generalize hcc : wr.heap.size = c at *
      have ZA : Hid (Zz w b c g p r u m l xa xs GA T tl gc s w2) := hidd (by subst hcc; exact ⟨HB.out.below hb, hC, HG.out.below hb, HLT.out.below hb, HX.out.step hb, below_step HW.out hb⟩)
      clear hC hb hcc HB HG HLT HX HW hlc HF
      clear zs k0 k1 k2 k3 k4 zt k5 k6 g0 g1 g2 g3 g4 g5 g6 gl
      obtain ⟨⟨zs, k0, k1, k2, k3, k4⟩, zt, k5, k6⟩ := id ZA.out.x
      obtain ⟨⟨g0, g1, g2, g3, g4⟩, g5, g6⟩ := ZA.out.g.cells
      have gl := ZA.out.g.lt
      cases hq : BM.askB s xa
      · have HQ := hidd hq
        have eA : decide (s.1 ≤ xa ∧ xa ≤ 2147483647) = false := hq
        rw [eA] at cAs
        clear hq eA
        go_wp2_with fail
        refine (cB0.out _ ZA.out.b HQ.out).mono ?_
        rintro e w3 ⟨rfl, hb⟩
        have Z3 := hidd (ZA.out.step hb)
        clear hb
        clear zs k0 k1 k2 k3 k4 zt k5 k6 g0 g1 g2 g3 g4 g5 g6 gl
        obtain ⟨⟨zs, k0, k1, k2, k3, k4⟩, zt, k5, k6⟩ := id Z3.out.x
        obtain ⟨⟨g0, g1, g2, g3, g4⟩, g5, g6⟩ := Z3.out.g.cells
        have gl := Z3.out.g.lt
        go_wp2_with fail
        refine (cW0.out _ Z3.out.b HQ.out).mono ?_
        rintro e w4 ⟨rfl, hb⟩
        have Z4 := hidd (Z3.out.step hb)
        clear hb
        clear zs k0 k1 k2 k3 k4 zt k5 k6 g0 g1 g2 g3 g4 g5 g6 gl
        obtain ⟨⟨zs, k0, k1, k2, k3, k4⟩, zt, k5, k6⟩ := id Z4.out.x
        obtain ⟨⟨g0, g1, g2, g3, g4⟩, g5, g6⟩ := Z4.out.g.cells
        have gl := Z4.out.g.lt
        go_wp2_with fail
        refine (cZs.out b c _ Z4.out.b Z4.out.c).mono ?_
        rintro e w5 ⟨rfl, q5, hw5⟩
        have Z5 := hidd (by rw [hw5]; exact Z4.out.drewN q5 : Zz w b c g p r u m l xa xs GA T tl gc s w5)
        clear hw5
        clear zs k0 k1 k2 k3 k4 zt k5 k6 g0 g1 g2 g3 g4 g5 g6 gl
        obtain ⟨⟨zs, k0, k1, k2, k3, k4⟩, zt, k5, k6⟩ := id Z5.out.x
        obtain ⟨⟨g0, g1, g2, g3, g4⟩, g5, g6⟩ := Z5.out.g.cells
        have gl := Z5.out.g.lt
        go_wp2_with fail
        refine (cAs.out _).mono ?_
        rintro e w6 ⟨rfl, hb⟩
        have Z6 := hidd (Z5.out.step hb)
        clear hb
        clear zs k0 k1 k2 k3 k4 zt k5 k6 g0 g1 g2 g3 g4 g5 g6 gl
        obtain ⟨⟨zs, k0, k1, k2, k3, k4⟩, zt, k5, k6⟩ := id Z6.out.x
        obtain ⟨⟨g0, g1, g2, g3, g4⟩, g5, g6⟩ := Z6.out.g.cells
        have gl := Z6.out.g.lt
        go_wp2_with fail
        refine (cK.out _).mono ?_
        rintro e w9 ⟨rfl, hb⟩
        have H9 := hidd (below_step Z6.out.w hb)
        clear hb
        go_wp2_with fail
        go_ret
        exact ⟨rfl, H9.out⟩
      · have HQ := hidd hq
        have eA : decide (s.1 ≤ xa ∧ xa ≤ 2147483647) = true := hq
        rw [eA] at cAs
        have hq' := of_decide_eq_true hq
        have cHs2 := hidd (fun W hl => cHs.out (by omega) hq'.2 (by omega) W hl)
        have e0 := hle0.out xa hq'.1
        have e1 := hle1.out xa hq'.1
        rw [← e0, ← e1] at cHs2
        obtain ⟨q0, q1⟩ := hq'
        clear hq eA cHs e0 e1 cB0 cW0
        generalize BM.lev0 r u s xa = X at *
        generalize BM.lev1 p m s xa = Y at *
        go_wp2_with fail
        refine (cB1.out _ ZA.out.b HQ.out).mono ?_
        rintro e w3 ⟨rfl, hb⟩
        have Z3 := hidd (ZA.out.step hb)
        clear hb
        clear zs k0 k1 k2 k3 k4 zt k5 k6 g0 g1 g2 g3 g4 g5 g6 gl
        obtain ⟨⟨zs, k0, k1, k2, k3, k4⟩, zt, k5, k6⟩ := id Z3.out.x
        obtain ⟨⟨g0, g1, g2, g3, g4⟩, g5, g6⟩ := Z3.out.g.cells
        have gl := Z3.out.g.lt
        cases hz : BM.sizeB m l xs
        · have HZ := hidd hz
          have hz' : ¬ (l ≤ xs ∧ xs ≤ m) := of_decide_eq_false hz
          clear hz
          go_wp2_with fail
          refine (cW1.out _ Z3.out.b HQ.out HZ.out).mono ?_
          rintro e w4 ⟨rfl, hb⟩
          have Z4 := hidd (Z3.out.step hb)
          clear hb
          clear zs k0 k1 k2 k3 k4 zt k5 k6 g0 g1 g2 g3 g4 g5 g6 gl
          obtain ⟨⟨zs, k0, k1, k2, k3, k4⟩, zt, k5, k6⟩ := id Z4.out.x
          obtain ⟨⟨g0, g1, g2, g3, g4⟩, g5, g6⟩ := Z4.out.g.cells
          have gl := Z4.out.g.lt
          go_wp2_with fail
          refine (cZs.out b c _ Z4.out.b Z4.out.c).mono ?_
          rintro e w5 ⟨rfl, q5, hw5⟩
          have Z5 := hidd (by rw [hw5]; exact Z4.out.drewN q5 : Zz w b c g p r u m l xa xs GA T tl gc s w5)
          clear hw5
          clear zs k0 k1 k2 k3 k4 zt k5 k6 g0 g1 g2 g3 g4 g5 g6 gl
          obtain ⟨⟨zs, k0, k1, k2, k3, k4⟩, zt, k5, k6⟩ := id Z5.out.x
          obtain ⟨⟨g0, g1, g2, g3, g4⟩, g5, g6⟩ := Z5.out.g.cells
          have gl := Z5.out.g.lt
          go_wp2_with fail
          refine (cAs.out _).mono ?_
          rintro e w6 ⟨rfl, hb⟩
          have Z6 := hidd (Z5.out.step hb)
          clear hb
          clear zs k0 k1 k2 k3 k4 zt k5 k6 g0 g1 g2 g3 g4 g5 g6 gl
          obtain ⟨⟨zs, k0, k1, k2, k3, k4⟩, zt, k5, k6⟩ := id Z6.out.x
          obtain ⟨⟨g0, g1, g2, g3, g4⟩, g5, g6⟩ := Z6.out.g.cells
          have gl := Z6.out.g.lt
          go_wp2_with fail
          refine (cHs2.out _ Z6.out.t).mono ?_
          rintro e w7 ⟨rfl, hb⟩
          have Z7 := hidd (Z6.out.step hb)
          clear hb
          clear zs k0 k1 k2 k3 k4 zt k5 k6 g0 g1 g2 g3 g4 g5 g6 gl
          obtain ⟨⟨zs, k0, k1, k2, k3, k4⟩, zt, k5, k6⟩ := id Z7.out.x
          obtain ⟨⟨g0, g1, g2, g3, g4⟩, g5, g6⟩ := Z7.out.g.cells
          have gl := Z7.out.g.lt
          by_cases hx : xs < l
          · go_wp2_with fail
            refine (cK.out _).mono ?_
            rintro e w9 ⟨rfl, hb⟩
            have H9 := hidd (below_step Z7.out.w hb)
            clear hb
            go_wp2_with fail
            go_ret
            exact ⟨rfl, H9.out⟩
          · have hx2 : m < xs := by omega
            go_wp2_with fail
            refine (cK.out _).mono ?_
            rintro e w9 ⟨rfl, hb⟩
            have H9 := hidd (below_step Z7.out.w hb)
            clear hb
            go_wp2_with fail
            go_ret
            exact ⟨rfl, H9.out⟩
        · have HZ := hidd hz
          have hz' : l ≤ xs ∧ xs ≤ m := of_decide_eq_true hz
          obtain ⟨hz0, hz1⟩ := hz'
          clear hz
          go_wp2_with fail
          refine (cW2.out _ Z3.out.b HQ.out HZ.out).mono ?_
          rintro e w4 ⟨t, rfl, ht, hb⟩
          have Z4 := hidd (Z3.out.step hb)
          have HT := hidd ht
          have t0 : xa ≤ t := ht.1
          have t1 : t ≤ xa + 2000 := ht.2.1
          clear hb ht
          clear zs k0 k1 k2 k3 k4 zt k5 k6 g0 g1 g2 g3 g4 g5 g6 gl
          obtain ⟨⟨zs, k0, k1, k2, k3, k4⟩, zt, k5, k6⟩ := id Z4.out.x
          obtain ⟨⟨g0, g1, g2, g3, g4⟩, g5, g6⟩ := Z4.out.g.cells
          have gl := Z4.out.g.lt
          go_wp2_with fail
          refine (cZs.out b c _ Z4.out.b Z4.out.c).mono ?_
          rintro e w5 ⟨rfl, q5, hw5⟩
          have Z5 := hidd (by rw [hw5]; exact Z4.out.drewN q5 : Zz w b c g p r u m l xa xs GA T tl gc s w5)
          clear hw5
          clear zs k0 k1 k2 k3 k4 zt k5 k6 g0 g1 g2 g3 g4 g5 g6 gl
          obtain ⟨⟨zs, k0, k1, k2, k3, k4⟩, zt, k5, k6⟩ := id Z5.out.x
          obtain ⟨⟨g0, g1, g2, g3, g4⟩, g5, g6⟩ := Z5.out.g.cells
          have gl := Z5.out.g.lt
          go_wp2_with fail
          refine (cAs.out _).mono ?_
          rintro e w6 ⟨rfl, hb⟩
          have Z6 := hidd (Z5.out.step hb)
          clear hb
          clear zs k0 k1 k2 k3 k4 zt k5 k6 g0 g1 g2 g3 g4 g5 g6 gl
          obtain ⟨⟨zs, k0, k1, k2, k3, k4⟩, zt, k5, k6⟩ := id Z6.out.x
          obtain ⟨⟨g0, g1, g2, g3, g4⟩, g5, g6⟩ := Z6.out.g.cells
          have gl := Z6.out.g.lt
          go_wp2_with fail
          refine (cHs2.out _ Z6.out.t).mono ?_
          rintro e w7 ⟨rfl, hb⟩
          have Z7 := hidd (Z6.out.step hb)
          clear hb
          clear zs k0 k1 k2 k3 k4 zt k5 k6 g0 g1 g2 g3 g4 g5 g6 gl
          obtain ⟨⟨zs, k0, k1, k2, k3, k4⟩, zt, k5, k6⟩ := id Z7.out.x
          obtain ⟨⟨g0, g1, g2, g3, g4⟩, g5, g6⟩ := Z7.out.g.cells
          have gl := Z7.out.g.lt
          by_cases hmx : 2147483647 < t
          · go_wp2_with fail
            refine (cK.out _).mono ?_
            rintro e w9 ⟨rfl, hb⟩
            have H9 := hidd (below_step Z7.out.w hb)
            clear hb
            go_wp2_with fail
            go_ret
            exact ⟨rfl, H9.out⟩
          · have ck2 : Hid (∀ W, Lie sendV 2 W W.heap.size GA T → Calls Try.prog 22 #[.agg #[.int .i64 p, .int .i64 r, .int .i64 u, .int .i64 m, .int .i64 l, .slice GA tl gc, .int .i64 s.1], .int .i64 t, .int .i64 xs] W fun e w' => e = .returned (.bool true) ∧ Below W.heap.size W w') := hidd (fun W hl => (cKs.out t W hl).mono (by
              rintro e w' ⟨bb, rfl, h1, h2⟩
              have h3 := h1.2 ((hfit.out t (by omega) (by omega)).1 (by unfold BM.fitB; rw [HZ.out, decide_eq_true HT.out.2.2.1]; rfl))
              subst h3
              exact ⟨rfl, h2⟩))
            have ck1 : Hid (t ≠ xa → ∀ W, Lie sendV 2 W W.heap.size GA T → Calls Try.prog 22 #[.agg #[.int .i64 p, .int .i64 r, .int .i64 u, .int .i64 m, .int .i64 l, .slice GA tl gc, .int .i64 s.1], .int .i64 (t - 1), .int .i64 xs] W fun e w' => e = .returned (.bool false) ∧ Below W.heap.size W w') := hidd (fun hne W hl => (cKs.out (t - 1) W hl).mono (by
              rintro e w' ⟨bb, rfl, h1, h2⟩
              cases bb
              · exact ⟨rfl, h2⟩
              · have h3 := (hfit.out (t - 1) (by omega) (by omega)).2 (h1.1 rfl)
                unfold BM.fitB at h3
                rw [Bool.and_eq_true] at h3
                exact absurd (of_decide_eq_true h3.2) (HT.out.2.2.2 (t - 1) (by omega) (by omega))))
            clear cKs hfit HT
            by_cases hta : t = xa
            · subst hta
              go_wp2_with fail
              refine (ck2.out _ Z7.out.t).mono ?_
              rintro e w8 ⟨rfl, hb⟩
              have Z8 := hidd (Z7.out.step hb)
              clear hb
              clear zs k0 k1 k2 k3 k4 zt k5 k6 g0 g1 g2 g3 g4 g5 g6 gl
              obtain ⟨⟨zs, k0, k1, k2, k3, k4⟩, zt, k5, k6⟩ := id Z8.out.x
              obtain ⟨⟨g0, g1, g2, g3, g4⟩, g5, g6⟩ := Z8.out.g.cells
              have gl := Z8.out.g.lt
              go_wp2_with fail
              refine (cK.out _).mono ?_
              rintro e w9 ⟨rfl, hb⟩
              have H9 := hidd (below_step Z8.out.w hb)
              clear hb
              go_wp2_with fail
              go_ret
              exact ⟨rfl, H9.out⟩
            · have ck3 := hidd (ck1.out hta)
              go_wp2_with fail
              refine (ck3.out _ Z7.out.t).mono ?_
              rintro e w8 ⟨rfl, hb⟩
              have Z8 := hidd (Z7.out.step hb)
              clear hb
              clear zs k0 k1 k2 k3 k4 zt k5 k6 g0 g1 g2 g3 g4 g5 g6 gl
              obtain ⟨⟨zs, k0, k1, k2, k3, k4⟩, zt, k5, k6⟩ := id Z8.out.x
              obtain ⟨⟨g0, g1, g2, g3, g4⟩, g5, g6⟩ := Z8.out.g.cells
              have gl := Z8.out.g.lt
              go_wp2_with fail
              refine (ck2.out _ Z8.out.t).mono ?_
              rintro e w9 ⟨rfl, hb⟩
              have Z9 := hidd (Z8.out.step hb)
              clear hb
              clear zs k0 k1 k2 k3 k4 zt k5 k6 g0 g1 g2 g3 g4 g5 g6 gl
              obtain ⟨⟨zs, k0, k1, k2, k3, k4⟩, zt, k5, k6⟩ := id Z9.out.x
              obtain ⟨⟨g0, g1, g2, g3, g4⟩, g5, g6⟩ := Z9.out.g.cells
              have gl := Z9.out.g.lt
              go_wp2_with fail
              refine (cK.out _).mono ?_
              rintro e w9 ⟨rfl, hb⟩
              have H9 := hidd (below_step Z9.out.w hb)
              clear hb
              go_wp2_with fail
              go_ret
              exact ⟨rfl, H9.out⟩
end Go.Proofs.Ytilikpacgbkebaa
