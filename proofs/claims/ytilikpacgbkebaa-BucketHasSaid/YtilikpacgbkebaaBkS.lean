/- Buckets: BucketTakes' walk. -/
import Derived.Test.YtilikpacgbkebaaBkR
import Derived.Test.YtilikpacgbkebaaBkM
import Derived.Laws.Tables
import Derived.Laws.CopyOwn
namespace Go.Proofs.Ytilikpacgbkebaa
open Go.RowKit
set_option linter.unusedVariables false
theorem Lie.but {w w' : World} {b : Nat} {A : Option Addr} {L : List (Int × Int)} (h : Lie sendV 2 w w.heap.size A L) (hb : But b w w') {F : Nat} (hf : FarB F A L) (hF : b < F) : Lie sendV 2 w' w'.heap.size A L := fun hl => by
  obtain ⟨ad, e, hB, hc⟩ := h hl
  have hne : ad.block ≠ b := by have := hf hl ad e; omega
  refine ⟨ad, e, Nat.lt_of_lt_of_le hB hb.size, fun i x hx j v hv => ?_⟩
  rw [World.cell?_of_block (w := w) (w' := w') (hb.block _ (by rw [block_of_add]; exact hB) (by rw [block_of_add]; exact hne))]
  exact hc i x hx j v hv
theorem Lie.row {w : World} {A : Option Addr} {L : List (Int × Int)} (h : Lie sendV 2 w w.heap.size A L) {q : Nat} (hne : 0 < L.length → ∀ ad, A = some ad → ad.block ≠ q) (cs : Array Value) : Lie sendV 2 (w.setRow q cs) (w.setRow q cs).heap.size A L := fun hl => by
  obtain ⟨ad, e, hB, hc⟩ := h hl
  refine ⟨ad, e, by rw [setRow_size]; exact hB, fun i x hx j v hv => ?_⟩
  rw [cell_setRow_other w q cs _ (by rw [block_of_add]; exact hne hl ad e)]
  exact hc i x hx j v hv
/-- the document's bucket in block g. -/
def gCells (p r u m l : Int) (A : Option Addr) (n c : Nat) (now : Int) : Array Value := #[.int .i64 p, .int .i64 r, .int .i64 u, .int .i64 m, .int .i64 l, .slice A n c, .int .i64 now]
def GAt (w : World) (g : Nat) (p r u m l : Int) (A : Option Addr) (n c : Nat) (now : Int) : Prop := w.heap[g]? = some (.cells (gCells p r u m l A n c now) 32 (0, 0))
section
variable {w w' : World} {g : Nat} {p r u m l : Int} {A : Option Addr} {n c : Nat} {now : Int}
theorem GAt.lt (h : GAt w g p r u m l A n c now) : g < w.heap.size := (Array.getElem?_eq_some_iff.1 h).1
theorem GAt.cells (h : GAt w g p r u m l A n c now) : (w.cell? ⟨g, 0, none⟩ = some (.int .i64 p) ∧ w.cell? ⟨g, 1, none⟩ = some (.int .i64 r) ∧ w.cell? ⟨g, 2, none⟩ = some (.int .i64 u) ∧ w.cell? ⟨g, 3, none⟩ = some (.int .i64 m) ∧ w.cell? ⟨g, 4, none⟩ = some (.int .i64 l)) ∧ w.cell? ⟨g, 5, none⟩ = some (.slice A n c) ∧ w.cell? ⟨g, 6, none⟩ = some (.int .i64 now) := by
  unfold GAt gCells at h
  refine ⟨⟨?_, ?_, ?_, ?_, ?_⟩, ?_, ?_⟩ <;> simp [World.cell?, h]
theorem GAt.of (h : GAt w g p r u m l A n c now) (e : w'.heap[g]? = w.heap[g]?) : GAt w' g p r u m l A n c now := e.trans h
theorem GAt.below (h : GAt w g p r u m l A n c now) (hb : Below w.heap.size w w') : GAt w' g p r u m l A n c now := h.of (hb.block g h.lt)
theorem GAt.but (h : GAt w g p r u m l A n c now) {k : Nat} (hb : But k w w') (hn : g ≠ k) : GAt w' g p r u m l A n c now := h.of (hb.block g h.lt hn)
theorem GAt.drewN (h : GAt w g p r u m l A n c now) (k : Nat) : GAt (w.drewN k) g p r u m l A n c now := h
theorem GAt.new (w : World) (p r u m l : Int) (A : Option Addr) (n c : Nat) (now : Int) : GAt (w.alloc (.cells #[.int .i64 p, .int .i64 r, .int .i64 u, .int .i64 m, .int .i64 l, .slice A n c, .int .i64 now] 32)) w.heap.size p r u m l A n c now := World.alloc_heap_new w _
end
set_option maxRecDepth 100000 in
set_option maxHeartbeats 8000000 in
theorem takes12_walk (p r u m l : Int) (A : Option Addr) (L : List (Int × Int)) (ca : Nat) (hL : L.length ≤ maxLen) (w : World) (lL : Lie sendV 2 w w.heap.size A L) :
    Calls Try.prog 3 #[.agg #[.int .i64 p, .int .i64 r, .int .i64 u, .int .i64 m, .int .i64 l], .slice A L.length ca] w fun e w' => e = .returned (.bool true) ∧ Below w.heap.size w w' := by
  have cK := hidd (fun W => known12_any W)
  have cR := hidd (fun W => right_any p r u m l W)
  have HL := hidd lL
  unfold maxLen at hL
  clear lL
  by_cases h40 : (40 : Int) < (L.length : Int)
  · generalize hNL : L.length = N at *
    clear HL hNL
    go_enter Try.func3, Try.ntmps3
    go_wp2_with fail
    refine (cK.out _).mono ?_
    rintro e w2 ⟨rfl, hb2⟩
    go_wp2_with fail
    go_ret
    exact ⟨rfl, by (repeat' (first | (with_reducible exact Below.refl _ _) | (with_reducible assumption) | (with_reducible apply Below.setCell) | (with_reducible apply Below.alloc) | (with_reducible apply Below.drew) | (with_reducible apply below_drewN) | (with_reducible refine Below.trans ?_ (Below.mono (by assumption) ?_)) | omega | (simp; done) | (simp; omega)))⟩
  cases hR : rightB p r u m l
  · have cN := hidd (fun W => bnew_no p r u m l hR W)
    rw [hR] at cR
    generalize hNL : L.length = N at *
    clear HL hNL hR
    go_enter Try.func3, Try.ntmps3
    go_wp2_with fail
    refine (cN.out _).mono ?_
    rintro e w1 ⟨rfl, hb1⟩
    obtain ⟨bc, bf⟩ := bcell hb1
    have z0 : w.heap.size < w1.heap.size := by have := hb1.size; simp at this; omega
    have k0 : w1.cell? ⟨w.heap.size, 0, none⟩ = some (.int .i64 p) := by rw [bc _ _ (by (first | omega | (simp; done) | (simp; omega)))]; simp [go_sem]
    have k1 : w1.cell? ⟨w.heap.size, 1, none⟩ = some (.int .i64 r) := by rw [bc _ _ (by (first | omega | (simp; done) | (simp; omega)))]; simp [go_sem]
    have k2 : w1.cell? ⟨w.heap.size, 2, none⟩ = some (.int .i64 u) := by rw [bc _ _ (by (first | omega | (simp; done) | (simp; omega)))]; simp [go_sem]
    have k3 : w1.cell? ⟨w.heap.size, 3, none⟩ = some (.int .i64 m) := by rw [bc _ _ (by (first | omega | (simp; done) | (simp; omega)))]; simp [go_sem]
    have k4 : w1.cell? ⟨w.heap.size, 4, none⟩ = some (.int .i64 l) := by rw [bc _ _ (by (first | omega | (simp; done) | (simp; omega)))]; simp [go_sem]
    have H1 := hidd (below_step (below_new (Below.refl _ _) _) hb1)
    clear bc bf hb1
    go_wp2_with fail
    refine (cR.out _).mono ?_
    rintro e w2 ⟨rfl, hb2⟩
    have H2 := hidd (below_step H1.out hb2)
    clear hb2
    go_wp2_with fail
    refine (cK.out _).mono ?_
    rintro e w3 ⟨rfl, hb3⟩
    have H3 := hidd (below_step H2.out hb3)
    clear hb3
    go_wp2_with fail
    go_ret
    exact ⟨rfl, H3.out⟩
  have hp := rightB_iff hR
  have hp1 : 1 ≤ p := by omega
  have hp0 : 0 ≤ p := by omega
  have hr0 : 0 ≤ r := by omega
  have hl1 : 1 ≤ l := by omega
  have hl0 : 0 ≤ l := by omega
  clear hp
  rw [hR] at cR
  have HR := hidd hR
  have cN := hidd (fun W => bnew_yes p r u m l hR W)
  have hO := hidd (BM.ok_first hR)
  have hI := hidd (BM.Inv.nil hR)
  have cT := hidd (fun b W s (h : BktAt W b p r u m l s) (hs : BM.Ok u m s) n z => btake_any h hR hs n z)
  have cW := hidd (fun b W s (h : BktAt W b p r u m l s) => bnow_any h hp1)
  have cP := hidd (fun b W s (h : BktAt W b p r u m l s) => bspec_any h hp1)
  unfold TakeEnd at cT
  clear hR
  go_enter Try.func3, Try.ntmps3
  go_wp2_with fail
  refine (cN.out _).mono ?_
  rintro e w1 ⟨b, rfl, hle, hB, hb1⟩
  have HB := hidd hB
  obtain ⟨bc, bf⟩ := bcell hb1
  have z0 : w.heap.size < w1.heap.size := by have := hb1.size; simp at this; omega
  have k0 : w1.cell? ⟨w.heap.size, 0, none⟩ = some (.int .i64 p) := by rw [bc _ _ (by (first | omega | (simp; done) | (simp; omega)))]; simp [go_sem]
  have k1 : w1.cell? ⟨w.heap.size, 1, none⟩ = some (.int .i64 r) := by rw [bc _ _ (by (first | omega | (simp; done) | (simp; omega)))]; simp [go_sem]
  have k2 : w1.cell? ⟨w.heap.size, 2, none⟩ = some (.int .i64 u) := by rw [bc _ _ (by (first | omega | (simp; done) | (simp; omega)))]; simp [go_sem]
  have k3 : w1.cell? ⟨w.heap.size, 3, none⟩ = some (.int .i64 m) := by rw [bc _ _ (by (first | omega | (simp; done) | (simp; omega)))]; simp [go_sem]
  have k4 : w1.cell? ⟨w.heap.size, 4, none⟩ = some (.int .i64 l) := by rw [bc _ _ (by (first | omega | (simp; done) | (simp; omega)))]; simp [go_sem]
  have H1 := hidd (below_step (below_new (Below.refl _ _) _) hb1)
  have hwb : w.heap.size + 1 ≤ b := by simp at hle; omega
  have hS1 := hidd (show HasSpec w1 w.heap.size p r u m l from ⟨z0, k0, k1, k2, k3, k4⟩)
  clear bc bf hb1 hB hle
  go_wp2_with fail
  refine (cR.out _).mono ?_
  rintro e w2 ⟨rfl, hb2⟩
  have H2 := hidd (below_step H1.out hb2)
  have HB2 := hidd (HB.out.below hb2)
  have HS2 := hidd (hS1.out.step hb2)
  clear hb2 k0 k1 k2 k3 k4 HB H1 hS1 z0
  obtain ⟨z0, k0, k1, k2, k3, k4⟩ := id HS2.out
  go_wp2_with fail
  obtain ⟨W0, hW0⟩ : ∃ W0 : World, w2.alloc (.cells #[.int .i64 p, .int .i64 r, .int .i64 u, .int .i64 m, .int .i64 l, .slice none 0 0, .int .i64 0] 32) = W0 := ⟨_, rfl⟩
  have HG0 : Hid (GAt W0 w2.heap.size p r u m l none ([] : List (Int × Int)).length 0 (0 : Int)) := hidd (by rw [← hW0]; exact GAt.new _ _ _ _ _ _ _ _ _ _)
  have H0 : Hid (Below w.heap.size w W0) := hidd (by rw [← hW0]; exact below_new H2.out _)
  have HB0 : Hid (BktAt W0 b p r u m l (0, u, m)) := hidd (by rw [← hW0]; exact HB2.out.below (below_new (Below.refl _ _) _))
  have HS0 : Hid (HasSpec W0 w.heap.size p r u m l) := hidd (by rw [← hW0]; exact HS2.out.past _)
  have hbg : b < w2.heap.size := HB2.out.lt
  have hwg : w.heap.size < w2.heap.size := z0
  rw [hW0]
  clear hW0 H2 HB2 HS2 z0 k0 k1 k2 k3 k4
  generalize w2.heap.size = g at *
  go_loopg [8] (L.length + 1) (fun gk s8 wr => ∃ (i : Nat) (T : List (Int × Int)) (s : BM.St) (GA : Option Addr) (gc : Nat), i ≤ L.length ∧ i + gk = L.length + 1 ∧ s8 = .int .i64 (i : Int) ∧ T.length ≤ i ∧ BktAt wr b p r u m l s ∧ BM.Ok u m s ∧ BM.Inv p r u m l T s ∧ GAt wr g p r u m l GA T.length gc s.1 ∧ Lie sendV 2 wr wr.heap.size GA T ∧ FarB (g + 1) GA T ∧ HasSpec wr w.heap.size p r u m l ∧ Below w.heap.size w wr)
  case atStart => exact ⟨0, [], (0, u, m), none, 0, by omega, by omega, rfl, by simp, HB0.out, hO.out, hI.out, HG0.out, Lie.nil, fun h => absurd h (by simp), HS0.out, H0.out⟩
  case round =>
    clear HB0 HG0 HS0 H0
    obtain ⟨i, T, s, GA, gc, hi, hk, rfl, hTi, hB, hs, hInv, hG, hLT, hF, hSp, hW⟩ := hrel
    have HB := hidd hB
    have HS := hidd hs
    have HI := hidd hInv
    have HG := hidd hG
    have HLT := hidd hLT
    have HF := hidd hF
    have HSP := hidd hSp
    have HW := hidd hW
    have HK := hidd hk
    clear hB hs hInv hG hLT hF hSp hW hk
    by_cases hlt : i < L.length
    · obtain ⟨ad, rfl, hadb, y0, y1⟩ := (HL.out.keep HW.out).send i hlt
      have z1 : (i : Int) < (L.length : Int) := by omega
      have hT40 : T.length ≤ 40 := by omega
      generalize L[i].1 = n at *
      generalize L[i].2 = z at *
      generalize hNL : L.length = N at *
      have HNL := hidd hNL
      clear hNL
      have hadw : (ad.add (i * 2)).block < w.heap.size := by
        have e : (ad.add (i * 2)).block = ad.block := block_of_add _ _
        rw [e]
        omega
      go_wp2_with fail
      have ct := hidd (cT.out b wr.drew s HB.out.drew HS.out n z)
      have cu := hidd (fun W (hl : Lie sendV 2 W W.heap.size GA T) => take12_any HR.out GA HI.out HS.out gc n z (by omega) W hl)
      have hok := hidd (BM.step_ok (p := p) (r := r) (l := l) HS.out hl1 n z)
      have hinv := hidd (HI.out.step hp0 hr0 hl0 HS.out n z)
      unfold Take12End gV at cu
      generalize BM.step p r u m l s n z = St at *
      have KEEP := hidd (fun Y (hb : But b wr.drew Y) => (show Y.cell? (ad.add (i * 2)) = some (.int .i64 n) ∧ Y.cell? ⟨(ad.add (i * 2)).block, (ad.add (i * 2)).off + 1, none⟩ = some (.int .i64 z) from by
        have h1 : (ad.add (i * 2)).block < wr.drew.heap.size := Nat.lt_of_lt_of_le hadw HW.out.size
        have h2 : (ad.add (i * 2)).block ≠ b := by omega
        exact ⟨(World.cell?_of_block (hb.block _ h1 h2)).trans y0, (hb.cell h1 h2 _).trans y1⟩))
      go_cut [9, 10] (fun s9 s10 wy => s9 = .bool St.2.1 ∧ s10 = .int .i64 St.2.2 ∧ BktAt wy b p r u m l St.1 ∧ But b wr wy)
      case first =>
        go_region_held3 (fun Y => Y.cell? (ad.add (i * 2)) = some (.int .i64 n) ∧ Y.cell? ⟨(ad.add (i * 2)).block, (ad.add (i * 2)).off + 1, none⟩ = some (.int .i64 z))
          ((first | exact KEEP.out _ cum1 | exact ⟨y0, y1⟩ | go_keep))
          ((go_at_call 12; refine ct.out.mono ?_; rintro e w4 ⟨rfl, hB2, cum1⟩; have HB2 := hidd hB2; clear hB2))
        all_goals go_wp2_with fail
        all_goals go_meet
        all_goals exact ⟨rfl, rfl, HB2.out, ⟨cum1.os, cum1.tape, cum1.output, cum1.size, cum1.block⟩⟩
      case rest =>
        obtain ⟨wk, rfl⟩ : ∃ wk : World, wk = wc := ⟨_, rfl⟩
        obtain ⟨rfl, rfl, hB2, hbut⟩ := hcut
        have hbg2 : b < g + 1 := by omega
        have HB2 := hidd hB2
        have HLT2 := hidd (HLT.out.but hbut HF.out hbg2)
        have HG2 := hidd (HG.out.but hbut (by omega))
        have HSP2 := hidd (show HasSpec wk w.heap.size p r u m l from ⟨Nat.lt_of_lt_of_le HSP.out.1 hbut.size, (hbut.cell HSP.out.1 (by omega) _).trans HSP.out.2.1, (hbut.cell HSP.out.1 (by omega) _).trans HSP.out.2.2.1, (hbut.cell HSP.out.1 (by omega) _).trans HSP.out.2.2.2.1, (hbut.cell HSP.out.1 (by omega) _).trans HSP.out.2.2.2.2.1, (hbut.cell HSP.out.1 (by omega) _).trans HSP.out.2.2.2.2.2⟩)
        have HW2 := hidd (HW.out.trans (hbut.below (by omega) HW.out.size))
        have hadc : (ad.add (i * 2)).block < wk.heap.size := Nat.lt_of_lt_of_le hadw HW2.out.size
        have x0 : wk.cell? (ad.add (i * 2)) = some (.int .i64 n) := (World.cell?_of_block (hbut.block _ (Nat.lt_of_lt_of_le hadw HW.out.size) (by omega))).trans y0
        have x1 : wk.cell? ⟨(ad.add (i * 2)).block, (ad.add (i * 2)).off + 1, none⟩ = some (.int .i64 z) := (hbut.cell (Nat.lt_of_lt_of_le hadw HW.out.size) (by omega) _).trans y1
        have hT' : (BM.took T St.2.1 n z).length ≤ i + 1 := by
          unfold BM.took
          split
          · simp; omega
          · omega
        clear hB2 hbut HB HG HLT HSP HW y0 y1 KEEP ct HI HS
        generalize BM.took T St.2.1 n z = T' at *
        have glt := HG2.out.lt
        obtain ⟨⟨g0, g1, g2, g3, g4⟩, g5, g6⟩ := HG2.out.cells
        have KEEP := hidd (fun Y (hb : Below wk.heap.size wk Y) => (show (Y.cell? (ad.add (i * 2)) = some (.int .i64 n) ∧ Y.cell? ⟨(ad.add (i * 2)).block, (ad.add (i * 2)).off + 1, none⟩ = some (.int .i64 z)) ∧ (Y.cell? ⟨g, 0, none⟩ = some (.int .i64 p) ∧ Y.cell? ⟨g, 1, none⟩ = some (.int .i64 r) ∧ Y.cell? ⟨g, 2, none⟩ = some (.int .i64 u) ∧ Y.cell? ⟨g, 3, none⟩ = some (.int .i64 m) ∧ Y.cell? ⟨g, 4, none⟩ = some (.int .i64 l)) ∧ (Y.cell? ⟨g, 5, none⟩ = some (.slice GA T.length gc) ∧ Y.cell? ⟨g, 6, none⟩ = some (.int .i64 s.1)) from
          ⟨⟨(hb.cell hadc).trans x0, (hb.cell (p := ⟨(ad.add (i * 2)).block, (ad.add (i * 2)).off + 1, none⟩) hadc).trans x1⟩, ⟨(hb.cell (p := ⟨g, 0, none⟩) glt).trans g0, (hb.cell (p := ⟨g, 1, none⟩) glt).trans g1, (hb.cell (p := ⟨g, 2, none⟩) glt).trans g2, (hb.cell (p := ⟨g, 3, none⟩) glt).trans g3, (hb.cell (p := ⟨g, 4, none⟩) glt).trans g4⟩, (hb.cell (p := ⟨g, 5, none⟩) glt).trans g5, (hb.cell (p := ⟨g, 6, none⟩) glt).trans g6⟩))
        generalize hTl : T.length = tl at *
        have HTL := hidd hTl
        clear hTl
        go_wp2_with fail
        go_cut [11, 12, 13] (fun s11 s12 s13 wy => ∃ (q : Nat) (GA' : Option Addr) (gc' : Nat), s11 = .pointer (some ⟨q, 0, none⟩) ∧ s12 = .bool St.2.1 ∧ s13 = .int .i64 St.2.2 ∧ wk.heap.size ≤ q ∧ GAt wy q p r u m l GA' T'.length gc' St.1.1 ∧ Lie sendV 2 wy wy.heap.size GA' T' ∧ ((GA' = GA ∧ T' = T) ∨ FarB wk.heap.size GA' T') ∧ Below wk.heap.size wk wy)
        case first =>
          refine wp_region_held_drew (S := (fun Y => (Y.cell? (ad.add (i * 2)) = some (.int .i64 n) ∧ Y.cell? ⟨(ad.add (i * 2)).block, (ad.add (i * 2)).off + 1, none⟩ = some (.int .i64 z)) ∧ (Y.cell? ⟨g, 0, none⟩ = some (.int .i64 p) ∧ Y.cell? ⟨g, 1, none⟩ = some (.int .i64 r) ∧ Y.cell? ⟨g, 2, none⟩ = some (.int .i64 u) ∧ Y.cell? ⟨g, 3, none⟩ = some (.int .i64 m) ∧ Y.cell? ⟨g, 4, none⟩ = some (.int .i64 l)) ∧ (Y.cell? ⟨g, 5, none⟩ = some (.slice GA tl gc) ∧ Y.cell? ⟨g, 6, none⟩ = some (.int .i64 s.1)))) (by kernel_rfl) (KEEP.out _ (Below.drew (Below.refl _ _))) (fun hH => ?_)
          refine wpAnyH_take (i := 0) (v := ?va0) (by (conv => lhs; simp only [List.getElem?_toArray, List.getElem?_cons_succ, List.getElem?_cons_zero])) (by kernel_rfl) (by kernel_rfl) (by kernel_rfl) ?hQ (Or.inl ⟨by rfl, ?hya0⟩) hH ?resta0
          case hQ => exact fun _ _ _ h => h
          case hya0 => (intro Y hY; obtain ⟨⟨e0, e1⟩, ⟨e2, e3, e4, e5, e6⟩, e7, e8⟩ := hY; go_simp; try (with_reducible rfl))
          try simp only [Act.put, List.setIfInBounds_toArray, List.set_cons_zero, List.set_cons_succ]
          refine wpAnyH_take (i := 1) (v := ?va1) (by (conv => lhs; simp only [List.getElem?_toArray, List.getElem?_cons_succ, List.getElem?_cons_zero])) (by kernel_rfl) (by kernel_rfl) (by kernel_rfl) ?hQ (Or.inl ⟨by rfl, ?hya1⟩) hH ?resta1
          case hQ => exact fun _ _ _ h => h
          case hya1 => (intro Y hY; obtain ⟨⟨e0, e1⟩, ⟨e2, e3, e4, e5, e6⟩, e7, e8⟩ := hY; go_simp; try (with_reducible rfl))
          try simp only [Act.put, List.setIfInBounds_toArray, List.set_cons_zero, List.set_cons_succ]
          refine wpAnyH_take (i := 2) (v := ?va2) (by (conv => lhs; simp only [List.getElem?_toArray, List.getElem?_cons_succ, List.getElem?_cons_zero])) (by kernel_rfl) (by kernel_rfl) (by kernel_rfl) ?hQ (Or.inl ⟨by rfl, ?hya2⟩) hH ?resta2
          case hQ => exact fun _ _ _ h => h
          case hya2 => (intro Y hY; obtain ⟨⟨e0, e1⟩, ⟨e2, e3, e4, e5, e6⟩, e7, e8⟩ := hY; go_simp; try (with_reducible rfl))
          try simp only [Act.put, List.setIfInBounds_toArray, List.set_cons_zero, List.set_cons_succ]
          refine wpAnyH_take (i := 3) (v := ?va3) (by (conv => lhs; simp only [List.getElem?_toArray, List.getElem?_cons_succ, List.getElem?_cons_zero])) (by kernel_rfl) (by kernel_rfl) (by kernel_rfl) ?hQ (Or.inl ⟨by rfl, ?hya3⟩) hH ?resta3
          case hQ => exact fun _ _ _ h => h
          case hya3 => (intro Y hY; obtain ⟨⟨e0, e1⟩, ⟨e2, e3, e4, e5, e6⟩, e7, e8⟩ := hY; go_simp; try (with_reducible rfl))
          try simp only [Act.put, List.setIfInBounds_toArray, List.set_cons_zero, List.set_cons_succ]
          refine wpAnyH_take (i := 4) (v := ?va4) (by (conv => lhs; simp only [List.getElem?_toArray, List.getElem?_cons_succ, List.getElem?_cons_zero])) (by kernel_rfl) (by kernel_rfl) (by kernel_rfl) ?hQ (Or.inl ⟨by rfl, ?hya4⟩) hH ?resta4
          case hQ => exact fun _ _ _ h => h
          case hya4 => (intro Y hY; obtain ⟨⟨e0, e1⟩, ⟨e2, e3, e4, e5, e6⟩, e7, e8⟩ := hY; go_simp; try (with_reducible rfl))
          try simp only [Act.put, List.setIfInBounds_toArray, List.set_cons_zero, List.set_cons_succ]
          refine wpAnyH_take (i := 5) (v := ?va5) (by (conv => lhs; simp only [List.getElem?_toArray, List.getElem?_cons_succ, List.getElem?_cons_zero])) (by kernel_rfl) (by kernel_rfl) (by kernel_rfl) ?hQ (Or.inl ⟨by rfl, ?hya5⟩) hH ?resta5
          case hQ => exact fun _ _ _ h => h
          case hya5 => (intro Y hY; obtain ⟨⟨e0, e1⟩, ⟨e2, e3, e4, e5, e6⟩, e7, e8⟩ := hY; go_simp; try (with_reducible rfl))
          try simp only [Act.put, List.setIfInBounds_toArray, List.set_cons_zero, List.set_cons_succ]
          refine wpAnyH_take (i := 6) (v := ?va6) (by (conv => lhs; simp only [List.getElem?_toArray, List.getElem?_cons_succ, List.getElem?_cons_zero])) (by kernel_rfl) (by kernel_rfl) (by kernel_rfl) ?hQ (Or.inl ⟨by rfl, ?hya6⟩) hH ?resta6
          case hQ => exact fun _ _ _ h => h
          case hya6 => (intro Y hY; obtain ⟨⟨e0, e1⟩, ⟨e2, e3, e4, e5, e6⟩, e7, e8⟩ := hY; go_simp; try (with_reducible rfl))
          try simp only [Act.put, List.setIfInBounds_toArray, List.set_cons_zero, List.set_cons_succ]
          refine wpAnyH_take (i := 7) (v := ?va7) (by (conv => lhs; simp only [List.getElem?_toArray, List.getElem?_cons_succ, List.getElem?_cons_zero])) (by kernel_rfl) (by kernel_rfl) (by kernel_rfl) ?hQ (Or.inl ⟨by rfl, ?hya7⟩) hH ?resta7
          case hQ => exact fun _ _ _ h => h
          case hya7 => (intro Y hY; obtain ⟨⟨e0, e1⟩, ⟨e2, e3, e4, e5, e6⟩, e7, e8⟩ := hY; go_simp; try (with_reducible rfl))
          try simp only [Act.put, List.setIfInBounds_toArray, List.set_cons_zero, List.set_cons_succ]
          refine wpAnyH_take (i := 8) (v := ?va8) (by (conv => lhs; simp only [List.getElem?_toArray, List.getElem?_cons_succ, List.getElem?_cons_zero])) (by kernel_rfl) (by kernel_rfl) (by kernel_rfl) ?hQ (Or.inl ⟨by rfl, ?hya8⟩) hH ?resta8
          case hQ => exact fun _ _ _ h => h
          case hya8 => (intro Y hY; obtain ⟨⟨e0, e1⟩, ⟨e2, e3, e4, e5, e6⟩, e7, e8⟩ := hY; go_simp; try (with_reducible rfl))
          try simp only [Act.put, List.setIfInBounds_toArray, List.set_cons_zero, List.set_cons_succ]
          refine wpAnyH_take (i := 9) (v := ?va9) (by (conv => lhs; simp only [List.getElem?_toArray, List.getElem?_cons_succ, List.getElem?_cons_zero])) (by kernel_rfl) (by kernel_rfl) (by kernel_rfl) ?hQ (Or.inl ⟨by rfl, ?hya9⟩) hH ?resta9
          case hQ => exact fun _ _ _ h => h
          case hya9 => (intro Y hY; obtain ⟨⟨e0, e1⟩, ⟨e2, e3, e4, e5, e6⟩, e7, e8⟩ := hY; go_simp; try (with_reducible rfl))
          try simp only [Act.put, List.setIfInBounds_toArray, List.set_cons_zero, List.set_cons_succ]
          refine wpAnyH_take (i := 10) (v := ?va10) (by (conv => lhs; simp only [List.getElem?_toArray, List.getElem?_cons_succ, List.getElem?_cons_zero])) (by kernel_rfl) (by kernel_rfl) (by kernel_rfl) ?hQ (Or.inl ⟨by rfl, ?hya10⟩) hH ?resta10
          case hQ => exact fun _ _ _ h => h
          case hya10 => (intro Y hY; obtain ⟨⟨e0, e1⟩, ⟨e2, e3, e4, e5, e6⟩, e7, e8⟩ := hY; go_simp; try (with_reducible rfl))
          try simp only [Act.put, List.setIfInBounds_toArray, List.set_cons_zero, List.set_cons_succ]
          refine wpAnyH_ready (rs := [11, 16]) (by kernel_rfl) (by simp) ?_
          refine AllReadyH.cons (by (conv => lhs; simp only [List.getElem?_toArray, List.getElem?_cons_succ, List.getElem?_cons_zero])) (fun K hK => ?_) (AllReadyH.cons (by (conv => lhs; simp only [List.getElem?_toArray, List.getElem?_cons_succ, List.getElem?_cons_zero])) (fun K hK => ?_) AllReadyH.nil)
          · go_simp
            go_at_call 13; refine (cu.out _ (HLT2.out.below (Below.drew (Below.refl _ _)))).mono ?_; rintro e w5 ⟨GA', gc', rfl, hl', hfar, hb5⟩
            have cum1 : Below wk.heap.size wk w5 := (Below.drew (Below.refl _ _)).trans hb5
            refine hK.out _ _ (KEEP.out _ cum1) (fun hH1 => ?_)
            clear hK hH
            try simp only [Act.put, List.setIfInBounds_toArray, List.set_cons_zero, List.set_cons_succ]
            refine wpAnyH_take (i := 12) (v := ?vb12) (by (conv => lhs; simp only [List.getElem?_toArray, List.getElem?_cons_succ, List.getElem?_cons_zero])) (by kernel_rfl) (by kernel_rfl) (by kernel_rfl) ?hQ (Or.inl ⟨by rfl, ?hyb12⟩) hH1 ?restb12
            case hQ => exact fun _ _ _ h => h
            case hyb12 => (intro Y hY; obtain ⟨⟨e0, e1⟩, ⟨e2, e3, e4, e5, e6⟩, e7, e8⟩ := hY; go_simp; try (with_reducible rfl))
            try simp only [Act.put, List.setIfInBounds_toArray, List.set_cons_zero, List.set_cons_succ]
            refine wpAnyH_take (i := 13) (v := ?vb13) (by (conv => lhs; simp only [List.getElem?_toArray, List.getElem?_cons_succ, List.getElem?_cons_zero])) (by kernel_rfl) (by kernel_rfl) (by kernel_rfl) ?hQ (Or.inl ⟨by rfl, ?hyb13⟩) hH1 ?restb13
            case hQ => exact fun _ _ _ h => h
            case hyb13 => (intro Y hY; obtain ⟨⟨e0, e1⟩, ⟨e2, e3, e4, e5, e6⟩, e7, e8⟩ := hY; go_simp; try (with_reducible rfl))
            try simp only [Act.put, List.setIfInBounds_toArray, List.set_cons_zero, List.set_cons_succ]
            refine wpAnyH_take (i := 14) (v := ?vb14) (by (conv => lhs; simp only [List.getElem?_toArray, List.getElem?_cons_succ, List.getElem?_cons_zero])) (by kernel_rfl) (by kernel_rfl) (by kernel_rfl) ?hQ (Or.inl ⟨by rfl, ?hyb14⟩) hH1 ?restb14
            case hQ => exact fun _ _ _ h => h
            case hyb14 => (intro Y hY; obtain ⟨⟨e0, e1⟩, ⟨e2, e3, e4, e5, e6⟩, e7, e8⟩ := hY; go_simp; try (with_reducible rfl))
            try simp only [Act.put, List.setIfInBounds_toArray, List.set_cons_zero, List.set_cons_succ]
            refine wpAnyH_take (i := 15) (v := ?vb15) (by (conv => lhs; simp only [List.getElem?_toArray, List.getElem?_cons_succ, List.getElem?_cons_zero])) (by kernel_rfl) (by kernel_rfl) (by kernel_rfl) ?hQ (Or.inl ⟨by rfl, ?hyb15⟩) hH1 ?restb15
            case hQ => exact fun _ _ _ h => h
            case hyb15 => (intro Y hY; obtain ⟨⟨e0, e1⟩, ⟨e2, e3, e4, e5, e6⟩, e7, e8⟩ := hY; go_simp; try (with_reducible rfl))
            try simp only [Act.put, List.setIfInBounds_toArray, List.set_cons_zero, List.set_cons_succ]
            refine wpAnyH_ready (rs := [16]) (by kernel_rfl) (by simp) ?_
            refine AllReadyH.cons (by (conv => lhs; simp only [List.getElem?_toArray, List.getElem?_cons_succ, List.getElem?_cons_zero])) (fun K hK => ?_) AllReadyH.nil
            go_simp
            refine hK.out _ _ (KEEP.out _ (below_new cum1 _)) (fun hH2 => ?_)
            clear hK hH1
            try simp only [Act.put, List.setIfInBounds_toArray, List.set_cons_zero, List.set_cons_succ]
            refine wpAnyH_ready (rs := [17]) (by kernel_rfl) (by simp) ?_
            refine AllReadyH.cons (by (conv => lhs; simp only [List.getElem?_toArray, List.getElem?_cons_succ, List.getElem?_cons_zero])) (fun K hK => ?_) AllReadyH.nil
            clear hH2 g0 g1 g2 g3 g4 g5 g6 x0 x1
            go_simp
            refine hK.out _ _ (KEEP.out _ (below_new cum1 _)) (fun hH3 => ?_)
            clear hK
            try simp only [Act.put, List.setIfInBounds_toArray, List.set_cons_zero, List.set_cons_succ]
            refine wpAnyH_take (i := 18) (v := ?vc18) (by (conv => lhs; simp only [List.getElem?_toArray, List.getElem?_cons_succ, List.getElem?_cons_zero])) (by kernel_rfl) (by kernel_rfl) (by kernel_rfl) ?hQ (Or.inl ⟨by rfl, ?hyc18⟩) hH3 ?restc18
            case hQ => exact fun _ _ _ h => h
            case hyc18 => (intro Y hY; obtain ⟨⟨e0, e1⟩, ⟨e2, e3, e4, e5, e6⟩, e7, e8⟩ := hY; go_simp; try (with_reducible rfl))
            try simp only [Act.put, List.setIfInBounds_toArray, List.set_cons_zero, List.set_cons_succ]
            refine wpAnyH_take (i := 19) (v := ?vc19) (by (conv => lhs; simp only [List.getElem?_toArray, List.getElem?_cons_succ, List.getElem?_cons_zero])) (by kernel_rfl) (by kernel_rfl) (by kernel_rfl) ?hQ (Or.inl ⟨by rfl, ?hyc19⟩) hH3 ?restc19
            case hQ => exact fun _ _ _ h => h
            case hyc19 => (intro Y hY; obtain ⟨⟨e0, e1⟩, ⟨e2, e3, e4, e5, e6⟩, e7, e8⟩ := hY; go_simp; try (with_reducible rfl))
            try simp only [Act.put, List.setIfInBounds_toArray, List.set_cons_zero, List.set_cons_succ]
            refine wpAnyH_done (by kernel_rfl) ?_ _
            go_wp2_with fail
            go_meet
            exact ⟨w5.heap.size, GA', gc', rfl, rfl, rfl, cum1.size, GAt.new _ _ _ _ _ _ _ _ _ _, hl'.below (below_new (Below.refl _ _) _), hfar, below_new cum1 _⟩
          · go_simp
            refine hK.out _ _ (KEEP.out _ (below_new (Below.drew (Below.refl _ _)) _)) (fun hH1 => ?_)
            clear hK hH
            try simp only [Act.put, List.setIfInBounds_toArray, List.set_cons_zero, List.set_cons_succ]
            refine wpAnyH_ready (rs := [11]) (by kernel_rfl) (by simp) ?_
            refine AllReadyH.cons (by (conv => lhs; simp only [List.getElem?_toArray, List.getElem?_cons_succ, List.getElem?_cons_zero])) (fun K hK => ?_) AllReadyH.nil
            go_simp
            go_at_call 13; refine (cu.out _ (HLT2.out.below (below_new (Below.drew (Below.refl _ _)) _))).mono ?_; rintro e w5 ⟨GA', gc', rfl, hl', hfar, hb5⟩
            have cum1 : Below wk.heap.size wk w5 := (below_new (Below.drew (Below.refl _ _)) _).trans (hb5.mono (by simp))
            have hfar2 : (GA' = GA ∧ T' = T) ∨ FarB (wk.heap.size + 1) GA' T' := by rcases hfar with h | h; exact .inl h; exact .inr (fun hl ad h2 => by have := h hl ad h2; simp at this; omega)
            have cumB := hidd hb5
            clear hfar hb5
            refine hK.out _ _ (KEEP.out _ cum1) (fun hH2 => ?_)
            clear hK hH1
            try simp only [Act.put, List.setIfInBounds_toArray, List.set_cons_zero, List.set_cons_succ]
            refine wpAnyH_take (i := 12) (v := ?vd12) (by (conv => lhs; simp only [List.getElem?_toArray, List.getElem?_cons_succ, List.getElem?_cons_zero])) (by kernel_rfl) (by kernel_rfl) (by kernel_rfl) ?hQ (Or.inl ⟨by rfl, ?hyd12⟩) hH2 ?restd12
            case hQ => exact fun _ _ _ h => h
            case hyd12 => (intro Y hY; obtain ⟨⟨e0, e1⟩, ⟨e2, e3, e4, e5, e6⟩, e7, e8⟩ := hY; go_simp; try (with_reducible rfl))
            try simp only [Act.put, List.setIfInBounds_toArray, List.set_cons_zero, List.set_cons_succ]
            refine wpAnyH_take (i := 13) (v := ?vd13) (by (conv => lhs; simp only [List.getElem?_toArray, List.getElem?_cons_succ, List.getElem?_cons_zero])) (by kernel_rfl) (by kernel_rfl) (by kernel_rfl) ?hQ (Or.inl ⟨by rfl, ?hyd13⟩) hH2 ?restd13
            case hQ => exact fun _ _ _ h => h
            case hyd13 => (intro Y hY; obtain ⟨⟨e0, e1⟩, ⟨e2, e3, e4, e5, e6⟩, e7, e8⟩ := hY; go_simp; try (with_reducible rfl))
            try simp only [Act.put, List.setIfInBounds_toArray, List.set_cons_zero, List.set_cons_succ]
            refine wpAnyH_take (i := 14) (v := ?vd14) (by (conv => lhs; simp only [List.getElem?_toArray, List.getElem?_cons_succ, List.getElem?_cons_zero])) (by kernel_rfl) (by kernel_rfl) (by kernel_rfl) ?hQ (Or.inl ⟨by rfl, ?hyd14⟩) hH2 ?restd14
            case hQ => exact fun _ _ _ h => h
            case hyd14 => (intro Y hY; obtain ⟨⟨e0, e1⟩, ⟨e2, e3, e4, e5, e6⟩, e7, e8⟩ := hY; go_simp; try (with_reducible rfl))
            try simp only [Act.put, List.setIfInBounds_toArray, List.set_cons_zero, List.set_cons_succ]
            refine wpAnyH_take (i := 15) (v := ?vd15) (by (conv => lhs; simp only [List.getElem?_toArray, List.getElem?_cons_succ, List.getElem?_cons_zero])) (by kernel_rfl) (by kernel_rfl) (by kernel_rfl) ?hQ (Or.inl ⟨by rfl, ?hyd15⟩) hH2 ?restd15
            case hQ => exact fun _ _ _ h => h
            case hyd15 => (intro Y hY; obtain ⟨⟨e0, e1⟩, ⟨e2, e3, e4, e5, e6⟩, e7, e8⟩ := hY; go_simp; try (with_reducible rfl))
            try simp only [Act.put, List.setIfInBounds_toArray, List.set_cons_zero, List.set_cons_succ]
            refine wpAnyH_ready (rs := [17]) (by kernel_rfl) (by simp) ?_
            refine AllReadyH.cons (by (conv => lhs; simp only [List.getElem?_toArray, List.getElem?_cons_succ, List.getElem?_cons_zero])) (fun K hK => ?_) AllReadyH.nil
            clear hH2 g0 g1 g2 g3 g4 g5 g6 x0 x1
            have hrow : w5.heap[wk.heap.size]? = some (.cells #[.int .i64 0, .int .i64 0, .int .i64 0, .int .i64 0, .int .i64 0, .slice none 0 0, .int .i64 0] 32 (0, 0)) := by first | exact (cumB.out.block wk.heap.size (by simp)).trans (World.alloc_heap_new wk.drew _) | exact (cumB.out.block wk.heap.size (by simp)).trans (World.alloc_heap_new wk _)
            rw [if_pos (by rfl)]
            refine wp_store_row 32 (.tmp 11) (.tmp 71) (by rfl) wk.heap.size #[.int .i64 p, .int .i64 r, .int .i64 u, .int .i64 m, .int .i64 l, .slice GA' T'.length gc', .int .i64 St.1.1] (by rfl) (by rfl) _ _ hrow (by kernel_rfl) (by rfl) (by simp [Value.oneCell']) ?_
            have hrow2 := setRow_heap w5 wk.heap.size _ #[.int .i64 p, .int .i64 r, .int .i64 u, .int .i64 m, .int .i64 l, .slice GA' T'.length gc', .int .i64 St.1.1] _ _ hrow
            have cum2 : Below wk.heap.size wk (w5.setRow wk.heap.size #[.int .i64 p, .int .i64 r, .int .i64 u, .int .i64 m, .int .i64 l, .slice GA' T'.length gc', .int .i64 St.1.1]) := below_setRow cum1 (Nat.le_refl _) _
            refine hK.out _ _ (KEEP.out _ cum2) (fun hH3 => ?_)
            clear hK
            try simp only [Act.put]
            refine wpAnyH_take (i := 18) (v := ?ve18) (by (conv => lhs; simp only [List.getElem?_toArray, List.getElem?_cons_succ, List.getElem?_cons_zero])) (by kernel_rfl) (by kernel_rfl) (by kernel_rfl) ?hQ (Or.inl ⟨by rfl, ?hye18⟩) hH3 ?reste18
            case hQ => exact fun _ _ _ h => h
            case hye18 => (intro Y hY; obtain ⟨⟨e0, e1⟩, ⟨e2, e3, e4, e5, e6⟩, e7, e8⟩ := hY; go_simp; try (with_reducible rfl))
            try simp only [Act.put, List.setIfInBounds_toArray, List.set_cons_zero, List.set_cons_succ]
            refine wpAnyH_take (i := 19) (v := ?ve19) (by (conv => lhs; simp only [List.getElem?_toArray, List.getElem?_cons_succ, List.getElem?_cons_zero])) (by kernel_rfl) (by kernel_rfl) (by kernel_rfl) ?hQ (Or.inl ⟨by rfl, ?hye19⟩) hH3 ?reste19
            case hQ => exact fun _ _ _ h => h
            case hye19 => (intro Y hY; obtain ⟨⟨e0, e1⟩, ⟨e2, e3, e4, e5, e6⟩, e7, e8⟩ := hY; go_simp; try (with_reducible rfl))
            try simp only [Act.put, List.setIfInBounds_toArray, List.set_cons_zero, List.set_cons_succ]
            refine wpAnyH_done (by kernel_rfl) ?_ _
            go_wp2_with fail
            go_meet
            refine ⟨wk.heap.size, GA', gc', rfl, rfl, rfl, Nat.le_refl _, hrow2, hl'.row (fun hl ad h2 => ?_) _, ?_, cum2⟩
            · rcases hfar2 with ⟨h3, h4⟩ | h3
              · obtain ⟨ad', h5, h6, _⟩ := HLT2.out (by rw [← h4]; exact hl)
                rw [← h3, h2] at h5
                cases h5
                omega
              · have := h3 hl ad h2
                omega
            · rcases hfar2 with h3 | h3
              · exact .inl h3
              · exact .inr (fun hl ad h2 => by have := h3 hl ad h2; omega)
        case rest =>
          obtain ⟨q, GA', gc', rfl, rfl, rfl, hq, hG', hL', hfar, hb⟩ := hcut
          have HB3 := hidd (HB2.out.below hb)
          have HSP3 := hidd (HSP2.out.step hb)
          have HG3 := hidd (HG2.out.below hb)
          have HW3 := hidd (below_step HW2.out hb)
          have HQ := hidd hG'
          have HL3 := hidd hL'
          have HF3 : Hid (FarB (g + 1) GA' T') := hidd (by
            rcases hfar with ⟨h3, h4⟩ | h3
            · rw [h3, h4]; exact HF.out
            · exact fun hl ad h2 => by have := h3 hl ad h2; omega)
          have hgq : g ≠ q := by omega
          have cw := hidd (fun k => cW.out b _ _ (HB3.out.drewN k))
          obtain ⟨⟨r0, r1, r2, r3, r4⟩, r5, r6⟩ := hG'.cells
          clear hG' hL' hfar hb HB2 HSP2 HW2 HLT2 KEEP x0 x1 g0 g1 g2 g3 g4 g5 g6 cu HL hadc
          obtain ⟨sx, is, no⟩ := St
          dsimp only at *
          have e1 : (no != no) = false := by simp
          have e2 : (sx.1 != sx.1) = false := by simp
          cases is
          all_goals
            go_wp2_with fail
            go_quiet ((go_at_call 14; exact Calls.quiet_of_same ((cw.out _).mono fun e w' h => ⟨h.1, h.2.symm⟩)))
            obtain ⟨wd, hwd⟩ : ∃ wd : World, wc.drewN nq = wd := ⟨_, rfl⟩
            have HB4 : Hid (BktAt wd b p r u m l sx) := hidd (by rw [← hwd]; exact HB3.out.drewN _)
            have HSP4 : Hid (HasSpec wd w.heap.size p r u m l) := hidd (by rw [← hwd]; exact HSP3.out)
            have HG4 : Hid (GAt wd g p r u m l GA tl gc s.1) := hidd (by rw [← hwd]; exact HG3.out)
            have HW4 : Hid (Below w.heap.size w wd) := hidd (by rw [← hwd]; exact below_drewN HW3.out _)
            have HQ4 : Hid (GAt wd q p r u m l GA' T'.length gc' sx.1) := hidd (by rw [← hwd]; exact HQ.out)
            have HL4 : Hid (Lie sendV 2 wd wd.heap.size GA' T') := hidd (by rw [← hwd]; exact HL3.out)
            rw [hwd]
            clear hwd r0 r1 r2 r3 r4 r5 r6 HB3 HSP3 HG3 HW3 HQ HL3 cw
            obtain ⟨⟨r0, r1, r2, r3, r4⟩, r5, r6⟩ := HQ4.out.cells
            have hrow : Hid (wd.heap[g]? = some (.cells (gCells p r u m l GA tl gc s.1) 32 (0, 0))) := HG4
            have hinf : Hid ((Try.prog.info? 32).map (·.size) = some 7) := hidd (by kernel_rfl)
            have hout := hidd (setRow_heap wd g _ (gCells p r u m l GA' T'.length gc' sx.1) _ _ hrow.out)
            have hoth := hidd (fun k (h : k ≠ g) => setRow_other wd g k (gCells p r u m l GA' T'.length gc' sx.1) h)
            have hszz := hidd (setRow_size wd g (gCells p r u m l GA' T'.length gc' sx.1))
            have hLr := hidd (HL4.out.row (q := g) (fun hl ad' h2 => by have := HF3.out hl ad' h2; omega) (gCells p r u m l GA' T'.length gc' sx.1))
            have hbl := hidd (below_setRow (g := g) HW4.out (by omega) (gCells p r u m l GA' T'.length gc' sx.1))
            obtain ⟨wz, hwz⟩ : ∃ wz : World, wd.setRow g (gCells p r u m l GA' T'.length gc' sx.1) = wz := ⟨_, rfl⟩
            have HWZ := hidd hwz
            rw [hwz] at hout hszz hLr hbl hoth
            clear hwz
            generalize hTn : T'.length = tn at *
            have HTN := hidd hTn
            clear hTn
            go_wp2_with (refine wpList_store_row rfl 32 (.tmp 7) (.tmp 89) rfl g (gCells p r u m l GA' tn gc' sx.1) rfl rfl 32 _ hrow.out hinf.out rfl (by simp [gCells, Value.oneCell']) ?_; rw [HWZ.out])
            have hk := HK.out
            have hN := HNL.out
            have hT2 := HTN.out
            subst hN
            subst hT2
            go_roundg (gk - 1)
            case measure => omega
            case rel => exact ⟨i + 1, T', sx, GA', gc', by omega, by omega, by go_num, by omega, HB4.out.of (hoth.out b (by omega)) (Nat.le_of_eq hszz.out.symm), hok.out, hinv.out, hout.out, hLr.out, HF3.out, (by
              have h := HSP4.out
              have c := fun o => World.cell?_of_block (w := wd) (w' := wz) (a := ⟨w.heap.size, o, none⟩) (hoth.out w.heap.size (by omega))
              exact ⟨by rw [hszz.out]; exact h.1, (c 0).trans h.2.1, (c 1).trans h.2.2.1, (c 2).trans h.2.2.2.1, (c 3).trans h.2.2.2.2.1, (c 4).trans h.2.2.2.2.2⟩), hbl.out⟩
    · have z1 : ¬ (i : Int) < (L.length : Int) := by omega
      have he := fun W => spec_eq p r u m l W
      clear HL HK HG HLT HF HI
      generalize hNL : L.length = N at *
      clear hNL
      obtain ⟨zs, k0, k1, k2, k3, k4⟩ := id HSP.out
      have KEEP := hidd (fun Y (hb : Below wr.heap.size wr Y) => (HSP.out.step hb).2)
      go_wp2_with fail
      go_region_held3 (fun Y => Y.cell? ⟨w.heap.size, 0, none⟩ = some (.int .i64 p) ∧ Y.cell? ⟨w.heap.size, 1, none⟩ = some (.int .i64 r) ∧ Y.cell? ⟨w.heap.size, 2, none⟩ = some (.int .i64 u) ∧ Y.cell? ⟨w.heap.size, 3, none⟩ = some (.int .i64 m) ∧ Y.cell? ⟨w.heap.size, 4, none⟩ = some (.int .i64 l))
        ((first | exact KEEP.out _ cum2 | exact KEEP.out _ cum1 | exact ⟨k0, k1, k2, k3, k4⟩ | go_keep))
        ((first
          | (go_at_call 15; refine (cP.out b _ s HB.out.drew).mono ?_; rintro e w4 ⟨rfl, hb4⟩; have cum1 : Below wr.heap.size wr w4 := (Below.drew (Below.refl _ _)).trans hb4)
          | (go_at_call 9; refine (cK.out _).mono ?_; rintro e w5 ⟨rfl, hb5⟩; have cum2 : Below wr.heap.size wr w5 := below_step cum1 hb5)))
      all_goals go_wp2_with fail
      all_goals go_ret
      all_goals exact ⟨rfl, below_step HW.out cum2⟩
end Go.Proofs.Ytilikpacgbkebaa
