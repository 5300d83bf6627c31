/- Objects: the objects of any bytes, as the document tells them. -/
import Derived.Test.YtnneolkedekfbaaObX
namespace Go.Proofs.Ytnneolkedekfbaa
set_option linter.unusedVariables false
open Go.RowKit

theorem row_append {B0 : Nat} {pre : List Ob} {V wa : World} {v v' : Value} {x : Ob} {tmp : Obj} (hB0 : B0 ≤ V.heap.size) (hO : OwnL obV 3 V B0 32 v pre)
    (hw : ∀ o ∈ pre, HeldO V (fun q => B0 ≤ q ∧ q < V.heap.size ∧ v.ownBlock ≠ some q) o) (hx : HeldO V (fun q => B0 ≤ q ∧ q < V.heap.size ∧ v.ownBlock ≠ some q) x)
    (hown : wa.ownsRow B0 32 3 v' (pre.length + 1) (rowOf obV pre ++ obV x)) (hgrow : (V.alloc tmp).grownBy wa v.ownBlock) (hat : v'.ownBlock = v.ownBlock ∨ v'.ownBlock = some (V.alloc tmp).heap.size) :
    OwnL obV 3 wa B0 32 v' (pre ++ [x]) ∧ (∀ o ∈ pre ++ [x], HeldO wa (fun q => B0 ≤ q ∧ q < wa.heap.size ∧ v'.ownBlock ≠ some q) o) ∧ Below B0 V wa := by
  have hsv : (V.alloc tmp).heap.size = V.heap.size + 1 := by simp
  have hsz := hgrow.size
  rw [hsv] at hat hsz
  have KEEP : ∀ k, k < V.heap.size → v.ownBlock ≠ some k → wa.heap[k]? = V.heap[k]? := fun k hk hb => (hgrow.block k (by omega) (fun q => hb q.symm)).trans (Below.heap_alloc _ _ _ hk)
  have hfr : ∀ k, k < V.heap.size → v.ownBlock ≠ some k → v'.ownBlock ≠ some k := fun k hk hb => by
    rcases hat with h | h
    · rw [h]; exact hb
    · rw [h]; intro q; injection q with q; omega
  refine ⟨OwnL.snoc (f := obV) (L := pre) (x := x) hown rfl rfl, fun o ho => ?_, Below.grown ((Below.refl B0 V).alloc hB0 _) hgrow (by omega) (fun k hk => (OwnL.lt hO k hk).1)⟩
  have hh : HeldO V (fun q => B0 ≤ q ∧ q < V.heap.size ∧ v.ownBlock ≠ some q) o := by
    rcases List.mem_append.1 ho with h | h
    · exact hw o h
    · obtain rfl : o = x := by simpa using h
      exact hx
  exact hh.to (fun k hk => ⟨⟨hk.1, by omega, hfr k hk.2.1 hk.2.2⟩, KEEP k hk.2.1 hk.2.2⟩)
def ParsesEnd (L : List Int) (w : World) (e : Ending) (w' : World) : Prop :=
  Below w.heap.size w w' ∧ ((∃ k os A c, Good L k ∧ os.map keyO = keysTo L k ∧ e = .returned (.tuple #[.slice A os.length c, .bool true]) ∧ Obs w' (· < w'.heap.size) A os) ∨ ((∀ k, ¬ Good L k) ∧ e = .returned (.tuple #[.slice none 0 0, .bool false])))
set_option maxRecDepth 100000 in
set_option maxHeartbeats 16000000 in
theorem refParse7 (A : Option Addr) (L : List Int) (c : Nat) (hL : L.length ≤ 65536) (hb : Bytes L) (w : World) (hl : LieQ byV 1 w (· < w.heap.size) A L) :
    Calls Try.prog 13 #[.slice A L.length c] w (ParsesEnd L w) := by
  obtain ⟨i0, hi0, hz0, hz1, hz2⟩ := info_parts intInfo
  obtain ⟨o0, ho0, oz0, oz1, oz2⟩ := info_parts obInfo
  have HL := hidd hl
  have HB := hidd hb
  clear hl hb
  go_enter Try.func13, Try.ntmps13
  go_wp2_with fail
  go_loopg [4, 5] (L.length + 1) (fun g s4 s5 wr => ∃ (pre : List Ob) (i : Nat), placeAt L pre.length = i ∧ i + g ≥ L.length + 1 ∧ s5 = .int .i64 (i : Int) ∧ okTo L pre.length ∧ pre.map keyO = keysTo L pre.length ∧ pre.length ≤ 40 ∧
    OwnL obV 3 wr w.heap.size 32 s4 pre ∧ (∀ o ∈ pre, HeldO wr (fun q => w.heap.size ≤ q ∧ q < wr.heap.size ∧ s4.ownBlock ≠ some q) o) ∧ Below w.heap.size w wr)
  case atStart => exact ⟨[], 0, rfl, by omega, by first | rfl | simp, okTo_zero L, by simp [keysTo], by simp, OwnL.nil _ _ _, fun o ho => by simp at ho, Below.refl _ _⟩
  case round =>
    obtain ⟨pre, i, hpi, hg, rfl, hok, hks, hp40, hO, hw, hB⟩ := hrel
    obtain ⟨go, hgo⟩ : ∃ go, gk = go := ⟨_, rfl⟩
    have HGO := hidd hgo
    rw [hgo] at hg
    have HG := hidd hg
    clear hgo
    have hil := placeAt_le hok
    rw [hpi] at hil
    have HST := hidd (And.intro hpi (And.intro hok (And.intro hks hw)))
    have HBW := hidd hB
    obtain ⟨A5, c5, rfl, _, _, hl5⟩ := OwnL.lie hO obV_len
    have HO := hidd hO
    have HL5 := hidd hl5
    have HNO := hidd (show i ≠ L.length → ¬ fitsAt L i → ∀ k, ¬ Good L k from fun h1 h2 k => no_good_stop hok (by rw [hpi]; exact h1) (by rw [hpi]; exact h2) k)
    have HMA := hidd (show i ≠ L.length → pre.length = 40 → ∀ k, ¬ Good L k from fun h1 h2 k => no_good_many hok (by rw [hpi]; exact h1) (by omega) k)
    clear hg hpi hok hks hw hB hO hl5
    by_cases hend : i = L.length
    · subst hend
      have hn : ¬ (L.length : Int) < (L.length : Int) := by omega
      go_wp2_with fail
      go_ret2
      obtain ⟨h1, h2, h3, h4⟩ := HST.out
      exact ⟨HBW.out, .inl ⟨pre.length, pre, A5, c5, ⟨h2, hp40, h1⟩, h3, rfl, HL5.out.q (fun k hk => hk), fun o ho => (h4 o ho).to (fun q hq => ⟨hq.2.1, rfl⟩)⟩⟩
    have hlt : (i : Int) < (L.length : Int) := by omega
    have e0 : IntKind.i64.wrap ((L.length : Int) - (i : Int)) = (L.length : Int) - (i : Int) := IntWalk.i64_in _ (by omega)
    by_cases h40 : pre.length = 40
    · have HX := hidd (HMA.out hend h40)
      rw [h40]
      go_wp2_with fail
      go_ret2
      exact ⟨HBW.out, .inr ⟨HX.out, rfl⟩⟩
    have h40i : ¬ ((pre.length : Int) = 40) := by omega
    by_cases h8 : (L.length : Int) - (i : Int) < 8
    · have HX := hidd (HNO.out hend (fun q => by have := q.1; omega))
      go_wp2_with fail
      go_ret2
      exact ⟨HBW.out, .inr ⟨HX.out, rfl⟩⟩
    have HLW := hidd (HL.out.below HBW.out)
    obtain ⟨ad, rfl, hab, x0⟩ := HLW.out.byte i (by omega)
    obtain ⟨ad', q1, _, x1⟩ := HLW.out.byte (i + 1) (by omega)
    cases q1
    obtain ⟨b00, b01⟩ := HB.out _ (av_mem (show i < L.length by omega))
    obtain ⟨b10, b11⟩ := HB.out _ (av_mem (show i + 1 < L.length by omega))
    obtain ⟨N, hN⟩ : ∃ N : Nat, nAt L i = N := ⟨_, rfl⟩
    have hNN : 256 * av L i + av L (i + 1) = (N : Int) := by rw [← hN]; unfold nAt hd2; omega
    have HNQ := hidd hN
    obtain ⟨i1, hi1⟩ : ∃ i1, i + 1 = i1 := ⟨_, rfl⟩
    have HI1 := hidd hi1
    have e1 : IntKind.i64.wrap ((i : Int) + 1) = (i1 : Int) := by rw [IntWalk.i64_in _ (by omega)]; omega
    have e2 : IntKind.i64.wrap (av L i) = av L i := IntWalk.i64_in _ (by omega)
    have e3 : IntKind.i64.wrap (av L (i + 1)) = av L (i + 1) := IntWalk.i64_in _ (by omega)
    have e4 : IntKind.i64.wrap (256 * av L i) = 256 * av L i := IntWalk.i64_in _ (by omega)
    have e5 : IntKind.i64.wrap (256 * av L i + av L (i + 1)) = (N : Int) := by rw [IntWalk.i64_in _ (by omega)]; exact hNN
    have hi1l : (i1 : Int) < (L.length : Int) := by omega
    have hNb : (N : Int) ≤ 65535 := by omega
    rw [hi1] at x1 e3 e5 hNN b10 b11
    generalize av L i = y0 at *
    generalize av L i1 = y1 at *
    clear hN hNN b00 b01 b10 b11 hi1
    go_wp2_with fail
    go_quiet (fail)
    obtain ⟨W0, hW0⟩ : ∃ W0, wr.drewN nq = W0 := ⟨_, rfl⟩
    rw [hW0]
    have hb0 : Below wr.heap.size wr W0 := by rw [← hW0]; exact below_drewN (Below.refl _ _) nq
    have HB0 := hidd hb0
    have HBW0 := hidd (below_step HBW.out hb0)
    clear hW0 hb0 x0 x1 e1 e2 e3 e4 e5 h40i e0
    by_cases h4 : (N : Int) % 4 = 0
    rotate_left
    · have HX := hidd (HNO.out hend (fun q => by have := q.2.1; rw [HNQ.out] at this; omega))
      go_wp2_with fail
      go_ret2
      exact ⟨HBW0.out, .inr ⟨HX.out, rfl⟩⟩
    by_cases hN8 : (N : Int) < 8
    · have HX := hidd (HNO.out hend (fun q => by have := q.2.2.1; rw [HNQ.out] at this; omega))
      go_wp2_with fail
      go_ret2
      exact ⟨HBW0.out, .inr ⟨HX.out, rfl⟩⟩
    by_cases hN260 : 260 < (N : Int)
    · have HX := hidd (HNO.out hend (fun q => by have := q.2.2.2.1; rw [HNQ.out] at this; omega))
      go_wp2_with fail
      go_ret2
      exact ⟨HBW0.out, .inr ⟨HX.out, rfl⟩⟩
    have e0 : IntKind.i64.wrap ((L.length : Int) - (i : Int)) = (L.length : Int) - (i : Int) := IntWalk.i64_in _ (by omega)
    by_cases hNl : (L.length : Int) - (i : Int) < (N : Int)
    · have HX := hidd (HNO.out hend (fun q => by have := q.2.2.2.2; rw [HNQ.out] at this; omega))
      go_wp2_with fail
      go_ret2
      exact ⟨HBW0.out, .inr ⟨HX.out, rfl⟩⟩
    obtain ⟨m, hm⟩ : ∃ m : Nat, N = 4 + 4 * m := ⟨N / 4 - 1, by omega⟩
    have HF := hidd (show fitsAt L i by unfold fitsAt; rw [HNQ.out]; omega)
    have HM := hidd hm
    have hlen : i + (4 + 4 * m) ≤ L.length := by omega
    have hm1 : 1 ≤ m ∧ m ≤ 64 := by omega
    have HL0 := hidd (HLW.out.below HB0.out)
    obtain ⟨i2, hi2⟩ : ∃ i2, i + 2 = i2 := ⟨_, rfl⟩
    obtain ⟨i3, hi3⟩ : ∃ i3, i + 3 = i3 := ⟨_, rfl⟩
    obtain ⟨ad', q2, hab0, z0⟩ := HL0.out.byte i2 (by omega)
    cases q2
    obtain ⟨ad', q3, _, z1⟩ := HL0.out.byte i3 (by omega)
    cases q3
    have e1 : IntKind.i64.wrap ((i : Int) + 2) = (i2 : Int) := by rw [IntWalk.i64_in _ (by omega)]; omega
    have e2 : IntKind.i64.wrap ((i : Int) + 3) = (i3 : Int) := by rw [IntWalk.i64_in _ (by omega)]; omega
    have hc0 := HB.out _ (av_mem (show i2 < L.length by omega))
    have hc1 := HB.out _ (av_mem (show i3 < L.length by omega))
    have e3 : IntKind.i64.wrap (av L i2) = av L i2 := IntWalk.i64_in _ (by omega)
    have e4 : IntKind.i64.wrap (av L i3) = av L i3 := IntWalk.i64_in _ (by omega)
    have n2 : (i2 : Int) < (L.length : Int) := by omega
    have n3 : (i3 : Int) < (L.length : Int) := by omega
    have HI23 := hidd (And.intro hi2 hi3)
    generalize hC : av L i2 = C at *
    generalize hT : av L i3 = T at *
    have HCT := hidd (And.intro hC hT)
    have KEEP := hidd (fun (W : World) (h : Below W0.heap.size W0 W) => (show W.cell? (ad.add i2) = some (.int .u8 C) ∧ W.cell? (ad.add i3) = some (.int .u8 T) from ⟨(h.cell (by rw [block_of_add]; exact hab0)).trans z0, (h.cell (by rw [block_of_add]; exact hab0)).trans z1⟩))
    clear hC hT hi2 hi3 hc0 hc1 z0 z1
    go_wp2_with fail
    go_region_held (fun W => W.cell? (ad.add i2) = some (.int .u8 C) ∧ W.cell? (ad.add i3) = some (.int .u8 T))
      ((first | exact KEEP.out _ (Below.refl _ _) | exact KEEP.out _ (Below.drew (Below.refl _ _)) | exact KEEP.out _ ((Below.refl _ _).alloc (Nat.le_refl _) _) | exact KEEP.out _ ((Below.drew (Below.refl _ _)).alloc (Nat.le_refl _) _) | exact KEEP.out _ (by (repeat' (first | (with_reducible exact Below.refl _ _) | (with_reducible assumption) | (with_reducible apply Below.setCell) | (with_reducible apply Below.alloc) | (with_reducible apply Below.drew) | (with_reducible apply below_drewN) | (with_reducible refine Below.trans ?_ (Below.mono (by assumption) ?_)) | omega | (simp; done) | (simp; omega)))) | go_keep)) (fail)
    obtain ⟨W5, hW5⟩ : ∃ W5, (W0.alloc (.cells #[.int .i64 C, .int .i64 T, .slice none 0 0] 32)).drew = W5 := ⟨_, rfl⟩
    rw [hW5]
    have hb5 : Below W0.heap.size W0 W5 := by rw [← hW5]; exact Below.drew ((Below.refl _ _).alloc (Nat.le_refl _) _)
    have hs5 : W5.heap.size = W0.heap.size + 1 := by rw [← hW5]; simp [World.drew]
    have HX5 := hidd (show W5.cell? ⟨W0.heap.size, 0, none⟩ = some (.int .i64 C) ∧ W5.cell? ⟨W0.heap.size, 1, none⟩ = some (.int .i64 T) ∧ W5.cell? ⟨W0.heap.size, 2, none⟩ = some (.slice none 0 0) ∧ W5.frozen? ⟨W0.heap.size, 2, none⟩ = false by rw [← hW5]; exact ⟨by simp [go_sem], by simp [go_sem], by simp [go_sem], by simp [go_sem]⟩)
    have HB5 := hidd hb5
    have e5 : IntKind.i64.wrap ((i : Int) + 4) = (i : Int) + 4 := IntWalk.i64_in _ (by omega)
    have e6 : IntKind.i64.wrap ((i : Int) + (4 + 4 * (m : Int))) = (i : Int) + (4 + 4 * (m : Int)) := IntWalk.i64_in _ (by omega)
    obtain ⟨bo, hbo⟩ : ∃ bo, W0.heap.size = bo := ⟨_, rfl⟩
    have HBO := hidd hbo
    rw [hbo] at hs5 HX5 ⊢
    clear hW5 hb5 e0 e1 e2 e3 e4 n2 n3 hbo
    go_wp2_with fail
    go_loopg [8] (m + 1) (fun g s8 wi => ∃ (j : Nat) (u : Value), j ≤ m ∧ j + g = m + 1 ∧ s8 = .int .i64 ((i + 4 + 4 * j : Nat) : Int) ∧ (wi.cell? ⟨bo, 0, none⟩ = some (.int .i64 C) ∧ wi.cell? ⟨bo, 1, none⟩ = some (.int .i64 T) ∧ wi.cell? ⟨bo, 2, none⟩ = some u ∧ wi.frozen? ⟨bo, 2, none⟩ = false) ∧
      OwnL wdV 1 wi (bo + 1) 2 u (wordsN L i j) ∧ Below bo W0 wi ∧ bo < wi.heap.size)
    case atStart => exact ⟨0, _, by omega, by omega, by go_num, HX5.out, by simpa [wordsN] using OwnL.nil _ _ _, by rw [← HBO.out]; exact HB5.out, by omega⟩
    case round =>
      obtain ⟨j, u, hj, hg2, rfl, ⟨c0, c1, c2, c3⟩, hU, hBi, hbi⟩ := hrel
      obtain ⟨Au, cu, rfl, hcu, hcux, hlu⟩ := OwnL.lie hU wdV_len
      have HG2 := hidd hg2
      have HBI := hidd hBi
      have HU := hidd hU
      have hwl := wordsN_len L i j
      clear hg2 hU
      by_cases hjm : j < m
      · have HL1 : Hid (LieQ byV 1 wr (fun q => q < bo) (some ad) L) := hidd (HL0.out.to (fun q hq => ⟨by rw [← HBO.out]; exact hq, hBi.block q (by rw [← HBO.out]; exact hq)⟩))
        obtain ⟨p, hp⟩ : ∃ p, i + 4 + 4 * j = p := ⟨_, rfl⟩
        obtain ⟨p1, hp1⟩ : ∃ q, p + 1 = q := ⟨_, rfl⟩
        obtain ⟨p2, hp2⟩ : ∃ q, p + 2 = q := ⟨_, rfl⟩
        obtain ⟨p3, hp3⟩ : ∃ q, p + 3 = q := ⟨_, rfl⟩
        obtain ⟨ad', q0, hpb, z0⟩ := HL1.out.byte p (by omega)
        cases q0
        obtain ⟨ad', q0, _, z1⟩ := HL1.out.byte p1 (by omega)
        cases q0
        obtain ⟨ad', q0, _, z2⟩ := HL1.out.byte p2 (by omega)
        cases q0
        obtain ⟨ad', q0, _, z3⟩ := HL1.out.byte p3 (by omega)
        cases q0
        have hx0 := HB.out _ (av_mem (show p < L.length by omega))
        have hx1 := HB.out _ (av_mem (show p1 < L.length by omega))
        have hx2 := HB.out _ (av_mem (show p2 < L.length by omega))
        have hx3 := HB.out _ (av_mem (show p3 < L.length by omega))
        have HWN := hidd (show wordsN L i (j + 1) = wordsN L i j ++ [16777216 * av L p + 65536 * av L p1 + 256 * av L p2 + av L p3] by rw [wordsN_one, hp, ← hp1, ← hp2, ← hp3]; rfl)
        have n0 : (p : Int) < (L.length : Int) := by omega
        have n1 : (p1 : Int) < (L.length : Int) := by omega
        have n2 : (p2 : Int) < (L.length : Int) := by omega
        have n3 : (p3 : Int) < (L.length : Int) := by omega
        have t1 : IntKind.i64.wrap ((p : Int) + 1) = (p1 : Int) := by rw [IntWalk.i64_in _ (by omega)]; omega
        have t2 : IntKind.i64.wrap ((p : Int) + 2) = (p2 : Int) := by rw [IntWalk.i64_in _ (by omega)]; omega
        have t3 : IntKind.i64.wrap ((p : Int) + 3) = (p3 : Int) := by rw [IntWalk.i64_in _ (by omega)]; omega
        have t4 : IntKind.i64.wrap ((p : Int) + 4) = (p : Int) + 4 := IntWalk.i64_in _ (by omega)
        have hpl : (p : Int) < (i : Int) + (4 + 4 * (m : Int)) := by omega
        have HP := hidd hp
        generalize av L p = x0 at *
        generalize av L p1 = x1 at *
        generalize av L p2 = x2 at *
        generalize av L p3 = x3 at *
        have k0 : IntKind.i64.wrap x0 = x0 := IntWalk.i64_in _ (by omega)
        have k1 : IntKind.i64.wrap x1 = x1 := IntWalk.i64_in _ (by omega)
        have k2 : IntKind.i64.wrap x2 = x2 := IntWalk.i64_in _ (by omega)
        have k3 : IntKind.i64.wrap x3 = x3 := IntWalk.i64_in _ (by omega)
        have k4 : IntKind.i64.wrap (16777216 * x0) = 16777216 * x0 := IntWalk.i64_in _ (by omega)
        have k5 : IntKind.i64.wrap (65536 * x1) = 65536 * x1 := IntWalk.i64_in _ (by omega)
        have k6 : IntKind.i64.wrap (256 * x2) = 256 * x2 := IntWalk.i64_in _ (by omega)
        have k7 : IntKind.i64.wrap (16777216 * x0 + 65536 * x1) = 16777216 * x0 + 65536 * x1 := IntWalk.i64_in _ (by omega)
        have k8 : IntKind.i64.wrap (16777216 * x0 + 65536 * x1 + 256 * x2) = 16777216 * x0 + 65536 * x1 + 256 * x2 := IntWalk.i64_in _ (by omega)
        have k9 : IntKind.i64.wrap (16777216 * x0 + 65536 * x1 + 256 * x2 + x3) = 16777216 * x0 + 65536 * x1 + 256 * x2 + x3 := IntWalk.i64_in _ (by omega)
        generalize hWL : wordsN L i j = WL at *
        have HWL := hidd hWL
        have hadb : ad.block < bo := hpb
        have KEEP := hidd (fun (W : World) (h : Below bo wr W) => (show W.cell? (ad.add p) = some (.int .u8 x0) ∧ W.cell? (ad.add p1) = some (.int .u8 x1) ∧ W.cell? (ad.add p2) = some (.int .u8 x2) ∧ W.cell? (ad.add p3) = some (.int .u8 x3) from
          ⟨(h.cell (by rw [block_of_add]; exact hadb)).trans z0, (h.cell (by rw [block_of_add]; exact hadb)).trans z1, (h.cell (by rw [block_of_add]; exact hadb)).trans z2, (h.cell (by rw [block_of_add]; exact hadb)).trans z3⟩))
        have KEEP5 := hidd (fun (W : World) (h : Below (bo + 1) wr W) => (show W.cell? ⟨bo, 0, none⟩ = some (.int .i64 C) ∧ W.cell? ⟨bo, 1, none⟩ = some (.int .i64 T) ∧ W.cell? ⟨bo, 2, none⟩ = some (.slice Au WL.length cu) ∧ W.frozen? ⟨bo, 2, none⟩ = false from
          ⟨(h.cell (p := ⟨bo, 0, none⟩) (Nat.lt_succ_self _)).trans c0, (h.cell (p := ⟨bo, 1, none⟩) (Nat.lt_succ_self _)).trans c1, (h.cell (p := ⟨bo, 2, none⟩) (Nat.lt_succ_self _)).trans c2, (h.frozen (p := ⟨bo, 2, none⟩) (Nat.lt_succ_self _)).trans c3⟩))
        have hwl64 : WL.length ≤ 64 := by omega
        clear hBi hlu hp hp1 hp2 hp3 hx0 hx1 hx2 hx3 z0 z1 z2 z3 hpb hWL hwl
        rw [HP.out]
        go_wp2_with fail
        refine wp_region_held_drew (S := fun W => W.cell? (ad.add p) = some (.int .u8 x0) ∧ W.cell? (ad.add p1) = some (.int .u8 x1) ∧ W.cell? (ad.add p2) = some (.int .u8 x2) ∧ W.cell? (ad.add p3) = some (.int .u8 x3)) (by kernel_rfl) (by exact KEEP.out _ (Below.drew (Below.refl _ _))) (fun hHeld => ?_)
        refine wpAnyH_take (i := 0) (v := ?v0) (by (conv => lhs; simp only [List.getElem?_toArray, List.getElem?_cons_succ, List.getElem?_cons_zero])) (by kernel_rfl) (by kernel_rfl) (by kernel_rfl) ?hQ (Or.inl ⟨by rfl, ?hy0⟩) (by assumption) ?rest0
        case hQ => exact fun _ _ _ h => h
        case hy0 => (intro w hSw; (try dsimp only at hSw); go_simp; try (with_reducible rfl))
        try simp only [Act.put, List.setIfInBounds_toArray, List.set_cons_zero, List.set_cons_succ]
        refine wpAnyH_take (i := 2) (v := ?v2) (by (conv => lhs; simp only [List.getElem?_toArray, List.getElem?_cons_succ, List.getElem?_cons_zero])) (by kernel_rfl) (by kernel_rfl) (by kernel_rfl) ?hQ (Or.inl ⟨by rfl, ?hy2⟩) (by assumption) ?rest2
        case hQ => exact fun _ _ _ h => h
        case hy2 => (intro w hSw; (try dsimp only at hSw); go_simp; try (with_reducible rfl))
        try simp only [Act.put, List.setIfInBounds_toArray, List.set_cons_zero, List.set_cons_succ]
        refine wpAnyH_take (i := 3) (v := ?v3) (by (conv => lhs; simp only [List.getElem?_toArray, List.getElem?_cons_succ, List.getElem?_cons_zero])) (by kernel_rfl) (by kernel_rfl) (by kernel_rfl) ?hQ (Or.inl ⟨by rfl, ?hy3⟩) (by assumption) ?rest3
        case hQ => exact fun _ _ _ h => h
        case hy3 => (intro w hSw; (try dsimp only at hSw); go_simp; try (with_reducible rfl))
        try simp only [Act.put, List.setIfInBounds_toArray, List.set_cons_zero, List.set_cons_succ]
        refine wpAnyH_take (i := 4) (v := ?v4) (by (conv => lhs; simp only [List.getElem?_toArray, List.getElem?_cons_succ, List.getElem?_cons_zero])) (by kernel_rfl) (by kernel_rfl) (by kernel_rfl) ?hQ (Or.inl ⟨by rfl, ?hy4⟩) (by assumption) ?rest4
        case hQ => exact fun _ _ _ h => h
        case hy4 => (intro w hSw; (try dsimp only at hSw); go_simp; try (with_reducible rfl))
        try simp only [Act.put, List.setIfInBounds_toArray, List.set_cons_zero, List.set_cons_succ]
        refine wpAnyH_take (i := 5) (v := ?v5) (by (conv => lhs; simp only [List.getElem?_toArray, List.getElem?_cons_succ, List.getElem?_cons_zero])) (by kernel_rfl) (by kernel_rfl) (by kernel_rfl) ?hQ (Or.inl ⟨by rfl, ?hy5⟩) (by assumption) ?rest5
        case hQ => exact fun _ _ _ h => h
        case hy5 => (intro w hSw; (try dsimp only at hSw); go_simp; try (with_reducible rfl))
        try simp only [Act.put, List.setIfInBounds_toArray, List.set_cons_zero, List.set_cons_succ]
        refine wpAnyH_take (i := 6) (v := ?v6) (by (conv => lhs; simp only [List.getElem?_toArray, List.getElem?_cons_succ, List.getElem?_cons_zero])) (by kernel_rfl) (by kernel_rfl) (by kernel_rfl) ?hQ (Or.inl ⟨by rfl, ?hy6⟩) (by assumption) ?rest6
        case hQ => exact fun _ _ _ h => h
        case hy6 => (intro w hSw; (try dsimp only at hSw); go_simp; try (with_reducible rfl))
        try simp only [Act.put, List.setIfInBounds_toArray, List.set_cons_zero, List.set_cons_succ]
        refine wpAnyH_take (i := 7) (v := ?v7) (by (conv => lhs; simp only [List.getElem?_toArray, List.getElem?_cons_succ, List.getElem?_cons_zero])) (by kernel_rfl) (by kernel_rfl) (by kernel_rfl) ?hQ (Or.inl ⟨by rfl, ?hy7⟩) (by assumption) ?rest7
        case hQ => exact fun _ _ _ h => h
        case hy7 => (intro w hSw; (try dsimp only at hSw); go_simp; try (with_reducible rfl))
        try simp only [Act.put, List.setIfInBounds_toArray, List.set_cons_zero, List.set_cons_succ]
        refine wpAnyH_take (i := 8) (v := ?v8) (by (conv => lhs; simp only [List.getElem?_toArray, List.getElem?_cons_succ, List.getElem?_cons_zero])) (by kernel_rfl) (by kernel_rfl) (by kernel_rfl) ?hQ (Or.inl ⟨by rfl, ?hy8⟩) (by assumption) ?rest8
        case hQ => exact fun _ _ _ h => h
        case hy8 => (intro w hSw; (try dsimp only at hSw); go_simp; try (with_reducible rfl))
        try simp only [Act.put, List.setIfInBounds_toArray, List.set_cons_zero, List.set_cons_succ]
        refine wpAnyH_take (i := 9) (v := ?v9) (by (conv => lhs; simp only [List.getElem?_toArray, List.getElem?_cons_succ, List.getElem?_cons_zero])) (by kernel_rfl) (by kernel_rfl) (by kernel_rfl) ?hQ (Or.inl ⟨by rfl, ?hy9⟩) (by assumption) ?rest9
        case hQ => exact fun _ _ _ h => h
        case hy9 => (intro w hSw; (try dsimp only at hSw); go_simp; try (with_reducible rfl))
        try simp only [Act.put, List.setIfInBounds_toArray, List.set_cons_zero, List.set_cons_succ]
        refine wpAnyH_take (i := 10) (v := ?v10) (by (conv => lhs; simp only [List.getElem?_toArray, List.getElem?_cons_succ, List.getElem?_cons_zero])) (by kernel_rfl) (by kernel_rfl) (by kernel_rfl) ?hQ (Or.inl ⟨by rfl, ?hy10⟩) (by assumption) ?rest10
        case hQ => exact fun _ _ _ h => h
        case hy10 => (intro w hSw; (try dsimp only at hSw); go_simp; try (with_reducible rfl))
        try simp only [Act.put, List.setIfInBounds_toArray, List.set_cons_zero, List.set_cons_succ]
        refine wpAnyH_take (i := 11) (v := ?v11) (by (conv => lhs; simp only [List.getElem?_toArray, List.getElem?_cons_succ, List.getElem?_cons_zero])) (by kernel_rfl) (by kernel_rfl) (by kernel_rfl) ?hQ (Or.inl ⟨by rfl, ?hy11⟩) (by assumption) ?rest11
        case hQ => exact fun _ _ _ h => h
        case hy11 => (intro w hSw; (try dsimp only at hSw); go_simp; try (with_reducible rfl))
        try simp only [Act.put, List.setIfInBounds_toArray, List.set_cons_zero, List.set_cons_succ]
        refine wpAnyH_take (i := 12) (v := ?v12) (by (conv => lhs; simp only [List.getElem?_toArray, List.getElem?_cons_succ, List.getElem?_cons_zero])) (by kernel_rfl) (by kernel_rfl) (by kernel_rfl) ?hQ (Or.inl ⟨by rfl, ?hy12⟩) (by assumption) ?rest12
        case hQ => exact fun _ _ _ h => h
        case hy12 => (intro w hSw; (try dsimp only at hSw); go_simp; try (with_reducible rfl))
        try simp only [Act.put, List.setIfInBounds_toArray, List.set_cons_zero, List.set_cons_succ]
        refine wpAnyH_take (i := 13) (v := ?v13) (by (conv => lhs; simp only [List.getElem?_toArray, List.getElem?_cons_succ, List.getElem?_cons_zero])) (by kernel_rfl) (by kernel_rfl) (by kernel_rfl) ?hQ (Or.inl ⟨by rfl, ?hy13⟩) (by assumption) ?rest13
        case hQ => exact fun _ _ _ h => h
        case hy13 => (intro w hSw; (try dsimp only at hSw); go_simp; try (with_reducible rfl))
        try simp only [Act.put, List.setIfInBounds_toArray, List.set_cons_zero, List.set_cons_succ]
        refine wpAnyH_take (i := 14) (v := ?v14) (by (conv => lhs; simp only [List.getElem?_toArray, List.getElem?_cons_succ, List.getElem?_cons_zero])) (by kernel_rfl) (by kernel_rfl) (by kernel_rfl) ?hQ (Or.inl ⟨by rfl, ?hy14⟩) (by assumption) ?rest14
        case hQ => exact fun _ _ _ h => h
        case hy14 => (intro w hSw; (try dsimp only at hSw); go_simp; try (with_reducible rfl))
        try simp only [Act.put, List.setIfInBounds_toArray, List.set_cons_zero, List.set_cons_succ]
        refine wpAnyH_take (i := 15) (v := ?v15) (by (conv => lhs; simp only [List.getElem?_toArray, List.getElem?_cons_succ, List.getElem?_cons_zero])) (by kernel_rfl) (by kernel_rfl) (by kernel_rfl) ?hQ (Or.inl ⟨by rfl, ?hy15⟩) (by assumption) ?rest15
        case hQ => exact fun _ _ _ h => h
        case hy15 => (intro w hSw; (try dsimp only at hSw); go_simp; try (with_reducible rfl))
        try simp only [Act.put, List.setIfInBounds_toArray, List.set_cons_zero, List.set_cons_succ]
        refine wpAnyH_take (i := 16) (v := ?v16) (by (conv => lhs; simp only [List.getElem?_toArray, List.getElem?_cons_succ, List.getElem?_cons_zero])) (by kernel_rfl) (by kernel_rfl) (by kernel_rfl) ?hQ (Or.inl ⟨by rfl, ?hy16⟩) (by assumption) ?rest16
        case hQ => exact fun _ _ _ h => h
        case hy16 => (intro w hSw; (try dsimp only at hSw); go_simp; try (with_reducible rfl))
        try simp only [Act.put, List.setIfInBounds_toArray, List.set_cons_zero, List.set_cons_succ]
        refine wpAnyH_take (i := 17) (v := ?v17) (by (conv => lhs; simp only [List.getElem?_toArray, List.getElem?_cons_succ, List.getElem?_cons_zero])) (by kernel_rfl) (by kernel_rfl) (by kernel_rfl) ?hQ (Or.inl ⟨by rfl, ?hy17⟩) (by assumption) ?rest17
        case hQ => exact fun _ _ _ h => h
        case hy17 => (intro w hSw; (try dsimp only at hSw); go_simp; try (with_reducible rfl))
        try simp only [Act.put, List.setIfInBounds_toArray, List.set_cons_zero, List.set_cons_succ]
        refine wpAnyH_take (i := 18) (v := ?v18) (by (conv => lhs; simp only [List.getElem?_toArray, List.getElem?_cons_succ, List.getElem?_cons_zero])) (by kernel_rfl) (by kernel_rfl) (by kernel_rfl) ?hQ (Or.inl ⟨by rfl, ?hy18⟩) (by assumption) ?rest18
        case hQ => exact fun _ _ _ h => h
        case hy18 => (intro w hSw; (try dsimp only at hSw); go_simp; try (with_reducible rfl))
        try simp only [Act.put, List.setIfInBounds_toArray, List.set_cons_zero, List.set_cons_succ]
        refine wpAnyH_take (i := 19) (v := ?v19) (by (conv => lhs; simp only [List.getElem?_toArray, List.getElem?_cons_succ, List.getElem?_cons_zero])) (by kernel_rfl) (by kernel_rfl) (by kernel_rfl) ?hQ (Or.inl ⟨by rfl, ?hy19⟩) (by assumption) ?rest19
        case hQ => exact fun _ _ _ h => h
        case hy19 => (intro w hSw; (try dsimp only at hSw); go_simp; try (with_reducible rfl))
        try simp only [Act.put, List.setIfInBounds_toArray, List.set_cons_zero, List.set_cons_succ]
        refine wpAnyH_take (i := 20) (v := ?v20) (by (conv => lhs; simp only [List.getElem?_toArray, List.getElem?_cons_succ, List.getElem?_cons_zero])) (by kernel_rfl) (by kernel_rfl) (by kernel_rfl) ?hQ (Or.inl ⟨by rfl, ?hy20⟩) (by assumption) ?rest20
        case hQ => exact fun _ _ _ h => h
        case hy20 => (intro w hSw; (try dsimp only at hSw); go_simp; try (with_reducible rfl))
        try simp only [Act.put, List.setIfInBounds_toArray, List.set_cons_zero, List.set_cons_succ]
        refine wpAnyH_take (i := 21) (v := ?v21) (by (conv => lhs; simp only [List.getElem?_toArray, List.getElem?_cons_succ, List.getElem?_cons_zero])) (by kernel_rfl) (by kernel_rfl) (by kernel_rfl) ?hQ (Or.inl ⟨by rfl, ?hy21⟩) (by assumption) ?rest21
        case hQ => exact fun _ _ _ h => h
        case hy21 => (intro w hSw; (try dsimp only at hSw); go_simp; try (with_reducible rfl))
        try simp only [Act.put, List.setIfInBounds_toArray, List.set_cons_zero, List.set_cons_succ]
        refine wpAnyH_take (i := 22) (v := ?v22) (by (conv => lhs; simp only [List.getElem?_toArray, List.getElem?_cons_succ, List.getElem?_cons_zero])) (by kernel_rfl) (by kernel_rfl) (by kernel_rfl) ?hQ (Or.inl ⟨by rfl, ?hy22⟩) (by assumption) ?rest22
        case hQ => exact fun _ _ _ h => h
        case hy22 => (intro w hSw; (try dsimp only at hSw); go_simp; try (with_reducible rfl))
        try simp only [Act.put, List.setIfInBounds_toArray, List.set_cons_zero, List.set_cons_succ]
        refine wpAnyH_take (i := 23) (v := ?v23) (by (conv => lhs; simp only [List.getElem?_toArray, List.getElem?_cons_succ, List.getElem?_cons_zero])) (by kernel_rfl) (by kernel_rfl) (by kernel_rfl) ?hQ (Or.inl ⟨by rfl, ?hy23⟩) (by assumption) ?rest23
        case hQ => exact fun _ _ _ h => h
        case hy23 => (intro w hSw; (try dsimp only at hSw); go_simp; try (with_reducible rfl))
        try simp only [Act.put, List.setIfInBounds_toArray, List.set_cons_zero, List.set_cons_succ]
        refine wpAnyH_take (i := 24) (v := ?v24) (by (conv => lhs; simp only [List.getElem?_toArray, List.getElem?_cons_succ, List.getElem?_cons_zero])) (by kernel_rfl) (by kernel_rfl) (by kernel_rfl) ?hQ (Or.inl ⟨by rfl, ?hy24⟩) (by assumption) ?rest24
        case hQ => exact fun _ _ _ h => h
        case hy24 => (intro w hSw; (try dsimp only at hSw); go_simp; try (with_reducible rfl))
        try simp only [Act.put, List.setIfInBounds_toArray, List.set_cons_zero, List.set_cons_succ]
        refine wpAnyH_take (i := 25) (v := ?v25) (by (conv => lhs; simp only [List.getElem?_toArray, List.getElem?_cons_succ, List.getElem?_cons_zero])) (by kernel_rfl) (by kernel_rfl) (by kernel_rfl) ?hQ (Or.inl ⟨by rfl, ?hy25⟩) (by assumption) ?rest25
        case hQ => exact fun _ _ _ h => h
        case hy25 => (intro w hSw; (try dsimp only at hSw); go_simp; try (with_reducible rfl))
        try simp only [Act.put, List.setIfInBounds_toArray, List.set_cons_zero, List.set_cons_succ]
        refine wpAnyH_take (i := 26) (v := ?v26) (by (conv => lhs; simp only [List.getElem?_toArray, List.getElem?_cons_succ, List.getElem?_cons_zero])) (by kernel_rfl) (by kernel_rfl) (by kernel_rfl) ?hQ (Or.inl ⟨by rfl, ?hy26⟩) (by assumption) ?rest26
        case hQ => exact fun _ _ _ h => h
        case hy26 => (intro w hSw; (try dsimp only at hSw); go_simp; try (with_reducible rfl))
        try simp only [Act.put, List.setIfInBounds_toArray, List.set_cons_zero, List.set_cons_succ]
        refine wpAnyH_take (i := 27) (v := ?v27) (by (conv => lhs; simp only [List.getElem?_toArray, List.getElem?_cons_succ, List.getElem?_cons_zero])) (by kernel_rfl) (by kernel_rfl) (by kernel_rfl) ?hQ (Or.inl ⟨by rfl, ?hy27⟩) (by assumption) ?rest27
        case hQ => exact fun _ _ _ h => h
        case hy27 => (intro w hSw; (try dsimp only at hSw); go_simp; try (with_reducible rfl))
        try simp only [Act.put, List.setIfInBounds_toArray, List.set_cons_zero, List.set_cons_succ]
        refine wpAnyH_take (i := 28) (v := ?v28) (by (conv => lhs; simp only [List.getElem?_toArray, List.getElem?_cons_succ, List.getElem?_cons_zero])) (by kernel_rfl) (by kernel_rfl) (by kernel_rfl) ?hQ (Or.inl ⟨by rfl, ?hy28⟩) (by assumption) ?rest28
        case hQ => exact fun _ _ _ h => h
        case hy28 => (intro w hSw; (try dsimp only at hSw); go_simp; try (with_reducible rfl))
        try simp only [Act.put, List.setIfInBounds_toArray, List.set_cons_zero, List.set_cons_succ]
        refine wpAnyH_take (i := 29) (v := ?v29) (by (conv => lhs; simp only [List.getElem?_toArray, List.getElem?_cons_succ, List.getElem?_cons_zero])) (by kernel_rfl) (by kernel_rfl) (by kernel_rfl) ?hQ (Or.inl ⟨by rfl, ?hy29⟩) (by assumption) ?rest29
        case hQ => exact fun _ _ _ h => h
        case hy29 => (intro w hSw; (try dsimp only at hSw); go_simp; try (with_reducible rfl))
        try simp only [Act.put, List.setIfInBounds_toArray, List.set_cons_zero, List.set_cons_succ]
        refine wpAnyH_take (i := 30) (v := ?v30) (by (conv => lhs; simp only [List.getElem?_toArray, List.getElem?_cons_succ, List.getElem?_cons_zero])) (by kernel_rfl) (by kernel_rfl) (by kernel_rfl) ?hQ (Or.inl ⟨by rfl, ?hy30⟩) (by assumption) ?rest30
        case hQ => exact fun _ _ _ h => h
        case hy30 => (intro w hSw; (try dsimp only at hSw); go_simp; try (with_reducible rfl))
        try simp only [Act.put, List.setIfInBounds_toArray, List.set_cons_zero, List.set_cons_succ]
        refine wpAnyH_ready (rs := [1, 31]) (by kernel_rfl) (by simp) ?_
        refine AllReadyH.cons (by (conv => lhs; simp only [List.getElem?_toArray, List.getElem?_cons_succ, List.getElem?_cons_zero])) (fun K hK => ?_) (AllReadyH.cons (by (conv => lhs; simp only [List.getElem?_toArray, List.getElem?_cons_succ, List.getElem?_cons_zero])) (fun K hK => ?_) AllReadyH.nil)
        · go_simp
          refine hK.out _ _ (by (try dsimp only); exact KEEP.out _ (Below.drew (Below.refl bo wr))) (fun hH1 => ?_)
          clear hK K
          try simp only [Act.put, List.setIfInBounds_toArray, List.set_cons_zero, List.set_cons_succ]
          refine wpAnyH_ready (rs := [31]) (by kernel_rfl) (by simp) ?_
          refine AllReadyH.cons (by (conv => lhs; simp only [List.getElem?_toArray, List.getElem?_cons_succ, List.getElem?_cons_zero])) (fun K hK => ?_) AllReadyH.nil
          go_simp
          refine hK.out _ _ (by (try dsimp only); exact KEEP.out _ ((Below.drew (Below.refl bo wr)).alloc (Nat.le_of_lt hbi) _)) (fun hH31 => ?_)
          clear hK K
          try simp only [Act.put, List.setIfInBounds_toArray, List.set_cons_zero, List.set_cons_succ]
          refine wpAnyH_ready (rs := [32]) (by kernel_rfl) (by simp) ?_
          refine AllReadyH.cons (by (conv => lhs; simp only [List.getElem?_toArray, List.getElem?_cons_succ, List.getElem?_cons_zero])) (fun K hK => ?_) AllReadyH.nil
          (refine step_append_some (by rfl) (.tmp 78) (.tmp 108) _ (by rfl) (bo + 1) 2 i0 _ 1 8 Try.underlying30 hi0 hz0 hz1 hz2 rfl (by omega) _ _ _ (by rfl) (World.ownsRow.alloc (OwnL.drew HU.out) _) (some ⟨_, 0, none⟩) 1 1 [.int .i64 (16777216 * x0 + 65536 * x1 + 256 * x2 + x3)] (by rfl) (by rfl) (fun _ => ⟨_, rfl, World.news_of_block (cs := #[.int .i64 (16777216 * x0 + 65536 * x1 + 256 * x2 + x3)]) (t := 2) (fr := (0, 0)) (heap_alloc_new _ _)⟩) (by simp [Value.oneCell']) (by simp only [maxLen]; omega) (by omega) (by first | omega | (simp; omega)) ?_; intro v1 wa hown1 hgrow1 hat1; have hb1 : Below (bo + 1) wr wa := Below.grown ((Below.drew (Below.refl _ _)).alloc (by first | omega | (simp; omega)) _) hgrow1 (by first | omega | (simp; omega)) (fun k hk => (OwnL.lt HU.out k hk).1); obtain ⟨g', cap', rfl⟩ := ownsRow_succ hown1; obtain ⟨w0, w1', w2', w3'⟩ := KEEP5.out _ hb1)
          refine hK.out _ _ (by (try dsimp only); exact KEEP.out _ (hb1.mono (by omega))) (fun hH32 => ?_)
          clear hK K
          try simp only [Act.put, List.setIfInBounds_toArray, List.set_cons_zero, List.set_cons_succ]
          refine wpAnyH_take (i := 33) (v := ?v33) (by (conv => lhs; simp only [List.getElem?_toArray, List.getElem?_cons_succ, List.getElem?_cons_zero])) (by kernel_rfl) (by kernel_rfl) (by kernel_rfl) ?hQ (Or.inl ⟨by rfl, ?hy33⟩) (by assumption) ?rest33
          case hQ => exact fun _ _ _ h => h
          case hy33 => (intro w hSw; (try dsimp only at hSw); go_simp; try (with_reducible rfl))
          try simp only [Act.put, List.setIfInBounds_toArray, List.set_cons_zero, List.set_cons_succ]
          refine wpAnyH_ready (rs := [34]) (by kernel_rfl) (by simp) ?_
          refine AllReadyH.cons (by (conv => lhs; simp only [List.getElem?_toArray, List.getElem?_cons_succ, List.getElem?_cons_zero])) (fun K hK => ?_) AllReadyH.nil
          go_simp
          refine hK.out _ _ (by (try dsimp only); exact KEEP.out _ (Below.setCell (hb1.mono (by omega)) (by simp) _)) (fun hH34 => ?_)
          clear hK K
          try simp only [Act.put, List.setIfInBounds_toArray, List.set_cons_zero, List.set_cons_succ]
          refine wpAnyH_done (by kernel_rfl) ?_ _
          have HHA := hidd (And.intro hown1 hb1)
          have hwz : bo < wa.heap.size := Nat.lt_of_lt_of_le hbi hb1.size
          clear hown1 hgrow1 hat1 hb1
          go_wp2_with fail
          have hg2 := HG2.out
          go_roundg (gk - 1)
          case measure => omega
          case rel =>
            obtain ⟨hown1, hb1⟩ := HHA.out
            refine ⟨j + 1, _, by omega, by omega, by rw [← HP.out]; go_num, ⟨by simp [go_sem, *], by simp [go_sem, *], by simp [go_sem, *]; rfl, by simp [go_sem, *]⟩, ?_, HBI.out.trans (Below.setCell (hb1.mono (by omega)) (by simp) _), by simpa using hwz⟩
            rw [HWN.out]
            exact OwnL.low (OwnL.snoc (f := wdV) (L := WL) hown1 rfl rfl) (p := ⟨bo, 2, none⟩) (Nat.lt_succ_self _) _
        · go_simp
          refine hK.out _ _ (by (try dsimp only); exact KEEP.out _ ((Below.drew (Below.refl bo wr)).alloc (Nat.le_of_lt hbi) _)) (fun hH31 => ?_)
          clear hK K
          try simp only [Act.put, List.setIfInBounds_toArray, List.set_cons_zero, List.set_cons_succ]
          refine wpAnyH_ready (rs := [1]) (by kernel_rfl) (by simp) ?_
          refine AllReadyH.cons (by (conv => lhs; simp only [List.getElem?_toArray, List.getElem?_cons_succ, List.getElem?_cons_zero])) (fun K hK => ?_) AllReadyH.nil
          go_simp
          refine hK.out _ _ (by (try dsimp only); exact KEEP.out _ ((Below.drew (Below.refl bo wr)).alloc (Nat.le_of_lt hbi) _)) (fun hH1 => ?_)
          clear hK K
          try simp only [Act.put, List.setIfInBounds_toArray, List.set_cons_zero, List.set_cons_succ]
          refine wpAnyH_ready (rs := [32]) (by kernel_rfl) (by simp) ?_
          refine AllReadyH.cons (by (conv => lhs; simp only [List.getElem?_toArray, List.getElem?_cons_succ, List.getElem?_cons_zero])) (fun K hK => ?_) AllReadyH.nil
          (refine step_append_some (by rfl) (.tmp 78) (.tmp 108) _ (by rfl) (bo + 1) 2 i0 _ 1 8 Try.underlying30 hi0 hz0 hz1 hz2 rfl (by omega) _ _ _ (by rfl) (World.ownsRow.alloc (OwnL.drew HU.out) _) (some ⟨_, 0, none⟩) 1 1 [.int .i64 (16777216 * x0 + 65536 * x1 + 256 * x2 + x3)] (by rfl) (by rfl) (fun _ => ⟨_, rfl, World.news_of_block (cs := #[.int .i64 (16777216 * x0 + 65536 * x1 + 256 * x2 + x3)]) (t := 2) (fr := (0, 0)) (heap_alloc_new _ _)⟩) (by simp [Value.oneCell']) (by simp only [maxLen]; omega) (by omega) (by first | omega | (simp; omega)) ?_; intro v1 wa hown1 hgrow1 hat1; have hb1 : Below (bo + 1) wr wa := Below.grown ((Below.drew (Below.refl _ _)).alloc (by first | omega | (simp; omega)) _) hgrow1 (by first | omega | (simp; omega)) (fun k hk => (OwnL.lt HU.out k hk).1); obtain ⟨g', cap', rfl⟩ := ownsRow_succ hown1; obtain ⟨w0, w1', w2', w3'⟩ := KEEP5.out _ hb1)
          refine hK.out _ _ (by (try dsimp only); exact KEEP.out _ (hb1.mono (by omega))) (fun hH32 => ?_)
          clear hK K
          try simp only [Act.put, List.setIfInBounds_toArray, List.set_cons_zero, List.set_cons_succ]
          refine wpAnyH_take (i := 33) (v := ?v133) (by (conv => lhs; simp only [List.getElem?_toArray, List.getElem?_cons_succ, List.getElem?_cons_zero])) (by kernel_rfl) (by kernel_rfl) (by kernel_rfl) ?hQ (Or.inl ⟨by rfl, ?hy133⟩) (by assumption) ?rest133
          case hQ => exact fun _ _ _ h => h
          case hy133 => (intro w hSw; (try dsimp only at hSw); go_simp; try (with_reducible rfl))
          try simp only [Act.put, List.setIfInBounds_toArray, List.set_cons_zero, List.set_cons_succ]
          refine wpAnyH_ready (rs := [34]) (by kernel_rfl) (by simp) ?_
          refine AllReadyH.cons (by (conv => lhs; simp only [List.getElem?_toArray, List.getElem?_cons_succ, List.getElem?_cons_zero])) (fun K hK => ?_) AllReadyH.nil
          go_simp
          refine hK.out _ _ (by (try dsimp only); exact KEEP.out _ (Below.setCell (hb1.mono (by omega)) (by simp) _)) (fun hH34 => ?_)
          clear hK K
          try simp only [Act.put, List.setIfInBounds_toArray, List.set_cons_zero, List.set_cons_succ]
          refine wpAnyH_done (by kernel_rfl) ?_ _
          have HHA := hidd (And.intro hown1 hb1)
          have hwz : bo < wa.heap.size := Nat.lt_of_lt_of_le hbi hb1.size
          clear hown1 hgrow1 hat1 hb1
          go_wp2_with fail
          have hg2 := HG2.out
          go_roundg (gk - 1)
          case measure => omega
          case rel =>
            obtain ⟨hown1, hb1⟩ := HHA.out
            refine ⟨j + 1, _, by omega, by omega, by rw [← HP.out]; go_num, ⟨by simp [go_sem, *], by simp [go_sem, *], by simp [go_sem, *]; rfl, by simp [go_sem, *]⟩, ?_, HBI.out.trans (Below.setCell (hb1.mono (by omega)) (by simp) _), by simpa using hwz⟩
            rw [HWN.out]
            exact OwnL.low (OwnL.snoc (f := wdV) (L := WL) hown1 rfl rfl) (p := ⟨bo, 2, none⟩) (Nat.lt_succ_self _) _
      · obtain rfl : j = m := by omega
        rw [hwl] at c2
        have hbW : Below W0.heap.size W0 wr := by rw [HBO.out]; exact hBi
        have hO1 := (HO.out.below HB0.out).below hbW
        have hsW0 := HB0.out.size
        have hbo' := HBO.out
        obtain ⟨g1, g2, g3, g4⟩ := HST.out
        have hw1 : ∀ o ∈ pre, HeldO wr (fun q => w.heap.size ≤ q ∧ q < wr.heap.size ∧ (Value.slice A5 pre.length c5).ownBlock ≠ some q) o := fun o ho => (g4 o ho).to (fun q hq => ⟨⟨hq.1, by omega, hq.2.2⟩, (hbW.block q (by omega)).trans (HB0.out.block q hq.2.1)⟩)
        have hx1 : HeldO wr (fun q => w.heap.size ≤ q ∧ q < wr.heap.size ∧ (Value.slice A5 pre.length c5).ownBlock ≠ some q) ⟨C, T, .slice Au j cu, wordsN L i j⟩ := by
          refine ⟨Au, cu, by rw [hwl], fun h0 => ?_⟩
          obtain ⟨ad2, q0, q1, q2⟩ := hlu h0
          have q3 := OwnL.from_ HU.out ad2 q0
          have hws := HBW0.out.size
          exact ⟨ad2, q0, ⟨by omega, q1, fun q => by have := (OwnL.lt HO.out _ q).2; omega⟩, q2⟩
        have HRA := hidd (fun wa v' => row_append (B0 := w.heap.size) (pre := pre) (V := wr) (wa := wa) (v' := v') (x := ⟨C, T, .slice Au j cu, wordsN L i j⟩) (tmp := .cells #[.int .i64 C, .int .i64 T, .slice Au j cu] 32) (by have := HBW0.out.size; omega) hO1 hw1 hx1)
        have HO1 := hidd hO1
        have HBWR := hidd (below_step HBW0.out hbW)
        have hwsz : w.heap.size ≤ wr.heap.size := HBWR.out.size
        have hpl : ¬ ((i + 4 + 4 * j : Nat) : Int) < (i : Int) + (4 + 4 * (j : Int)) := by omega
        have HKX := hidd (show obAt L i = (C, T, wordsN L i j) by
          unfold obAt wordsAt
          rw [HNQ.out, HM.out, ← HCT.out.1, ← HCT.out.2, ← HI23.out.1, ← HI23.out.2]
          congr 3
          omega)
        have HPN := hidd (show placeAt L (pre.length + 1) = i + (4 + 4 * j) by simp only [placeAt]; rw [g1, HNQ.out, HM.out])
        have HOK := hidd (g2.one (by rw [g1]; exact HF.out))
        have HG3 := hidd (And.intro g1 g3)
        clear g1 g2 g3 g4 hw1 hx1 hO1 hbW hBi hlu HU HL0 HLW HX5 HST
        go_wp2_with (at_builtin; refine wpList_append_some (by rfl) (.tmp 111) (.tmp 113) _ (by rfl) w.heap.size 32 o0 _ 3 40 Try.underlying22 ho0 oz0 oz1 oz2 rfl (by omega) (.slice A5 pre.length c5) pre.length (rowOf obV pre) (by rfl) (World.ownsRow.alloc HO1.out _) (some ⟨_, 0, none⟩) 1 1 [.int .i64 C, .int .i64 T, .slice Au j cu] (by rfl) (by rfl) (fun _ => ⟨_, rfl, World.news_of_block (cs := #[.int .i64 C, .int .i64 T, .slice Au j cu]) (t := 32) (fr := (0, 0)) (heap_alloc_new _ _)⟩) (by simp [Value.oneCell']) (by simp only [maxLen]; omega) (by omega) (by simp; omega) ?_; intro v1 wa hown1 hgrow1 hat1; have HRB := hidd (HRA.out wa v1 hown1 hgrow1 hat1); clear hown1 hgrow1 hat1)
        have hgo := HG.out
        go_roundg (go - 1)
        case measure => have := HGO.out; omega
        case rel =>
          obtain ⟨r1, r2, r3⟩ := HRB.out
          refine ⟨pre ++ [⟨C, T, .slice Au j cu, wordsN L i j⟩], i + (4 + 4 * j), by rw [List.length_append]; exact HPN.out, by omega, by go_num, by rw [List.length_append]; exact HOK.out, ?_, by rw [List.length_append]; show pre.length + 1 ≤ 40; omega, r1, r2, HBWR.out.trans r3⟩
          rw [List.length_append, List.map_append, HG3.out.2]
          refine Eq.trans ?_ (keysTo_one L pre.length).symm
          rw [HG3.out.1, HKX.out]
          rfl
end Go.Proofs.Ytnneolkedekfbaa
