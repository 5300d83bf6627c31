/- Texts that the claim hangs on, in one. -/
import Derived.Test.YtjnceoklnmmhjaaGreatMgTmA
import Derived.RangeFuncNested
import Derived.RangeFuncBound
import Derived.RangeFuncCalls
import Derived.RangeFuncLeaves
import Derived.RangeFuncBox
/- Maps: told, of a number that is there. -/
namespace Go.Proofs.YtjnceoklnmmhjaaGreat.Tp
set_option linter.unusedVariables false
open Go.RowKit Go.Maps Go.Shelf
attribute [local go_sem] Oper.semAt_some

set_option maxRecDepth 100000 in
set_option maxHeartbeats 16000000 in
theorem GT.new (w : World) : ∀ W', Below (w.alloc (.cells #[.int .i64 0, .int .i64 0] 58)).drew.heap.size (w.alloc (.cells #[.int .i64 0, .int .i64 0] 58)).drew W' → W'.cell? ⟨w.heap.size, 0, none⟩ = some (.int .i64 0) ∧ W'.cell? ⟨w.heap.size, 1, none⟩ = some (.int .i64 0) ∧ W'.frozen? ⟨w.heap.size, 0, none⟩ = false ∧ W'.frozen? ⟨w.heap.size, 1, none⟩ = false ∧ w.heap.size < W'.heap.size := fun W' hb => by
  have h0 := hb.cell (p := ⟨w.heap.size, 0, none⟩) (by simp [go_sem])
  have h1 := hb.cell (p := ⟨w.heap.size, 1, none⟩) (by simp [go_sem])
  have f0 := hb.frozen (p := ⟨w.heap.size, 0, none⟩) (by simp [go_sem])
  have f1 := hb.frozen (p := ⟨w.heap.size, 1, none⟩) (by simp [go_sem])
  have hs := hb.size
  simp [go_sem] at hs
  exact ⟨h0.trans (by simp [go_sem]), h1.trans (by simp [go_sem]), f0.trans (by simp [go_sem]), f1.trans (by simp [go_sem]), by omega⟩
set_option maxRecDepth 100000 in
set_option maxHeartbeats 16000000 in
theorem told_in (m : Nat) (n : Int) (A : Option Addr) (L : List Lk) (c : Nat) (hL : L.length ≤ 60) (hV : Valid n L) (hI : WideL L) (d : Nat) (hd : d < L.length) (w : World) (hA : Lie linkV 8 w w.heap.size A L) (hM : MapAt w m n L) :
    Calls Tryz.prog 11 #[.pointer (some ⟨m, 0, none⟩), .agg #[.int .i64 n, .slice A L.length c], .int .i64 (d : Int)] w fun e w' => e = .returned (.bool true) ∧ Below w.heap.size w w' := by
  have hn1 := hV.lo
  have hn2 := hV.hi
  have hr := hV.all _ (lkAt_mem hd)
  obtain ⟨j, hj, hej, hlj, hlb, hld⟩ := back_back hV hd
  have CL := hidd (fun W (h : MapAt W m n L) => Link_in m n hn1 L (by omega) d hd W h)
  have CB := hidd (fun W (h : MapAt W m n L) => Back_in m n hn1 L (by omega) hI d hd W h)
  have CB2 := hidd (fun W (h : MapAt W m n L) => Back_in m n hn1 L (by omega) hI j hj W h)
  have CT := hidd (fun W (h : MapAt W m n L) => Terms_in m n hn1 L (by omega) d hd hr W h)
  have CRL := hidd (fun W => refLinkC_any (rt (lkAt L d)) (mo (lkAt L d)) (fa (lkAt L d)) (right_link hr) W)
  obtain ⟨W0, hW0⟩ : ∃ W0, ((w.alloc (.cells #[.int .i64 n, .slice A L.length c] 30)).alloc (.cells #[.bool false] 4)) = W0 := ⟨_, rfl⟩
  have hz : W0.heap.size = w.heap.size + 2 := by rw [← hW0]; simp
  have hb0 : Below w.heap.size w W0 := by rw [← hW0]; (repeat' (first | (with_reducible exact Below.refl _ _) | (with_reducible assumption) | (with_reducible apply Below.setCell) | (with_reducible apply Below.alloc) | (with_reducible apply Below.drew) | (with_reducible apply below_drewN) | (with_reducible refine Below.trans ?_ (Below.mono (by assumption) ?_)) | omega | (simp; done) | (simp; omega)))
  have q0 : W0.cell? ⟨w.heap.size, 0, none⟩ = some (.int .i64 n) := by rw [← hW0]; simp [go_sem]
  have q1 : W0.cell? ⟨w.heap.size, 1, none⟩ = some (.slice A L.length c) := by rw [← hW0]; simp [go_sem]
  have r0 : W0.cell? ⟨w.heap.size + 1, 0, none⟩ = some (.bool false) := by rw [← hW0]; simp [go_sem]
  have f0 : W0.frozen? ⟨w.heap.size + 1, 0, none⟩ = false := by rw [← hW0]; simp [go_sem]
  have RC := hidd (fun W (h : Below W0.heap.size W0 W) => show W.cell? ⟨w.heap.size, 0, none⟩ = some (.int .i64 n) ∧ W.cell? ⟨w.heap.size, 1, none⟩ = some (.slice A L.length c) ∧ W.cell? ⟨w.heap.size + 1, 0, none⟩ = some (.bool false) ∧ W.frozen? ⟨w.heap.size + 1, 0, none⟩ = false ∧ w.heap.size + 1 < W.heap.size from ⟨(h.cell (p := ⟨w.heap.size, 0, none⟩) (show w.heap.size < W0.heap.size by omega)).trans q0, (h.cell (p := ⟨w.heap.size, 1, none⟩) (show w.heap.size < W0.heap.size by omega)).trans q1, (h.cell (p := ⟨w.heap.size + 1, 0, none⟩) (show w.heap.size + 1 < W0.heap.size by omega)).trans r0, (h.frozen (p := ⟨w.heap.size + 1, 0, none⟩) (show w.heap.size + 1 < W0.heap.size by omega)).trans f0, Nat.lt_of_lt_of_le (by omega) h.size⟩)
  have HB0 := hidd hb0
  have HZ := hidd hz
  have HW := hidd hW0
  have HM := hidd (hM.below hb0)
  have HA := hidd (hA.below hb0)
  have CRB := hidd (fun (W : World) (h : Below W0.heap.size W0 W) => refBetween_any n A L c (by omega) (tw (lkAt L d)) (fr (lkAt L d)) W (HA.out.below h))
  have HV := hidd hV
  have HMX := hidd (fun W (h : Below W0.heap.size W0 W) => HM.out.below h)
  have CR := hidd (fun (k : Nat) (hk : (k : Int) < n) (W : World) (h : Below W0.heap.size W0 W) => (refOut_any n (by omega) hn2 A L c (by omega) (k : Int) W (HA.out.below h)).mono (R' := fun e w' => ∃ A c, e = .returned (.slice A (outs L (k : Int)).length c) ∧ Lie intV 1 w' w'.heap.size A (outs L (k : Int)) ∧ Below W.heap.size W w') (fun e w' ⟨A, c, he, hl, hb⟩ => ⟨A, c, by rw [outs_eq hV] at he; exact he, by rw [outs_eq hV] at hl; exact hl, hb⟩))
  have CO := hidd (fun node W => Out_any (some ⟨m, 0, none⟩) node W)
  have hnf := fun f fs cs w => eq_nilFunc f fs cs w
  rw [hlj] at CB
  rw [hld] at CB2
  rw [hlb] at CRB
  unfold linkA at CL
  have HAL := hidd (fun W (h : Below W0.heap.size W0 W) => (HA.out.below h).link d hd)
  generalize upZ (mo (lkAt L d)) (rt (lkAt L d)) + 1 + fa (lkAt L d) = U at *
  generalize fr (lkAt L d) = a0 at *
  generalize tw (lkAt L d) = a1 at *
  generalize rt (lkAt L d) = a2 at *
  generalize sh (lkAt L d) = a3 at *
  generalize fa (lkAt L d) = a4 at *
  generalize mo (lkAt L d) = a5 at *
  generalize ro (lkAt L d) = a6 at *
  generalize fi (lkAt L d) = a7 at *
  clear hz hb0 hA hM hV hI q0 q1 r0 f0 hW0 hr hej hlj hlb hld
  have hd0 : (0 : Int) ≤ (d : Int) := by omega
  have hd1 : (d : Int) < (L.length : Int) := by omega
  have g1 : decide ((d : Int) < 0) = false := decide_eq_false (by omega)
  have g2 : decide ((L.length : Int) ≤ (d : Int)) = false := decide_eq_false (by omega)
  have hj0 : (0 : Int) ≤ (j : Int) := by omega
  have g3 : decide (L.length ≤ d) = false := decide_eq_false (by omega)
  refine (callsIn_wide (n := 6)).1 ?_
  refine callsIn_of_wp_marks Tryz.func11 rfl trivial ?_ rfl
  simp only [Tryz.ntmps11, List.size_toArray, List.length_cons, List.length_nil, Nat.reduceAdd, Nat.reduceSub, Array.replicate_succ, Array.replicate_zero, List.push_toArray, List.append_toArray, List.nil_append, List.cons_append]
  refine wpIn_wide.2 ?_
  go_wp2_with fail
  rw [HW.out]
  refine (CL.out _ HM.out).mono ?_
  rintro e w1 ⟨rfl, hb1⟩
  obtain ⟨W1, hW1⟩ : ∃ W1, w1.alloc (.cells #[.int .i64 a0, .int .i64 a1, .int .i64 a2, .int .i64 a3, .int .i64 a4, .int .i64 a5, .int .i64 a6, .int .i64 a7] 48) = W1 := ⟨_, rfl⟩
  have hs1 : W1.heap.size = w1.heap.size + 1 := by rw [← hW1]; simp
  have HB1 := hidd (show Below W0.heap.size W0 W1 by rw [← hW1]; exact below_new hb1 _)
  have LK := hidd (show W1.cell? ⟨w1.heap.size, 0, none⟩ = some (.int .i64 a0) ∧ W1.cell? ⟨w1.heap.size, 1, none⟩ = some (.int .i64 a1) ∧ W1.cell? ⟨w1.heap.size, 2, none⟩ = some (.int .i64 a2) ∧ W1.cell? ⟨w1.heap.size, 3, none⟩ = some (.int .i64 a3) ∧ W1.cell? ⟨w1.heap.size, 4, none⟩ = some (.int .i64 a4) ∧ W1.cell? ⟨w1.heap.size, 5, none⟩ = some (.int .i64 a5) ∧ W1.cell? ⟨w1.heap.size, 6, none⟩ = some (.int .i64 a6) ∧ W1.cell? ⟨w1.heap.size, 7, none⟩ = some (.int .i64 a7) by rw [← hW1]; refine ⟨?_, ?_, ?_, ?_, ?_, ?_, ?_, ?_⟩ <;> simp [go_sem])
  have HS1 := hidd hs1
  have HW1 := hidd hW1
  have HM1 := hidd (HM.out.below HB1.out)
  clear hb1 hs1 hW1
  go_wp2_with fail
  rw [HW1.out]
  refine (CB.out _ HM1.out).mono ?_
  rintro e w2 ⟨rfl, hb2⟩
  have HB2 := hidd (below_step HB1.out hb2)
  have HB12 := hidd hb2
  have HM2 := hidd (HM1.out.below hb2)
  clear hb2
  go_wp2_with fail
  refine (CT.out _ HM2.out).mono ?_
  rintro e w3 ⟨rfl, hb3⟩
  have hb13 : Below W1.heap.size W1 w3 := below_step HB12.out hb3
  have HB3 := hidd (below_step HB1.out hb13)
  have z1 : w1.heap.size < w3.heap.size := by have := HS1.out; have := HB12.out.size; have := hb3.size; omega
  obtain ⟨y0, y1, y2, y3, y4, y5, y6, y7⟩ := LK.out
  have l0 := (hb13.cell (p := ⟨w1.heap.size, 0, none⟩) (show w1.heap.size < W1.heap.size by have := HS1.out; omega)).trans y0
  have l1 := (hb13.cell (p := ⟨w1.heap.size, 1, none⟩) (show w1.heap.size < W1.heap.size by have := HS1.out; omega)).trans y1
  have l2 := (hb13.cell (p := ⟨w1.heap.size, 2, none⟩) (show w1.heap.size < W1.heap.size by have := HS1.out; omega)).trans y2
  have l3 := (hb13.cell (p := ⟨w1.heap.size, 3, none⟩) (show w1.heap.size < W1.heap.size by have := HS1.out; omega)).trans y3
  have l4 := (hb13.cell (p := ⟨w1.heap.size, 4, none⟩) (show w1.heap.size < W1.heap.size by have := HS1.out; omega)).trans y4
  have l5 := (hb13.cell (p := ⟨w1.heap.size, 5, none⟩) (show w1.heap.size < W1.heap.size by have := HS1.out; omega)).trans y5
  have l6 := (hb13.cell (p := ⟨w1.heap.size, 6, none⟩) (show w1.heap.size < W1.heap.size by have := HS1.out; omega)).trans y6
  have l7 := (hb13.cell (p := ⟨w1.heap.size, 7, none⟩) (show w1.heap.size < W1.heap.size by have := HS1.out; omega)).trans y7
  obtain ⟨c0, c1, d0, d1, z2⟩ := RC.out _ HB3.out
  have z3 : w.heap.size < w3.heap.size := by omega
  clear hb3 hb13 y0 y1 y2 y3 y4 y5 y6 y7
  go_wp2_with fail
  have HB4 := hidd (below_new HB3.out (.cells #[.int .i64 a5, .int .i64 U] 58))
  obtain ⟨W4, hW4⟩ : ∃ W4, w3.alloc (.cells #[.int .i64 a5, .int .i64 U] 58) = W4 := ⟨_, rfl⟩
  have hs4 : W4.heap.size = w3.heap.size + 1 := by rw [← hW4]; simp
  have t0 : W4.cell? ⟨w3.heap.size, 0, none⟩ = some (.int .i64 a5) := by rw [← hW4]; simp [go_sem]
  have t1 : W4.cell? ⟨w3.heap.size, 1, none⟩ = some (.int .i64 U) := by rw [← hW4]; simp [go_sem]
  have hb4 : Below w3.heap.size w3 W4 := by rw [← hW4]; (repeat' (first | (with_reducible exact Below.refl _ _) | (with_reducible assumption) | (with_reducible apply Below.setCell) | (with_reducible apply Below.alloc) | (with_reducible apply Below.drew) | (with_reducible apply below_drewN) | (with_reducible refine Below.trans ?_ (Below.mono (by assumption) ?_)) | omega | (simp; done) | (simp; omega)))
  replace l0 := (hb4.cell (p := ⟨w1.heap.size, 0, none⟩) z1).trans l0
  replace l1 := (hb4.cell (p := ⟨w1.heap.size, 1, none⟩) z1).trans l1
  replace l2 := (hb4.cell (p := ⟨w1.heap.size, 2, none⟩) z1).trans l2
  replace l3 := (hb4.cell (p := ⟨w1.heap.size, 3, none⟩) z1).trans l3
  replace l4 := (hb4.cell (p := ⟨w1.heap.size, 4, none⟩) z1).trans l4
  replace l5 := (hb4.cell (p := ⟨w1.heap.size, 5, none⟩) z1).trans l5
  replace l6 := (hb4.cell (p := ⟨w1.heap.size, 6, none⟩) z1).trans l6
  replace l7 := (hb4.cell (p := ⟨w1.heap.size, 7, none⟩) z1).trans l7
  rw [hW4] at HB4 ⊢
  obtain ⟨c0', c1', d0', d1', z2'⟩ := RC.out _ HB4.out
  obtain ⟨ad, rfl, ha, x0, x1, x2, x3, x4, x5, x6, x7⟩ := HAL.out _ HB4.out
  obtain ⟨p, hp⟩ : ∃ p, ad.add (d * 8) = p := ⟨_, rfl⟩
  rw [hp] at ha x0 x1 x2 x3 x4 x5 x6 x7
  have hp2 : ad.add (8 * d) = p := by rw [Nat.mul_comm]; exact hp
  clear c0 c1 d0 d1 hb4
  have y1 : w1.heap.size < W4.heap.size := by omega
  have y2 : w3.heap.size < W4.heap.size := by omega
  have y3 : w.heap.size < W4.heap.size := by omega
  have KEEP := hidd (fun w' (hb : Below W4.heap.size W4 w') => show w'.cell? ⟨w.heap.size, 0, none⟩ = some (.int .i64 n) ∧ w'.cell? ⟨w.heap.size, 1, none⟩ = some (.slice (some ad) L.length c) ∧ w'.cell? p = some (.int .i64 a0) ∧ w'.cell? ⟨p.block, p.off + 1, none⟩ = some (.int .i64 a1) ∧ w'.cell? ⟨p.block, p.off + 2, none⟩ = some (.int .i64 a2) ∧ w'.cell? ⟨p.block, p.off + 3, none⟩ = some (.int .i64 a3) ∧ w'.cell? ⟨p.block, p.off + 4, none⟩ = some (.int .i64 a4) ∧ w'.cell? ⟨p.block, p.off + 5, none⟩ = some (.int .i64 a5) ∧ w'.cell? ⟨p.block, p.off + 6, none⟩ = some (.int .i64 a6) ∧ w'.cell? ⟨p.block, p.off + 7, none⟩ = some (.int .i64 a7) ∧ w'.cell? ⟨w1.heap.size, 0, none⟩ = some (.int .i64 a0) ∧ w'.cell? ⟨w1.heap.size, 1, none⟩ = some (.int .i64 a1) ∧ w'.cell? ⟨w1.heap.size, 2, none⟩ = some (.int .i64 a2) ∧ w'.cell? ⟨w1.heap.size, 3, none⟩ = some (.int .i64 a3) ∧ w'.cell? ⟨w1.heap.size, 4, none⟩ = some (.int .i64 a4) ∧ w'.cell? ⟨w1.heap.size, 5, none⟩ = some (.int .i64 a5) ∧ w'.cell? ⟨w1.heap.size, 6, none⟩ = some (.int .i64 a6) ∧ w'.cell? ⟨w1.heap.size, 7, none⟩ = some (.int .i64 a7) ∧ w'.cell? ⟨w3.heap.size, 0, none⟩ = some (.int .i64 a5) ∧ w'.cell? ⟨w3.heap.size, 1, none⟩ = some (.int .i64 U) from ⟨(hb.cell (p := ⟨w.heap.size, 0, none⟩) y3).trans c0', (hb.cell (p := ⟨w.heap.size, 1, none⟩) y3).trans c1', (hb.cell (p := p) ha).trans x0, (hb.cell (p := ⟨p.block, p.off + 1, none⟩) ha).trans x1, (hb.cell (p := ⟨p.block, p.off + 2, none⟩) ha).trans x2, (hb.cell (p := ⟨p.block, p.off + 3, none⟩) ha).trans x3, (hb.cell (p := ⟨p.block, p.off + 4, none⟩) ha).trans x4, (hb.cell (p := ⟨p.block, p.off + 5, none⟩) ha).trans x5, (hb.cell (p := ⟨p.block, p.off + 6, none⟩) ha).trans x6, (hb.cell (p := ⟨p.block, p.off + 7, none⟩) ha).trans x7, (hb.cell (p := ⟨w1.heap.size, 0, none⟩) y1).trans l0, (hb.cell (p := ⟨w1.heap.size, 1, none⟩) y1).trans l1, (hb.cell (p := ⟨w1.heap.size, 2, none⟩) y1).trans l2, (hb.cell (p := ⟨w1.heap.size, 3, none⟩) y1).trans l3, (hb.cell (p := ⟨w1.heap.size, 4, none⟩) y1).trans l4, (hb.cell (p := ⟨w1.heap.size, 5, none⟩) y1).trans l5, (hb.cell (p := ⟨w1.heap.size, 6, none⟩) y1).trans l6, (hb.cell (p := ⟨w1.heap.size, 7, none⟩) y1).trans l7, (hb.cell (p := ⟨w3.heap.size, 0, none⟩) y2).trans t0, (hb.cell (p := ⟨w3.heap.size, 1, none⟩) y2).trans t1⟩)
  have K7 := hidd (fun w' (hb : Below W4.heap.size W4 w') => show w'.cell? ⟨w.heap.size, 0, none⟩ = some (.int .i64 n) ∧ w'.cell? ⟨w.heap.size, 1, none⟩ = some (.slice (some ad) L.length c) ∧ w'.cell? ⟨p.block, p.off + 2, none⟩ = some (.int .i64 a2) ∧ w'.cell? ⟨p.block, p.off + 4, none⟩ = some (.int .i64 a4) ∧ w'.cell? ⟨p.block, p.off + 5, none⟩ = some (.int .i64 a5) from by
    obtain ⟨k0, k1, p0, p1, p2, p3, p4, p5, p6, p7, _⟩ := KEEP.out w' hb
    exact ⟨k0, k1, p2, p4, p5⟩)
  clear hW4 hs4 HAL t0 t1 l0 x0 l1 x1 l2 x2 l3 x3 l4 x4 l5 x5 l6 x6 l7 x7 c0' c1'
  have HGT := hidd (GT.new W4)
  have CL7 := hidd (fun (W : World) (h : Below W4.heap.size W4 W) => (below_step HB4.out h : Below W0.heap.size W0 W))
  have CUM := hidd (fun (W : World) (h : Below (W4.alloc (.cells #[.int .i64 0, .int .i64 0] 58)).drew.heap.size (W4.alloc (.cells #[.int .i64 0, .int .i64 0] 58)).drew W) => (below_step (Below.drew (below_new (Below.refl _ _) _)) h : Below W4.heap.size W4 W))
  go_cut [13, 14] from 41 to 95 (fun s13 s14 wx => ∃ q : Nat, s13 = .pointer (some ⟨q, 0, none⟩) ∧ s14 = .bool true ∧ W4.heap.size ≤ q ∧ q < wx.heap.size ∧ wx.cell? ⟨q, 0, none⟩ = some (.int .i64 a5) ∧ wx.cell? ⟨q, 1, none⟩ = some (.int .i64 U) ∧ Below W4.heap.size W4 wx)
  case first =>
    clear hnf CL CB CB2 CT CO CR CRB
    obtain ⟨k0, k1, p2, p4, p5⟩ := K7.out _ (Below.refl _ _)
    go_region_held3 (fun w' => w'.cell? ⟨w.heap.size, 0, none⟩ = some (.int .i64 n) ∧ w'.cell? ⟨w.heap.size, 1, none⟩ = some (.slice (some ad) L.length c) ∧ w'.cell? ⟨p.block, p.off + 2, none⟩ = some (.int .i64 a2) ∧ w'.cell? ⟨p.block, p.off + 4, none⟩ = some (.int .i64 a4) ∧ w'.cell? ⟨p.block, p.off + 5, none⟩ = some (.int .i64 a5))
      ((first | exact K7.out _ cum1 | exact K7.out _ (below_new cum1 _) | exact K7.out _ ((cum1.setCell (Nat.le_refl _) _).setCell (Nat.le_refl _) _) | exact K7.out _ (Below.refl _ _) | exact K7.out _ (below_new (Below.refl _ _) _) | exact K7.out _ (below_new (Below.drew (Below.refl _ _)) _) | go_keep))
      ((first
        | (go_at_call 20; refine (CRL.out _).mono ?_; rintro E1 v5 ⟨rfl, l5⟩; have cum1 : Below W4.heap.size W4 v5 := (by first | exact CUM.out _ l5 | exact below_step (Below.drew (Below.refl _ _)) l5 | exact below_step (Below.refl _ _) l5); (first | (have hgt := HGT.out _ l5) | (have hgt := True.intro)); (first | (obtain ⟨n0, n1, n2, n3, n4⟩ := hgt; have HN4 := hidd n4; clear n4) | skip))))
    all_goals go_wp2_with fail
    all_goals (refine Met.intro ?_; go_step; (repeat apply Exists.intro); refine ⟨?_, rfl⟩)
    all_goals have hsz := Below.size cum1
    all_goals (try have n4 := HN4.out)
    all_goals exact ⟨_, rfl, rfl, by first | omega | (simp; done) | (simp; omega), by first | omega | (simp; done) | (simp; omega), by simp [go_sem, *], by simp [go_sem, *], by first | exact (cum1.setCell (Nat.le_refl _) _).setCell (Nat.le_refl _) _ | exact below_new cum1 _ | exact cum1⟩
  case rest =>
    obtain ⟨q, rfl, rfl, hq0, hq1, u0, u1, hB⟩ := hcut
    have HBC := hidd (CL7.out _ hB)
    have HBQ := hidd hB
    have zq : q < wc.heap.size := hq1
    have KEEP9 := hidd (fun w' (hb : Below wc.heap.size wc w') => show w'.cell? ⟨w.heap.size, 0, none⟩ = some (.int .i64 n) ∧ w'.cell? ⟨w.heap.size, 1, none⟩ = some (.slice (some ad) L.length c) ∧ w'.cell? p = some (.int .i64 a0) ∧ w'.cell? ⟨p.block, p.off + 1, none⟩ = some (.int .i64 a1) ∧ w'.cell? ⟨p.block, p.off + 2, none⟩ = some (.int .i64 a2) ∧ w'.cell? ⟨p.block, p.off + 3, none⟩ = some (.int .i64 a3) ∧ w'.cell? ⟨p.block, p.off + 4, none⟩ = some (.int .i64 a4) ∧ w'.cell? ⟨p.block, p.off + 5, none⟩ = some (.int .i64 a5) ∧ w'.cell? ⟨p.block, p.off + 6, none⟩ = some (.int .i64 a6) ∧ w'.cell? ⟨p.block, p.off + 7, none⟩ = some (.int .i64 a7) ∧ w'.cell? ⟨w1.heap.size, 0, none⟩ = some (.int .i64 a0) ∧ w'.cell? ⟨w1.heap.size, 1, none⟩ = some (.int .i64 a1) ∧ w'.cell? ⟨w1.heap.size, 2, none⟩ = some (.int .i64 a2) ∧ w'.cell? ⟨w1.heap.size, 3, none⟩ = some (.int .i64 a3) ∧ w'.cell? ⟨w1.heap.size, 4, none⟩ = some (.int .i64 a4) ∧ w'.cell? ⟨w1.heap.size, 5, none⟩ = some (.int .i64 a5) ∧ w'.cell? ⟨w1.heap.size, 6, none⟩ = some (.int .i64 a6) ∧ w'.cell? ⟨w1.heap.size, 7, none⟩ = some (.int .i64 a7) ∧ w'.cell? ⟨w3.heap.size, 0, none⟩ = some (.int .i64 a5) ∧ w'.cell? ⟨w3.heap.size, 1, none⟩ = some (.int .i64 U) ∧ w'.cell? ⟨q, 0, none⟩ = some (.int .i64 a5) ∧ w'.cell? ⟨q, 1, none⟩ = some (.int .i64 U) from by
      obtain ⟨k0, k1, p0, p1, p2, p3, p4, p5, p6, p7, l0, l1, l2, l3, l4, l5, l6, l7, t0, t1⟩ := KEEP.out w' (below_step HBQ.out hb)
      exact ⟨k0, k1, p0, p1, p2, p3, p4, p5, p6, p7, l0, l1, l2, l3, l4, l5, l6, l7, t0, t1, (hb.cell (p := ⟨q, 0, none⟩) zq).trans u0, (hb.cell (p := ⟨q, 1, none⟩) zq).trans u1⟩)
    clear u0 u1 hq0 hq1 hB KEEP K7 CRL HGT CUM
    obtain ⟨k0, k1, p0, p1, p2, p3, p4, p5, p6, p7, l0, l1, l2, l3, l4, l5, l6, l7, t0, t1, u0, u1⟩ := KEEP9.out _ (Below.refl _ _)
    go_wp2_with fail
    go_region_held3 (fun w' => w'.cell? ⟨w.heap.size, 0, none⟩ = some (.int .i64 n) ∧ w'.cell? ⟨w.heap.size, 1, none⟩ = some (.slice (some ad) L.length c) ∧ w'.cell? p = some (.int .i64 a0) ∧ w'.cell? ⟨p.block, p.off + 1, none⟩ = some (.int .i64 a1) ∧ w'.cell? ⟨p.block, p.off + 2, none⟩ = some (.int .i64 a2) ∧ w'.cell? ⟨p.block, p.off + 3, none⟩ = some (.int .i64 a3) ∧ w'.cell? ⟨p.block, p.off + 4, none⟩ = some (.int .i64 a4) ∧ w'.cell? ⟨p.block, p.off + 5, none⟩ = some (.int .i64 a5) ∧ w'.cell? ⟨p.block, p.off + 6, none⟩ = some (.int .i64 a6) ∧ w'.cell? ⟨p.block, p.off + 7, none⟩ = some (.int .i64 a7) ∧ w'.cell? ⟨w1.heap.size, 0, none⟩ = some (.int .i64 a0) ∧ w'.cell? ⟨w1.heap.size, 1, none⟩ = some (.int .i64 a1) ∧ w'.cell? ⟨w1.heap.size, 2, none⟩ = some (.int .i64 a2) ∧ w'.cell? ⟨w1.heap.size, 3, none⟩ = some (.int .i64 a3) ∧ w'.cell? ⟨w1.heap.size, 4, none⟩ = some (.int .i64 a4) ∧ w'.cell? ⟨w1.heap.size, 5, none⟩ = some (.int .i64 a5) ∧ w'.cell? ⟨w1.heap.size, 6, none⟩ = some (.int .i64 a6) ∧ w'.cell? ⟨w1.heap.size, 7, none⟩ = some (.int .i64 a7) ∧ w'.cell? ⟨w3.heap.size, 0, none⟩ = some (.int .i64 a5) ∧ w'.cell? ⟨w3.heap.size, 1, none⟩ = some (.int .i64 U) ∧ w'.cell? ⟨q, 0, none⟩ = some (.int .i64 a5) ∧ w'.cell? ⟨q, 1, none⟩ = some (.int .i64 U))
      ((first | exact KEEP9.out _ cum1 | exact KEEP9.out _ (Below.refl _ _) | go_keep))
      ((first
        | (go_at_call 9; refine (CRB.out _ (by first | exact Below.drew HBC.out | exact HBC.out)).mono ?_; rintro E1 v8 ⟨rfl, l8⟩; have cum1 : Below wc.heap.size wc v8 := (by first | exact below_step (Below.drew (Below.refl _ _)) l8 | exact below_step (Below.refl _ _) l8))))
    all_goals go_wp2_with fail
    have HB8 := hidd (below_step HBC.out cum1)
    refine (CB2.out _ (HMX.out _ HB8.out)).mono ?_
    rintro e w9 ⟨rfl, hb9⟩
    have HB9 := hidd (below_step HB8.out hb9)
    clear hb9 cum1 k0 k1 p0 p1 p2 p3 p4 p5 p6 p7 l0 l1 l2 l3 l4 l5 l6 l7 t0 t1 u0 u1 CL CB CB2 CT CRB CL7 KEEP9 HBC HBQ y1 y2 y3 hp hp2 g1 g2 g3 hd0 hd1
    go_wp2_with fail
    refine wp_loop_ghost_k (fun g a wr => ∃ u1 u2 u3 u5 u7 u8 u9 u10 u11 u12 u13 u14 u15 u16 u17 u18 u19 u20 u21 u22 u23 u24 u25 u26 u27 u28 u29 u30 u31 u32 u33 u34 u35 u36 u37 u38 u39 u40 u41 u42 u43 u44 u45 u46 u47 u48 u49 u50 u51 u52 u53 u54 u55 u56 u57 u58 u59 u60 u61 u62 u63 u64 u65 u66 u67 u68 u69 u70 u71 u72 u73 u74 u75 u76 u77 u78 u79 u80 u81 u82 u83 u84 u85 u86 u87 u88 u89 u90 u91 u92 u93 u94 u95 u96 u97 u98 u99 u100 u101 u102 u103 u104 u105 u106 u107 u108 u109 u110 u111 u112 u113 u114 u115 u116 u117 u118 u119 u120 u121 u122 u123 u124 u125 u126 u127 u128 u129 u130 u131 u132 u133 u134 u135 u136 u137 u138 u139 u140 u141 u142 u143 u144 u145 u146 u147 u148 u149 u150 u151 u152 u153 u154 u155 u156 u157 u158 u159 u160 u161 u162 u163 u164 u165 u166 u167 u168 u169 u170 u171 u172 u173 u174 u175 u176 u177 u178 u179 u180 u181 u182 u183 u184, ∃ ds : List Deferred, (∃ (k : Nat) (Ds : List Nat), (k : Int) ≤ n ∧ k + g = 20 ∧ u18 = .int .i64 (k : Int) ∧ u17 = .int .i64 (outSum L k : Int) ∧ ds = Ds.map markOf ∧ OpenAt W0.heap.size wr Ds ∧ Below W0.heap.size W0 wr) ∧ a = { tmps := #[.pointer (some ⟨m, 0, none⟩), u1, u2, u3, .pointer (some ⟨w.heap.size, 0, none⟩), u5, .pointer (some ⟨w.heap.size + 1, 0, none⟩), u7, u8, u9, u10, u11, u12, u13, u14, u15, u16, u17, u18, u19, u20, u21, u22, u23, u24, u25, u26, u27, u28, u29, u30, u31, u32, u33, u34, u35, u36, u37, u38, u39, u40, u41, u42, u43, u44, u45, u46, u47, u48, u49, u50, u51, u52, u53, u54, u55, u56, u57, u58, u59, u60, u61, u62, u63, u64, u65, u66, u67, u68, u69, u70, u71, u72, u73, u74, u75, u76, u77, u78, u79, u80, u81, u82, u83, u84, u85, u86, u87, u88, u89, u90, u91, u92, u93, u94, u95, u96, u97, u98, u99, u100, u101, u102, u103, u104, u105, u106, u107, u108, u109, u110, u111, u112, u113, u114, u115, u116, u117, u118, u119, u120, u121, u122, u123, u124, u125, u126, u127, u128, u129, u130, u131, u132, u133, u134, u135, u136, u137, u138, u139, u140, u141, u142, u143, u144, u145, u146, u147, u148, u149, u150, u151, u152, u153, u154, u155, u156, u157, u158, u159, u160, u161, u162, u163, u164, u165, u166, u167, u168, u169, u170, u171, u172, u173, u174, u175, u176, u177, u178, u179, u180, u181, u182, u183, u184], defers := ds }) 20 ?_ ?_
    · (repeat apply Exists.intro); refine ⟨?_, rfl⟩; exact ⟨0, [], by omega, by omega, rfl, rfl, rfl, OpenAt.nil _ _, HB9.out⟩
    intro gk a wr hinv
    obtain ⟨u1, hinv⟩ := hinv
    obtain ⟨u2, hinv⟩ := hinv
    obtain ⟨u3, hinv⟩ := hinv
    obtain ⟨u5, hinv⟩ := hinv
    obtain ⟨u7, hinv⟩ := hinv
    obtain ⟨u8, hinv⟩ := hinv
    obtain ⟨u9, hinv⟩ := hinv
    obtain ⟨u10, hinv⟩ := hinv
    obtain ⟨u11, hinv⟩ := hinv
    obtain ⟨u12, hinv⟩ := hinv
    obtain ⟨u13, hinv⟩ := hinv
    obtain ⟨u14, hinv⟩ := hinv
    obtain ⟨u15, hinv⟩ := hinv
    obtain ⟨u16, hinv⟩ := hinv
    obtain ⟨u17, hinv⟩ := hinv
    obtain ⟨u18, hinv⟩ := hinv
    obtain ⟨u19, hinv⟩ := hinv
    obtain ⟨u20, hinv⟩ := hinv
    obtain ⟨u21, hinv⟩ := hinv
    obtain ⟨u22, hinv⟩ := hinv
    obtain ⟨u23, hinv⟩ := hinv
    obtain ⟨u24, hinv⟩ := hinv
    obtain ⟨u25, hinv⟩ := hinv
    obtain ⟨u26, hinv⟩ := hinv
    obtain ⟨u27, hinv⟩ := hinv
    obtain ⟨u28, hinv⟩ := hinv
    obtain ⟨u29, hinv⟩ := hinv
    obtain ⟨u30, hinv⟩ := hinv
    obtain ⟨u31, hinv⟩ := hinv
    obtain ⟨u32, hinv⟩ := hinv
    obtain ⟨u33, hinv⟩ := hinv
    obtain ⟨u34, hinv⟩ := hinv
    obtain ⟨u35, hinv⟩ := hinv
    obtain ⟨u36, hinv⟩ := hinv
    obtain ⟨u37, hinv⟩ := hinv
    obtain ⟨u38, hinv⟩ := hinv
    obtain ⟨u39, hinv⟩ := hinv
    obtain ⟨u40, hinv⟩ := hinv
    obtain ⟨u41, hinv⟩ := hinv
    obtain ⟨u42, hinv⟩ := hinv
    obtain ⟨u43, hinv⟩ := hinv
    obtain ⟨u44, hinv⟩ := hinv
    obtain ⟨u45, hinv⟩ := hinv
    obtain ⟨u46, hinv⟩ := hinv
    obtain ⟨u47, hinv⟩ := hinv
    obtain ⟨u48, hinv⟩ := hinv
    obtain ⟨u49, hinv⟩ := hinv
    obtain ⟨u50, hinv⟩ := hinv
    obtain ⟨u51, hinv⟩ := hinv
    obtain ⟨u52, hinv⟩ := hinv
    obtain ⟨u53, hinv⟩ := hinv
    obtain ⟨u54, hinv⟩ := hinv
    obtain ⟨u55, hinv⟩ := hinv
    obtain ⟨u56, hinv⟩ := hinv
    obtain ⟨u57, hinv⟩ := hinv
    obtain ⟨u58, hinv⟩ := hinv
    obtain ⟨u59, hinv⟩ := hinv
    obtain ⟨u60, hinv⟩ := hinv
    obtain ⟨u61, hinv⟩ := hinv
    obtain ⟨u62, hinv⟩ := hinv
    obtain ⟨u63, hinv⟩ := hinv
    obtain ⟨u64, hinv⟩ := hinv
    obtain ⟨u65, hinv⟩ := hinv
    obtain ⟨u66, hinv⟩ := hinv
    obtain ⟨u67, hinv⟩ := hinv
    obtain ⟨u68, hinv⟩ := hinv
    obtain ⟨u69, hinv⟩ := hinv
    obtain ⟨u70, hinv⟩ := hinv
    obtain ⟨u71, hinv⟩ := hinv
    obtain ⟨u72, hinv⟩ := hinv
    obtain ⟨u73, hinv⟩ := hinv
    obtain ⟨u74, hinv⟩ := hinv
    obtain ⟨u75, hinv⟩ := hinv
    obtain ⟨u76, hinv⟩ := hinv
    obtain ⟨u77, hinv⟩ := hinv
    obtain ⟨u78, hinv⟩ := hinv
    obtain ⟨u79, hinv⟩ := hinv
    obtain ⟨u80, hinv⟩ := hinv
    obtain ⟨u81, hinv⟩ := hinv
    obtain ⟨u82, hinv⟩ := hinv
    obtain ⟨u83, hinv⟩ := hinv
    obtain ⟨u84, hinv⟩ := hinv
    obtain ⟨u85, hinv⟩ := hinv
    obtain ⟨u86, hinv⟩ := hinv
    obtain ⟨u87, hinv⟩ := hinv
    obtain ⟨u88, hinv⟩ := hinv
    obtain ⟨u89, hinv⟩ := hinv
    obtain ⟨u90, hinv⟩ := hinv
    obtain ⟨u91, hinv⟩ := hinv
    obtain ⟨u92, hinv⟩ := hinv
    obtain ⟨u93, hinv⟩ := hinv
    obtain ⟨u94, hinv⟩ := hinv
    obtain ⟨u95, hinv⟩ := hinv
    obtain ⟨u96, hinv⟩ := hinv
    obtain ⟨u97, hinv⟩ := hinv
    obtain ⟨u98, hinv⟩ := hinv
    obtain ⟨u99, hinv⟩ := hinv
    obtain ⟨u100, hinv⟩ := hinv
    obtain ⟨u101, hinv⟩ := hinv
    obtain ⟨u102, hinv⟩ := hinv
    obtain ⟨u103, hinv⟩ := hinv
    obtain ⟨u104, hinv⟩ := hinv
    obtain ⟨u105, hinv⟩ := hinv
    obtain ⟨u106, hinv⟩ := hinv
    obtain ⟨u107, hinv⟩ := hinv
    obtain ⟨u108, hinv⟩ := hinv
    obtain ⟨u109, hinv⟩ := hinv
    obtain ⟨u110, hinv⟩ := hinv
    obtain ⟨u111, hinv⟩ := hinv
    obtain ⟨u112, hinv⟩ := hinv
    obtain ⟨u113, hinv⟩ := hinv
    obtain ⟨u114, hinv⟩ := hinv
    obtain ⟨u115, hinv⟩ := hinv
    obtain ⟨u116, hinv⟩ := hinv
    obtain ⟨u117, hinv⟩ := hinv
    obtain ⟨u118, hinv⟩ := hinv
    obtain ⟨u119, hinv⟩ := hinv
    obtain ⟨u120, hinv⟩ := hinv
    obtain ⟨u121, hinv⟩ := hinv
    obtain ⟨u122, hinv⟩ := hinv
    obtain ⟨u123, hinv⟩ := hinv
    obtain ⟨u124, hinv⟩ := hinv
    obtain ⟨u125, hinv⟩ := hinv
    obtain ⟨u126, hinv⟩ := hinv
    obtain ⟨u127, hinv⟩ := hinv
    obtain ⟨u128, hinv⟩ := hinv
    obtain ⟨u129, hinv⟩ := hinv
    obtain ⟨u130, hinv⟩ := hinv
    obtain ⟨u131, hinv⟩ := hinv
    obtain ⟨u132, hinv⟩ := hinv
    obtain ⟨u133, hinv⟩ := hinv
    obtain ⟨u134, hinv⟩ := hinv
    obtain ⟨u135, hinv⟩ := hinv
    obtain ⟨u136, hinv⟩ := hinv
    obtain ⟨u137, hinv⟩ := hinv
    obtain ⟨u138, hinv⟩ := hinv
    obtain ⟨u139, hinv⟩ := hinv
    obtain ⟨u140, hinv⟩ := hinv
    obtain ⟨u141, hinv⟩ := hinv
    obtain ⟨u142, hinv⟩ := hinv
    obtain ⟨u143, hinv⟩ := hinv
    obtain ⟨u144, hinv⟩ := hinv
    obtain ⟨u145, hinv⟩ := hinv
    obtain ⟨u146, hinv⟩ := hinv
    obtain ⟨u147, hinv⟩ := hinv
    obtain ⟨u148, hinv⟩ := hinv
    obtain ⟨u149, hinv⟩ := hinv
    obtain ⟨u150, hinv⟩ := hinv
    obtain ⟨u151, hinv⟩ := hinv
    obtain ⟨u152, hinv⟩ := hinv
    obtain ⟨u153, hinv⟩ := hinv
    obtain ⟨u154, hinv⟩ := hinv
    obtain ⟨u155, hinv⟩ := hinv
    obtain ⟨u156, hinv⟩ := hinv
    obtain ⟨u157, hinv⟩ := hinv
    obtain ⟨u158, hinv⟩ := hinv
    obtain ⟨u159, hinv⟩ := hinv
    obtain ⟨u160, hinv⟩ := hinv
    obtain ⟨u161, hinv⟩ := hinv
    obtain ⟨u162, hinv⟩ := hinv
    obtain ⟨u163, hinv⟩ := hinv
    obtain ⟨u164, hinv⟩ := hinv
    obtain ⟨u165, hinv⟩ := hinv
    obtain ⟨u166, hinv⟩ := hinv
    obtain ⟨u167, hinv⟩ := hinv
    obtain ⟨u168, hinv⟩ := hinv
    obtain ⟨u169, hinv⟩ := hinv
    obtain ⟨u170, hinv⟩ := hinv
    obtain ⟨u171, hinv⟩ := hinv
    obtain ⟨u172, hinv⟩ := hinv
    obtain ⟨u173, hinv⟩ := hinv
    obtain ⟨u174, hinv⟩ := hinv
    obtain ⟨u175, hinv⟩ := hinv
    obtain ⟨u176, hinv⟩ := hinv
    obtain ⟨u177, hinv⟩ := hinv
    obtain ⟨u178, hinv⟩ := hinv
    obtain ⟨u179, hinv⟩ := hinv
    obtain ⟨u180, hinv⟩ := hinv
    obtain ⟨u181, hinv⟩ := hinv
    obtain ⟨u182, hinv⟩ := hinv
    obtain ⟨u183, hinv⟩ := hinv
    obtain ⟨u184, hinv⟩ := hinv
    obtain ⟨ds, ⟨k, Ds, hk, hg, hu18, hu17, hds, hO, hB⟩, ha⟩ := hinv
    subst hu18 hu17 ha
    intro _ _ _ _
    have HG := hidd hg
    have HDS := hidd hds
    have HO := hidd hO
    have HB := hidd hB
    obtain ⟨c0, c1, d0, d1, z2⟩ := RC.out _ HB.out
    clear hg hds hO hB
    by_cases hin : (k : Int) < n
    · have hk0 : (0 : Int) ≤ (k : Int) := by omega
      have CRK := hidd (CR.out k (by omega) wr HB.out)
      have hou : (outs L (k : Int)).length ≤ 60 := by
        have h1 := fromK_len L (k : Int) L.length
        rw [outs_len]
        omega
      have hsum := hidd (show outSum L (k + 1) = outSum L k + (outs L (k : Int)).length from rfl)
      have hsl : outSum L k ≤ 960 := by
        have h1 := outSum_le L k
        have h2 : k * L.length ≤ 16 * 60 := Nat.mul_le_mul (by omega) (by omega)
        omega
      generalize outSum L k = SU at *
      go_wp2_with fail
      refine CRK.out.mono ?_
      rintro e w6 ⟨A5, c5, rfl, hl5, hb6⟩
      obtain ⟨W7, hW7⟩ : ∃ W7, w6.alloc (.cells #[.slice A5 (outs L (k : Int)).length c5] 63) = W7 := ⟨_, rfl⟩
      have hs7 : W7.heap.size = w6.heap.size + 1 := by rw [← hW7]; simp
      have hb7 : Below w6.heap.size w6 W7 := by rw [← hW7]; (repeat' (first | (with_reducible exact Below.refl _ _) | (with_reducible assumption) | (with_reducible apply Below.setCell) | (with_reducible apply Below.alloc) | (with_reducible apply Below.drew) | (with_reducible apply below_drewN) | (with_reducible refine Below.trans ?_ (Below.mono (by assumption) ?_)) | omega | (simp; done) | (simp; omega)))
      have o7 : W7.cell? ⟨w6.heap.size, 0, none⟩ = some (.slice A5 (outs L (k : Int)).length c5) := by rw [← hW7]; simp [go_sem]
      have HBW7 := hidd (below_step hb6 hb7)
      have HB7 := hidd (below_step HB.out HBW7.out)
      have HM7 := hidd (HMX.out _ HB7.out)
      have HL7 := hidd (hl5.below hb7)
      have HW7 := hidd hW7
      have HS7 := hidd hs7
      have hs6 : w6.heap.size < W7.heap.size := by omega
      have zb0 : w.heap.size + 1 < w6.heap.size := Nat.lt_of_lt_of_le z2 hb6.size
      clear hl5 hb6 hb7 hW7 hs7 c0 c1 d0 d1 z2
      go_wp2_with fail
      rw [HW7.out]
      refine (CO.out (k : Int) _).mono ?_
      rintro e w10 ⟨rfl, hw10⟩
      obtain ⟨W10, hW10⟩ : ∃ W10, ((W7.alloc (.cells #[.int .i64 0] 3)).alloc (.cells #[.pointer (some ⟨m, 0, none⟩)] 25)).alloc (.cells #[.int .i64 (k : Int)] 3) = W10 := ⟨_, rfl⟩
      rw [hW10] at hw10
      subst hw10
      have hs10 : w10.heap.size = W7.heap.size + 3 := by rw [← hW10]; simp
      have hB10 : Below W7.heap.size W7 w10 := by rw [← hW10]; (repeat' (first | (with_reducible exact Below.refl _ _) | (with_reducible assumption) | (with_reducible apply Below.setCell) | (with_reducible apply Below.alloc) | (with_reducible apply Below.drew) | (with_reducible apply below_drewN) | (with_reducible refine Below.trans ?_ (Below.mono (by assumption) ?_)) | omega | (simp; done) | (simp; omega)))
      have i10 : w10.cell? ⟨w6.heap.size + 1, 0, none⟩ = some (.int .i64 0) := by rw [← HS7.out, ← hW10]; simp [go_sem]
      have f10 : w10.frozen? ⟨w6.heap.size + 1, 0, none⟩ = false := by rw [← HS7.out, ← hW10]; simp [go_sem]
      have p10 : w10.cell? ⟨W7.heap.size + 1, 0, none⟩ = some (.pointer (some ⟨m, 0, none⟩)) := by rw [← hW10]; simp [go_sem]
      have n10 : w10.cell? ⟨W7.heap.size + 1 + 1, 0, none⟩ = some (.int .i64 (k : Int)) := by rw [← hW10]; simp [go_sem]
      have HB10 := hidd hB10
      have HS10 := hidd hs10
      clear hW10 hB10 hs10
      go_wp2_with fail
      refine (wpIn_wide (n := 6)).1 ?_
      have SQ := hidd (Out1_some (6 - 1) w10.heap.size (by omega) (W7.heap.size + 1) (W7.heap.size + 1 + 1) m n HV.out.lo HV.out.hi L (by omega) (k : Int) (inB_iff.2 (by omega)) (HV.out.apart (k : Int)) w10 (Nat.le_refl _) (HM7.out.below HB10.out) (by have := HS10.out; omega) p10 (by have := HS10.out; omega) n10)
      generalize outs L (k : Int) = OU at *
      refine wpIn_rangeFunc_ownF rfl (by omega) (gf := 34) (lb := #[.pointer (some ⟨W7.heap.size + 1, 0, none⟩), .pointer (some ⟨W7.heap.size + 1 + 1, 0, none⟩)]) rfl trivial (enters_of Tryz.func34 (by kernel_rfl) rfl)
        SQ.out KpC.trans (fun W l o o' _ h ho _ => KpC.put W l o o' h ho) (Below.refl _ _) (fun _ => rfl)
        (ToI W7 (w6.heap.size + 1) OU) (ToX OU) (ToI.own (by have := HS10.out; omega)) (ToX.own OU)
        ⟨HB10.out, ⟨i10, f10⟩, List.nil_prefix⟩
        ?a1 ?assign ?body ?done ?stop
      case assign =>
        intro l x W K hK
        gi_wp2
        exact hK
      case body =>
        intro l pre x W hI1 hlt
        obtain ⟨hBel, ⟨hic, hif⟩, hpre⟩ := hI1
        obtain ⟨c0, c1, d0, d1, z2⟩ := RC.out _ (HB7.out.trans (hBel.mono HB7.out.size))
        have o7W := (hBel.cell (p := ⟨w6.heap.size, 0, none⟩) hs6).trans o7
        obtain ⟨ad5, e5, had5, hcell⟩ := (HL7.out.below hBel).int pre.length hlt
        have HPS := hidd (pre_step2 hpre hlt x)
        have hkl : (pre.length : Int) < (OU.length : Int) := by omega
        have hkl2 : decide ((OU.length : Int) ≤ (pre.length : Int)) = false := decide_eq_false (by omega)
        have hp0 : (0 : Int) ≤ (pre.length : Int) := by omega
        have HBel := hidd hBel
        have hlen1 : Hid (((pre ++ [x]).length : Int) = (pre.length : Int) + 1) := hidd (by simp)
        subst e5
        have zb2 : ¬ w.heap.size + 1 = w6.heap.size + 1 := by omega
        clear hBel hpre o7 i10 f10 p10 n10
        by_cases hx : x = av OU pre.length
        · have hp1 := hidd (HPS.out.2 hx)
          subst hx
          generalize av OU pre.length = y at *
          gi_wp2
          exact ⟨KeepsOthers.setCell _ _ _, KpC.set _ _ _ (by show w6.heap.size + 1 < w10.heap.size; have := HS10.out; have := HS7.out; omega), HBel.out.setCell (p := ⟨w6.heap.size + 1, 0, none⟩) (by show W7.heap.size ≤ w6.heap.size + 1; have := HS7.out; omega) _, ⟨by rw [hlen1.out]; exact World.cell?_setCell_same' _ _ _ (by rw [hic]; rfl), by rw [World.frozen?_setCell]; exact hif⟩, hp1.out⟩
        · have hxb : (x == av OU pre.length) = false := beq_eq_false_iff_ne.2 hx
          have hnp := hidd (fun h => hx (HPS.out.1 h))
          have hxb2 : (x != av OU pre.length) = true := by rw [bne, hxb]; rfl
          generalize av OU pre.length = y at *
          gi_wp2
          exact ⟨KeepsOthers.setCell _ _ _, fun h => hnp.out h⟩
      case done =>
        rintro D xs W hD hxs ⟨hBel, ⟨hic, hif⟩, _⟩ hK
        rw [hxs] at hic
        clear hxs hif
        have HBW := hidd (HB7.out.trans (hBel.mono HB7.out.size))
        have HBR := hidd (below_step HBW7.out hBel)
        have o7W := (hBel.cell (p := ⟨w6.heap.size, 0, none⟩) hs6).trans o7
        have HK := hidd hK
        have HD := hidd hD
        have hoi : ((OU.length : Int) == (OU.length : Int)) = true := beq_self_eq_true _
        clear hBel hK hD o7 i10 f10 p10 n10 SQ
        generalize OU.length = NO at *
        go_wp2_with fail
        have hg := HG.out
        go_roundg (gk - 1)
        case measure => omega
        case rel =>
          have hOn : OpenAt W0.heap.size W (D :: Ds) := (HO.out.below HBR.out).snoc (by have := HD.out; have := HB7.out.size; have := HB10.out.size; omega) (fun h => by have := HO.out.lt D h; have := HD.out; have := HBW7.out.size; have := HB10.out.size; omega) HK.out
          exact ⟨k + 1, D :: Ds, by omega, by omega, by go_num, by rw [hsum.out]; first | go_num | simp, by rw [HDS.out]; rfl, hOn, HBW.out⟩
      case stop =>
        rintro D c pre W hD hSp hn hK
        exact absurd hSp hn
    · have hkn : k = n.toNat := by omega
      have hall : outSum L k = L.length := by rw [hkn]; exact outSum_all HV.out
      rw [hall]
      have hbq : ((L.length : Int) == (L.length : Int)) = true := beq_self_eq_true _
      clear hkn hall
      go_wp2_with fail
      rw [HDS.out]
      refine leaves_marks W0.heap.size Ds _ (by have := HB.out.size; simpa using this) ⟨HO.out.1, fun D hD => ?_⟩ (fun w' hb' => ?_)
      · obtain ⟨h1, h2⟩ := HO.out.2 D hD
        exact ⟨h1, (Below.heap_setCell _ _ _ _ (by have := HZ.out; show D ≠ w.heap.size + 1; omega)).trans h2⟩
      · have hrc := World.cell?_setCell_same' wr ⟨w.heap.size + 1, 0, none⟩ (.bool true) (by rw [d0]; rfl)
        have hrp := (hb'.cell (p := ⟨w.heap.size + 1, 0, none⟩) (show w.heap.size + 1 < W0.heap.size by have := HZ.out; omega)).trans hrc
        refine ⟨.bool true, ?_, rfl, ?_⟩
        · simp [results, Tryz.results11, go_sem, hrp]
        · exact ((HB0.out.trans (HB.out.mono HB0.out.size)).setCell (p := ⟨w.heap.size + 1, 0, none⟩) (Nat.le_add_right _ _) (.bool true)).trans (hb'.mono HB0.out.size)

