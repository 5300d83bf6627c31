/- Objects: the kind specs. -/
import Derived.Test.YtappmacnoopmkaaGreatObI
import Derived.Test.YtappmacnoopmkaaGreatObJ
import Derived.Test.YtappmacnoopmkaaGreatObHP
namespace Go.Proofs.YtappmacnoopmkaaGreat
set_option linter.unusedVariables false
open Go.RowKit

attribute [local go_sem] run_store_func
/-- may it be said? -/
def mayP (x0 x1 x2 x3 x4 : Int) : Bool := Zp.rightB x0 x1 x2 x3 x4
set_option maxHeartbeats 2000000 in
theorem mayP_any (x0 x1 x2 x3 x4 : Int) (w : World) : Calls Tryz.prog 126 #[.agg #[.int .i64 x0, .int .i64 x1, .int .i64 x2, .int .i64 x3, .int .i64 x4]] w fun e w' => e = .returned (.bool (mayP x0 x1 x2 x3 x4)) ∧ Below w.heap.size w w' := by
  exact isSpec_any x0 x1 x2 x3 x4 w
set_option maxHeartbeats 2000000 in
theorem objP_any (x0 x1 x2 x3 x4 : Int) (hm : mayP x0 x1 x2 x3 x4 = true) (w : World) : Calls Tryz.prog 146 #[.agg #[.int .i64 x0, .int .i64 x1, .int .i64 x2, .int .i64 x3, .int .i64 x4]] w (ObjEnd 12 2 [x1, x2, x0, x4, x3] w) := by
  obtain ⟨W1, hW1⟩ : ∃ W1, ((w.alloc (.cells #[.int .i64 x0, .int .i64 x1, .int .i64 x2, .int .i64 x3, .int .i64 x4] 30)).alloc (.cells #[.int .i64 0, .int .i64 0, .slice none 0 0] 42)) = W1 := ⟨_, rfl⟩
  have hz1 : W1.heap.size = w.heap.size + 2 := by rw [← hW1]; simp
  have hb1 : Below w.heap.size w W1 := by rw [← hW1]; (repeat' (first | (with_reducible exact Below.refl _ _) | (with_reducible assumption) | (with_reducible apply Below.setCell) | (with_reducible apply Below.alloc) | (with_reducible apply Below.drew) | (with_reducible apply below_drewN) | (with_reducible refine Below.trans ?_ (Below.mono (by assumption) ?_)) | omega | (simp; done) | (simp; omega)))
  have g0 : W1.cell? ⟨w.heap.size + 1, 0, none⟩ = some (.int .i64 0) := by rw [← hW1]; simp [go_sem]
  have h0 : W1.frozen? ⟨w.heap.size + 1, 0, none⟩ = false := by rw [← hW1]; simp [go_sem]
  have g1 : W1.cell? ⟨w.heap.size + 1, 1, none⟩ = some (.int .i64 0) := by rw [← hW1]; simp [go_sem]
  have h1 : W1.frozen? ⟨w.heap.size + 1, 1, none⟩ = false := by rw [← hW1]; simp [go_sem]
  have g2 : W1.cell? ⟨w.heap.size + 1, 2, none⟩ = some (.slice none 0 0) := by rw [← hW1]; simp [go_sem]
  have h2 : W1.frozen? ⟨w.heap.size + 1, 2, none⟩ = false := by rw [← hW1]; simp [go_sem]
  have x0c : W1.cell? ⟨w.heap.size, 0, none⟩ = some (.int .i64 x0) := by rw [← hW1]; simp [go_sem]
  have x1c : W1.cell? ⟨w.heap.size, 1, none⟩ = some (.int .i64 x1) := by rw [← hW1]; simp [go_sem]
  have x2c : W1.cell? ⟨w.heap.size, 2, none⟩ = some (.int .i64 x2) := by rw [← hW1]; simp [go_sem]
  have x3c : W1.cell? ⟨w.heap.size, 3, none⟩ = some (.int .i64 x3) := by rw [← hW1]; simp [go_sem]
  have x4c : W1.cell? ⟨w.heap.size, 4, none⟩ = some (.int .i64 x4) := by rw [← hW1]; simp [go_sem]
  have CW := hidd (specWords_any x0 x1 x2 x3 x4 W1)
  have HB1 := hidd hb1
  have HW1 := hidd hW1
  clear hW1 hb1 hm
  unfold ObjEnd
  go_enter Tryz.func146, Tryz.ntmps146
  go_wp2_with fail
  rw [HW1.out]
  refine CW.out.mono ?_
  rintro e w2 ⟨hb2, A2, k2, rfl, hl2⟩
  have HB2 := hidd (below_step HB1.out hb2)
  have HL2 := hidd hl2
  obtain ⟨bc, bf⟩ := bcell hb2
  have zz : w.heap.size + 1 < W1.heap.size := by omega
  have hz2 := hb2.size
  have p0 : w2.cell? ⟨w.heap.size + 1, 0, none⟩ = some (.int .i64 0) := (bc _ _ zz).trans g0
  have q0 : w2.frozen? ⟨w.heap.size + 1, 0, none⟩ = false := (bf _ _ zz).trans h0
  have p1 : w2.cell? ⟨w.heap.size + 1, 1, none⟩ = some (.int .i64 0) := (bc _ _ zz).trans g1
  have q1 : w2.frozen? ⟨w.heap.size + 1, 1, none⟩ = false := (bf _ _ zz).trans h1
  have p2 : w2.cell? ⟨w.heap.size + 1, 2, none⟩ = some (.slice none 0 0) := (bc _ _ zz).trans g2
  have q2 : w2.frozen? ⟨w.heap.size + 1, 2, none⟩ = false := (bf _ _ zz).trans h2
  clear hb2 hl2 bc bf g0 h0 g1 h1 g2 h2 x0c x1c x2c x3c x4c
  go_wp2_with fail
  refine (object_any _ _ _ _ _ _).mono ?_
  rintro e w3 ⟨rfl, hb3⟩
  have HB3 := hidd (below_step HB2.out hb3)
  have hz3 := hb3.size
  have HL3 := hidd (HL2.out.to (w' := w3) (p' := fun q => W1.heap.size ≤ q ∧ q < w3.heap.size) (fun q hq => ⟨⟨hq.1, by omega⟩, hb3.block q hq.2⟩))
  obtain ⟨bc, bf⟩ := bcell hb3
  have zz2 : w.heap.size + 1 < w2.heap.size := by omega
  have r0 : w3.cell? ⟨w.heap.size + 1, 0, none⟩ = some (.int .i64 0) := (bc _ _ zz2).trans p0
  have s0 : w3.frozen? ⟨w.heap.size + 1, 0, none⟩ = false := (bf _ _ zz2).trans q0
  have r1 : w3.cell? ⟨w.heap.size + 1, 1, none⟩ = some (.int .i64 0) := (bc _ _ zz2).trans p1
  have s1 : w3.frozen? ⟨w.heap.size + 1, 1, none⟩ = false := (bf _ _ zz2).trans q1
  have r2 : w3.cell? ⟨w.heap.size + 1, 2, none⟩ = some (.slice none 0 0) := (bc _ _ zz2).trans p2
  have s2 : w3.frozen? ⟨w.heap.size + 1, 2, none⟩ = false := (bf _ _ zz2).trans q2
  clear hb3 bc bf p0 q0 p1 q1 p2 q2
  go_wp2_with fail
  refine bodyPost_ret (v := .agg #[.int .i64 12, .int .i64 2, .slice A2 5 k2]) (by simp [results, Tryz.results146, go_sem, *]) rfl ⟨by have q := HB3.out; (repeat' (first | (with_reducible exact Below.refl _ _) | (with_reducible assumption) | (with_reducible apply Below.setCell) | (with_reducible apply Below.alloc) | (with_reducible apply Below.drew) | (with_reducible apply below_drewN) | (with_reducible refine Below.trans ?_ (Below.mono (by assumption) ?_)) | omega | (simp; done) | (simp; omega))), A2, k2, rfl, ?_⟩
  exact (((HL3.out.low (p := ⟨w.heap.size + 1, 0, none⟩) (by simp; omega) _).low (p := ⟨w.heap.size + 1, 1, none⟩) (by simp; omega) _).low (p := ⟨w.heap.size + 1, 2, none⟩) (by simp; omega) _).to (fun q hq => ⟨⟨by omega, hq.2⟩, rfl⟩)
set_option maxHeartbeats 2000000 in
theorem thingP_any (y0 y1 y2 y3 y4 y5 y6 : Int) (hy : ∀ y ∈ [y0, y1, y2, y3, y4, y5, y6], -9223372036854775808 ≤ y ∧ y ≤ 9223372036854775807) (w : World) : Calls Tryz.prog 130 #[.agg #[.int .i64 y0, .int .i64 y1, .int .i64 y2, .int .i64 y3, .int .i64 y4, .int .i64 y5, .int .i64 y6]] w fun e w' => e = .returned (.agg #[.int .i64 y2, .int .i64 y0, .int .i64 y1, .int .i64 y4, .int .i64 y3]) ∧ Below w.heap.size w w' := by
  clear hy
  go_enter Tryz.func130, Tryz.ntmps130
  go_wp2_with fail
  exact bodyPost_ret (v := .agg #[.int .i64 y2, .int .i64 y0, .int .i64 y1, .int .i64 y4, .int .i64 y3]) (by simp [results, Tryz.results130, go_sem, *]) rfl ⟨rfl, by (repeat' (first | (with_reducible exact Below.refl _ _) | (with_reducible assumption) | (with_reducible apply Below.setCell) | (with_reducible apply Below.alloc) | (with_reducible apply Below.drew) | (with_reducible apply below_drewN) | (with_reducible refine Below.trans ?_ (Below.mono (by assumption) ?_)) | omega | (simp; done) | (simp; omega)))⟩
theorem mkP_any (w : World) : Calls Tryz.prog 79 #[] w fun e w' => e = .returned (.agg #[.func (.func 126) #[] #[], .func (.func 146) #[] #[], .func (.func 130) #[] #[]]) ∧ Below w.heap.size w w' := by
  go_enter Tryz.func79, Tryz.ntmps79
  go_wp2_with fail
  exact bodyPost_ret (v := .agg #[.func (.func 126) #[] #[], .func (.func 146) #[] #[], .func (.func 130) #[] #[]]) (by simp [results, Tryz.results79, go_sem, *]) rfl ⟨rfl, by (repeat' (first | (with_reducible exact Below.refl _ _) | (with_reducible assumption) | (with_reducible apply Below.setCell) | (with_reducible apply Below.alloc) | (with_reducible apply Below.drew) | (with_reducible apply below_drewN) | (with_reducible refine Below.trans ?_ (Below.mono (by assumption) ?_)) | omega | (simp; done) | (simp; omega)))⟩
theorem entP_m : ∀ args w, (callFunc 126 args).run Tryz.prog w = .ok (.enter 126 args) w := fun args w => by simp [callFunc, Tryz.func126, Tryz.f126, mark]
theorem entP_o : ∀ args w, (callFunc 146 args).run Tryz.prog w = .ok (.enter 146 args) w := fun args w => by simp [callFunc, Tryz.func146, Tryz.f146, mark]
theorem entP_t : ∀ args w, (callFunc 130 args).run Tryz.prog w = .ok (.enter 130 args) w := fun args w => by simp [callFunc, Tryz.func130, Tryz.f130, mark]
set_option maxHeartbeats 2000000 in
theorem Spec_any (x0 x1 x2 x3 x4 : Int) (w : World) : Calls Tryz.prog 45 #[.agg #[.int .i64 x0, .int .i64 x1, .int .i64 x2, .int .i64 x3, .int .i64 x4]] w (SaidEnd (mayP x0 x1 x2 x3 x4) 12 2 [x1, x2, x0, x4, x3] w) := by
  have CM := hidd (fun W => mkP_any W)
  have cs := fun W => saidP_any 126 146 130 entP_m entP_o #[] (mayP x0 x1 x2 x3 x4) 12 2 [x1, x2, x0, x4, x3] x0 x1 x2 x3 x4 W (fun W' _ => mayP_any x0 x1 x2 x3 x4 W') (fun hm W' _ => objP_any x0 x1 x2 x3 x4 hm W')
  unfold SaidEnd at *
  generalize mayP x0 x1 x2 x3 x4 = M at *
  cases M; rotate_left
  · have CS := hidd (fun W => said_yes (cs W))
    clear cs
    obtain ⟨W1, hW1⟩ : ∃ W1, ((w.alloc (.cells #[.int .i64 x0, .int .i64 x1, .int .i64 x2, .int .i64 x3, .int .i64 x4] 30)).alloc (.cells #[.int .i64 0, .int .i64 0, .slice none 0 0] 42)) = W1 := ⟨_, rfl⟩
    have hz1 : W1.heap.size = w.heap.size + 2 := by rw [← hW1]; simp
    have hBw : Below w.heap.size w W1 := by rw [← hW1]; (repeat' (first | (with_reducible exact Below.refl _ _) | (with_reducible assumption) | (with_reducible apply Below.setCell) | (with_reducible apply Below.alloc) | (with_reducible apply Below.drew) | (with_reducible apply below_drewN) | (with_reducible refine Below.trans ?_ (Below.mono (by assumption) ?_)) | omega | (simp; done) | (simp; omega)))
    have g0 : W1.cell? ⟨w.heap.size + 1, 0, none⟩ = some (.int .i64 0) := by rw [← hW1]; simp [go_sem]
    have h0 : W1.frozen? ⟨w.heap.size + 1, 0, none⟩ = false := by rw [← hW1]; simp [go_sem]
    have g1 : W1.cell? ⟨w.heap.size + 1, 1, none⟩ = some (.int .i64 0) := by rw [← hW1]; simp [go_sem]
    have h1 : W1.frozen? ⟨w.heap.size + 1, 1, none⟩ = false := by rw [← hW1]; simp [go_sem]
    have g2 : W1.cell? ⟨w.heap.size + 1, 2, none⟩ = some (.slice none 0 0) := by rw [← hW1]; simp [go_sem]
    have h2 : W1.frozen? ⟨w.heap.size + 1, 2, none⟩ = false := by rw [← hW1]; simp [go_sem]
    have l0 : W1.cell? ⟨w.heap.size, 0, none⟩ = some (.int .i64 x0) := by rw [← hW1]; simp [go_sem]
    have l1 : W1.cell? ⟨w.heap.size, 1, none⟩ = some (.int .i64 x1) := by rw [← hW1]; simp [go_sem]
    have l2 : W1.cell? ⟨w.heap.size, 2, none⟩ = some (.int .i64 x2) := by rw [← hW1]; simp [go_sem]
    have l3 : W1.cell? ⟨w.heap.size, 3, none⟩ = some (.int .i64 x3) := by rw [← hW1]; simp [go_sem]
    have l4 : W1.cell? ⟨w.heap.size, 4, none⟩ = some (.int .i64 x4) := by rw [← hW1]; simp [go_sem]
    have KEEP := hidd (fun (W : World) (hb : Below W1.heap.size W1 W) => (show W.cell? ⟨w.heap.size, 0, none⟩ = some (.int .i64 x0) ∧ W.cell? ⟨w.heap.size, 1, none⟩ = some (.int .i64 x1) ∧ W.cell? ⟨w.heap.size, 2, none⟩ = some (.int .i64 x2) ∧ W.cell? ⟨w.heap.size, 3, none⟩ = some (.int .i64 x3) ∧ W.cell? ⟨w.heap.size, 4, none⟩ = some (.int .i64 x4) from ⟨(hb.cell (p := ⟨w.heap.size, 0, none⟩) (by show w.heap.size < W1.heap.size; omega)).trans l0, (hb.cell (p := ⟨w.heap.size, 1, none⟩) (by show w.heap.size < W1.heap.size; omega)).trans l1, (hb.cell (p := ⟨w.heap.size, 2, none⟩) (by show w.heap.size < W1.heap.size; omega)).trans l2, (hb.cell (p := ⟨w.heap.size, 3, none⟩) (by show w.heap.size < W1.heap.size; omega)).trans l3, (hb.cell (p := ⟨w.heap.size, 4, none⟩) (by show w.heap.size < W1.heap.size; omega)).trans l4⟩))
    have OUT := hidd (fun (W : World) (hb : Below W1.heap.size W1 W) => (show (W.cell? ⟨w.heap.size + 1, 0, none⟩ = some (.int .i64 0) ∧ W.cell? ⟨w.heap.size + 1, 1, none⟩ = some (.int .i64 0) ∧ W.cell? ⟨w.heap.size + 1, 2, none⟩ = some (.slice none 0 0)) ∧ (W.frozen? ⟨w.heap.size + 1, 0, none⟩ = false ∧ W.frozen? ⟨w.heap.size + 1, 1, none⟩ = false ∧ W.frozen? ⟨w.heap.size + 1, 2, none⟩ = false) ∧ w.heap.size + 1 < W.heap.size from ⟨⟨(hb.cell (p := ⟨w.heap.size + 1, 0, none⟩) (by show w.heap.size + 1 < W1.heap.size; omega)).trans g0, (hb.cell (p := ⟨w.heap.size + 1, 1, none⟩) (by show w.heap.size + 1 < W1.heap.size; omega)).trans g1, (hb.cell (p := ⟨w.heap.size + 1, 2, none⟩) (by show w.heap.size + 1 < W1.heap.size; omega)).trans g2⟩, ⟨(hb.frozen (p := ⟨w.heap.size + 1, 0, none⟩) (by show w.heap.size + 1 < W1.heap.size; omega)).trans h0, (hb.frozen (p := ⟨w.heap.size + 1, 1, none⟩) (by show w.heap.size + 1 < W1.heap.size; omega)).trans h1, (hb.frozen (p := ⟨w.heap.size + 1, 2, none⟩) (by show w.heap.size + 1 < W1.heap.size; omega)).trans h2⟩, Nat.lt_of_lt_of_le (by omega) hb.size⟩))
    have HBX := hidd (fun (W : World) (hb : Below W1.heap.size W1 W) => below_step hBw hb)
    have HW1 := hidd hW1
    clear hW1 hBw g0 h0 g1 h1 g2 h2 l0 l1 l2 l3 l4
    obtain ⟨k0, k1, k2, k3, k4⟩ := KEEP.out _ (Below.refl _ _)
    go_enter Tryz.func45, Tryz.ntmps45
    go_wp2_with fail
    rw [HW1.out]
    go_region_held (fun W => W.cell? ⟨w.heap.size, 0, none⟩ = some (.int .i64 x0) ∧ W.cell? ⟨w.heap.size, 1, none⟩ = some (.int .i64 x1) ∧ W.cell? ⟨w.heap.size, 2, none⟩ = some (.int .i64 x2) ∧ W.cell? ⟨w.heap.size, 3, none⟩ = some (.int .i64 x3) ∧ W.cell? ⟨w.heap.size, 4, none⟩ = some (.int .i64 x4))
      ((first | exact KEEP.out _ cum2 | exact KEEP.out _ cum1 | exact KEEP.out _ (Below.refl _ _) | exact KEEP.out _ (Below.drew (Below.refl _ _)) | (obtain ⟨j0, j1, j2, j3, j4⟩ := KEEP.out _ cum2; refine ⟨?_, ?_, ?_, ?_, ?_⟩ <;> simp [go_sem, *]; done)))
      ((first
        | (go_at_call 79; refine ((CM.out _)).mono ?_; rintro E1 v1 ⟨rfl, l1⟩; have cum1 : Below W1.heap.size W1 v1 := (by first | exact below_step (Below.drew (Below.refl _ _)) l1 | exact below_step (Below.refl _ _) l1))
        | (go_at_call 80; have HBW := HBX.out _ cum1; refine ((CS.out _)).mono ?_; rintro E2 v2 ⟨l2, A, k, rfl, hl2⟩; have cum2 : Below W1.heap.size W1 v2 := below_step cum1 l2; obtain ⟨⟨p0, p1, p2⟩, ⟨q0, q1, q2⟩, hzz⟩ := OUT.out _ cum2; have HB2 := hidd (HBX.out _ cum2))))
    all_goals have HL := hidd (hl2.to (p' := fun q => w.heap.size + 1 + 1 ≤ q ∧ q < v2.heap.size) (fun q hq => ⟨⟨by have := cum1.size; omega, hq.2⟩, rfl⟩))
    all_goals clear hl2
    all_goals go_wp2_with fail
    all_goals refine bodyPost_ret (v := .tuple #[.agg #[.int .i64 12, .int .i64 2, .slice A 5 k], .int .i64 0]) (by simp [results, Tryz.results45, go_sem, *]) rfl ⟨by have q := HB2.out; (repeat' (first | (with_reducible exact Below.refl _ _) | (with_reducible assumption) | (with_reducible apply Below.setCell) | (with_reducible apply Below.alloc) | (with_reducible apply Below.drew) | (with_reducible apply below_drewN) | (with_reducible refine Below.trans ?_ (Below.mono (by assumption) ?_)) | omega | (simp; done) | (simp; omega))), .inl ⟨(by first | exact rfl | exact trivial), A, k, rfl, ?_⟩⟩
    all_goals exact (((HL.out.low (p := ⟨w.heap.size + 1, 0, none⟩) (by simp) _).low (p := ⟨w.heap.size + 1, 1, none⟩) (by simp) _).low (p := ⟨w.heap.size + 1, 2, none⟩) (by simp) _).to (fun q hq => ⟨⟨by omega, hq.2⟩, rfl⟩)
  
  · have CS := hidd (fun W => said_no (cs W))
    clear cs
    obtain ⟨W1, hW1⟩ : ∃ W1, ((w.alloc (.cells #[.int .i64 x0, .int .i64 x1, .int .i64 x2, .int .i64 x3, .int .i64 x4] 30)).alloc (.cells #[.int .i64 0, .int .i64 0, .slice none 0 0] 42)) = W1 := ⟨_, rfl⟩
    have hz1 : W1.heap.size = w.heap.size + 2 := by rw [← hW1]; simp
    have hBw : Below w.heap.size w W1 := by rw [← hW1]; (repeat' (first | (with_reducible exact Below.refl _ _) | (with_reducible assumption) | (with_reducible apply Below.setCell) | (with_reducible apply Below.alloc) | (with_reducible apply Below.drew) | (with_reducible apply below_drewN) | (with_reducible refine Below.trans ?_ (Below.mono (by assumption) ?_)) | omega | (simp; done) | (simp; omega)))
    have g0 : W1.cell? ⟨w.heap.size + 1, 0, none⟩ = some (.int .i64 0) := by rw [← hW1]; simp [go_sem]
    have h0 : W1.frozen? ⟨w.heap.size + 1, 0, none⟩ = false := by rw [← hW1]; simp [go_sem]
    have g1 : W1.cell? ⟨w.heap.size + 1, 1, none⟩ = some (.int .i64 0) := by rw [← hW1]; simp [go_sem]
    have h1 : W1.frozen? ⟨w.heap.size + 1, 1, none⟩ = false := by rw [← hW1]; simp [go_sem]
    have g2 : W1.cell? ⟨w.heap.size + 1, 2, none⟩ = some (.slice none 0 0) := by rw [← hW1]; simp [go_sem]
    have h2 : W1.frozen? ⟨w.heap.size + 1, 2, none⟩ = false := by rw [← hW1]; simp [go_sem]
    have l0 : W1.cell? ⟨w.heap.size, 0, none⟩ = some (.int .i64 x0) := by rw [← hW1]; simp [go_sem]
    have l1 : W1.cell? ⟨w.heap.size, 1, none⟩ = some (.int .i64 x1) := by rw [← hW1]; simp [go_sem]
    have l2 : W1.cell? ⟨w.heap.size, 2, none⟩ = some (.int .i64 x2) := by rw [← hW1]; simp [go_sem]
    have l3 : W1.cell? ⟨w.heap.size, 3, none⟩ = some (.int .i64 x3) := by rw [← hW1]; simp [go_sem]
    have l4 : W1.cell? ⟨w.heap.size, 4, none⟩ = some (.int .i64 x4) := by rw [← hW1]; simp [go_sem]
    have KEEP := hidd (fun (W : World) (hb : Below W1.heap.size W1 W) => (show W.cell? ⟨w.heap.size, 0, none⟩ = some (.int .i64 x0) ∧ W.cell? ⟨w.heap.size, 1, none⟩ = some (.int .i64 x1) ∧ W.cell? ⟨w.heap.size, 2, none⟩ = some (.int .i64 x2) ∧ W.cell? ⟨w.heap.size, 3, none⟩ = some (.int .i64 x3) ∧ W.cell? ⟨w.heap.size, 4, none⟩ = some (.int .i64 x4) from ⟨(hb.cell (p := ⟨w.heap.size, 0, none⟩) (by show w.heap.size < W1.heap.size; omega)).trans l0, (hb.cell (p := ⟨w.heap.size, 1, none⟩) (by show w.heap.size < W1.heap.size; omega)).trans l1, (hb.cell (p := ⟨w.heap.size, 2, none⟩) (by show w.heap.size < W1.heap.size; omega)).trans l2, (hb.cell (p := ⟨w.heap.size, 3, none⟩) (by show w.heap.size < W1.heap.size; omega)).trans l3, (hb.cell (p := ⟨w.heap.size, 4, none⟩) (by show w.heap.size < W1.heap.size; omega)).trans l4⟩))
    have OUT := hidd (fun (W : World) (hb : Below W1.heap.size W1 W) => (show (W.cell? ⟨w.heap.size + 1, 0, none⟩ = some (.int .i64 0) ∧ W.cell? ⟨w.heap.size + 1, 1, none⟩ = some (.int .i64 0) ∧ W.cell? ⟨w.heap.size + 1, 2, none⟩ = some (.slice none 0 0)) ∧ (W.frozen? ⟨w.heap.size + 1, 0, none⟩ = false ∧ W.frozen? ⟨w.heap.size + 1, 1, none⟩ = false ∧ W.frozen? ⟨w.heap.size + 1, 2, none⟩ = false) ∧ w.heap.size + 1 < W.heap.size from ⟨⟨(hb.cell (p := ⟨w.heap.size + 1, 0, none⟩) (by show w.heap.size + 1 < W1.heap.size; omega)).trans g0, (hb.cell (p := ⟨w.heap.size + 1, 1, none⟩) (by show w.heap.size + 1 < W1.heap.size; omega)).trans g1, (hb.cell (p := ⟨w.heap.size + 1, 2, none⟩) (by show w.heap.size + 1 < W1.heap.size; omega)).trans g2⟩, ⟨(hb.frozen (p := ⟨w.heap.size + 1, 0, none⟩) (by show w.heap.size + 1 < W1.heap.size; omega)).trans h0, (hb.frozen (p := ⟨w.heap.size + 1, 1, none⟩) (by show w.heap.size + 1 < W1.heap.size; omega)).trans h1, (hb.frozen (p := ⟨w.heap.size + 1, 2, none⟩) (by show w.heap.size + 1 < W1.heap.size; omega)).trans h2⟩, Nat.lt_of_lt_of_le (by omega) hb.size⟩))
    have HBX := hidd (fun (W : World) (hb : Below W1.heap.size W1 W) => below_step hBw hb)
    have HW1 := hidd hW1
    clear hW1 hBw g0 h0 g1 h1 g2 h2 l0 l1 l2 l3 l4
    obtain ⟨k0, k1, k2, k3, k4⟩ := KEEP.out _ (Below.refl _ _)
    go_enter Tryz.func45, Tryz.ntmps45
    go_wp2_with fail
    rw [HW1.out]
    go_region_held (fun W => W.cell? ⟨w.heap.size, 0, none⟩ = some (.int .i64 x0) ∧ W.cell? ⟨w.heap.size, 1, none⟩ = some (.int .i64 x1) ∧ W.cell? ⟨w.heap.size, 2, none⟩ = some (.int .i64 x2) ∧ W.cell? ⟨w.heap.size, 3, none⟩ = some (.int .i64 x3) ∧ W.cell? ⟨w.heap.size, 4, none⟩ = some (.int .i64 x4))
      ((first | exact KEEP.out _ cum2 | exact KEEP.out _ cum1 | exact KEEP.out _ (Below.refl _ _) | exact KEEP.out _ (Below.drew (Below.refl _ _)) | (obtain ⟨j0, j1, j2, j3, j4⟩ := KEEP.out _ cum2; refine ⟨?_, ?_, ?_, ?_, ?_⟩ <;> simp [go_sem, *]; done)))
      ((first
        | (go_at_call 79; refine ((CM.out _)).mono ?_; rintro E1 v1 ⟨rfl, l1⟩; have cum1 : Below W1.heap.size W1 v1 := (by first | exact below_step (Below.drew (Below.refl _ _)) l1 | exact below_step (Below.refl _ _) l1))
        | (go_at_call 80; have HBW := HBX.out _ cum1; refine ((CS.out _)).mono ?_; rintro E2 v2 ⟨l2, rfl⟩; have cum2 : Below W1.heap.size W1 v2 := below_step cum1 l2; obtain ⟨⟨p0, p1, p2⟩, ⟨q0, q1, q2⟩, hzz⟩ := OUT.out _ cum2; have HB2 := hidd (HBX.out _ cum2))))
    all_goals go_wp2_with fail
    all_goals exact bodyPost_ret (v := .tuple #[.agg #[.int .i64 0, .int .i64 0, .slice none 0 0], .int .i64 2]) (by simp [results, Tryz.results45, go_sem, *]) rfl ⟨by have q := HB2.out; (repeat' (first | (with_reducible exact Below.refl _ _) | (with_reducible assumption) | (with_reducible apply Below.setCell) | (with_reducible apply Below.alloc) | (with_reducible apply Below.drew) | (with_reducible apply below_drewN) | (with_reducible refine Below.trans ?_ (Below.mono (by assumption) ?_)) | omega | (simp; done) | (simp; omega))), .inr ⟨(by first | exact rfl | exact trivial), rfl⟩⟩
set_option maxHeartbeats 8000000 in
theorem AsSpec_any (c t : Int) (A : Option Addr) (ws : List Int) (m : Nat) (hws : ws.length ≤ 9223372036854775807) (hwb : ∀ x ∈ ws, -9223372036854775808 ≤ x ∧ x ≤ 9223372036854775807) (w : World) (hl : LieQ wdV 1 w (· < w.heap.size) A ws) :
    Calls Tryz.prog 48 #[.agg #[.int .i64 c, .int .i64 t, .slice A ws.length m]] w (HeardP (mayP ((av ws 2)) ((av ws 0)) ((av ws 1)) ((av ws 4)) ((av ws 3)) && sameB 12 2 [((av ws 0)), ((av ws 1)), ((av ws 2)), ((av ws 3)), ((av ws 4))] c t ws) ((av ws 2)) ((av ws 0)) ((av ws 1)) ((av ws 4)) ((av ws 3)) w) := by
  have CM := hidd (fun W => mkP_any W)
  have hy := av_bounds hwb
  have CH := hidd (fun W (h : LieQ wdV 1 W (· < W.heap.size) A ws) => heardP_any 126 146 130 entP_m entP_o entP_t #[] (mayP ((av ws 2)) ((av ws 0)) ((av ws 1)) ((av ws 4)) ((av ws 3))) 12 2 [((av ws 0)), ((av ws 1)), ((av ws 2)), ((av ws 3)), ((av ws 4))] (by simp) ((av ws 2)) ((av ws 0)) ((av ws 1)) ((av ws 4)) ((av ws 3)) c t A ws m hws W h (fun W' _ => thingP_any _ _ _ _ _ _ _ hy W') (fun W' _ => mayP_any ((av ws 2)) ((av ws 0)) ((av ws 1)) ((av ws 4)) ((av ws 3)) W') (fun hm W' _ => objP_any ((av ws 2)) ((av ws 0)) ((av ws 1)) ((av ws 4)) ((av ws 3)) hm W'))
  have HL := hidd hl
  generalize (mayP ((av ws 2)) ((av ws 0)) ((av ws 1)) ((av ws 4)) ((av ws 3)) && sameB 12 2 [((av ws 0)), ((av ws 1)), ((av ws 2)), ((av ws 3)), ((av ws 4))] c t ws) = G at *
  generalize (av ws 2) = z0 at *
  generalize (av ws 0) = z1 at *
  generalize (av ws 1) = z2 at *
  generalize (av ws 4) = z3 at *
  generalize (av ws 3) = z4 at *
  clear hl hy hwb hws
  unfold HeardP at *
  cases G; rotate_left
  · have CS := hidd (fun W h => heard_yes (CH.out W h))
    have HL1 := hidd (fun W (hb : Below w.heap.size w W) => HL.out.below hb)
    clear CH
    obtain ⟨W1, hW1⟩ : ∃ W1, ((w.alloc (.cells #[.int .i64 c, .int .i64 t, .slice A ws.length m] 42)).alloc (.cells #[.int .i64 0, .int .i64 0, .int .i64 0, .int .i64 0, .int .i64 0] 30)) = W1 := ⟨_, rfl⟩
    have hz1 : W1.heap.size = w.heap.size + 2 := by rw [← hW1]; simp
    have hBw : Below w.heap.size w W1 := by rw [← hW1]; (repeat' (first | (with_reducible exact Below.refl _ _) | (with_reducible assumption) | (with_reducible apply Below.setCell) | (with_reducible apply Below.alloc) | (with_reducible apply Below.drew) | (with_reducible apply below_drewN) | (with_reducible refine Below.trans ?_ (Below.mono (by assumption) ?_)) | omega | (simp; done) | (simp; omega)))
    have g0 : W1.cell? ⟨w.heap.size + 1, 0, none⟩ = some (.int .i64 0) := by rw [← hW1]; simp [go_sem]
    have h0 : W1.frozen? ⟨w.heap.size + 1, 0, none⟩ = false := by rw [← hW1]; simp [go_sem]
    have g1 : W1.cell? ⟨w.heap.size + 1, 1, none⟩ = some (.int .i64 0) := by rw [← hW1]; simp [go_sem]
    have h1 : W1.frozen? ⟨w.heap.size + 1, 1, none⟩ = false := by rw [← hW1]; simp [go_sem]
    have g2 : W1.cell? ⟨w.heap.size + 1, 2, none⟩ = some (.int .i64 0) := by rw [← hW1]; simp [go_sem]
    have h2 : W1.frozen? ⟨w.heap.size + 1, 2, none⟩ = false := by rw [← hW1]; simp [go_sem]
    have g3 : W1.cell? ⟨w.heap.size + 1, 3, none⟩ = some (.int .i64 0) := by rw [← hW1]; simp [go_sem]
    have h3 : W1.frozen? ⟨w.heap.size + 1, 3, none⟩ = false := by rw [← hW1]; simp [go_sem]
    have g4 : W1.cell? ⟨w.heap.size + 1, 4, none⟩ = some (.int .i64 0) := by rw [← hW1]; simp [go_sem]
    have h4 : W1.frozen? ⟨w.heap.size + 1, 4, none⟩ = false := by rw [← hW1]; simp [go_sem]
    have l0 : W1.cell? ⟨w.heap.size, 0, none⟩ = some (.int .i64 c) := by rw [← hW1]; simp [go_sem]
    have l1 : W1.cell? ⟨w.heap.size, 1, none⟩ = some (.int .i64 t) := by rw [← hW1]; simp [go_sem]
    have l2 : W1.cell? ⟨w.heap.size, 2, none⟩ = some (.slice A ws.length m) := by rw [← hW1]; simp [go_sem]
    have KEEP := hidd (fun (W : World) (hb : Below W1.heap.size W1 W) => (show W.cell? ⟨w.heap.size, 0, none⟩ = some (.int .i64 c) ∧ W.cell? ⟨w.heap.size, 1, none⟩ = some (.int .i64 t) ∧ W.cell? ⟨w.heap.size, 2, none⟩ = some (.slice A ws.length m) from ⟨(hb.cell (p := ⟨w.heap.size, 0, none⟩) (by show w.heap.size < W1.heap.size; omega)).trans l0, (hb.cell (p := ⟨w.heap.size, 1, none⟩) (by show w.heap.size < W1.heap.size; omega)).trans l1, (hb.cell (p := ⟨w.heap.size, 2, none⟩) (by show w.heap.size < W1.heap.size; omega)).trans l2⟩))
    have OUT := hidd (fun (W : World) (hb : Below W1.heap.size W1 W) => (show (W.cell? ⟨w.heap.size + 1, 0, none⟩ = some (.int .i64 0) ∧ W.cell? ⟨w.heap.size + 1, 1, none⟩ = some (.int .i64 0) ∧ W.cell? ⟨w.heap.size + 1, 2, none⟩ = some (.int .i64 0) ∧ W.cell? ⟨w.heap.size + 1, 3, none⟩ = some (.int .i64 0) ∧ W.cell? ⟨w.heap.size + 1, 4, none⟩ = some (.int .i64 0)) ∧ (W.frozen? ⟨w.heap.size + 1, 0, none⟩ = false ∧ W.frozen? ⟨w.heap.size + 1, 1, none⟩ = false ∧ W.frozen? ⟨w.heap.size + 1, 2, none⟩ = false ∧ W.frozen? ⟨w.heap.size + 1, 3, none⟩ = false ∧ W.frozen? ⟨w.heap.size + 1, 4, none⟩ = false) ∧ w.heap.size + 1 < W.heap.size from ⟨⟨(hb.cell (p := ⟨w.heap.size + 1, 0, none⟩) (by show w.heap.size + 1 < W1.heap.size; omega)).trans g0, (hb.cell (p := ⟨w.heap.size + 1, 1, none⟩) (by show w.heap.size + 1 < W1.heap.size; omega)).trans g1, (hb.cell (p := ⟨w.heap.size + 1, 2, none⟩) (by show w.heap.size + 1 < W1.heap.size; omega)).trans g2, (hb.cell (p := ⟨w.heap.size + 1, 3, none⟩) (by show w.heap.size + 1 < W1.heap.size; omega)).trans g3, (hb.cell (p := ⟨w.heap.size + 1, 4, none⟩) (by show w.heap.size + 1 < W1.heap.size; omega)).trans g4⟩, ⟨(hb.frozen (p := ⟨w.heap.size + 1, 0, none⟩) (by show w.heap.size + 1 < W1.heap.size; omega)).trans h0, (hb.frozen (p := ⟨w.heap.size + 1, 1, none⟩) (by show w.heap.size + 1 < W1.heap.size; omega)).trans h1, (hb.frozen (p := ⟨w.heap.size + 1, 2, none⟩) (by show w.heap.size + 1 < W1.heap.size; omega)).trans h2, (hb.frozen (p := ⟨w.heap.size + 1, 3, none⟩) (by show w.heap.size + 1 < W1.heap.size; omega)).trans h3, (hb.frozen (p := ⟨w.heap.size + 1, 4, none⟩) (by show w.heap.size + 1 < W1.heap.size; omega)).trans h4⟩, Nat.lt_of_lt_of_le (by omega) hb.size⟩))
    have HBX := hidd (fun (W : World) (hb : Below W1.heap.size W1 W) => below_step hBw hb)
    have HW1 := hidd hW1
    clear hW1 hBw g0 h0 g1 h1 g2 h2 g3 h3 g4 h4 l0 l1 l2
    obtain ⟨k0, k1, k2⟩ := KEEP.out _ (Below.refl _ _)
    go_enter Tryz.func48, Tryz.ntmps48
    go_wp2_with fail
    rw [HW1.out]
    go_region_held (fun W => W.cell? ⟨w.heap.size, 0, none⟩ = some (.int .i64 c) ∧ W.cell? ⟨w.heap.size, 1, none⟩ = some (.int .i64 t) ∧ W.cell? ⟨w.heap.size, 2, none⟩ = some (.slice A ws.length m))
      ((first | exact KEEP.out _ cum2 | exact KEEP.out _ cum1 | exact KEEP.out _ (Below.refl _ _) | exact KEEP.out _ (Below.drew (Below.refl _ _)) | (obtain ⟨j0, j1, j2⟩ := KEEP.out _ cum2; refine ⟨?_, ?_, ?_⟩ <;> simp [go_sem, *]; done)))
      ((first
        | (go_at_call 79; refine ((CM.out _)).mono ?_; rintro E1 v1 ⟨rfl, l1⟩; have cum1 : Below W1.heap.size W1 v1 := (by first | exact below_step (Below.drew (Below.refl _ _)) l1 | exact below_step (Below.refl _ _) l1))
        | (go_at_call 81; have HBW := HBX.out _ cum1; refine ((CS.out _ (HL1.out _ HBW))).mono ?_; rintro E2 v2 ⟨l2, rfl⟩; have cum2 : Below W1.heap.size W1 v2 := below_step cum1 l2; obtain ⟨⟨p0, p1, p2, p3, p4⟩, ⟨q0, q1, q2, q3, q4⟩, hzz⟩ := OUT.out _ cum2; have HB2 := hidd (HBX.out _ cum2))))
    all_goals go_wp2_with fail
    all_goals exact bodyPost_ret (v := .tuple #[.agg #[.int .i64 z0, .int .i64 z1, .int .i64 z2, .int .i64 z3, .int .i64 z4], .int .i64 0]) (by simp [results, Tryz.results48, go_sem, *]) rfl ⟨by have q := HB2.out; (repeat' (first | (with_reducible exact Below.refl _ _) | (with_reducible assumption) | (with_reducible apply Below.setCell) | (with_reducible apply Below.alloc) | (with_reducible apply Below.drew) | (with_reducible apply below_drewN) | (with_reducible refine Below.trans ?_ (Below.mono (by assumption) ?_)) | omega | (simp; done) | (simp; omega))), .inl ⟨(by first | exact rfl | exact trivial), rfl⟩⟩
  
  · have CS := hidd (fun W h => heard_no (CH.out W h))
    have HL1 := hidd (fun W (hb : Below w.heap.size w W) => HL.out.below hb)
    clear CH
    obtain ⟨W1, hW1⟩ : ∃ W1, ((w.alloc (.cells #[.int .i64 c, .int .i64 t, .slice A ws.length m] 42)).alloc (.cells #[.int .i64 0, .int .i64 0, .int .i64 0, .int .i64 0, .int .i64 0] 30)) = W1 := ⟨_, rfl⟩
    have hz1 : W1.heap.size = w.heap.size + 2 := by rw [← hW1]; simp
    have hBw : Below w.heap.size w W1 := by rw [← hW1]; (repeat' (first | (with_reducible exact Below.refl _ _) | (with_reducible assumption) | (with_reducible apply Below.setCell) | (with_reducible apply Below.alloc) | (with_reducible apply Below.drew) | (with_reducible apply below_drewN) | (with_reducible refine Below.trans ?_ (Below.mono (by assumption) ?_)) | omega | (simp; done) | (simp; omega)))
    have g0 : W1.cell? ⟨w.heap.size + 1, 0, none⟩ = some (.int .i64 0) := by rw [← hW1]; simp [go_sem]
    have h0 : W1.frozen? ⟨w.heap.size + 1, 0, none⟩ = false := by rw [← hW1]; simp [go_sem]
    have g1 : W1.cell? ⟨w.heap.size + 1, 1, none⟩ = some (.int .i64 0) := by rw [← hW1]; simp [go_sem]
    have h1 : W1.frozen? ⟨w.heap.size + 1, 1, none⟩ = false := by rw [← hW1]; simp [go_sem]
    have g2 : W1.cell? ⟨w.heap.size + 1, 2, none⟩ = some (.int .i64 0) := by rw [← hW1]; simp [go_sem]
    have h2 : W1.frozen? ⟨w.heap.size + 1, 2, none⟩ = false := by rw [← hW1]; simp [go_sem]
    have g3 : W1.cell? ⟨w.heap.size + 1, 3, none⟩ = some (.int .i64 0) := by rw [← hW1]; simp [go_sem]
    have h3 : W1.frozen? ⟨w.heap.size + 1, 3, none⟩ = false := by rw [← hW1]; simp [go_sem]
    have g4 : W1.cell? ⟨w.heap.size + 1, 4, none⟩ = some (.int .i64 0) := by rw [← hW1]; simp [go_sem]
    have h4 : W1.frozen? ⟨w.heap.size + 1, 4, none⟩ = false := by rw [← hW1]; simp [go_sem]
    have l0 : W1.cell? ⟨w.heap.size, 0, none⟩ = some (.int .i64 c) := by rw [← hW1]; simp [go_sem]
    have l1 : W1.cell? ⟨w.heap.size, 1, none⟩ = some (.int .i64 t) := by rw [← hW1]; simp [go_sem]
    have l2 : W1.cell? ⟨w.heap.size, 2, none⟩ = some (.slice A ws.length m) := by rw [← hW1]; simp [go_sem]
    have KEEP := hidd (fun (W : World) (hb : Below W1.heap.size W1 W) => (show W.cell? ⟨w.heap.size, 0, none⟩ = some (.int .i64 c) ∧ W.cell? ⟨w.heap.size, 1, none⟩ = some (.int .i64 t) ∧ W.cell? ⟨w.heap.size, 2, none⟩ = some (.slice A ws.length m) from ⟨(hb.cell (p := ⟨w.heap.size, 0, none⟩) (by show w.heap.size < W1.heap.size; omega)).trans l0, (hb.cell (p := ⟨w.heap.size, 1, none⟩) (by show w.heap.size < W1.heap.size; omega)).trans l1, (hb.cell (p := ⟨w.heap.size, 2, none⟩) (by show w.heap.size < W1.heap.size; omega)).trans l2⟩))
    have OUT := hidd (fun (W : World) (hb : Below W1.heap.size W1 W) => (show (W.cell? ⟨w.heap.size + 1, 0, none⟩ = some (.int .i64 0) ∧ W.cell? ⟨w.heap.size + 1, 1, none⟩ = some (.int .i64 0) ∧ W.cell? ⟨w.heap.size + 1, 2, none⟩ = some (.int .i64 0) ∧ W.cell? ⟨w.heap.size + 1, 3, none⟩ = some (.int .i64 0) ∧ W.cell? ⟨w.heap.size + 1, 4, none⟩ = some (.int .i64 0)) ∧ (W.frozen? ⟨w.heap.size + 1, 0, none⟩ = false ∧ W.frozen? ⟨w.heap.size + 1, 1, none⟩ = false ∧ W.frozen? ⟨w.heap.size + 1, 2, none⟩ = false ∧ W.frozen? ⟨w.heap.size + 1, 3, none⟩ = false ∧ W.frozen? ⟨w.heap.size + 1, 4, none⟩ = false) ∧ w.heap.size + 1 < W.heap.size from ⟨⟨(hb.cell (p := ⟨w.heap.size + 1, 0, none⟩) (by show w.heap.size + 1 < W1.heap.size; omega)).trans g0, (hb.cell (p := ⟨w.heap.size + 1, 1, none⟩) (by show w.heap.size + 1 < W1.heap.size; omega)).trans g1, (hb.cell (p := ⟨w.heap.size + 1, 2, none⟩) (by show w.heap.size + 1 < W1.heap.size; omega)).trans g2, (hb.cell (p := ⟨w.heap.size + 1, 3, none⟩) (by show w.heap.size + 1 < W1.heap.size; omega)).trans g3, (hb.cell (p := ⟨w.heap.size + 1, 4, none⟩) (by show w.heap.size + 1 < W1.heap.size; omega)).trans g4⟩, ⟨(hb.frozen (p := ⟨w.heap.size + 1, 0, none⟩) (by show w.heap.size + 1 < W1.heap.size; omega)).trans h0, (hb.frozen (p := ⟨w.heap.size + 1, 1, none⟩) (by show w.heap.size + 1 < W1.heap.size; omega)).trans h1, (hb.frozen (p := ⟨w.heap.size + 1, 2, none⟩) (by show w.heap.size + 1 < W1.heap.size; omega)).trans h2, (hb.frozen (p := ⟨w.heap.size + 1, 3, none⟩) (by show w.heap.size + 1 < W1.heap.size; omega)).trans h3, (hb.frozen (p := ⟨w.heap.size + 1, 4, none⟩) (by show w.heap.size + 1 < W1.heap.size; omega)).trans h4⟩, Nat.lt_of_lt_of_le (by omega) hb.size⟩))
    have HBX := hidd (fun (W : World) (hb : Below W1.heap.size W1 W) => below_step hBw hb)
    have HW1 := hidd hW1
    clear hW1 hBw g0 h0 g1 h1 g2 h2 g3 h3 g4 h4 l0 l1 l2
    obtain ⟨k0, k1, k2⟩ := KEEP.out _ (Below.refl _ _)
    go_enter Tryz.func48, Tryz.ntmps48
    go_wp2_with fail
    rw [HW1.out]
    go_region_held (fun W => W.cell? ⟨w.heap.size, 0, none⟩ = some (.int .i64 c) ∧ W.cell? ⟨w.heap.size, 1, none⟩ = some (.int .i64 t) ∧ W.cell? ⟨w.heap.size, 2, none⟩ = some (.slice A ws.length m))
      ((first | exact KEEP.out _ cum2 | exact KEEP.out _ cum1 | exact KEEP.out _ (Below.refl _ _) | exact KEEP.out _ (Below.drew (Below.refl _ _)) | (obtain ⟨j0, j1, j2⟩ := KEEP.out _ cum2; refine ⟨?_, ?_, ?_⟩ <;> simp [go_sem, *]; done)))
      ((first
        | (go_at_call 79; refine ((CM.out _)).mono ?_; rintro E1 v1 ⟨rfl, l1⟩; have cum1 : Below W1.heap.size W1 v1 := (by first | exact below_step (Below.drew (Below.refl _ _)) l1 | exact below_step (Below.refl _ _) l1))
        | (go_at_call 81; have HBW := HBX.out _ cum1; refine ((CS.out _ (HL1.out _ HBW))).mono ?_; rintro E2 v2 ⟨l2, rfl⟩; have cum2 : Below W1.heap.size W1 v2 := below_step cum1 l2; obtain ⟨⟨p0, p1, p2, p3, p4⟩, ⟨q0, q1, q2, q3, q4⟩, hzz⟩ := OUT.out _ cum2; have HB2 := hidd (HBX.out _ cum2))))
    all_goals go_wp2_with fail
    all_goals exact bodyPost_ret (v := .tuple #[.agg #[.int .i64 0, .int .i64 0, .int .i64 0, .int .i64 0, .int .i64 0], .int .i64 171]) (by simp [results, Tryz.results48, go_sem, *]) rfl ⟨by have q := HB2.out; (repeat' (first | (with_reducible exact Below.refl _ _) | (with_reducible assumption) | (with_reducible apply Below.setCell) | (with_reducible apply Below.alloc) | (with_reducible apply Below.drew) | (with_reducible apply below_drewN) | (with_reducible refine Below.trans ?_ (Below.mono (by assumption) ?_)) | omega | (simp; done) | (simp; omega))), .inr ⟨(by first | exact rfl | exact trivial), rfl⟩⟩
end Go.Proofs.YtappmacnoopmkaaGreat
