/- Objects: the kind styles: the public calls. -/
import Derived.Test.YtappmacnoopmkaaGreatObIYa
namespace Go.Proofs.YtappmacnoopmkaaGreat
set_option linter.unusedVariables false
open Go.RowKit

attribute [local go_sem] run_store_func
theorem mkY_any (w : World) : Calls Tryz.prog 64 #[] w fun e w' => e = .returned (.agg #[.func (.func 118) #[] #[], .func (.func 120) #[] #[], .func (.func 121) #[] #[]]) ∧ Below w.heap.size w w' := by
  go_enter Tryz.func64, Tryz.ntmps64
  go_wp2_with fail
  exact bodyPost_ret (v := .agg #[.func (.func 118) #[] #[], .func (.func 120) #[] #[], .func (.func 121) #[] #[]]) (by simp [results, Tryz.results64, go_sem, *]) rfl ⟨rfl, by (repeat' (first | (with_reducible exact Below.refl _ _) | (with_reducible assumption) | (with_reducible apply Below.setCell) | (with_reducible apply Below.alloc) | (with_reducible apply Below.drew) | (with_reducible apply below_drewN) | (with_reducible refine Below.trans ?_ (Below.mono (by assumption) ?_)) | omega | (simp; done) | (simp; omega)))⟩
theorem entY_m : ∀ args w, (callFunc 118 args).run Tryz.prog w = .ok (.enter 118 args) w := fun args w => by simp [callFunc, Tryz.func118, Tryz.f118, mark]
theorem entY_o : ∀ args w, (callFunc 120 args).run Tryz.prog w = .ok (.enter 120 args) w := fun args w => by simp [callFunc, Tryz.func120, Tryz.f120, mark]
theorem entY_t : ∀ args w, (callFunc 121 args).run Tryz.prog w = .ok (.enter 121 args) w := fun args w => by simp [callFunc, Tryz.func121, Tryz.f121, mark]
set_option maxHeartbeats 2000000 in
theorem Style_any (x : Int) (hx : -9223372036854775808 ≤ x ∧ x ≤ 9223372036854775807) (w : World) : Calls Tryz.prog 32 #[.int .i64 x] w (SaidEnd (mayY x) 8 1 [(styleW x)] w) := by
  have CM := hidd (fun W => mkY_any W)
  have cs := fun W => saidY_any 118 120 121 entY_m entY_o #[] (mayY x) 8 1 [(styleW x)] x W (fun W' _ => mayY_any x hx W') (fun hm W' _ => objY_any x hx W')
  unfold SaidEnd at *
  generalize mayY x = M at *
  cases M; rotate_left
  · have CS := hidd (fun W => said_yes (cs W))
    clear cs
    obtain ⟨W1, hW1⟩ : ∃ W1, (w.alloc (.cells #[.int .i64 0, .int .i64 0, .slice none 0 0] 42)) = W1 := ⟨_, rfl⟩
    have hz1 : W1.heap.size = w.heap.size + 1 := by rw [← hW1]; simp
    have hBw : Below w.heap.size w W1 := by rw [← hW1]; (repeat' (first | (with_reducible exact Below.refl _ _) | (with_reducible assumption) | (with_reducible apply Below.setCell) | (with_reducible apply Below.alloc) | (with_reducible apply Below.drew) | (with_reducible apply below_drewN) | (with_reducible refine Below.trans ?_ (Below.mono (by assumption) ?_)) | omega | (simp; done) | (simp; omega)))
    have g0 : W1.cell? ⟨w.heap.size, 0, none⟩ = some (.int .i64 0) := by rw [← hW1]; simp [go_sem]
    have h0 : W1.frozen? ⟨w.heap.size, 0, none⟩ = false := by rw [← hW1]; simp [go_sem]
    have g1 : W1.cell? ⟨w.heap.size, 1, none⟩ = some (.int .i64 0) := by rw [← hW1]; simp [go_sem]
    have h1 : W1.frozen? ⟨w.heap.size, 1, none⟩ = false := by rw [← hW1]; simp [go_sem]
    have g2 : W1.cell? ⟨w.heap.size, 2, none⟩ = some (.slice none 0 0) := by rw [← hW1]; simp [go_sem]
    have h2 : W1.frozen? ⟨w.heap.size, 2, none⟩ = false := by rw [← hW1]; simp [go_sem]
    have OUT := hidd (fun (W : World) (hb : Below W1.heap.size W1 W) => (show (W.cell? ⟨w.heap.size, 0, none⟩ = some (.int .i64 0) ∧ W.cell? ⟨w.heap.size, 1, none⟩ = some (.int .i64 0) ∧ W.cell? ⟨w.heap.size, 2, none⟩ = some (.slice none 0 0)) ∧ (W.frozen? ⟨w.heap.size, 0, none⟩ = false ∧ W.frozen? ⟨w.heap.size, 1, none⟩ = false ∧ W.frozen? ⟨w.heap.size, 2, none⟩ = false) ∧ w.heap.size < W.heap.size from ⟨⟨(hb.cell (p := ⟨w.heap.size, 0, none⟩) (by show w.heap.size < W1.heap.size; omega)).trans g0, (hb.cell (p := ⟨w.heap.size, 1, none⟩) (by show w.heap.size < W1.heap.size; omega)).trans g1, (hb.cell (p := ⟨w.heap.size, 2, none⟩) (by show w.heap.size < W1.heap.size; omega)).trans g2⟩, ⟨(hb.frozen (p := ⟨w.heap.size, 0, none⟩) (by show w.heap.size < W1.heap.size; omega)).trans h0, (hb.frozen (p := ⟨w.heap.size, 1, none⟩) (by show w.heap.size < W1.heap.size; omega)).trans h1, (hb.frozen (p := ⟨w.heap.size, 2, none⟩) (by show w.heap.size < W1.heap.size; omega)).trans h2⟩, Nat.lt_of_lt_of_le (by omega) hb.size⟩))
    have HBX := hidd (fun (W : World) (hb : Below W1.heap.size W1 W) => below_step hBw hb)
    have HW1 := hidd hW1
    clear hW1 hBw g0 h0 g1 h1 g2 h2
    go_enter Tryz.func32, Tryz.ntmps32
    go_wp2_with fail
    rw [HW1.out]
    refine ((CM.out _)).mono ?_
    rintro E1 v1 ⟨rfl, l1⟩
    have cum1 : Below W1.heap.size W1 v1 := below_step (Below.refl _ _) l1
    have HBW := HBX.out _ cum1
    go_wp2_with fail
    refine ((CS.out _)).mono ?_
    rintro E2 v2 ⟨l2, A, k, rfl, hl2⟩
    have cum2 : Below W1.heap.size W1 v2 := below_step cum1 l2
    obtain ⟨⟨p0, p1, p2⟩, ⟨q0, q1, q2⟩, hzz⟩ := OUT.out _ cum2
    have HB2 := hidd (HBX.out _ cum2)
    all_goals have HL := hidd (hl2.to (p' := fun q => w.heap.size + 1 ≤ q ∧ q < v2.heap.size) (fun q hq => ⟨⟨by have := cum1.size; omega, hq.2⟩, rfl⟩))
    all_goals clear hl2
    all_goals go_wp2_with fail
    all_goals refine bodyPost_ret (v := .tuple #[.agg #[.int .i64 8, .int .i64 1, .slice A 1 k], .int .i64 0]) (by simp [results, Tryz.results32, go_sem, *]) rfl ⟨by have q := HB2.out; (repeat' (first | (with_reducible exact Below.refl _ _) | (with_reducible assumption) | (with_reducible apply Below.setCell) | (with_reducible apply Below.alloc) | (with_reducible apply Below.drew) | (with_reducible apply below_drewN) | (with_reducible refine Below.trans ?_ (Below.mono (by assumption) ?_)) | omega | (simp; done) | (simp; omega))), .inl ⟨(by first | exact rfl | exact trivial), A, k, rfl, ?_⟩⟩
    all_goals exact (((HL.out.low (p := ⟨w.heap.size, 0, none⟩) (by simp) _).low (p := ⟨w.heap.size, 1, none⟩) (by simp) _).low (p := ⟨w.heap.size, 2, none⟩) (by simp) _).to (fun q hq => ⟨⟨by omega, hq.2⟩, rfl⟩)
  
  · have CS := hidd (fun W => said_no (cs W))
    clear cs
    obtain ⟨W1, hW1⟩ : ∃ W1, (w.alloc (.cells #[.int .i64 0, .int .i64 0, .slice none 0 0] 42)) = W1 := ⟨_, rfl⟩
    have hz1 : W1.heap.size = w.heap.size + 1 := by rw [← hW1]; simp
    have hBw : Below w.heap.size w W1 := by rw [← hW1]; (repeat' (first | (with_reducible exact Below.refl _ _) | (with_reducible assumption) | (with_reducible apply Below.setCell) | (with_reducible apply Below.alloc) | (with_reducible apply Below.drew) | (with_reducible apply below_drewN) | (with_reducible refine Below.trans ?_ (Below.mono (by assumption) ?_)) | omega | (simp; done) | (simp; omega)))
    have g0 : W1.cell? ⟨w.heap.size, 0, none⟩ = some (.int .i64 0) := by rw [← hW1]; simp [go_sem]
    have h0 : W1.frozen? ⟨w.heap.size, 0, none⟩ = false := by rw [← hW1]; simp [go_sem]
    have g1 : W1.cell? ⟨w.heap.size, 1, none⟩ = some (.int .i64 0) := by rw [← hW1]; simp [go_sem]
    have h1 : W1.frozen? ⟨w.heap.size, 1, none⟩ = false := by rw [← hW1]; simp [go_sem]
    have g2 : W1.cell? ⟨w.heap.size, 2, none⟩ = some (.slice none 0 0) := by rw [← hW1]; simp [go_sem]
    have h2 : W1.frozen? ⟨w.heap.size, 2, none⟩ = false := by rw [← hW1]; simp [go_sem]
    have OUT := hidd (fun (W : World) (hb : Below W1.heap.size W1 W) => (show (W.cell? ⟨w.heap.size, 0, none⟩ = some (.int .i64 0) ∧ W.cell? ⟨w.heap.size, 1, none⟩ = some (.int .i64 0) ∧ W.cell? ⟨w.heap.size, 2, none⟩ = some (.slice none 0 0)) ∧ (W.frozen? ⟨w.heap.size, 0, none⟩ = false ∧ W.frozen? ⟨w.heap.size, 1, none⟩ = false ∧ W.frozen? ⟨w.heap.size, 2, none⟩ = false) ∧ w.heap.size < W.heap.size from ⟨⟨(hb.cell (p := ⟨w.heap.size, 0, none⟩) (by show w.heap.size < W1.heap.size; omega)).trans g0, (hb.cell (p := ⟨w.heap.size, 1, none⟩) (by show w.heap.size < W1.heap.size; omega)).trans g1, (hb.cell (p := ⟨w.heap.size, 2, none⟩) (by show w.heap.size < W1.heap.size; omega)).trans g2⟩, ⟨(hb.frozen (p := ⟨w.heap.size, 0, none⟩) (by show w.heap.size < W1.heap.size; omega)).trans h0, (hb.frozen (p := ⟨w.heap.size, 1, none⟩) (by show w.heap.size < W1.heap.size; omega)).trans h1, (hb.frozen (p := ⟨w.heap.size, 2, none⟩) (by show w.heap.size < W1.heap.size; omega)).trans h2⟩, Nat.lt_of_lt_of_le (by omega) hb.size⟩))
    have HBX := hidd (fun (W : World) (hb : Below W1.heap.size W1 W) => below_step hBw hb)
    have HW1 := hidd hW1
    clear hW1 hBw g0 h0 g1 h1 g2 h2
    go_enter Tryz.func32, Tryz.ntmps32
    go_wp2_with fail
    rw [HW1.out]
    refine ((CM.out _)).mono ?_
    rintro E1 v1 ⟨rfl, l1⟩
    have cum1 : Below W1.heap.size W1 v1 := below_step (Below.refl _ _) l1
    have HBW := HBX.out _ cum1
    go_wp2_with fail
    refine ((CS.out _)).mono ?_
    rintro E2 v2 ⟨l2, rfl⟩
    have cum2 : Below W1.heap.size W1 v2 := below_step cum1 l2
    obtain ⟨⟨p0, p1, p2⟩, ⟨q0, q1, q2⟩, hzz⟩ := OUT.out _ cum2
    have HB2 := hidd (HBX.out _ cum2)
    all_goals go_wp2_with fail
    all_goals exact bodyPost_ret (v := .tuple #[.agg #[.int .i64 0, .int .i64 0, .slice none 0 0], .int .i64 2]) (by simp [results, Tryz.results32, go_sem, *]) rfl ⟨by have q := HB2.out; (repeat' (first | (with_reducible exact Below.refl _ _) | (with_reducible assumption) | (with_reducible apply Below.setCell) | (with_reducible apply Below.alloc) | (with_reducible apply Below.drew) | (with_reducible apply below_drewN) | (with_reducible refine Below.trans ?_ (Below.mono (by assumption) ?_)) | omega | (simp; done) | (simp; omega))), .inr ⟨(by first | exact rfl | exact trivial), rfl⟩⟩
set_option maxHeartbeats 2000000 in
theorem AsStyle_any (c t : Int) (A : Option Addr) (ws : List Int) (m : Nat) (hws : ws.length ≤ 9223372036854775807) (hwb : ∀ x ∈ ws, -9223372036854775808 ≤ x ∧ x ≤ 9223372036854775807) (w : World) (hl : LieQ wdV 1 w (· < w.heap.size) A ws) :
    Calls Tryz.prog 21 #[.agg #[.int .i64 c, .int .i64 t, .slice A ws.length m]] w (HeardY (mayY ((styleOf (av ws 0))) && sameB 8 1 [(styleW ((styleOf (av ws 0))))] c t ws) ((styleOf (av ws 0))) w) := by
  have CM := hidd (fun W => mkY_any W)
  have hy := av_bounds hwb
  have CH := hidd (fun W (h : LieQ wdV 1 W (· < W.heap.size) A ws) => heardY_any 118 120 121 entY_m entY_o entY_t #[] (mayY ((styleOf (av ws 0)))) 8 1 [(styleW ((styleOf (av ws 0))))] (by simp) ((styleOf (av ws 0))) c t A ws m hws W h (fun W' _ => thingY_any _ _ _ _ _ _ _ hy W') (fun W' _ => mayY_any ((styleOf (av ws 0))) (by have := styleOf_in (av ws 0); omega) W') (fun hm W' _ => objY_any ((styleOf (av ws 0))) (by have := styleOf_in (av ws 0); omega) W'))
  have HL := hidd hl
  generalize (mayY ((styleOf (av ws 0))) && sameB 8 1 [(styleW ((styleOf (av ws 0))))] c t ws) = G at *
  generalize (styleOf (av ws 0)) = z0 at *
  clear hl hy hwb hws
  unfold HeardY at *
  cases G; rotate_left
  · have CS := hidd (fun W h => heard_yes (CH.out W h))
    have HL1 := hidd (fun W (hb : Below w.heap.size w W) => HL.out.below hb)
    clear CH
    obtain ⟨W1, hW1⟩ : ∃ W1, (w.alloc (.cells #[.int .i64 c, .int .i64 t, .slice A ws.length m] 42)) = W1 := ⟨_, rfl⟩
    have hz1 : W1.heap.size = w.heap.size + 1 := by rw [← hW1]; simp
    have hBw : Below w.heap.size w W1 := by rw [← hW1]; (repeat' (first | (with_reducible exact Below.refl _ _) | (with_reducible assumption) | (with_reducible apply Below.setCell) | (with_reducible apply Below.alloc) | (with_reducible apply Below.drew) | (with_reducible apply below_drewN) | (with_reducible refine Below.trans ?_ (Below.mono (by assumption) ?_)) | omega | (simp; done) | (simp; omega)))
    have l0 : W1.cell? ⟨w.heap.size, 0, none⟩ = some (.int .i64 c) := by rw [← hW1]; simp [go_sem]
    have l1 : W1.cell? ⟨w.heap.size, 1, none⟩ = some (.int .i64 t) := by rw [← hW1]; simp [go_sem]
    have l2 : W1.cell? ⟨w.heap.size, 2, none⟩ = some (.slice A ws.length m) := by rw [← hW1]; simp [go_sem]
    have KEEP := hidd (fun (W : World) (hb : Below W1.heap.size W1 W) => (show W.cell? ⟨w.heap.size, 0, none⟩ = some (.int .i64 c) ∧ W.cell? ⟨w.heap.size, 1, none⟩ = some (.int .i64 t) ∧ W.cell? ⟨w.heap.size, 2, none⟩ = some (.slice A ws.length m) from ⟨(hb.cell (p := ⟨w.heap.size, 0, none⟩) (by show w.heap.size < W1.heap.size; omega)).trans l0, (hb.cell (p := ⟨w.heap.size, 1, none⟩) (by show w.heap.size < W1.heap.size; omega)).trans l1, (hb.cell (p := ⟨w.heap.size, 2, none⟩) (by show w.heap.size < W1.heap.size; omega)).trans l2⟩))
    have HBX := hidd (fun (W : World) (hb : Below W1.heap.size W1 W) => below_step hBw hb)
    have HW1 := hidd hW1
    clear hW1 hBw l0 l1 l2
    obtain ⟨k0, k1, k2⟩ := KEEP.out _ (Below.refl _ _)
    go_enter Tryz.func21, Tryz.ntmps21
    go_wp2_with fail
    rw [HW1.out]
    go_region_held (fun W => W.cell? ⟨w.heap.size, 0, none⟩ = some (.int .i64 c) ∧ W.cell? ⟨w.heap.size, 1, none⟩ = some (.int .i64 t) ∧ W.cell? ⟨w.heap.size, 2, none⟩ = some (.slice A ws.length m))
      ((first | exact KEEP.out _ cum2 | exact KEEP.out _ cum1 | exact KEEP.out _ (Below.refl _ _) | exact KEEP.out _ (Below.drew (Below.refl _ _)) | (obtain ⟨j0, j1, j2⟩ := KEEP.out _ cum2; refine ⟨?_, ?_, ?_⟩ <;> simp [go_sem, *]; done)))
      ((first
        | (go_at_call 64; refine ((CM.out _)).mono ?_; rintro E1 v1 ⟨rfl, l1⟩; have cum1 : Below W1.heap.size W1 v1 := (by first | exact below_step (Below.drew (Below.refl _ _)) l1 | exact below_step (Below.refl _ _) l1))
        | (go_at_call 65; have HBW := HBX.out _ cum1; refine ((CS.out _ (HL1.out _ HBW))).mono ?_; rintro E2 v2 ⟨l2, rfl⟩; have cum2 : Below W1.heap.size W1 v2 := below_step cum1 l2; have HB2 := hidd (HBX.out _ cum2))))
    all_goals go_wp2_with fail
    all_goals go_ret2
    all_goals exact ⟨by have q := HB2.out; (repeat' (first | (with_reducible exact Below.refl _ _) | (with_reducible assumption) | (with_reducible apply Below.setCell) | (with_reducible apply Below.alloc) | (with_reducible apply Below.drew) | (with_reducible apply below_drewN) | (with_reducible refine Below.trans ?_ (Below.mono (by assumption) ?_)) | omega | (simp; done) | (simp; omega))), .inl ⟨(by first | exact rfl | exact trivial), rfl⟩⟩
  
  · have CS := hidd (fun W h => heard_no (CH.out W h))
    have HL1 := hidd (fun W (hb : Below w.heap.size w W) => HL.out.below hb)
    clear CH
    obtain ⟨W1, hW1⟩ : ∃ W1, (w.alloc (.cells #[.int .i64 c, .int .i64 t, .slice A ws.length m] 42)) = W1 := ⟨_, rfl⟩
    have hz1 : W1.heap.size = w.heap.size + 1 := by rw [← hW1]; simp
    have hBw : Below w.heap.size w W1 := by rw [← hW1]; (repeat' (first | (with_reducible exact Below.refl _ _) | (with_reducible assumption) | (with_reducible apply Below.setCell) | (with_reducible apply Below.alloc) | (with_reducible apply Below.drew) | (with_reducible apply below_drewN) | (with_reducible refine Below.trans ?_ (Below.mono (by assumption) ?_)) | omega | (simp; done) | (simp; omega)))
    have l0 : W1.cell? ⟨w.heap.size, 0, none⟩ = some (.int .i64 c) := by rw [← hW1]; simp [go_sem]
    have l1 : W1.cell? ⟨w.heap.size, 1, none⟩ = some (.int .i64 t) := by rw [← hW1]; simp [go_sem]
    have l2 : W1.cell? ⟨w.heap.size, 2, none⟩ = some (.slice A ws.length m) := by rw [← hW1]; simp [go_sem]
    have KEEP := hidd (fun (W : World) (hb : Below W1.heap.size W1 W) => (show W.cell? ⟨w.heap.size, 0, none⟩ = some (.int .i64 c) ∧ W.cell? ⟨w.heap.size, 1, none⟩ = some (.int .i64 t) ∧ W.cell? ⟨w.heap.size, 2, none⟩ = some (.slice A ws.length m) from ⟨(hb.cell (p := ⟨w.heap.size, 0, none⟩) (by show w.heap.size < W1.heap.size; omega)).trans l0, (hb.cell (p := ⟨w.heap.size, 1, none⟩) (by show w.heap.size < W1.heap.size; omega)).trans l1, (hb.cell (p := ⟨w.heap.size, 2, none⟩) (by show w.heap.size < W1.heap.size; omega)).trans l2⟩))
    have HBX := hidd (fun (W : World) (hb : Below W1.heap.size W1 W) => below_step hBw hb)
    have HW1 := hidd hW1
    clear hW1 hBw l0 l1 l2
    obtain ⟨k0, k1, k2⟩ := KEEP.out _ (Below.refl _ _)
    go_enter Tryz.func21, Tryz.ntmps21
    go_wp2_with fail
    rw [HW1.out]
    go_region_held (fun W => W.cell? ⟨w.heap.size, 0, none⟩ = some (.int .i64 c) ∧ W.cell? ⟨w.heap.size, 1, none⟩ = some (.int .i64 t) ∧ W.cell? ⟨w.heap.size, 2, none⟩ = some (.slice A ws.length m))
      ((first | exact KEEP.out _ cum2 | exact KEEP.out _ cum1 | exact KEEP.out _ (Below.refl _ _) | exact KEEP.out _ (Below.drew (Below.refl _ _)) | (obtain ⟨j0, j1, j2⟩ := KEEP.out _ cum2; refine ⟨?_, ?_, ?_⟩ <;> simp [go_sem, *]; done)))
      ((first
        | (go_at_call 64; refine ((CM.out _)).mono ?_; rintro E1 v1 ⟨rfl, l1⟩; have cum1 : Below W1.heap.size W1 v1 := (by first | exact below_step (Below.drew (Below.refl _ _)) l1 | exact below_step (Below.refl _ _) l1))
        | (go_at_call 65; have HBW := HBX.out _ cum1; refine ((CS.out _ (HL1.out _ HBW))).mono ?_; rintro E2 v2 ⟨l2, rfl⟩; have cum2 : Below W1.heap.size W1 v2 := below_step cum1 l2; have HB2 := hidd (HBX.out _ cum2))))
    all_goals go_wp2_with fail
    all_goals go_ret2
    all_goals exact ⟨by have q := HB2.out; (repeat' (first | (with_reducible exact Below.refl _ _) | (with_reducible assumption) | (with_reducible apply Below.setCell) | (with_reducible apply Below.alloc) | (with_reducible apply Below.drew) | (with_reducible apply below_drewN) | (with_reducible refine Below.trans ?_ (Below.mono (by assumption) ?_)) | omega | (simp; done) | (simp; omega))), .inr ⟨(by first | exact rfl | exact trivial), rfl⟩⟩
end Go.Proofs.YtappmacnoopmkaaGreat
