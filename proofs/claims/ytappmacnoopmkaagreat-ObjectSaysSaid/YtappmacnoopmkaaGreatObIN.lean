/- Objects: the kinds filter and sender. -/
import Derived.Test.YtappmacnoopmkaaGreatObI
import Derived.Test.YtappmacnoopmkaaGreatObHN
namespace Go.Proofs.YtappmacnoopmkaaGreat
set_option linter.unusedVariables false
open Go.RowKit

attribute [local go_sem] run_store_func
/-- may it be said? -/
def mayN (x0 x1 : Int) : Bool := inB 0 x0 15 && inB 1 x1 65535
set_option maxHeartbeats 2000000 in
theorem mayN_any (x0 x1 : Int) (w : World) : Calls Tryz.prog 170 #[.agg #[.int .i64 x0, .int .i64 x1]] w fun e w' => e = .returned (.bool (mayN x0 x1)) ∧ Below w.heap.size w w' := by
  have c0 := hidd (fun W => isNode_any x0 W)
  have c1 := hidd (fun W => isPort_any x1 W)
  unfold mayN
  generalize inB 0 x0 15 = B0 at *
  generalize inB 1 x1 65535 = B1 at *
  cases B0
  · go_enter Tryz.func170, Tryz.ntmps170
    go_wp2_with fail
    refine (c0.out _).mono ?_
    rintro e w1 ⟨rfl, rfl⟩
    go_wp2_with fail
    go_ret
    exact ⟨by first | rfl | simp, by (repeat' (first | (with_reducible exact Below.refl _ _) | (with_reducible assumption) | (with_reducible apply Below.setCell) | (with_reducible apply Below.alloc) | (with_reducible apply Below.drew) | (with_reducible apply below_drewN) | (with_reducible refine Below.trans ?_ (Below.mono (by assumption) ?_)) | omega | (simp; done) | (simp; omega)))⟩
  go_enter Tryz.func170, Tryz.ntmps170
  go_wp2_with fail
  refine (c0.out _).mono ?_
  rintro e w1 ⟨rfl, rfl⟩
  go_wp2_with fail
  refine (c1.out _).mono ?_
  rintro e w1 ⟨rfl, rfl⟩
  go_wp2_with fail
  go_ret
  exact ⟨by first | rfl | simp, by (repeat' (first | (with_reducible exact Below.refl _ _) | (with_reducible assumption) | (with_reducible apply Below.setCell) | (with_reducible apply Below.alloc) | (with_reducible apply Below.drew) | (with_reducible apply below_drewN) | (with_reducible refine Below.trans ?_ (Below.mono (by assumption) ?_)) | omega | (simp; done) | (simp; omega)))⟩
set_option maxHeartbeats 2000000 in
theorem objN_any (kk : Int) (b : Nat) (x0 x1 : Int) (hm : mayN x0 x1 = true) (w : World) (hcl : w.cell? ⟨b, 0, none⟩ = some (.int .i64 kk)) (hbl : b < w.heap.size) : Calls Tryz.prog 171 #[.agg #[.int .i64 x0, .int .i64 x1], .pointer (some ⟨b, 0, none⟩)] w (ObjEnd kk 1 [x0, x1] w) := by
  simp only [mayN, Bool.and_eq_true, inB_iff] at hm
  obtain ⟨W1, hW1⟩ : ∃ W1, ((w.alloc (.cells #[.int .i64 x0, .int .i64 x1] 33)).alloc (.cells #[.int .i64 0, .int .i64 0, .slice none 0 0] 42)) = W1 := ⟨_, rfl⟩
  have hz1 : W1.heap.size = w.heap.size + 2 := by rw [← hW1]; simp
  have hb1 : Below w.heap.size w W1 := by rw [← hW1]; (repeat' (first | (with_reducible exact Below.refl _ _) | (with_reducible assumption) | (with_reducible apply Below.setCell) | (with_reducible apply Below.alloc) | (with_reducible apply Below.drew) | (with_reducible apply below_drewN) | (with_reducible refine Below.trans ?_ (Below.mono (by assumption) ?_)) | omega | (simp; done) | (simp; omega)))
  have hk0 : ¬ b = w.heap.size := by omega
  have hk1 : ¬ b = w.heap.size + 1 := by omega
  have g0 : W1.cell? ⟨w.heap.size + 1, 0, none⟩ = some (.int .i64 0) := by rw [← hW1]; simp [go_sem]
  have h0 : W1.frozen? ⟨w.heap.size + 1, 0, none⟩ = false := by rw [← hW1]; simp [go_sem]
  have g1 : W1.cell? ⟨w.heap.size + 1, 1, none⟩ = some (.int .i64 0) := by rw [← hW1]; simp [go_sem]
  have h1 : W1.frozen? ⟨w.heap.size + 1, 1, none⟩ = false := by rw [← hW1]; simp [go_sem]
  have g2 : W1.cell? ⟨w.heap.size + 1, 2, none⟩ = some (.slice none 0 0) := by rw [← hW1]; simp [go_sem]
  have h2 : W1.frozen? ⟨w.heap.size + 1, 2, none⟩ = false := by rw [← hW1]; simp [go_sem]
  have HL := hidd (lie_new W1 [x0, x1] 2 _ rfl (fun q => w.heap.size + 2 ≤ q ∧ q < W1.heap.size + 1) ⟨by omega, by omega⟩)
  have HB1 := hidd hb1
  have HW1 := hidd hW1
  clear hW1 hb1 hm
  unfold ObjEnd
  go_enter Tryz.func171, Tryz.ntmps171
  go_wp2_with fail
  rw [HW1.out]
  refine (object_any _ _ _ _ _ _).mono ?_
  rintro e w2 ⟨rfl, hb2⟩
  have HB2 := hidd (below_step (below_new HB1.out (.cells #[.int .i64 x0, .int .i64 x1] 2)) hb2)
  have hz2 : W1.heap.size < w2.heap.size := by have := hb2.size; simp at this; omega
  have HL2 := hidd (HL.out.to (w' := w2) (p' := fun q => w.heap.size + 2 ≤ q ∧ q < w2.heap.size) (fun q hq => ⟨⟨hq.1, by omega⟩, hb2.block q (by simpa using hq.2)⟩))
  obtain ⟨bc, bf⟩ := bcell hb2
  have p0 : w2.cell? ⟨w.heap.size + 1, 0, none⟩ = some (.int .i64 0) := by rw [bc _ _ (by simp; omega), (below_new (Below.refl W1.heap.size W1) _).cell (p := ⟨w.heap.size + 1, 0, none⟩) (by show w.heap.size + 1 < W1.heap.size; omega)]; exact g0
  have q0 : w2.frozen? ⟨w.heap.size + 1, 0, none⟩ = false := by rw [bf _ _ (by simp; omega), (below_new (Below.refl W1.heap.size W1) _).frozen (p := ⟨w.heap.size + 1, 0, none⟩) (by show w.heap.size + 1 < W1.heap.size; omega)]; exact h0
  have p1 : w2.cell? ⟨w.heap.size + 1, 1, none⟩ = some (.int .i64 0) := by rw [bc _ _ (by simp; omega), (below_new (Below.refl W1.heap.size W1) _).cell (p := ⟨w.heap.size + 1, 1, none⟩) (by show w.heap.size + 1 < W1.heap.size; omega)]; exact g1
  have q1 : w2.frozen? ⟨w.heap.size + 1, 1, none⟩ = false := by rw [bf _ _ (by simp; omega), (below_new (Below.refl W1.heap.size W1) _).frozen (p := ⟨w.heap.size + 1, 1, none⟩) (by show w.heap.size + 1 < W1.heap.size; omega)]; exact h1
  have p2 : w2.cell? ⟨w.heap.size + 1, 2, none⟩ = some (.slice none 0 0) := by rw [bc _ _ (by simp; omega), (below_new (Below.refl W1.heap.size W1) _).cell (p := ⟨w.heap.size + 1, 2, none⟩) (by show w.heap.size + 1 < W1.heap.size; omega)]; exact g2
  have q2 : w2.frozen? ⟨w.heap.size + 1, 2, none⟩ = false := by rw [bf _ _ (by simp; omega), (below_new (Below.refl W1.heap.size W1) _).frozen (p := ⟨w.heap.size + 1, 2, none⟩) (by show w.heap.size + 1 < W1.heap.size; omega)]; exact h2
  clear hb2 bc bf g0 h0 g1 h1 g2 h2
  go_wp2_with fail
  refine bodyPost_ret (v := .agg #[.int .i64 kk, .int .i64 1, .slice (some ⟨W1.heap.size, 0, none⟩) 2 2]) (by simp [results, Tryz.results171, go_sem, *]) rfl ⟨by have q := HB2.out; (repeat' (first | (with_reducible exact Below.refl _ _) | (with_reducible assumption) | (with_reducible apply Below.setCell) | (with_reducible apply Below.alloc) | (with_reducible apply Below.drew) | (with_reducible apply below_drewN) | (with_reducible refine Below.trans ?_ (Below.mono (by assumption) ?_)) | omega | (simp; done) | (simp; omega))), some ⟨W1.heap.size, 0, none⟩, 2, rfl, ?_⟩
  exact (((HL2.out.low (p := ⟨w.heap.size + 1, 0, none⟩) (by simp) _).low (p := ⟨w.heap.size + 1, 1, none⟩) (by simp) _).low (p := ⟨w.heap.size + 1, 2, none⟩) (by simp) _).to (fun q hq => ⟨⟨by omega, hq.2⟩, rfl⟩)
set_option maxHeartbeats 2000000 in
theorem thingN_any (y0 y1 y2 y3 y4 y5 y6 : Int) (hy : ∀ y ∈ [y0, y1, y2, y3, y4, y5, y6], -9223372036854775808 ≤ y ∧ y ≤ 9223372036854775807) (w : World) : Calls Tryz.prog 172 #[.agg #[.int .i64 y0, .int .i64 y1, .int .i64 y2, .int .i64 y3, .int .i64 y4, .int .i64 y5, .int .i64 y6]] w fun e w' => e = .returned (.agg #[.int .i64 y0, .int .i64 y1]) ∧ Below w.heap.size w w' := by
  clear hy
  go_enter Tryz.func172, Tryz.ntmps172
  go_wp2_with fail
  exact bodyPost_ret (v := .agg #[.int .i64 y0, .int .i64 y1]) (by simp [results, Tryz.results172, go_sem, *]) rfl ⟨rfl, by (repeat' (first | (with_reducible exact Below.refl _ _) | (with_reducible assumption) | (with_reducible apply Below.setCell) | (with_reducible apply Below.alloc) | (with_reducible apply Below.drew) | (with_reducible apply below_drewN) | (with_reducible refine Below.trans ?_ (Below.mono (by assumption) ?_)) | omega | (simp; done) | (simp; omega)))⟩
def MadeN (kk : Int) (w : World) (e : Ending) (w' : World) : Prop := ∃ b, e = .returned (.agg #[.func (.func 170) #[] #[], .func (.func 171) #[] #[.pointer (some ⟨b, 0, none⟩)], .func (.func 172) #[] #[]]) ∧ Below w.heap.size w w' ∧ w'.cell? ⟨b, 0, none⟩ = some (.int .i64 kk) ∧ b < w'.heap.size ∧ w.heap.size ≤ b
theorem mkN_any (kk : Int) (w : World) : Calls Tryz.prog 142 #[.int .i64 kk] w (MadeN kk w) := by
  have hmf : ∀ (fn : Fn) (first cap : Array Value) (w : World), (Instr.makeFunc fn first cap).run Tryz.prog w = .ok (.func fn first cap) w := fun _ _ _ _ => rfl
  go_enter Tryz.func142, Tryz.ntmps142
  go_wp2_with fail
  exact bodyPost_ret (v := .agg #[.func (.func 170) #[] #[], .func (.func 171) #[] #[.pointer (some ⟨w.heap.size, 0, none⟩)], .func (.func 172) #[] #[]]) (by simp [results, Tryz.results142, go_sem, *]) rfl ⟨w.heap.size, rfl, by (repeat' (first | (with_reducible exact Below.refl _ _) | (with_reducible assumption) | (with_reducible apply Below.setCell) | (with_reducible apply Below.alloc) | (with_reducible apply Below.drew) | (with_reducible apply below_drewN) | (with_reducible refine Below.trans ?_ (Below.mono (by assumption) ?_)) | omega | (simp; done) | (simp; omega))), by simp [go_sem], by simp; omega, Nat.le_refl _⟩
theorem mk_filters (w : World) : Calls Tryz.prog 75 #[] w (MadeN 10 w) := by
  have CS := hidd (fun W => mkN_any 10 W)
  go_enter Tryz.func75, Tryz.ntmps75
  go_wp2_with fail
  refine (CS.out _).mono ?_
  rintro e w1 ⟨b, rfl, hb1, hc1, hl1, hg1⟩
  have hz : w.heap.size < w1.heap.size := by have := hb1.size; simp at this; omega
  have hne : ¬ b = w.heap.size := by simp at hg1; omega
  have hne2 : ¬ w.heap.size = b := fun h => hne h.symm
  obtain ⟨bc, bf⟩ := bcell hb1
  have g0 : w1.cell? ⟨w.heap.size, 0, none⟩ = some .nilFunc := by rw [bc _ _ (by simp)]; simp [go_sem]
  have g1 : w1.cell? ⟨w.heap.size, 1, none⟩ = some .nilFunc := by rw [bc _ _ (by simp)]; simp [go_sem]
  have g2 : w1.cell? ⟨w.heap.size, 2, none⟩ = some .nilFunc := by rw [bc _ _ (by simp)]; simp [go_sem]
  have h0 : w1.frozen? ⟨w.heap.size, 0, none⟩ = false := by rw [bf _ _ (by simp)]; simp [go_sem]
  have h1 : w1.frozen? ⟨w.heap.size, 1, none⟩ = false := by rw [bf _ _ (by simp)]; simp [go_sem]
  have h2 : w1.frozen? ⟨w.heap.size, 2, none⟩ = false := by rw [bf _ _ (by simp)]; simp [go_sem]
  have HB1 := hidd (show Below w.heap.size w w1 by (repeat' (first | (with_reducible exact Below.refl _ _) | (with_reducible assumption) | (with_reducible apply Below.setCell) | (with_reducible apply Below.alloc) | (with_reducible apply Below.drew) | (with_reducible apply below_drewN) | (with_reducible refine Below.trans ?_ (Below.mono (by assumption) ?_)) | omega | (simp; done) | (simp; omega))))
  clear hb1 bc bf
  go_wp2_with fail
  exact bodyPost_ret (v := .agg #[.func (.func 170) #[] #[], .func (.func 171) #[] #[.pointer (some ⟨b, 0, none⟩)], .func (.func 172) #[] #[]]) (by simp [results, Tryz.results75, go_sem, *]) rfl ⟨b, rfl, by have q := HB1.out; (repeat' (first | (with_reducible exact Below.refl _ _) | (with_reducible assumption) | (with_reducible apply Below.setCell) | (with_reducible apply Below.alloc) | (with_reducible apply Below.drew) | (with_reducible apply below_drewN) | (with_reducible refine Below.trans ?_ (Below.mono (by assumption) ?_)) | omega | (simp; done) | (simp; omega))), by simp [go_sem, *], by simpa using hl1, by simp at hg1; omega⟩
theorem mk_senders (w : World) : Calls Tryz.prog 78 #[] w (MadeN 11 w) := by
  have CS := hidd (fun W => mkN_any 11 W)
  go_enter Tryz.func78, Tryz.ntmps78
  go_wp2_with fail
  refine (CS.out _).mono ?_
  rintro e w1 ⟨b, rfl, hb1, hc1, hl1, hg1⟩
  have hz : w.heap.size < w1.heap.size := by have := hb1.size; simp at this; omega
  have hne : ¬ b = w.heap.size := by simp at hg1; omega
  have hne2 : ¬ w.heap.size = b := fun h => hne h.symm
  obtain ⟨bc, bf⟩ := bcell hb1
  have g0 : w1.cell? ⟨w.heap.size, 0, none⟩ = some .nilFunc := by rw [bc _ _ (by simp)]; simp [go_sem]
  have g1 : w1.cell? ⟨w.heap.size, 1, none⟩ = some .nilFunc := by rw [bc _ _ (by simp)]; simp [go_sem]
  have g2 : w1.cell? ⟨w.heap.size, 2, none⟩ = some .nilFunc := by rw [bc _ _ (by simp)]; simp [go_sem]
  have h0 : w1.frozen? ⟨w.heap.size, 0, none⟩ = false := by rw [bf _ _ (by simp)]; simp [go_sem]
  have h1 : w1.frozen? ⟨w.heap.size, 1, none⟩ = false := by rw [bf _ _ (by simp)]; simp [go_sem]
  have h2 : w1.frozen? ⟨w.heap.size, 2, none⟩ = false := by rw [bf _ _ (by simp)]; simp [go_sem]
  have HB1 := hidd (show Below w.heap.size w w1 by (repeat' (first | (with_reducible exact Below.refl _ _) | (with_reducible assumption) | (with_reducible apply Below.setCell) | (with_reducible apply Below.alloc) | (with_reducible apply Below.drew) | (with_reducible apply below_drewN) | (with_reducible refine Below.trans ?_ (Below.mono (by assumption) ?_)) | omega | (simp; done) | (simp; omega))))
  clear hb1 bc bf
  go_wp2_with fail
  exact bodyPost_ret (v := .agg #[.func (.func 170) #[] #[], .func (.func 171) #[] #[.pointer (some ⟨b, 0, none⟩)], .func (.func 172) #[] #[]]) (by simp [results, Tryz.results78, go_sem, *]) rfl ⟨b, rfl, by have q := HB1.out; (repeat' (first | (with_reducible exact Below.refl _ _) | (with_reducible assumption) | (with_reducible apply Below.setCell) | (with_reducible apply Below.alloc) | (with_reducible apply Below.drew) | (with_reducible apply below_drewN) | (with_reducible refine Below.trans ?_ (Below.mono (by assumption) ?_)) | omega | (simp; done) | (simp; omega))), by simp [go_sem, *], by simpa using hl1, by simp at hg1; omega⟩
theorem entN_m : ∀ args w, (callFunc 170 args).run Tryz.prog w = .ok (.enter 170 args) w := fun args w => by simp [callFunc, Tryz.func170, Tryz.f170, mark]
theorem entN_o : ∀ args w, (callFunc 171 args).run Tryz.prog w = .ok (.enter 171 args) w := fun args w => by simp [callFunc, Tryz.func171, Tryz.f171, mark]
theorem entN_t : ∀ args w, (callFunc 172 args).run Tryz.prog w = .ok (.enter 172 args) w := fun args w => by simp [callFunc, Tryz.func172, Tryz.f172, mark]
set_option maxHeartbeats 2000000 in
theorem Filter_any (x0 x1 : Int) (w : World) : Calls Tryz.prog 38 #[.agg #[.int .i64 x0, .int .i64 x1]] w (SaidEnd (mayN x0 x1) 10 1 [x0, x1] w) := by
  have CM := hidd (fun W => mk_filters W)
  have cs := fun W b (hc : W.cell? ⟨b, 0, none⟩ = some (.int .i64 10)) (hb : b < W.heap.size) => saidN_any 170 171 172 entN_m entN_o #[.pointer (some ⟨b, 0, none⟩)] (mayN x0 x1) 10 1 [x0, x1] x0 x1 W (fun W' _ => mayN_any x0 x1 W') (fun hm W' hW => objN_any 10 b x0 x1 hm W' ((hW.cell (p := ⟨b, 0, none⟩) hb).trans hc) (Nat.lt_of_lt_of_le hb hW.size))
  unfold SaidEnd at *
  generalize mayN x0 x1 = M at *
  cases M; rotate_left
  · have CS := hidd (fun W b hc hb => said_yes (cs W b hc hb))
    clear cs
    obtain ⟨W1, hW1⟩ : ∃ W1, ((w.alloc (.cells #[.int .i64 x0, .int .i64 x1] 33)).alloc (.cells #[.int .i64 0, .int .i64 0, .slice none 0 0] 42)) = W1 := ⟨_, rfl⟩
    have hz1 : W1.heap.size = w.heap.size + 2 := by rw [← hW1]; simp
    have hBw : Below w.heap.size w W1 := by rw [← hW1]; (repeat' (first | (with_reducible exact Below.refl _ _) | (with_reducible assumption) | (with_reducible apply Below.setCell) | (with_reducible apply Below.alloc) | (with_reducible apply Below.drew) | (with_reducible apply below_drewN) | (with_reducible refine Below.trans ?_ (Below.mono (by assumption) ?_)) | omega | (simp; done) | (simp; omega)))
    have g0 : W1.cell? ⟨w.heap.size + 1, 0, none⟩ = some (.int .i64 0) := by rw [← hW1]; simp [go_sem]
    have h0 : W1.frozen? ⟨w.heap.size + 1, 0, none⟩ = false := by rw [← hW1]; simp [go_sem]
    have g1 : W1.cell? ⟨w.heap.size + 1, 1, none⟩ = some (.int .i64 0) := by rw [← hW1]; simp [go_sem]
    have h1 : W1.frozen? ⟨w.heap.size + 1, 1, none⟩ = false := by rw [← hW1]; simp [go_sem]
    have g2 : W1.cell? ⟨w.heap.size + 1, 2, none⟩ = some (.slice none 0 0) := by rw [← hW1]; simp [go_sem]
    have h2 : W1.frozen? ⟨w.heap.size + 1, 2, none⟩ = false := by rw [← hW1]; simp [go_sem]
    have l0 : W1.cell? ⟨w.heap.size, 0, none⟩ = some (.int .i64 x0) := by rw [← hW1]; simp [go_sem]
    have l1 : W1.cell? ⟨w.heap.size, 1, none⟩ = some (.int .i64 x1) := by rw [← hW1]; simp [go_sem]
    have KEEP := hidd (fun (W : World) (hb : Below W1.heap.size W1 W) => (show W.cell? ⟨w.heap.size, 0, none⟩ = some (.int .i64 x0) ∧ W.cell? ⟨w.heap.size, 1, none⟩ = some (.int .i64 x1) from ⟨(hb.cell (p := ⟨w.heap.size, 0, none⟩) (by show w.heap.size < W1.heap.size; omega)).trans l0, (hb.cell (p := ⟨w.heap.size, 1, none⟩) (by show w.heap.size < W1.heap.size; omega)).trans l1⟩))
    have OUT := hidd (fun (W : World) (hb : Below W1.heap.size W1 W) => (show (W.cell? ⟨w.heap.size + 1, 0, none⟩ = some (.int .i64 0) ∧ W.cell? ⟨w.heap.size + 1, 1, none⟩ = some (.int .i64 0) ∧ W.cell? ⟨w.heap.size + 1, 2, none⟩ = some (.slice none 0 0)) ∧ (W.frozen? ⟨w.heap.size + 1, 0, none⟩ = false ∧ W.frozen? ⟨w.heap.size + 1, 1, none⟩ = false ∧ W.frozen? ⟨w.heap.size + 1, 2, none⟩ = false) ∧ w.heap.size + 1 < W.heap.size from ⟨⟨(hb.cell (p := ⟨w.heap.size + 1, 0, none⟩) (by show w.heap.size + 1 < W1.heap.size; omega)).trans g0, (hb.cell (p := ⟨w.heap.size + 1, 1, none⟩) (by show w.heap.size + 1 < W1.heap.size; omega)).trans g1, (hb.cell (p := ⟨w.heap.size + 1, 2, none⟩) (by show w.heap.size + 1 < W1.heap.size; omega)).trans g2⟩, ⟨(hb.frozen (p := ⟨w.heap.size + 1, 0, none⟩) (by show w.heap.size + 1 < W1.heap.size; omega)).trans h0, (hb.frozen (p := ⟨w.heap.size + 1, 1, none⟩) (by show w.heap.size + 1 < W1.heap.size; omega)).trans h1, (hb.frozen (p := ⟨w.heap.size + 1, 2, none⟩) (by show w.heap.size + 1 < W1.heap.size; omega)).trans h2⟩, Nat.lt_of_lt_of_le (by omega) hb.size⟩))
    have HBX := hidd (fun (W : World) (hb : Below W1.heap.size W1 W) => below_step hBw hb)
    have HW1 := hidd hW1
    clear hW1 hBw g0 h0 g1 h1 g2 h2 l0 l1
    obtain ⟨k0, k1⟩ := KEEP.out _ (Below.refl _ _)
    go_enter Tryz.func38, Tryz.ntmps38
    go_wp2_with fail
    rw [HW1.out]
    go_region_held (fun W => W.cell? ⟨w.heap.size, 0, none⟩ = some (.int .i64 x0) ∧ W.cell? ⟨w.heap.size, 1, none⟩ = some (.int .i64 x1))
      ((first | exact KEEP.out _ cum2 | exact KEEP.out _ cum1 | exact KEEP.out _ (Below.refl _ _) | exact KEEP.out _ (Below.drew (Below.refl _ _)) | (obtain ⟨j0, j1⟩ := KEEP.out _ cum2; refine ⟨?_, ?_⟩ <;> simp [go_sem, *]; done)))
      ((first
        | (go_at_call 75; refine ((CM.out _)).mono ?_; rintro E1 v1 ⟨bq, rfl, l1, hcq, hbq, _⟩; have cum1 : Below W1.heap.size W1 v1 := (by first | exact below_step (Below.drew (Below.refl _ _)) l1 | exact below_step (Below.refl _ _) l1))
        | (go_at_call 76; have HBW := HBX.out _ cum1; refine ((CS.out _ bq hcq hbq)).mono ?_; rintro E2 v2 ⟨l2, A, k, rfl, hl2⟩; have cum2 : Below W1.heap.size W1 v2 := below_step cum1 l2; obtain ⟨⟨p0, p1, p2⟩, ⟨q0, q1, q2⟩, hzz⟩ := OUT.out _ cum2; have HB2 := hidd (HBX.out _ cum2))))
    all_goals have HL := hidd (hl2.to (p' := fun q => w.heap.size + 1 + 1 ≤ q ∧ q < v2.heap.size) (fun q hq => ⟨⟨by have := cum1.size; omega, hq.2⟩, rfl⟩))
    all_goals clear hl2
    all_goals go_wp2_with fail
    all_goals refine bodyPost_ret (v := .tuple #[.agg #[.int .i64 10, .int .i64 1, .slice A 2 k], .int .i64 0]) (by simp [results, Tryz.results38, go_sem, *]) rfl ⟨by have q := HB2.out; (repeat' (first | (with_reducible exact Below.refl _ _) | (with_reducible assumption) | (with_reducible apply Below.setCell) | (with_reducible apply Below.alloc) | (with_reducible apply Below.drew) | (with_reducible apply below_drewN) | (with_reducible refine Below.trans ?_ (Below.mono (by assumption) ?_)) | omega | (simp; done) | (simp; omega))), .inl ⟨(by first | exact rfl | exact trivial), A, k, rfl, ?_⟩⟩
    all_goals exact (((HL.out.low (p := ⟨w.heap.size + 1, 0, none⟩) (by simp) _).low (p := ⟨w.heap.size + 1, 1, none⟩) (by simp) _).low (p := ⟨w.heap.size + 1, 2, none⟩) (by simp) _).to (fun q hq => ⟨⟨by omega, hq.2⟩, rfl⟩)
  
  · have CS := hidd (fun W b hc hb => said_no (cs W b hc hb))
    clear cs
    obtain ⟨W1, hW1⟩ : ∃ W1, ((w.alloc (.cells #[.int .i64 x0, .int .i64 x1] 33)).alloc (.cells #[.int .i64 0, .int .i64 0, .slice none 0 0] 42)) = W1 := ⟨_, rfl⟩
    have hz1 : W1.heap.size = w.heap.size + 2 := by rw [← hW1]; simp
    have hBw : Below w.heap.size w W1 := by rw [← hW1]; (repeat' (first | (with_reducible exact Below.refl _ _) | (with_reducible assumption) | (with_reducible apply Below.setCell) | (with_reducible apply Below.alloc) | (with_reducible apply Below.drew) | (with_reducible apply below_drewN) | (with_reducible refine Below.trans ?_ (Below.mono (by assumption) ?_)) | omega | (simp; done) | (simp; omega)))
    have g0 : W1.cell? ⟨w.heap.size + 1, 0, none⟩ = some (.int .i64 0) := by rw [← hW1]; simp [go_sem]
    have h0 : W1.frozen? ⟨w.heap.size + 1, 0, none⟩ = false := by rw [← hW1]; simp [go_sem]
    have g1 : W1.cell? ⟨w.heap.size + 1, 1, none⟩ = some (.int .i64 0) := by rw [← hW1]; simp [go_sem]
    have h1 : W1.frozen? ⟨w.heap.size + 1, 1, none⟩ = false := by rw [← hW1]; simp [go_sem]
    have g2 : W1.cell? ⟨w.heap.size + 1, 2, none⟩ = some (.slice none 0 0) := by rw [← hW1]; simp [go_sem]
    have h2 : W1.frozen? ⟨w.heap.size + 1, 2, none⟩ = false := by rw [← hW1]; simp [go_sem]
    have l0 : W1.cell? ⟨w.heap.size, 0, none⟩ = some (.int .i64 x0) := by rw [← hW1]; simp [go_sem]
    have l1 : W1.cell? ⟨w.heap.size, 1, none⟩ = some (.int .i64 x1) := by rw [← hW1]; simp [go_sem]
    have KEEP := hidd (fun (W : World) (hb : Below W1.heap.size W1 W) => (show W.cell? ⟨w.heap.size, 0, none⟩ = some (.int .i64 x0) ∧ W.cell? ⟨w.heap.size, 1, none⟩ = some (.int .i64 x1) from ⟨(hb.cell (p := ⟨w.heap.size, 0, none⟩) (by show w.heap.size < W1.heap.size; omega)).trans l0, (hb.cell (p := ⟨w.heap.size, 1, none⟩) (by show w.heap.size < W1.heap.size; omega)).trans l1⟩))
    have OUT := hidd (fun (W : World) (hb : Below W1.heap.size W1 W) => (show (W.cell? ⟨w.heap.size + 1, 0, none⟩ = some (.int .i64 0) ∧ W.cell? ⟨w.heap.size + 1, 1, none⟩ = some (.int .i64 0) ∧ W.cell? ⟨w.heap.size + 1, 2, none⟩ = some (.slice none 0 0)) ∧ (W.frozen? ⟨w.heap.size + 1, 0, none⟩ = false ∧ W.frozen? ⟨w.heap.size + 1, 1, none⟩ = false ∧ W.frozen? ⟨w.heap.size + 1, 2, none⟩ = false) ∧ w.heap.size + 1 < W.heap.size from ⟨⟨(hb.cell (p := ⟨w.heap.size + 1, 0, none⟩) (by show w.heap.size + 1 < W1.heap.size; omega)).trans g0, (hb.cell (p := ⟨w.heap.size + 1, 1, none⟩) (by show w.heap.size + 1 < W1.heap.size; omega)).trans g1, (hb.cell (p := ⟨w.heap.size + 1, 2, none⟩) (by show w.heap.size + 1 < W1.heap.size; omega)).trans g2⟩, ⟨(hb.frozen (p := ⟨w.heap.size + 1, 0, none⟩) (by show w.heap.size + 1 < W1.heap.size; omega)).trans h0, (hb.frozen (p := ⟨w.heap.size + 1, 1, none⟩) (by show w.heap.size + 1 < W1.heap.size; omega)).trans h1, (hb.frozen (p := ⟨w.heap.size + 1, 2, none⟩) (by show w.heap.size + 1 < W1.heap.size; omega)).trans h2⟩, Nat.lt_of_lt_of_le (by omega) hb.size⟩))
    have HBX := hidd (fun (W : World) (hb : Below W1.heap.size W1 W) => below_step hBw hb)
    have HW1 := hidd hW1
    clear hW1 hBw g0 h0 g1 h1 g2 h2 l0 l1
    obtain ⟨k0, k1⟩ := KEEP.out _ (Below.refl _ _)
    go_enter Tryz.func38, Tryz.ntmps38
    go_wp2_with fail
    rw [HW1.out]
    go_region_held (fun W => W.cell? ⟨w.heap.size, 0, none⟩ = some (.int .i64 x0) ∧ W.cell? ⟨w.heap.size, 1, none⟩ = some (.int .i64 x1))
      ((first | exact KEEP.out _ cum2 | exact KEEP.out _ cum1 | exact KEEP.out _ (Below.refl _ _) | exact KEEP.out _ (Below.drew (Below.refl _ _)) | (obtain ⟨j0, j1⟩ := KEEP.out _ cum2; refine ⟨?_, ?_⟩ <;> simp [go_sem, *]; done)))
      ((first
        | (go_at_call 75; refine ((CM.out _)).mono ?_; rintro E1 v1 ⟨bq, rfl, l1, hcq, hbq, _⟩; have cum1 : Below W1.heap.size W1 v1 := (by first | exact below_step (Below.drew (Below.refl _ _)) l1 | exact below_step (Below.refl _ _) l1))
        | (go_at_call 76; have HBW := HBX.out _ cum1; refine ((CS.out _ bq hcq hbq)).mono ?_; rintro E2 v2 ⟨l2, rfl⟩; have cum2 : Below W1.heap.size W1 v2 := below_step cum1 l2; obtain ⟨⟨p0, p1, p2⟩, ⟨q0, q1, q2⟩, hzz⟩ := OUT.out _ cum2; have HB2 := hidd (HBX.out _ cum2))))
    all_goals go_wp2_with fail
    all_goals exact bodyPost_ret (v := .tuple #[.agg #[.int .i64 0, .int .i64 0, .slice none 0 0], .int .i64 2]) (by simp [results, Tryz.results38, go_sem, *]) rfl ⟨by have q := HB2.out; (repeat' (first | (with_reducible exact Below.refl _ _) | (with_reducible assumption) | (with_reducible apply Below.setCell) | (with_reducible apply Below.alloc) | (with_reducible apply Below.drew) | (with_reducible apply below_drewN) | (with_reducible refine Below.trans ?_ (Below.mono (by assumption) ?_)) | omega | (simp; done) | (simp; omega))), .inr ⟨(by first | exact rfl | exact trivial), rfl⟩⟩
set_option maxHeartbeats 2000000 in
theorem AsFilter_any (c t : Int) (A : Option Addr) (ws : List Int) (m : Nat) (hws : ws.length ≤ 9223372036854775807) (hwb : ∀ x ∈ ws, -9223372036854775808 ≤ x ∧ x ≤ 9223372036854775807) (w : World) (hl : LieQ wdV 1 w (· < w.heap.size) A ws) :
    Calls Tryz.prog 41 #[.agg #[.int .i64 c, .int .i64 t, .slice A ws.length m]] w (HeardN (mayN ((av ws 0)) ((av ws 1)) && sameB 10 1 [((av ws 0)), ((av ws 1))] c t ws) ((av ws 0)) ((av ws 1)) w) := by
  have CM := hidd (fun W => mk_filters W)
  have hy := av_bounds hwb
  have CH := hidd (fun W b (hc : W.cell? ⟨b, 0, none⟩ = some (.int .i64 10)) (hb : b < W.heap.size) (h : LieQ wdV 1 W (· < W.heap.size) A ws) => heardN_any 170 171 172 entN_m entN_o entN_t #[.pointer (some ⟨b, 0, none⟩)] (mayN ((av ws 0)) ((av ws 1))) 10 1 [((av ws 0)), ((av ws 1))] (by simp) ((av ws 0)) ((av ws 1)) c t A ws m hws W h (fun W' _ => thingN_any _ _ _ _ _ _ _ hy W') (fun W' _ => mayN_any ((av ws 0)) ((av ws 1)) W') (fun hm W' hW => objN_any 10 b ((av ws 0)) ((av ws 1)) hm W' ((hW.cell (p := ⟨b, 0, none⟩) hb).trans hc) (Nat.lt_of_lt_of_le hb hW.size)))
  have HL := hidd hl
  generalize (mayN ((av ws 0)) ((av ws 1)) && sameB 10 1 [((av ws 0)), ((av ws 1))] c t ws) = G at *
  generalize (av ws 0) = z0 at *
  generalize (av ws 1) = z1 at *
  clear hl hy hwb hws
  unfold HeardN at *
  cases G; rotate_left
  · have CS := hidd (fun W b hc hb h => heard_yes (CH.out W b hc hb h))
    have HL1 := hidd (fun W (hb : Below w.heap.size w W) => HL.out.below hb)
    clear CH
    obtain ⟨W1, hW1⟩ : ∃ W1, ((w.alloc (.cells #[.int .i64 c, .int .i64 t, .slice A ws.length m] 42)).alloc (.cells #[.int .i64 0, .int .i64 0] 33)) = W1 := ⟨_, rfl⟩
    have hz1 : W1.heap.size = w.heap.size + 2 := by rw [← hW1]; simp
    have hBw : Below w.heap.size w W1 := by rw [← hW1]; (repeat' (first | (with_reducible exact Below.refl _ _) | (with_reducible assumption) | (with_reducible apply Below.setCell) | (with_reducible apply Below.alloc) | (with_reducible apply Below.drew) | (with_reducible apply below_drewN) | (with_reducible refine Below.trans ?_ (Below.mono (by assumption) ?_)) | omega | (simp; done) | (simp; omega)))
    have g0 : W1.cell? ⟨w.heap.size + 1, 0, none⟩ = some (.int .i64 0) := by rw [← hW1]; simp [go_sem]
    have h0 : W1.frozen? ⟨w.heap.size + 1, 0, none⟩ = false := by rw [← hW1]; simp [go_sem]
    have g1 : W1.cell? ⟨w.heap.size + 1, 1, none⟩ = some (.int .i64 0) := by rw [← hW1]; simp [go_sem]
    have h1 : W1.frozen? ⟨w.heap.size + 1, 1, none⟩ = false := by rw [← hW1]; simp [go_sem]
    have l0 : W1.cell? ⟨w.heap.size, 0, none⟩ = some (.int .i64 c) := by rw [← hW1]; simp [go_sem]
    have l1 : W1.cell? ⟨w.heap.size, 1, none⟩ = some (.int .i64 t) := by rw [← hW1]; simp [go_sem]
    have l2 : W1.cell? ⟨w.heap.size, 2, none⟩ = some (.slice A ws.length m) := by rw [← hW1]; simp [go_sem]
    have KEEP := hidd (fun (W : World) (hb : Below W1.heap.size W1 W) => (show W.cell? ⟨w.heap.size, 0, none⟩ = some (.int .i64 c) ∧ W.cell? ⟨w.heap.size, 1, none⟩ = some (.int .i64 t) ∧ W.cell? ⟨w.heap.size, 2, none⟩ = some (.slice A ws.length m) from ⟨(hb.cell (p := ⟨w.heap.size, 0, none⟩) (by show w.heap.size < W1.heap.size; omega)).trans l0, (hb.cell (p := ⟨w.heap.size, 1, none⟩) (by show w.heap.size < W1.heap.size; omega)).trans l1, (hb.cell (p := ⟨w.heap.size, 2, none⟩) (by show w.heap.size < W1.heap.size; omega)).trans l2⟩))
    have OUT := hidd (fun (W : World) (hb : Below W1.heap.size W1 W) => (show (W.cell? ⟨w.heap.size + 1, 0, none⟩ = some (.int .i64 0) ∧ W.cell? ⟨w.heap.size + 1, 1, none⟩ = some (.int .i64 0)) ∧ (W.frozen? ⟨w.heap.size + 1, 0, none⟩ = false ∧ W.frozen? ⟨w.heap.size + 1, 1, none⟩ = false) ∧ w.heap.size + 1 < W.heap.size from ⟨⟨(hb.cell (p := ⟨w.heap.size + 1, 0, none⟩) (by show w.heap.size + 1 < W1.heap.size; omega)).trans g0, (hb.cell (p := ⟨w.heap.size + 1, 1, none⟩) (by show w.heap.size + 1 < W1.heap.size; omega)).trans g1⟩, ⟨(hb.frozen (p := ⟨w.heap.size + 1, 0, none⟩) (by show w.heap.size + 1 < W1.heap.size; omega)).trans h0, (hb.frozen (p := ⟨w.heap.size + 1, 1, none⟩) (by show w.heap.size + 1 < W1.heap.size; omega)).trans h1⟩, Nat.lt_of_lt_of_le (by omega) hb.size⟩))
    have HBX := hidd (fun (W : World) (hb : Below W1.heap.size W1 W) => below_step hBw hb)
    have HW1 := hidd hW1
    clear hW1 hBw g0 h0 g1 h1 l0 l1 l2
    obtain ⟨k0, k1, k2⟩ := KEEP.out _ (Below.refl _ _)
    go_enter Tryz.func41, Tryz.ntmps41
    go_wp2_with fail
    rw [HW1.out]
    go_region_held (fun W => W.cell? ⟨w.heap.size, 0, none⟩ = some (.int .i64 c) ∧ W.cell? ⟨w.heap.size, 1, none⟩ = some (.int .i64 t) ∧ W.cell? ⟨w.heap.size, 2, none⟩ = some (.slice A ws.length m))
      ((first | exact KEEP.out _ cum2 | exact KEEP.out _ cum1 | exact KEEP.out _ (Below.refl _ _) | exact KEEP.out _ (Below.drew (Below.refl _ _)) | (obtain ⟨j0, j1, j2⟩ := KEEP.out _ cum2; refine ⟨?_, ?_, ?_⟩ <;> simp [go_sem, *]; done)))
      ((first
        | (go_at_call 75; refine ((CM.out _)).mono ?_; rintro E1 v1 ⟨bq, rfl, l1, hcq, hbq, _⟩; have cum1 : Below W1.heap.size W1 v1 := (by first | exact below_step (Below.drew (Below.refl _ _)) l1 | exact below_step (Below.refl _ _) l1))
        | (go_at_call 77; have HBW := HBX.out _ cum1; refine ((CS.out _ bq hcq hbq (HL1.out _ HBW))).mono ?_; rintro E2 v2 ⟨l2, rfl⟩; have cum2 : Below W1.heap.size W1 v2 := below_step cum1 l2; obtain ⟨⟨p0, p1⟩, ⟨q0, q1⟩, hzz⟩ := OUT.out _ cum2; have HB2 := hidd (HBX.out _ cum2))))
    all_goals go_wp2_with fail
    all_goals exact bodyPost_ret (v := .tuple #[.agg #[.int .i64 z0, .int .i64 z1], .int .i64 0]) (by simp [results, Tryz.results41, go_sem, *]) rfl ⟨by have q := HB2.out; (repeat' (first | (with_reducible exact Below.refl _ _) | (with_reducible assumption) | (with_reducible apply Below.setCell) | (with_reducible apply Below.alloc) | (with_reducible apply Below.drew) | (with_reducible apply below_drewN) | (with_reducible refine Below.trans ?_ (Below.mono (by assumption) ?_)) | omega | (simp; done) | (simp; omega))), .inl ⟨(by first | exact rfl | exact trivial), rfl⟩⟩
  
  · have CS := hidd (fun W b hc hb h => heard_no (CH.out W b hc hb h))
    have HL1 := hidd (fun W (hb : Below w.heap.size w W) => HL.out.below hb)
    clear CH
    obtain ⟨W1, hW1⟩ : ∃ W1, ((w.alloc (.cells #[.int .i64 c, .int .i64 t, .slice A ws.length m] 42)).alloc (.cells #[.int .i64 0, .int .i64 0] 33)) = W1 := ⟨_, rfl⟩
    have hz1 : W1.heap.size = w.heap.size + 2 := by rw [← hW1]; simp
    have hBw : Below w.heap.size w W1 := by rw [← hW1]; (repeat' (first | (with_reducible exact Below.refl _ _) | (with_reducible assumption) | (with_reducible apply Below.setCell) | (with_reducible apply Below.alloc) | (with_reducible apply Below.drew) | (with_reducible apply below_drewN) | (with_reducible refine Below.trans ?_ (Below.mono (by assumption) ?_)) | omega | (simp; done) | (simp; omega)))
    have g0 : W1.cell? ⟨w.heap.size + 1, 0, none⟩ = some (.int .i64 0) := by rw [← hW1]; simp [go_sem]
    have h0 : W1.frozen? ⟨w.heap.size + 1, 0, none⟩ = false := by rw [← hW1]; simp [go_sem]
    have g1 : W1.cell? ⟨w.heap.size + 1, 1, none⟩ = some (.int .i64 0) := by rw [← hW1]; simp [go_sem]
    have h1 : W1.frozen? ⟨w.heap.size + 1, 1, none⟩ = false := by rw [← hW1]; simp [go_sem]
    have l0 : W1.cell? ⟨w.heap.size, 0, none⟩ = some (.int .i64 c) := by rw [← hW1]; simp [go_sem]
    have l1 : W1.cell? ⟨w.heap.size, 1, none⟩ = some (.int .i64 t) := by rw [← hW1]; simp [go_sem]
    have l2 : W1.cell? ⟨w.heap.size, 2, none⟩ = some (.slice A ws.length m) := by rw [← hW1]; simp [go_sem]
    have KEEP := hidd (fun (W : World) (hb : Below W1.heap.size W1 W) => (show W.cell? ⟨w.heap.size, 0, none⟩ = some (.int .i64 c) ∧ W.cell? ⟨w.heap.size, 1, none⟩ = some (.int .i64 t) ∧ W.cell? ⟨w.heap.size, 2, none⟩ = some (.slice A ws.length m) from ⟨(hb.cell (p := ⟨w.heap.size, 0, none⟩) (by show w.heap.size < W1.heap.size; omega)).trans l0, (hb.cell (p := ⟨w.heap.size, 1, none⟩) (by show w.heap.size < W1.heap.size; omega)).trans l1, (hb.cell (p := ⟨w.heap.size, 2, none⟩) (by show w.heap.size < W1.heap.size; omega)).trans l2⟩))
    have OUT := hidd (fun (W : World) (hb : Below W1.heap.size W1 W) => (show (W.cell? ⟨w.heap.size + 1, 0, none⟩ = some (.int .i64 0) ∧ W.cell? ⟨w.heap.size + 1, 1, none⟩ = some (.int .i64 0)) ∧ (W.frozen? ⟨w.heap.size + 1, 0, none⟩ = false ∧ W.frozen? ⟨w.heap.size + 1, 1, none⟩ = false) ∧ w.heap.size + 1 < W.heap.size from ⟨⟨(hb.cell (p := ⟨w.heap.size + 1, 0, none⟩) (by show w.heap.size + 1 < W1.heap.size; omega)).trans g0, (hb.cell (p := ⟨w.heap.size + 1, 1, none⟩) (by show w.heap.size + 1 < W1.heap.size; omega)).trans g1⟩, ⟨(hb.frozen (p := ⟨w.heap.size + 1, 0, none⟩) (by show w.heap.size + 1 < W1.heap.size; omega)).trans h0, (hb.frozen (p := ⟨w.heap.size + 1, 1, none⟩) (by show w.heap.size + 1 < W1.heap.size; omega)).trans h1⟩, Nat.lt_of_lt_of_le (by omega) hb.size⟩))
    have HBX := hidd (fun (W : World) (hb : Below W1.heap.size W1 W) => below_step hBw hb)
    have HW1 := hidd hW1
    clear hW1 hBw g0 h0 g1 h1 l0 l1 l2
    obtain ⟨k0, k1, k2⟩ := KEEP.out _ (Below.refl _ _)
    go_enter Tryz.func41, Tryz.ntmps41
    go_wp2_with fail
    rw [HW1.out]
    go_region_held (fun W => W.cell? ⟨w.heap.size, 0, none⟩ = some (.int .i64 c) ∧ W.cell? ⟨w.heap.size, 1, none⟩ = some (.int .i64 t) ∧ W.cell? ⟨w.heap.size, 2, none⟩ = some (.slice A ws.length m))
      ((first | exact KEEP.out _ cum2 | exact KEEP.out _ cum1 | exact KEEP.out _ (Below.refl _ _) | exact KEEP.out _ (Below.drew (Below.refl _ _)) | (obtain ⟨j0, j1, j2⟩ := KEEP.out _ cum2; refine ⟨?_, ?_, ?_⟩ <;> simp [go_sem, *]; done)))
      ((first
        | (go_at_call 75; refine ((CM.out _)).mono ?_; rintro E1 v1 ⟨bq, rfl, l1, hcq, hbq, _⟩; have cum1 : Below W1.heap.size W1 v1 := (by first | exact below_step (Below.drew (Below.refl _ _)) l1 | exact below_step (Below.refl _ _) l1))
        | (go_at_call 77; have HBW := HBX.out _ cum1; refine ((CS.out _ bq hcq hbq (HL1.out _ HBW))).mono ?_; rintro E2 v2 ⟨l2, rfl⟩; have cum2 : Below W1.heap.size W1 v2 := below_step cum1 l2; obtain ⟨⟨p0, p1⟩, ⟨q0, q1⟩, hzz⟩ := OUT.out _ cum2; have HB2 := hidd (HBX.out _ cum2))))
    all_goals go_wp2_with fail
    all_goals exact bodyPost_ret (v := .tuple #[.agg #[.int .i64 0, .int .i64 0], .int .i64 171]) (by simp [results, Tryz.results41, go_sem, *]) rfl ⟨by have q := HB2.out; (repeat' (first | (with_reducible exact Below.refl _ _) | (with_reducible assumption) | (with_reducible apply Below.setCell) | (with_reducible apply Below.alloc) | (with_reducible apply Below.drew) | (with_reducible apply below_drewN) | (with_reducible refine Below.trans ?_ (Below.mono (by assumption) ?_)) | omega | (simp; done) | (simp; omega))), .inr ⟨(by first | exact rfl | exact trivial), rfl⟩⟩
set_option maxHeartbeats 2000000 in
theorem Sender_any (x0 x1 : Int) (w : World) : Calls Tryz.prog 42 #[.agg #[.int .i64 x0, .int .i64 x1]] w (SaidEnd (mayN x0 x1) 11 1 [x0, x1] w) := by
  have CM := hidd (fun W => mk_senders W)
  have cs := fun W b (hc : W.cell? ⟨b, 0, none⟩ = some (.int .i64 11)) (hb : b < W.heap.size) => saidN_any 170 171 172 entN_m entN_o #[.pointer (some ⟨b, 0, none⟩)] (mayN x0 x1) 11 1 [x0, x1] x0 x1 W (fun W' _ => mayN_any x0 x1 W') (fun hm W' hW => objN_any 11 b x0 x1 hm W' ((hW.cell (p := ⟨b, 0, none⟩) hb).trans hc) (Nat.lt_of_lt_of_le hb hW.size))
  unfold SaidEnd at *
  generalize mayN x0 x1 = M at *
  cases M; rotate_left
  · have CS := hidd (fun W b hc hb => said_yes (cs W b hc hb))
    clear cs
    obtain ⟨W1, hW1⟩ : ∃ W1, ((w.alloc (.cells #[.int .i64 x0, .int .i64 x1] 33)).alloc (.cells #[.int .i64 0, .int .i64 0, .slice none 0 0] 42)) = W1 := ⟨_, rfl⟩
    have hz1 : W1.heap.size = w.heap.size + 2 := by rw [← hW1]; simp
    have hBw : Below w.heap.size w W1 := by rw [← hW1]; (repeat' (first | (with_reducible exact Below.refl _ _) | (with_reducible assumption) | (with_reducible apply Below.setCell) | (with_reducible apply Below.alloc) | (with_reducible apply Below.drew) | (with_reducible apply below_drewN) | (with_reducible refine Below.trans ?_ (Below.mono (by assumption) ?_)) | omega | (simp; done) | (simp; omega)))
    have g0 : W1.cell? ⟨w.heap.size + 1, 0, none⟩ = some (.int .i64 0) := by rw [← hW1]; simp [go_sem]
    have h0 : W1.frozen? ⟨w.heap.size + 1, 0, none⟩ = false := by rw [← hW1]; simp [go_sem]
    have g1 : W1.cell? ⟨w.heap.size + 1, 1, none⟩ = some (.int .i64 0) := by rw [← hW1]; simp [go_sem]
    have h1 : W1.frozen? ⟨w.heap.size + 1, 1, none⟩ = false := by rw [← hW1]; simp [go_sem]
    have g2 : W1.cell? ⟨w.heap.size + 1, 2, none⟩ = some (.slice none 0 0) := by rw [← hW1]; simp [go_sem]
    have h2 : W1.frozen? ⟨w.heap.size + 1, 2, none⟩ = false := by rw [← hW1]; simp [go_sem]
    have l0 : W1.cell? ⟨w.heap.size, 0, none⟩ = some (.int .i64 x0) := by rw [← hW1]; simp [go_sem]
    have l1 : W1.cell? ⟨w.heap.size, 1, none⟩ = some (.int .i64 x1) := by rw [← hW1]; simp [go_sem]
    have KEEP := hidd (fun (W : World) (hb : Below W1.heap.size W1 W) => (show W.cell? ⟨w.heap.size, 0, none⟩ = some (.int .i64 x0) ∧ W.cell? ⟨w.heap.size, 1, none⟩ = some (.int .i64 x1) from ⟨(hb.cell (p := ⟨w.heap.size, 0, none⟩) (by show w.heap.size < W1.heap.size; omega)).trans l0, (hb.cell (p := ⟨w.heap.size, 1, none⟩) (by show w.heap.size < W1.heap.size; omega)).trans l1⟩))
    have OUT := hidd (fun (W : World) (hb : Below W1.heap.size W1 W) => (show (W.cell? ⟨w.heap.size + 1, 0, none⟩ = some (.int .i64 0) ∧ W.cell? ⟨w.heap.size + 1, 1, none⟩ = some (.int .i64 0) ∧ W.cell? ⟨w.heap.size + 1, 2, none⟩ = some (.slice none 0 0)) ∧ (W.frozen? ⟨w.heap.size + 1, 0, none⟩ = false ∧ W.frozen? ⟨w.heap.size + 1, 1, none⟩ = false ∧ W.frozen? ⟨w.heap.size + 1, 2, none⟩ = false) ∧ w.heap.size + 1 < W.heap.size from ⟨⟨(hb.cell (p := ⟨w.heap.size + 1, 0, none⟩) (by show w.heap.size + 1 < W1.heap.size; omega)).trans g0, (hb.cell (p := ⟨w.heap.size + 1, 1, none⟩) (by show w.heap.size + 1 < W1.heap.size; omega)).trans g1, (hb.cell (p := ⟨w.heap.size + 1, 2, none⟩) (by show w.heap.size + 1 < W1.heap.size; omega)).trans g2⟩, ⟨(hb.frozen (p := ⟨w.heap.size + 1, 0, none⟩) (by show w.heap.size + 1 < W1.heap.size; omega)).trans h0, (hb.frozen (p := ⟨w.heap.size + 1, 1, none⟩) (by show w.heap.size + 1 < W1.heap.size; omega)).trans h1, (hb.frozen (p := ⟨w.heap.size + 1, 2, none⟩) (by show w.heap.size + 1 < W1.heap.size; omega)).trans h2⟩, Nat.lt_of_lt_of_le (by omega) hb.size⟩))
    have HBX := hidd (fun (W : World) (hb : Below W1.heap.size W1 W) => below_step hBw hb)
    have HW1 := hidd hW1
    clear hW1 hBw g0 h0 g1 h1 g2 h2 l0 l1
    obtain ⟨k0, k1⟩ := KEEP.out _ (Below.refl _ _)
    go_enter Tryz.func42, Tryz.ntmps42
    go_wp2_with fail
    rw [HW1.out]
    go_region_held (fun W => W.cell? ⟨w.heap.size, 0, none⟩ = some (.int .i64 x0) ∧ W.cell? ⟨w.heap.size, 1, none⟩ = some (.int .i64 x1))
      ((first | exact KEEP.out _ cum2 | exact KEEP.out _ cum1 | exact KEEP.out _ (Below.refl _ _) | exact KEEP.out _ (Below.drew (Below.refl _ _)) | (obtain ⟨j0, j1⟩ := KEEP.out _ cum2; refine ⟨?_, ?_⟩ <;> simp [go_sem, *]; done)))
      ((first
        | (go_at_call 78; refine ((CM.out _)).mono ?_; rintro E1 v1 ⟨bq, rfl, l1, hcq, hbq, _⟩; have cum1 : Below W1.heap.size W1 v1 := (by first | exact below_step (Below.drew (Below.refl _ _)) l1 | exact below_step (Below.refl _ _) l1))
        | (go_at_call 76; have HBW := HBX.out _ cum1; refine ((CS.out _ bq hcq hbq)).mono ?_; rintro E2 v2 ⟨l2, A, k, rfl, hl2⟩; have cum2 : Below W1.heap.size W1 v2 := below_step cum1 l2; obtain ⟨⟨p0, p1, p2⟩, ⟨q0, q1, q2⟩, hzz⟩ := OUT.out _ cum2; have HB2 := hidd (HBX.out _ cum2))))
    all_goals have HL := hidd (hl2.to (p' := fun q => w.heap.size + 1 + 1 ≤ q ∧ q < v2.heap.size) (fun q hq => ⟨⟨by have := cum1.size; omega, hq.2⟩, rfl⟩))
    all_goals clear hl2
    all_goals go_wp2_with fail
    all_goals refine bodyPost_ret (v := .tuple #[.agg #[.int .i64 11, .int .i64 1, .slice A 2 k], .int .i64 0]) (by simp [results, Tryz.results42, go_sem, *]) rfl ⟨by have q := HB2.out; (repeat' (first | (with_reducible exact Below.refl _ _) | (with_reducible assumption) | (with_reducible apply Below.setCell) | (with_reducible apply Below.alloc) | (with_reducible apply Below.drew) | (with_reducible apply below_drewN) | (with_reducible refine Below.trans ?_ (Below.mono (by assumption) ?_)) | omega | (simp; done) | (simp; omega))), .inl ⟨(by first | exact rfl | exact trivial), A, k, rfl, ?_⟩⟩
    all_goals exact (((HL.out.low (p := ⟨w.heap.size + 1, 0, none⟩) (by simp) _).low (p := ⟨w.heap.size + 1, 1, none⟩) (by simp) _).low (p := ⟨w.heap.size + 1, 2, none⟩) (by simp) _).to (fun q hq => ⟨⟨by omega, hq.2⟩, rfl⟩)
  
  · have CS := hidd (fun W b hc hb => said_no (cs W b hc hb))
    clear cs
    obtain ⟨W1, hW1⟩ : ∃ W1, ((w.alloc (.cells #[.int .i64 x0, .int .i64 x1] 33)).alloc (.cells #[.int .i64 0, .int .i64 0, .slice none 0 0] 42)) = W1 := ⟨_, rfl⟩
    have hz1 : W1.heap.size = w.heap.size + 2 := by rw [← hW1]; simp
    have hBw : Below w.heap.size w W1 := by rw [← hW1]; (repeat' (first | (with_reducible exact Below.refl _ _) | (with_reducible assumption) | (with_reducible apply Below.setCell) | (with_reducible apply Below.alloc) | (with_reducible apply Below.drew) | (with_reducible apply below_drewN) | (with_reducible refine Below.trans ?_ (Below.mono (by assumption) ?_)) | omega | (simp; done) | (simp; omega)))
    have g0 : W1.cell? ⟨w.heap.size + 1, 0, none⟩ = some (.int .i64 0) := by rw [← hW1]; simp [go_sem]
    have h0 : W1.frozen? ⟨w.heap.size + 1, 0, none⟩ = false := by rw [← hW1]; simp [go_sem]
    have g1 : W1.cell? ⟨w.heap.size + 1, 1, none⟩ = some (.int .i64 0) := by rw [← hW1]; simp [go_sem]
    have h1 : W1.frozen? ⟨w.heap.size + 1, 1, none⟩ = false := by rw [← hW1]; simp [go_sem]
    have g2 : W1.cell? ⟨w.heap.size + 1, 2, none⟩ = some (.slice none 0 0) := by rw [← hW1]; simp [go_sem]
    have h2 : W1.frozen? ⟨w.heap.size + 1, 2, none⟩ = false := by rw [← hW1]; simp [go_sem]
    have l0 : W1.cell? ⟨w.heap.size, 0, none⟩ = some (.int .i64 x0) := by rw [← hW1]; simp [go_sem]
    have l1 : W1.cell? ⟨w.heap.size, 1, none⟩ = some (.int .i64 x1) := by rw [← hW1]; simp [go_sem]
    have KEEP := hidd (fun (W : World) (hb : Below W1.heap.size W1 W) => (show W.cell? ⟨w.heap.size, 0, none⟩ = some (.int .i64 x0) ∧ W.cell? ⟨w.heap.size, 1, none⟩ = some (.int .i64 x1) from ⟨(hb.cell (p := ⟨w.heap.size, 0, none⟩) (by show w.heap.size < W1.heap.size; omega)).trans l0, (hb.cell (p := ⟨w.heap.size, 1, none⟩) (by show w.heap.size < W1.heap.size; omega)).trans l1⟩))
    have OUT := hidd (fun (W : World) (hb : Below W1.heap.size W1 W) => (show (W.cell? ⟨w.heap.size + 1, 0, none⟩ = some (.int .i64 0) ∧ W.cell? ⟨w.heap.size + 1, 1, none⟩ = some (.int .i64 0) ∧ W.cell? ⟨w.heap.size + 1, 2, none⟩ = some (.slice none 0 0)) ∧ (W.frozen? ⟨w.heap.size + 1, 0, none⟩ = false ∧ W.frozen? ⟨w.heap.size + 1, 1, none⟩ = false ∧ W.frozen? ⟨w.heap.size + 1, 2, none⟩ = false) ∧ w.heap.size + 1 < W.heap.size from ⟨⟨(hb.cell (p := ⟨w.heap.size + 1, 0, none⟩) (by show w.heap.size + 1 < W1.heap.size; omega)).trans g0, (hb.cell (p := ⟨w.heap.size + 1, 1, none⟩) (by show w.heap.size + 1 < W1.heap.size; omega)).trans g1, (hb.cell (p := ⟨w.heap.size + 1, 2, none⟩) (by show w.heap.size + 1 < W1.heap.size; omega)).trans g2⟩, ⟨(hb.frozen (p := ⟨w.heap.size + 1, 0, none⟩) (by show w.heap.size + 1 < W1.heap.size; omega)).trans h0, (hb.frozen (p := ⟨w.heap.size + 1, 1, none⟩) (by show w.heap.size + 1 < W1.heap.size; omega)).trans h1, (hb.frozen (p := ⟨w.heap.size + 1, 2, none⟩) (by show w.heap.size + 1 < W1.heap.size; omega)).trans h2⟩, Nat.lt_of_lt_of_le (by omega) hb.size⟩))
    have HBX := hidd (fun (W : World) (hb : Below W1.heap.size W1 W) => below_step hBw hb)
    have HW1 := hidd hW1
    clear hW1 hBw g0 h0 g1 h1 g2 h2 l0 l1
    obtain ⟨k0, k1⟩ := KEEP.out _ (Below.refl _ _)
    go_enter Tryz.func42, Tryz.ntmps42
    go_wp2_with fail
    rw [HW1.out]
    go_region_held (fun W => W.cell? ⟨w.heap.size, 0, none⟩ = some (.int .i64 x0) ∧ W.cell? ⟨w.heap.size, 1, none⟩ = some (.int .i64 x1))
      ((first | exact KEEP.out _ cum2 | exact KEEP.out _ cum1 | exact KEEP.out _ (Below.refl _ _) | exact KEEP.out _ (Below.drew (Below.refl _ _)) | (obtain ⟨j0, j1⟩ := KEEP.out _ cum2; refine ⟨?_, ?_⟩ <;> simp [go_sem, *]; done)))
      ((first
        | (go_at_call 78; refine ((CM.out _)).mono ?_; rintro E1 v1 ⟨bq, rfl, l1, hcq, hbq, _⟩; have cum1 : Below W1.heap.size W1 v1 := (by first | exact below_step (Below.drew (Below.refl _ _)) l1 | exact below_step (Below.refl _ _) l1))
        | (go_at_call 76; have HBW := HBX.out _ cum1; refine ((CS.out _ bq hcq hbq)).mono ?_; rintro E2 v2 ⟨l2, rfl⟩; have cum2 : Below W1.heap.size W1 v2 := below_step cum1 l2; obtain ⟨⟨p0, p1, p2⟩, ⟨q0, q1, q2⟩, hzz⟩ := OUT.out _ cum2; have HB2 := hidd (HBX.out _ cum2))))
    all_goals go_wp2_with fail
    all_goals exact bodyPost_ret (v := .tuple #[.agg #[.int .i64 0, .int .i64 0, .slice none 0 0], .int .i64 2]) (by simp [results, Tryz.results42, go_sem, *]) rfl ⟨by have q := HB2.out; (repeat' (first | (with_reducible exact Below.refl _ _) | (with_reducible assumption) | (with_reducible apply Below.setCell) | (with_reducible apply Below.alloc) | (with_reducible apply Below.drew) | (with_reducible apply below_drewN) | (with_reducible refine Below.trans ?_ (Below.mono (by assumption) ?_)) | omega | (simp; done) | (simp; omega))), .inr ⟨(by first | exact rfl | exact trivial), rfl⟩⟩
set_option maxHeartbeats 2000000 in
theorem AsSender_any (c t : Int) (A : Option Addr) (ws : List Int) (m : Nat) (hws : ws.length ≤ 9223372036854775807) (hwb : ∀ x ∈ ws, -9223372036854775808 ≤ x ∧ x ≤ 9223372036854775807) (w : World) (hl : LieQ wdV 1 w (· < w.heap.size) A ws) :
    Calls Tryz.prog 44 #[.agg #[.int .i64 c, .int .i64 t, .slice A ws.length m]] w (HeardN (mayN ((av ws 0)) ((av ws 1)) && sameB 11 1 [((av ws 0)), ((av ws 1))] c t ws) ((av ws 0)) ((av ws 1)) w) := by
  have CM := hidd (fun W => mk_senders W)
  have hy := av_bounds hwb
  have CH := hidd (fun W b (hc : W.cell? ⟨b, 0, none⟩ = some (.int .i64 11)) (hb : b < W.heap.size) (h : LieQ wdV 1 W (· < W.heap.size) A ws) => heardN_any 170 171 172 entN_m entN_o entN_t #[.pointer (some ⟨b, 0, none⟩)] (mayN ((av ws 0)) ((av ws 1))) 11 1 [((av ws 0)), ((av ws 1))] (by simp) ((av ws 0)) ((av ws 1)) c t A ws m hws W h (fun W' _ => thingN_any _ _ _ _ _ _ _ hy W') (fun W' _ => mayN_any ((av ws 0)) ((av ws 1)) W') (fun hm W' hW => objN_any 11 b ((av ws 0)) ((av ws 1)) hm W' ((hW.cell (p := ⟨b, 0, none⟩) hb).trans hc) (Nat.lt_of_lt_of_le hb hW.size)))
  have HL := hidd hl
  generalize (mayN ((av ws 0)) ((av ws 1)) && sameB 11 1 [((av ws 0)), ((av ws 1))] c t ws) = G at *
  generalize (av ws 0) = z0 at *
  generalize (av ws 1) = z1 at *
  clear hl hy hwb hws
  unfold HeardN at *
  cases G; rotate_left
  · have CS := hidd (fun W b hc hb h => heard_yes (CH.out W b hc hb h))
    have HL1 := hidd (fun W (hb : Below w.heap.size w W) => HL.out.below hb)
    clear CH
    obtain ⟨W1, hW1⟩ : ∃ W1, ((w.alloc (.cells #[.int .i64 c, .int .i64 t, .slice A ws.length m] 42)).alloc (.cells #[.int .i64 0, .int .i64 0] 33)) = W1 := ⟨_, rfl⟩
    have hz1 : W1.heap.size = w.heap.size + 2 := by rw [← hW1]; simp
    have hBw : Below w.heap.size w W1 := by rw [← hW1]; (repeat' (first | (with_reducible exact Below.refl _ _) | (with_reducible assumption) | (with_reducible apply Below.setCell) | (with_reducible apply Below.alloc) | (with_reducible apply Below.drew) | (with_reducible apply below_drewN) | (with_reducible refine Below.trans ?_ (Below.mono (by assumption) ?_)) | omega | (simp; done) | (simp; omega)))
    have g0 : W1.cell? ⟨w.heap.size + 1, 0, none⟩ = some (.int .i64 0) := by rw [← hW1]; simp [go_sem]
    have h0 : W1.frozen? ⟨w.heap.size + 1, 0, none⟩ = false := by rw [← hW1]; simp [go_sem]
    have g1 : W1.cell? ⟨w.heap.size + 1, 1, none⟩ = some (.int .i64 0) := by rw [← hW1]; simp [go_sem]
    have h1 : W1.frozen? ⟨w.heap.size + 1, 1, none⟩ = false := by rw [← hW1]; simp [go_sem]
    have l0 : W1.cell? ⟨w.heap.size, 0, none⟩ = some (.int .i64 c) := by rw [← hW1]; simp [go_sem]
    have l1 : W1.cell? ⟨w.heap.size, 1, none⟩ = some (.int .i64 t) := by rw [← hW1]; simp [go_sem]
    have l2 : W1.cell? ⟨w.heap.size, 2, none⟩ = some (.slice A ws.length m) := by rw [← hW1]; simp [go_sem]
    have KEEP := hidd (fun (W : World) (hb : Below W1.heap.size W1 W) => (show W.cell? ⟨w.heap.size, 0, none⟩ = some (.int .i64 c) ∧ W.cell? ⟨w.heap.size, 1, none⟩ = some (.int .i64 t) ∧ W.cell? ⟨w.heap.size, 2, none⟩ = some (.slice A ws.length m) from ⟨(hb.cell (p := ⟨w.heap.size, 0, none⟩) (by show w.heap.size < W1.heap.size; omega)).trans l0, (hb.cell (p := ⟨w.heap.size, 1, none⟩) (by show w.heap.size < W1.heap.size; omega)).trans l1, (hb.cell (p := ⟨w.heap.size, 2, none⟩) (by show w.heap.size < W1.heap.size; omega)).trans l2⟩))
    have OUT := hidd (fun (W : World) (hb : Below W1.heap.size W1 W) => (show (W.cell? ⟨w.heap.size + 1, 0, none⟩ = some (.int .i64 0) ∧ W.cell? ⟨w.heap.size + 1, 1, none⟩ = some (.int .i64 0)) ∧ (W.frozen? ⟨w.heap.size + 1, 0, none⟩ = false ∧ W.frozen? ⟨w.heap.size + 1, 1, none⟩ = false) ∧ w.heap.size + 1 < W.heap.size from ⟨⟨(hb.cell (p := ⟨w.heap.size + 1, 0, none⟩) (by show w.heap.size + 1 < W1.heap.size; omega)).trans g0, (hb.cell (p := ⟨w.heap.size + 1, 1, none⟩) (by show w.heap.size + 1 < W1.heap.size; omega)).trans g1⟩, ⟨(hb.frozen (p := ⟨w.heap.size + 1, 0, none⟩) (by show w.heap.size + 1 < W1.heap.size; omega)).trans h0, (hb.frozen (p := ⟨w.heap.size + 1, 1, none⟩) (by show w.heap.size + 1 < W1.heap.size; omega)).trans h1⟩, Nat.lt_of_lt_of_le (by omega) hb.size⟩))
    have HBX := hidd (fun (W : World) (hb : Below W1.heap.size W1 W) => below_step hBw hb)
    have HW1 := hidd hW1
    clear hW1 hBw g0 h0 g1 h1 l0 l1 l2
    obtain ⟨k0, k1, k2⟩ := KEEP.out _ (Below.refl _ _)
    go_enter Tryz.func44, Tryz.ntmps44
    go_wp2_with fail
    rw [HW1.out]
    go_region_held (fun W => W.cell? ⟨w.heap.size, 0, none⟩ = some (.int .i64 c) ∧ W.cell? ⟨w.heap.size, 1, none⟩ = some (.int .i64 t) ∧ W.cell? ⟨w.heap.size, 2, none⟩ = some (.slice A ws.length m))
      ((first | exact KEEP.out _ cum2 | exact KEEP.out _ cum1 | exact KEEP.out _ (Below.refl _ _) | exact KEEP.out _ (Below.drew (Below.refl _ _)) | (obtain ⟨j0, j1, j2⟩ := KEEP.out _ cum2; refine ⟨?_, ?_, ?_⟩ <;> simp [go_sem, *]; done)))
      ((first
        | (go_at_call 78; refine ((CM.out _)).mono ?_; rintro E1 v1 ⟨bq, rfl, l1, hcq, hbq, _⟩; have cum1 : Below W1.heap.size W1 v1 := (by first | exact below_step (Below.drew (Below.refl _ _)) l1 | exact below_step (Below.refl _ _) l1))
        | (go_at_call 77; have HBW := HBX.out _ cum1; refine ((CS.out _ bq hcq hbq (HL1.out _ HBW))).mono ?_; rintro E2 v2 ⟨l2, rfl⟩; have cum2 : Below W1.heap.size W1 v2 := below_step cum1 l2; obtain ⟨⟨p0, p1⟩, ⟨q0, q1⟩, hzz⟩ := OUT.out _ cum2; have HB2 := hidd (HBX.out _ cum2))))
    all_goals go_wp2_with fail
    all_goals exact bodyPost_ret (v := .tuple #[.agg #[.int .i64 z0, .int .i64 z1], .int .i64 0]) (by simp [results, Tryz.results44, go_sem, *]) rfl ⟨by have q := HB2.out; (repeat' (first | (with_reducible exact Below.refl _ _) | (with_reducible assumption) | (with_reducible apply Below.setCell) | (with_reducible apply Below.alloc) | (with_reducible apply Below.drew) | (with_reducible apply below_drewN) | (with_reducible refine Below.trans ?_ (Below.mono (by assumption) ?_)) | omega | (simp; done) | (simp; omega))), .inl ⟨(by first | exact rfl | exact trivial), rfl⟩⟩
  
  · have CS := hidd (fun W b hc hb h => heard_no (CH.out W b hc hb h))
    have HL1 := hidd (fun W (hb : Below w.heap.size w W) => HL.out.below hb)
    clear CH
    obtain ⟨W1, hW1⟩ : ∃ W1, ((w.alloc (.cells #[.int .i64 c, .int .i64 t, .slice A ws.length m] 42)).alloc (.cells #[.int .i64 0, .int .i64 0] 33)) = W1 := ⟨_, rfl⟩
    have hz1 : W1.heap.size = w.heap.size + 2 := by rw [← hW1]; simp
    have hBw : Below w.heap.size w W1 := by rw [← hW1]; (repeat' (first | (with_reducible exact Below.refl _ _) | (with_reducible assumption) | (with_reducible apply Below.setCell) | (with_reducible apply Below.alloc) | (with_reducible apply Below.drew) | (with_reducible apply below_drewN) | (with_reducible refine Below.trans ?_ (Below.mono (by assumption) ?_)) | omega | (simp; done) | (simp; omega)))
    have g0 : W1.cell? ⟨w.heap.size + 1, 0, none⟩ = some (.int .i64 0) := by rw [← hW1]; simp [go_sem]
    have h0 : W1.frozen? ⟨w.heap.size + 1, 0, none⟩ = false := by rw [← hW1]; simp [go_sem]
    have g1 : W1.cell? ⟨w.heap.size + 1, 1, none⟩ = some (.int .i64 0) := by rw [← hW1]; simp [go_sem]
    have h1 : W1.frozen? ⟨w.heap.size + 1, 1, none⟩ = false := by rw [← hW1]; simp [go_sem]
    have l0 : W1.cell? ⟨w.heap.size, 0, none⟩ = some (.int .i64 c) := by rw [← hW1]; simp [go_sem]
    have l1 : W1.cell? ⟨w.heap.size, 1, none⟩ = some (.int .i64 t) := by rw [← hW1]; simp [go_sem]
    have l2 : W1.cell? ⟨w.heap.size, 2, none⟩ = some (.slice A ws.length m) := by rw [← hW1]; simp [go_sem]
    have KEEP := hidd (fun (W : World) (hb : Below W1.heap.size W1 W) => (show W.cell? ⟨w.heap.size, 0, none⟩ = some (.int .i64 c) ∧ W.cell? ⟨w.heap.size, 1, none⟩ = some (.int .i64 t) ∧ W.cell? ⟨w.heap.size, 2, none⟩ = some (.slice A ws.length m) from ⟨(hb.cell (p := ⟨w.heap.size, 0, none⟩) (by show w.heap.size < W1.heap.size; omega)).trans l0, (hb.cell (p := ⟨w.heap.size, 1, none⟩) (by show w.heap.size < W1.heap.size; omega)).trans l1, (hb.cell (p := ⟨w.heap.size, 2, none⟩) (by show w.heap.size < W1.heap.size; omega)).trans l2⟩))
    have OUT := hidd (fun (W : World) (hb : Below W1.heap.size W1 W) => (show (W.cell? ⟨w.heap.size + 1, 0, none⟩ = some (.int .i64 0) ∧ W.cell? ⟨w.heap.size + 1, 1, none⟩ = some (.int .i64 0)) ∧ (W.frozen? ⟨w.heap.size + 1, 0, none⟩ = false ∧ W.frozen? ⟨w.heap.size + 1, 1, none⟩ = false) ∧ w.heap.size + 1 < W.heap.size from ⟨⟨(hb.cell (p := ⟨w.heap.size + 1, 0, none⟩) (by show w.heap.size + 1 < W1.heap.size; omega)).trans g0, (hb.cell (p := ⟨w.heap.size + 1, 1, none⟩) (by show w.heap.size + 1 < W1.heap.size; omega)).trans g1⟩, ⟨(hb.frozen (p := ⟨w.heap.size + 1, 0, none⟩) (by show w.heap.size + 1 < W1.heap.size; omega)).trans h0, (hb.frozen (p := ⟨w.heap.size + 1, 1, none⟩) (by show w.heap.size + 1 < W1.heap.size; omega)).trans h1⟩, Nat.lt_of_lt_of_le (by omega) hb.size⟩))
    have HBX := hidd (fun (W : World) (hb : Below W1.heap.size W1 W) => below_step hBw hb)
    have HW1 := hidd hW1
    clear hW1 hBw g0 h0 g1 h1 l0 l1 l2
    obtain ⟨k0, k1, k2⟩ := KEEP.out _ (Below.refl _ _)
    go_enter Tryz.func44, Tryz.ntmps44
    go_wp2_with fail
    rw [HW1.out]
    go_region_held (fun W => W.cell? ⟨w.heap.size, 0, none⟩ = some (.int .i64 c) ∧ W.cell? ⟨w.heap.size, 1, none⟩ = some (.int .i64 t) ∧ W.cell? ⟨w.heap.size, 2, none⟩ = some (.slice A ws.length m))
      ((first | exact KEEP.out _ cum2 | exact KEEP.out _ cum1 | exact KEEP.out _ (Below.refl _ _) | exact KEEP.out _ (Below.drew (Below.refl _ _)) | (obtain ⟨j0, j1, j2⟩ := KEEP.out _ cum2; refine ⟨?_, ?_, ?_⟩ <;> simp [go_sem, *]; done)))
      ((first
        | (go_at_call 78; refine ((CM.out _)).mono ?_; rintro E1 v1 ⟨bq, rfl, l1, hcq, hbq, _⟩; have cum1 : Below W1.heap.size W1 v1 := (by first | exact below_step (Below.drew (Below.refl _ _)) l1 | exact below_step (Below.refl _ _) l1))
        | (go_at_call 77; have HBW := HBX.out _ cum1; refine ((CS.out _ bq hcq hbq (HL1.out _ HBW))).mono ?_; rintro E2 v2 ⟨l2, rfl⟩; have cum2 : Below W1.heap.size W1 v2 := below_step cum1 l2; obtain ⟨⟨p0, p1⟩, ⟨q0, q1⟩, hzz⟩ := OUT.out _ cum2; have HB2 := hidd (HBX.out _ cum2))))
    all_goals go_wp2_with fail
    all_goals exact bodyPost_ret (v := .tuple #[.agg #[.int .i64 0, .int .i64 0], .int .i64 171]) (by simp [results, Tryz.results44, go_sem, *]) rfl ⟨by have q := HB2.out; (repeat' (first | (with_reducible exact Below.refl _ _) | (with_reducible assumption) | (with_reducible apply Below.setCell) | (with_reducible apply Below.alloc) | (with_reducible apply Below.drew) | (with_reducible apply below_drewN) | (with_reducible refine Below.trans ?_ (Below.mono (by assumption) ?_)) | omega | (simp; done) | (simp; omega))), .inr ⟨(by first | exact rfl | exact trivial), rfl⟩⟩
end Go.Proofs.YtappmacnoopmkaaGreat
