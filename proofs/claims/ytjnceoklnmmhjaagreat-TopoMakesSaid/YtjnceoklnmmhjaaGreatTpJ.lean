/- Maps: what is told of one: Back, Terms of none, Copy. -/
import Derived.Test.YtjnceoklnmmhjaaGreatTpI
namespace Go.Proofs.YtjnceoklnmmhjaaGreat.Tp
set_option linter.unusedVariables false
open Go.RowKit Go.Maps

set_option maxHeartbeats 2000000 in
theorem Back_no (v : Value) (i : Int) (w : World) (h : NoneV w v) : Calls Tryz.prog 13 #[v, .int .i64 i] w fun e w' => e = .returned (.tuple #[.int .i64 0, .int .i64 1]) ∧ Below w.heap.size w w' := by
  have c := hidd (Link_no v i w h)
  clear h
  go_enter Tryz.func13, Tryz.ntmps13
  go_wp2_with fail
  refine c.out.mono ?_
  rintro e w1 ⟨rfl, hb⟩
  have hbs := hb.size
  go_wp2_with fail
  go_ret2
  exact ⟨rfl, by (repeat' (first | (with_reducible exact Below.refl _ _) | (with_reducible assumption) | (with_reducible apply Below.setCell) | (with_reducible apply Below.alloc) | (with_reducible apply Below.drew) | (with_reducible apply below_drewN) | (with_reducible refine Below.trans ?_ (Below.mono (by assumption) ?_)) | omega | (simp; done) | (simp; omega)))⟩
set_option maxHeartbeats 2000000 in
theorem Back_out (m : Nat) (n : Int) (hn : 1 ≤ n) (L : List Lk) (hL : L.length ≤ 1000000) (i : Int) (hi : inB 0 i ((L.length : Int) - 1) = false) (w : World) (h : MapAt w m n L) : Calls Tryz.prog 13 #[.pointer (some ⟨m, 0, none⟩), .int .i64 i] w fun e w' => e = .returned (.tuple #[.int .i64 0, .int .i64 4]) ∧ Below w.heap.size w w' := by
  have c := hidd (Link_out m n hn L hL i hi w h)
  clear h hi
  go_enter Tryz.func13, Tryz.ntmps13
  go_wp2_with fail
  refine c.out.mono ?_
  rintro e w1 ⟨rfl, hb⟩
  have hbs := hb.size
  go_wp2_with fail
  go_ret2
  exact ⟨rfl, by (repeat' (first | (with_reducible exact Below.refl _ _) | (with_reducible assumption) | (with_reducible apply Below.setCell) | (with_reducible apply Below.alloc) | (with_reducible apply Below.drew) | (with_reducible apply below_drewN) | (with_reducible refine Below.trans ?_ (Below.mono (by assumption) ?_)) | omega | (simp; done) | (simp; omega)))⟩
set_option maxHeartbeats 2000000 in
theorem Terms_no (v : Value) (i : Int) (w : World) (h : NoneV w v) : Calls Tryz.prog 19 #[v, .int .i64 i] w fun e w' => e = .returned (.tuple #[.agg #[.int .i64 0, .int .i64 0], .int .i64 1]) ∧ Below w.heap.size w w' := by
  have c := hidd (fun (W : World) (hW : Below w.heap.size w W) => Link_no v i W (h.below hW))
  have hb0 : Below w.heap.size w (w.alloc (.cells #[.int .i64 0, .int .i64 0] 58)) := by (repeat' (first | (with_reducible exact Below.refl _ _) | (with_reducible assumption) | (with_reducible apply Below.setCell) | (with_reducible apply Below.alloc) | (with_reducible apply Below.drew) | (with_reducible apply below_drewN) | (with_reducible refine Below.trans ?_ (Below.mono (by assumption) ?_)) | omega | (simp; done) | (simp; omega)))
  have HB0 := hidd hb0
  clear h hb0
  go_enter Tryz.func19, Tryz.ntmps19
  go_wp2_with fail
  refine (c.out _ HB0.out).mono ?_
  rintro e w1 ⟨rfl, hb⟩
  have hbs := hb.size
  obtain ⟨bc, bf⟩ := bcell hb
  have z : w.heap.size < w1.heap.size := by simp at hbs; omega
  have HB := hidd (below_step HB0.out hb)
  have c0 : w1.cell? ⟨w.heap.size, 0, none⟩ = some (.int .i64 0) := by rw [bc _ _ (by (first | omega | (simp; done) | (simp; omega)))]; simp [go_sem]
  have c1 : w1.cell? ⟨w.heap.size, 1, none⟩ = some (.int .i64 0) := by rw [bc _ _ (by (first | omega | (simp; done) | (simp; omega)))]; simp [go_sem]
  have f0 : w1.frozen? ⟨w.heap.size, 0, none⟩ = false := by rw [bf _ _ (by (first | omega | (simp; done) | (simp; omega)))]; simp [go_sem]
  have f1 : w1.frozen? ⟨w.heap.size, 1, none⟩ = false := by rw [bf _ _ (by (first | omega | (simp; done) | (simp; omega)))]; simp [go_sem]
  have nz : ¬ w1.heap.size = w.heap.size := by omega
  clear bc bf hb hbs
  go_wp2_with fail
  exact bodyPost_ret (v := .tuple #[.agg #[.int .i64 0, .int .i64 0], .int .i64 1]) (by simp [results, Tryz.results19, go_sem, *]) rfl ⟨rfl, by have q := HB.out; have qs := q.size; (repeat' (first | (with_reducible exact Below.refl _ _) | (with_reducible assumption) | (with_reducible apply Below.setCell) | (with_reducible apply Below.alloc) | (with_reducible apply Below.drew) | (with_reducible apply below_drewN) | (with_reducible refine Below.trans ?_ (Below.mono (by assumption) ?_)) | omega | (simp; done) | (simp; omega)))⟩
set_option maxHeartbeats 2000000 in
theorem Terms_out (m : Nat) (n : Int) (hn : 1 ≤ n) (L : List Lk) (hL : L.length ≤ 1000000) (i : Int) (hi : inB 0 i ((L.length : Int) - 1) = false) (w : World) (h : MapAt w m n L) : Calls Tryz.prog 19 #[.pointer (some ⟨m, 0, none⟩), .int .i64 i] w fun e w' => e = .returned (.tuple #[.agg #[.int .i64 0, .int .i64 0], .int .i64 4]) ∧ Below w.heap.size w w' := by
  have c := hidd (fun (W : World) (hW : Below w.heap.size w W) => Link_out m n hn L hL i hi W (h.below hW))
  have hb0 : Below w.heap.size w (w.alloc (.cells #[.int .i64 0, .int .i64 0] 58)) := by (repeat' (first | (with_reducible exact Below.refl _ _) | (with_reducible assumption) | (with_reducible apply Below.setCell) | (with_reducible apply Below.alloc) | (with_reducible apply Below.drew) | (with_reducible apply below_drewN) | (with_reducible refine Below.trans ?_ (Below.mono (by assumption) ?_)) | omega | (simp; done) | (simp; omega)))
  have HB0 := hidd hb0
  clear h hi hb0
  go_enter Tryz.func19, Tryz.ntmps19
  go_wp2_with fail
  refine (c.out _ HB0.out).mono ?_
  rintro e w1 ⟨rfl, hb⟩
  have hbs := hb.size
  obtain ⟨bc, bf⟩ := bcell hb
  have z : w.heap.size < w1.heap.size := by simp at hbs; omega
  have HB := hidd (below_step HB0.out hb)
  have c0 : w1.cell? ⟨w.heap.size, 0, none⟩ = some (.int .i64 0) := by rw [bc _ _ (by (first | omega | (simp; done) | (simp; omega)))]; simp [go_sem]
  have c1 : w1.cell? ⟨w.heap.size, 1, none⟩ = some (.int .i64 0) := by rw [bc _ _ (by (first | omega | (simp; done) | (simp; omega)))]; simp [go_sem]
  have f0 : w1.frozen? ⟨w.heap.size, 0, none⟩ = false := by rw [bf _ _ (by (first | omega | (simp; done) | (simp; omega)))]; simp [go_sem]
  have f1 : w1.frozen? ⟨w.heap.size, 1, none⟩ = false := by rw [bf _ _ (by (first | omega | (simp; done) | (simp; omega)))]; simp [go_sem]
  have nz : ¬ w1.heap.size = w.heap.size := by omega
  clear bc bf hb hbs
  go_wp2_with fail
  exact bodyPost_ret (v := .tuple #[.agg #[.int .i64 0, .int .i64 0], .int .i64 4]) (by simp [results, Tryz.results19, go_sem, *]) rfl ⟨rfl, by have q := HB.out; have qs := q.size; (repeat' (first | (with_reducible exact Below.refl _ _) | (with_reducible assumption) | (with_reducible apply Below.setCell) | (with_reducible apply Below.alloc) | (with_reducible apply Below.drew) | (with_reducible apply below_drewN) | (with_reducible refine Below.trans ?_ (Below.mono (by assumption) ?_)) | omega | (simp; done) | (simp; omega)))⟩
set_option maxRecDepth 100000 in
set_option maxHeartbeats 4000000 in
theorem Back_in (m : Nat) (n : Int) (hn : 1 ≤ n) (L : List Lk) (hL : L.length ≤ 1000000) (hI : WideL L) (i : Nat) (hi : i < L.length) (w : World) (h : MapAt w m n L) : Calls Tryz.prog 13 #[.pointer (some ⟨m, 0, none⟩), .int .i64 (i : Int)] w fun e w' => e = .returned (.tuple #[.int .i64 (lastAt (endsL L) (tw (lkAt L i), fr (lkAt L i)) (endsL L).length), .int .i64 0]) ∧ Below w.heap.size w w' := by
  have c := hidd (Link_in m n hn L hL i hi w h)
  have hx := hI _ (lkAt_mem hi)
  obtain ⟨A, cc, b, h1, h2, h3, h4, h5, h6⟩ := h
  have HN := hidd h6
  have LK := hidd (fun (W : World) (h : NumsAt W b (endsL L)) => h.look1 hI.ends (tw (lkAt L i)) (fr (lkAt L i)) hx.2 hx.1)
  unfold linkA at c
  generalize fr (lkAt L i) = a0 at *
  generalize tw (lkAt L i) = a1 at *
  generalize rt (lkAt L i) = a2 at *
  generalize sh (lkAt L i) = a3 at *
  generalize fa (lkAt L i) = a4 at *
  generalize mo (lkAt L i) = a5 at *
  generalize ro (lkAt L i) = a6 at *
  generalize fi (lkAt L i) = a7 at *
  have cE := hidd (fun W => endsOf_any a0 a1 a2 a3 a4 a5 a6 a7 W)
  have cT := hidd (fun W => turned_any a0 a1 W)
  generalize lastAt (endsL L) (a1, a0) (endsL L).length = V at *
  generalize endsL L = E at *
  clear h2 h3 h5 h6 hx
  go_enter Tryz.func13, Tryz.ntmps13
  go_wp2_with fail
  refine c.out.mono ?_
  rintro e w1 ⟨rfl, hb⟩
  have hbs := hb.size
  have HB := hidd hb
  have g4 : w1.cell? ⟨m, 2, none⟩ = some (.map (some b)) := (hb.cell (p := ⟨m, 2, none⟩) h1).trans h4
  have HN1 := hidd (HN.out.below hb)
  obtain ⟨W1, hW1⟩ : ∃ W1, w1.alloc (.cells #[.int .i64 a0, .int .i64 a1, .int .i64 a2, .int .i64 a3, .int .i64 a4, .int .i64 a5, .int .i64 a6, .int .i64 a7] 48) = W1 := ⟨_, rfl⟩
  have hB1 : Below w1.heap.size w1 W1 := by rw [← hW1]; (repeat' (first | (with_reducible exact Below.refl _ _) | (with_reducible assumption) | (with_reducible apply Below.setCell) | (with_reducible apply Below.alloc) | (with_reducible apply Below.drew) | (with_reducible apply below_drewN) | (with_reducible refine Below.trans ?_ (Below.mono (by assumption) ?_)) | omega | (simp; done) | (simp; omega)))
  have hz1 : W1.heap.size = w1.heap.size + 1 := by rw [← hW1]; simp
  have hm1 : m < w1.heap.size := by omega
  have g0 : W1.cell? ⟨m, 2, none⟩ = some (.map (some b)) := (hB1.cell (p := ⟨m, 2, none⟩) hm1).trans g4
  have y0 : W1.cell? ⟨w1.heap.size, 0, none⟩ = some (.int .i64 a0) := by rw [← hW1]; simp [go_sem]
  have y1 : W1.cell? ⟨w1.heap.size, 1, none⟩ = some (.int .i64 a1) := by rw [← hW1]; simp [go_sem]
  have y2 : W1.cell? ⟨w1.heap.size, 2, none⟩ = some (.int .i64 a2) := by rw [← hW1]; simp [go_sem]
  have y3 : W1.cell? ⟨w1.heap.size, 3, none⟩ = some (.int .i64 a3) := by rw [← hW1]; simp [go_sem]
  have y4 : W1.cell? ⟨w1.heap.size, 4, none⟩ = some (.int .i64 a4) := by rw [← hW1]; simp [go_sem]
  have y5 : W1.cell? ⟨w1.heap.size, 5, none⟩ = some (.int .i64 a5) := by rw [← hW1]; simp [go_sem]
  have y6 : W1.cell? ⟨w1.heap.size, 6, none⟩ = some (.int .i64 a6) := by rw [← hW1]; simp [go_sem]
  have y7 : W1.cell? ⟨w1.heap.size, 7, none⟩ = some (.int .i64 a7) := by rw [← hW1]; simp [go_sem]
  have hqq : m < W1.heap.size := by omega
  have zz : w1.heap.size < W1.heap.size := by omega
  have K0 : Hid (W1.cell? ⟨m, 2, none⟩ = some (.map (some b)) ∧ W1.cell? ⟨w1.heap.size, 0, none⟩ = some (.int .i64 a0) ∧ W1.cell? ⟨w1.heap.size, 1, none⟩ = some (.int .i64 a1) ∧ W1.cell? ⟨w1.heap.size, 2, none⟩ = some (.int .i64 a2) ∧ W1.cell? ⟨w1.heap.size, 3, none⟩ = some (.int .i64 a3) ∧ W1.cell? ⟨w1.heap.size, 4, none⟩ = some (.int .i64 a4) ∧ W1.cell? ⟨w1.heap.size, 5, none⟩ = some (.int .i64 a5) ∧ W1.cell? ⟨w1.heap.size, 6, none⟩ = some (.int .i64 a6) ∧ W1.cell? ⟨w1.heap.size, 7, none⟩ = some (.int .i64 a7)) := hidd ⟨g0, y0, y1, y2, y3, y4, y5, y6, y7⟩
  have KEEP := hidd (fun W' (hb : Below W1.heap.size W1 W') => (show (W'.cell? ⟨m, 2, none⟩ = some (.map (some b)) ∧ W'.cell? ⟨w1.heap.size, 0, none⟩ = some (.int .i64 a0) ∧ W'.cell? ⟨w1.heap.size, 1, none⟩ = some (.int .i64 a1) ∧ W'.cell? ⟨w1.heap.size, 2, none⟩ = some (.int .i64 a2) ∧ W'.cell? ⟨w1.heap.size, 3, none⟩ = some (.int .i64 a3) ∧ W'.cell? ⟨w1.heap.size, 4, none⟩ = some (.int .i64 a4) ∧ W'.cell? ⟨w1.heap.size, 5, none⟩ = some (.int .i64 a5) ∧ W'.cell? ⟨w1.heap.size, 6, none⟩ = some (.int .i64 a6) ∧ W'.cell? ⟨w1.heap.size, 7, none⟩ = some (.int .i64 a7)) from ⟨(hb.cell (p := ⟨m, 2, none⟩) (show m < W1.heap.size by omega)).trans g0, (hb.cell (p := ⟨w1.heap.size, 0, none⟩) zz).trans y0, (hb.cell (p := ⟨w1.heap.size, 1, none⟩) zz).trans y1, (hb.cell (p := ⟨w1.heap.size, 2, none⟩) zz).trans y2, (hb.cell (p := ⟨w1.heap.size, 3, none⟩) zz).trans y3, (hb.cell (p := ⟨w1.heap.size, 4, none⟩) zz).trans y4, (hb.cell (p := ⟨w1.heap.size, 5, none⟩) zz).trans y5, (hb.cell (p := ⟨w1.heap.size, 6, none⟩) zz).trans y6, (hb.cell (p := ⟨w1.heap.size, 7, none⟩) zz).trans y7⟩))
  have HN2 := hidd (HN1.out.below hB1)
  have HB1 := hidd (below_step HB.out hB1)
  have HW := hidd hW1
  clear hB1 hz1 hW1 hb hbs g4 h4 h1
  go_wp2_with fail
  rw [HW.out]
  go_region_held3 (fun w' => w'.cell? ⟨m, 2, none⟩ = some (.map (some b)) ∧ w'.cell? ⟨w1.heap.size, 0, none⟩ = some (.int .i64 a0) ∧ w'.cell? ⟨w1.heap.size, 1, none⟩ = some (.int .i64 a1) ∧ w'.cell? ⟨w1.heap.size, 2, none⟩ = some (.int .i64 a2) ∧ w'.cell? ⟨w1.heap.size, 3, none⟩ = some (.int .i64 a3) ∧ w'.cell? ⟨w1.heap.size, 4, none⟩ = some (.int .i64 a4) ∧ w'.cell? ⟨w1.heap.size, 5, none⟩ = some (.int .i64 a5) ∧ w'.cell? ⟨w1.heap.size, 6, none⟩ = some (.int .i64 a6) ∧ w'.cell? ⟨w1.heap.size, 7, none⟩ = some (.int .i64 a7))
    ((first | exact KEEP.out _ cum2 | exact KEEP.out _ cum1 | exact K0.out | go_keep))
    ((first
      | (go_at_call 23; refine (cE.out _).mono ?_; rintro E1 v1 ⟨rfl, l1⟩; have cum1 : Below W1.heap.size W1 v1 := (by first | exact below_step (Below.drew (Below.refl _ _)) l1 | exact below_step (Below.refl _ _) l1))
      | (go_at_call 24; refine (cT.out _).mono ?_; rintro E2 v2 ⟨rfl, l2⟩; have cum2 : Below W1.heap.size W1 v2 := (by first | exact below_step cum1 l2); have hl := LK.out _ (HN2.out.below cum2))))
  all_goals go_wp2_with fail
  all_goals go_ret2
  all_goals exact ⟨rfl, by have q1 := HB1.out; have q2 := q1.trans (Below.mono cum2 q1.size); (repeat' (first | (with_reducible exact Below.refl _ _) | (with_reducible assumption) | (with_reducible apply Below.setCell) | (with_reducible apply Below.alloc) | (with_reducible apply Below.drew) | (with_reducible apply below_drewN) | (with_reducible refine Below.trans ?_ (Below.mono (by assumption) ?_)) | omega | (simp; done) | (simp; omega)))⟩
end Go.Proofs.YtjnceoklnmmhjaaGreat.Tp
