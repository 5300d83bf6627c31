/- Maps: what is told of one: Back, Terms of none, Copy. -/
import Derived.Test.YtalhbjmhipiiiaaGreatTpI
namespace Go.Proofs.YtalhbjmhipiiiaaGreat.Tp
set_option linter.unusedVariables false
open Go.RowKit Go.Maps

set_option maxHeartbeats 2000000 in
theorem Terms_no (v : Value) (i : Int) (w : World) (h : NoneV w v) : Calls Tryz.prog 30 #[v, .int .i64 i] w fun e w' => e = .returned (.tuple #[.agg #[.int .i64 0, .int .i64 0], .int .i64 1]) ∧ Below w.heap.size w w' := by
  have c := hidd (fun (W : World) (hW : Below w.heap.size w W) => Link_no v i W (h.below hW))
  have hb0 : Below w.heap.size w (w.alloc (.cells #[.int .i64 0, .int .i64 0] 42)) := by (repeat' (first | (with_reducible exact Below.refl _ _) | (with_reducible assumption) | (with_reducible apply Below.setCell) | (with_reducible apply Below.alloc) | (with_reducible apply Below.drew) | (with_reducible apply below_drewN) | (with_reducible refine Below.trans ?_ (Below.mono (by assumption) ?_)) | omega | (simp; done) | (simp; omega)))
  have HB0 := hidd hb0
  clear h hb0
  go_enter Tryz.func30, Tryz.ntmps30
  go_wp2_with fail
  refine (c.out _ HB0.out).mono ?_
  rintro e w1 ⟨rfl, hb⟩
  have hbs := hb.size
  obtain ⟨bc, bf⟩ := bcell hb
  have z : w.heap.size < w1.heap.size := by simp at hbs; omega
  have HB := hidd (below_step HB0.out hb)
  have c0 : w1.cell? ⟨w.heap.size, 0, none⟩ = some (.int .i64 0) := by rw [bc _ _ (by (first | omega | (simp; done) | (simp; omega)))]; simp [go_sem]
  have c1 : w1.cell? ⟨w.heap.size, 1, none⟩ = some (.int .i64 0) := by rw [bc _ _ (by (first | omega | (simp; done) | (simp; omega)))]; simp [go_sem]
  have f0 : w1.frozen? ⟨w.heap.size, 0, none⟩ = false := by rw [bf _ _ (by (first | omega | (simp; done) | (simp; omega)))]; simp [go_sem]
  have f1 : w1.frozen? ⟨w.heap.size, 1, none⟩ = false := by rw [bf _ _ (by (first | omega | (simp; done) | (simp; omega)))]; simp [go_sem]
  have nz : ¬ w1.heap.size = w.heap.size := by omega
  clear bc bf hb hbs
  go_wp2_with fail
  exact bodyPost_ret (v := .tuple #[.agg #[.int .i64 0, .int .i64 0], .int .i64 1]) (by simp [results, Tryz.results30, go_sem, *]) rfl ⟨rfl, by have q := HB.out; have qs := q.size; (repeat' (first | (with_reducible exact Below.refl _ _) | (with_reducible assumption) | (with_reducible apply Below.setCell) | (with_reducible apply Below.alloc) | (with_reducible apply Below.drew) | (with_reducible apply below_drewN) | (with_reducible refine Below.trans ?_ (Below.mono (by assumption) ?_)) | omega | (simp; done) | (simp; omega)))⟩
set_option maxHeartbeats 2000000 in
theorem Terms_out (m : Nat) (n : Int) (hn : 1 ≤ n) (L : List Lk) (hL : L.length ≤ 1000000) (i : Int) (hi : inB 0 i ((L.length : Int) - 1) = false) (w : World) (h : MapAt w m n L) : Calls Tryz.prog 30 #[.pointer (some ⟨m, 0, none⟩), .int .i64 i] w fun e w' => e = .returned (.tuple #[.agg #[.int .i64 0, .int .i64 0], .int .i64 4]) ∧ Below w.heap.size w w' := by
  have c := hidd (fun (W : World) (hW : Below w.heap.size w W) => Link_out m n hn L hL i hi W (h.below hW))
  have hb0 : Below w.heap.size w (w.alloc (.cells #[.int .i64 0, .int .i64 0] 42)) := by (repeat' (first | (with_reducible exact Below.refl _ _) | (with_reducible assumption) | (with_reducible apply Below.setCell) | (with_reducible apply Below.alloc) | (with_reducible apply Below.drew) | (with_reducible apply below_drewN) | (with_reducible refine Below.trans ?_ (Below.mono (by assumption) ?_)) | omega | (simp; done) | (simp; omega)))
  have HB0 := hidd hb0
  clear h hi hb0
  go_enter Tryz.func30, Tryz.ntmps30
  go_wp2_with fail
  refine (c.out _ HB0.out).mono ?_
  rintro e w1 ⟨rfl, hb⟩
  have hbs := hb.size
  obtain ⟨bc, bf⟩ := bcell hb
  have z : w.heap.size < w1.heap.size := by simp at hbs; omega
  have HB := hidd (below_step HB0.out hb)
  have c0 : w1.cell? ⟨w.heap.size, 0, none⟩ = some (.int .i64 0) := by rw [bc _ _ (by (first | omega | (simp; done) | (simp; omega)))]; simp [go_sem]
  have c1 : w1.cell? ⟨w.heap.size, 1, none⟩ = some (.int .i64 0) := by rw [bc _ _ (by (first | omega | (simp; done) | (simp; omega)))]; simp [go_sem]
  have f0 : w1.frozen? ⟨w.heap.size, 0, none⟩ = false := by rw [bf _ _ (by (first | omega | (simp; done) | (simp; omega)))]; simp [go_sem]
  have f1 : w1.frozen? ⟨w.heap.size, 1, none⟩ = false := by rw [bf _ _ (by (first | omega | (simp; done) | (simp; omega)))]; simp [go_sem]
  have nz : ¬ w1.heap.size = w.heap.size := by omega
  clear bc bf hb hbs
  go_wp2_with fail
  exact bodyPost_ret (v := .tuple #[.agg #[.int .i64 0, .int .i64 0], .int .i64 4]) (by simp [results, Tryz.results30, go_sem, *]) rfl ⟨rfl, by have q := HB.out; have qs := q.size; (repeat' (first | (with_reducible exact Below.refl _ _) | (with_reducible assumption) | (with_reducible apply Below.setCell) | (with_reducible apply Below.alloc) | (with_reducible apply Below.drew) | (with_reducible apply below_drewN) | (with_reducible refine Below.trans ?_ (Below.mono (by assumption) ?_)) | omega | (simp; done) | (simp; omega)))⟩
theorem Copy_no (v : Value) (w : World) (h : NoneV w v) : Calls Tryz.prog 27 #[v] w fun e w' => e = .returned (.pointer none) ∧ w = w' := by
  have c := hidd (isNone_no v w h)
  clear h
  go_enter Tryz.func27, Tryz.ntmps27
  go_wp2_with fail
  refine c.out.mono ?_
  rintro e w' ⟨rfl, rfl⟩
  go_wp2_with fail
  go_ret
  exact ⟨rfl, rfl⟩
set_option maxHeartbeats 2000000 in
theorem Copy_yes (m : Nat) (n : Int) (hn : 1 ≤ n) (L : List Lk) (hL : L.length ≤ 1000000) (hI : WideL L) (w : World) (h : MapAt w m n L) : Calls Tryz.prog 27 #[.pointer (some ⟨m, 0, none⟩)] w fun e w' => ∃ m', e = .returned (.pointer (some ⟨m', 0, none⟩)) ∧ MapAt w' m' n L ∧ w.heap.size ≤ m' ∧ Below w.heap.size w w' := by
  obtain ⟨A, c, b, h1, h2, h3, h4, h5, h6⟩ := h
  have ci := hidd (isNone_yes m n hn w h2)
  have cm := hidd (fun (W : World) (hW : Below w.heap.size w W) => made_any n A L c hL hI W (h5.below hW))
  have K0 : Hid (w.cell? ⟨m, 0, none⟩ = some (.int .i64 n) ∧ w.cell? ⟨m, 1, none⟩ = some (.slice A L.length c)) := hidd ⟨h2, h3⟩
  have K1 := hidd (fun W (hb : Below w.heap.size w W) => (show W.cell? ⟨m, 0, none⟩ = some (.int .i64 n) ∧ W.cell? ⟨m, 1, none⟩ = some (.slice A L.length c) from ⟨(hb.cell (p := ⟨m, 0, none⟩) h1).trans h2, (hb.cell (p := ⟨m, 1, none⟩) h1).trans h3⟩))
  clear h4 h5 h6
  go_enter Tryz.func27, Tryz.ntmps27
  go_wp2_with fail
  refine ci.out.mono ?_
  rintro e w' ⟨rfl, rfl⟩
  go_wp2_with fail
  go_region_held3 (fun w' => w'.cell? ⟨m, 0, none⟩ = some (.int .i64 n) ∧ w'.cell? ⟨m, 1, none⟩ = some (.slice A L.length c))
    ((first | exact K1.out _ cum1 | exact K0.out | go_keep))
    ((first
      | (go_at_call 24; refine (cm.out _ (by first | exact Below.drew (Below.refl _ _) | exact Below.refl _ _)).mono ?_; rintro E1 v1 ⟨m', rfl, hm, hm0, l1⟩; have HM := hidd hm; have HM0 := hidd hm0; have cum1 : Below w.heap.size w v1 := (by first | exact below_step (Below.drew (Below.refl _ _)) l1 | exact below_step (Below.refl _ _) l1); clear hm hm0)))
  all_goals go_wp2_with fail
  all_goals go_ret
  all_goals exact ⟨_, rfl, HM.out, HM0.out, by (repeat' (first | (with_reducible exact Below.refl _ _) | (with_reducible assumption) | (with_reducible apply Below.setCell) | (with_reducible apply Below.alloc) | (with_reducible apply Below.drew) | (with_reducible apply below_drewN) | (with_reducible refine Below.trans ?_ (Below.mono (by assumption) ?_)) | omega | (simp; done) | (simp; omega)))⟩
end Go.Proofs.YtalhbjmhipiiiaaGreat.Tp
