/- Buckets: Has, Spec, Now, Copy, Same. -/
import Derived.Test.YtilikpacgbkebaaBkF
namespace Go.Proofs.Ytilikpacgbkebaa
open Go.RowKit
set_option linter.unusedVariables false
theorem bhas_no {b : Nat} {p r u m l : Int} {s : BM.St} {w : World} (hB : BktAt w b p r u m l s) (hr : rightB p r u m l = true) (hs : BM.Ok u m s) (n : Int) (hn : BM.askB s n = false) :
    Calls Try.prog 17 #[.pointer (some ⟨b, 0, none⟩), .int .i64 n] w fun e w' => e = .returned (.tuple #[.int .i64 0, .int .i64 0, .int .i64 2]) ∧ Below w.heap.size w w' := by
  have hb := rightB_iff hr
  have cc := hidd (fun W (h : BktAt W b p r u m l s) => bcheck_any h (by omega) hs.2.1 n)
  rw [hn] at cc
  have HB := hidd hB
  have hlt := hB.lt
  clear hr hs hn hb hB
  go_enter Try.func17, Try.ntmps17
  go_wp2_with fail
  refine wp_scope_fwd 0 (fun a' w' => Below w.heap.size w w' ∧ ∃ v0 v1 v2 v3 v4 v5 v6 v7 v8 v9 v10 v11 v12 v13 v14 v15 v16 v17 v18 v19 : Value, a' = { tmps := #[v0, v1, v2, v3, v4, v5, .int .i64 2, v6, v7, v8, v9, v10, v11, v12, v13, v14, v15, v16, v17, v18, v19], defers := [] }) rfl ?_ ?_
  case refine_2 =>
    rintro a' w' ⟨hb, v0, v1, v2, v3, v4, v5, v6, v7, v8, v9, v10, v11, v12, v13, v14, v15, v16, v17, v18, v19, rfl⟩
    go_wp2_with fail
    (try rw [Exit.noGoto_ret])
    go_ret3
    exact ⟨rfl, hb⟩
  go_wp2_with fail
  refine (cc.out _ (HB.out.below (below_new (Below.refl _ _) _))).mono ?_
  rintro e w1 ⟨rfl, rfl⟩
  go_wp2_with fail
  go_step3
  exact ⟨rfl, by (repeat' (first | (with_reducible exact Below.refl _ _) | (with_reducible assumption) | (with_reducible apply Below.setCell) | (with_reducible apply Below.alloc) | (with_reducible apply Below.drew) | (with_reducible apply below_drewN) | (with_reducible refine Below.trans ?_ (Below.mono (by assumption) ?_)) | omega | (simp; done) | (simp; omega))), _, _, _, _, _, _, _, _, _, _, _, _, _, _, _, _, _, _, _, _, rfl⟩
theorem bhas_yes {b : Nat} {p r u m l : Int} {s : BM.St} {w : World} (hB : BktAt w b p r u m l s) (hr : rightB p r u m l = true) (hs : BM.Ok u m s) (n : Int) (hn : BM.askB s n = true) :
    Calls Try.prog 17 #[.pointer (some ⟨b, 0, none⟩), .int .i64 n] w fun e w' => e = .returned (.tuple #[.int .i64 (BM.lev0 r u s n), .int .i64 (BM.lev1 p m s n), .int .i64 0]) ∧ Below w.heap.size w w' := by
  have hb := rightB_iff hr
  have cc := hidd (fun W (h : BktAt W b p r u m l s) => bcheck_any h (by omega) hs.2.1 n)
  rw [hn] at cc
  have ca := hidd (fun W (h : BktAt W b p r u m l s) => at_any h hr hs n hn)
  have HB := hidd hB
  have hlt := hB.lt
  generalize BM.lev0 r u s n = x at *
  generalize BM.lev1 p m s n = y at *
  clear hr hs hn hb hB
  go_enter Try.func17, Try.ntmps17
  go_wp2_with fail
  refine wp_scope_fwd 0 (fun a' w' => False) rfl ?_ ?_
  case refine_2 => exact fun _ _ h => h.elim
  go_wp2_with fail
  refine (cc.out _ (HB.out.below (below_new (Below.refl _ _) _))).mono ?_
  rintro e w1 ⟨rfl, rfl⟩
  go_wp2_with fail
  refine (ca.out _ (HB.out.below (below_new (Below.refl _ _) _))).mono ?_
  rintro e w1 ⟨rfl, hb1⟩
  obtain ⟨bc, bf⟩ := bcell hb1
  have z : w.heap.size < w1.heap.size := by have := hb1.size; simp at this; omega
  have c0 : w1.cell? ⟨w.heap.size, 0, none⟩ = some (.int .i64 0) := by rw [bc _ _ (by (first | omega | (simp; done) | (simp; omega)))]; simp [go_sem]
  have c1 : w1.cell? ⟨w.heap.size, 1, none⟩ = some (.int .i64 0) := by rw [bc _ _ (by (first | omega | (simp; done) | (simp; omega)))]; simp [go_sem]
  have f0 : w1.frozen? ⟨w.heap.size, 0, none⟩ = false := by rw [bf _ _ (by (first | omega | (simp; done) | (simp; omega)))]; simp [go_sem]
  have f1 : w1.frozen? ⟨w.heap.size, 1, none⟩ = false := by rw [bf _ _ (by (first | omega | (simp; done) | (simp; omega)))]; simp [go_sem]
  have hB1 : Hid (Below w.heap.size w w1) := hidd (below_step (below_new (Below.refl _ _) _) hb1)
  clear bc bf hb1
  go_wp2_with fail
  obtain ⟨w2, hw2⟩ : ∃ w2 : World, (w1.setCell ⟨w.heap.size, 0, none⟩ (.int .i64 x)).setCell ⟨w.heap.size, 1, none⟩ (.int .i64 y) = w2 := ⟨_, rfl⟩
  have k0 : w2.cell? ⟨w.heap.size, 0, none⟩ = some (.int .i64 x) := by subst hw2; simp [go_sem, c0]
  have k1 : w2.cell? ⟨w.heap.size, 1, none⟩ = some (.int .i64 y) := by subst hw2; simp [go_sem, c1]
  have hB2 : Hid (Below w.heap.size w w2) := hidd (by rw [← hw2]; exact (hB1.out.setCell (p := ⟨w.heap.size, 0, none⟩) (Nat.le_refl _) _).setCell (p := ⟨w.heap.size, 1, none⟩) (Nat.le_refl _) _)
  rw [hw2]
  clear hw2 c0 c1 f0 f1
  go_quiet (fail)
  go_wp2_with fail
  simp only [Exit.jump]
  go_ret3
  exact ⟨rfl, below_drewN hB2.out _⟩
theorem bnow_any {b : Nat} {p r u m l : Int} {s : BM.St} {w : World} (hB : BktAt w b p r u m l s) (hp : 1 ≤ p) : Calls Try.prog 14 #[.pointer (some ⟨b, 0, none⟩)] w fun e w' => e = .returned (.int .i64 s.1) ∧ w = w' := by
  have c := hidd (isNone_yes hB hp)
  have c5 := hB.c5
  clear hB hp
  go_enter Try.func14, Try.ntmps14
  go_wp2_with fail
  refine c.out.mono ?_
  rintro e w' ⟨rfl, rfl⟩
  go_wp2_with fail
  go_ret
  exact ⟨rfl, rfl⟩
theorem bnow_zero {b : Nat} {w : World} (hB : ZeroAt w b) : Calls Try.prog 14 #[.pointer (some ⟨b, 0, none⟩)] w fun e w' => e = .returned (.int .i64 0) ∧ w = w' := by
  have c := hidd (isNone_zero hB)
  clear hB
  go_enter Try.func14, Try.ntmps14
  go_wp2_with fail
  refine c.out.mono ?_
  rintro e w' ⟨rfl, rfl⟩
  go_wp2_with fail
  go_ret
  exact ⟨rfl, rfl⟩
theorem bspec_any {b : Nat} {p r u m l : Int} {s : BM.St} {w : World} (hB : BktAt w b p r u m l s) (hp : 1 ≤ p) : Calls Try.prog 15 #[.pointer (some ⟨b, 0, none⟩)] w fun e w' => e = .returned (.agg #[.int .i64 p, .int .i64 r, .int .i64 u, .int .i64 m, .int .i64 l]) ∧ Below w.heap.size w w' := by
  have c := hidd (fun W (h : BktAt W b p r u m l s) => isNone_yes h hp)
  have HB := hidd hB
  have hlt := hB.lt
  obtain ⟨lt, c0, c1, c2, c3, c4, c5, c6, c7, f5, f6, f7⟩ := hB
  clear hp c5 c6 c7 f5 f6 f7
  go_enter Try.func15, Try.ntmps15
  go_wp2_with fail
  refine (c.out _ (HB.out.below (below_new (Below.refl _ _) _))).mono ?_
  rintro e w' ⟨rfl, rfl⟩
  go_wp2_with fail
  exact bodyPost_ret (v := .agg #[.int .i64 p, .int .i64 r, .int .i64 u, .int .i64 m, .int .i64 l]) (by simp [results, Try.results15, go_sem]) rfl ⟨rfl, by (repeat' (first | (with_reducible exact Below.refl _ _) | (with_reducible assumption) | (with_reducible apply Below.setCell) | (with_reducible apply Below.alloc) | (with_reducible apply Below.drew) | (with_reducible apply below_drewN) | (with_reducible refine Below.trans ?_ (Below.mono (by assumption) ?_)) | omega | (simp; done) | (simp; omega)))⟩
theorem bspec_nil (w : World) : Calls Try.prog 15 #[.pointer none] w fun e w' => e = .returned (.agg #[.int .i64 0, .int .i64 0, .int .i64 0, .int .i64 0, .int .i64 0]) ∧ Below w.heap.size w w' := by
  have c := hidd (fun W => isNone_nil W)
  go_enter Try.func15, Try.ntmps15
  go_wp2_with fail
  refine (c.out _).mono ?_
  rintro e w' ⟨rfl, rfl⟩
  go_wp2_with fail
  exact bodyPost_ret (v := .agg #[.int .i64 0, .int .i64 0, .int .i64 0, .int .i64 0, .int .i64 0]) (by simp [results, Try.results15, go_sem]) rfl ⟨rfl, by (repeat' (first | (with_reducible exact Below.refl _ _) | (with_reducible assumption) | (with_reducible apply Below.setCell) | (with_reducible apply Below.alloc) | (with_reducible apply Below.drew) | (with_reducible apply below_drewN) | (with_reducible refine Below.trans ?_ (Below.mono (by assumption) ?_)) | omega | (simp; done) | (simp; omega)))⟩
theorem bcopy_zero {b : Nat} {w : World} (hB : ZeroAt w b) : Calls Try.prog 16 #[.pointer (some ⟨b, 0, none⟩)] w fun e w' => e = .returned (.pointer none) ∧ w = w' := by
  have c := hidd (isNone_zero hB)
  clear hB
  go_enter Try.func16, Try.ntmps16
  go_wp2_with fail
  refine c.out.mono ?_
  rintro e w' ⟨rfl, rfl⟩
  go_wp2_with fail
  go_ret
  exact ⟨rfl, rfl⟩
theorem bcopy_any {b : Nat} {p r u m l : Int} {s : BM.St} {w : World} (hB : BktAt w b p r u m l s) (hp : 1 ≤ p) : Calls Try.prog 16 #[.pointer (some ⟨b, 0, none⟩)] w fun e w' => e = .returned (.pointer (some ⟨w.heap.size, 0, none⟩)) ∧ BktAt w' w.heap.size p r u m l s ∧ Below w.heap.size w w' := by
  have c := hidd (isNone_yes hB hp)
  obtain ⟨lt, c0, c1, c2, c3, c4, c5, c6, c7, f5, f6, f7⟩ := hB
  clear hp f5 f6 f7
  go_enter Try.func16, Try.ntmps16
  go_wp2_with fail
  refine c.out.mono ?_
  rintro e w' ⟨rfl, rfl⟩
  go_wp2_with fail
  go_ret
  refine ⟨rfl, ⟨by simp, ?_, ?_, ?_, ?_, ?_, ?_, ?_, ?_, ?_, ?_, ?_⟩, by (repeat' (first | (with_reducible exact Below.refl _ _) | (with_reducible assumption) | (with_reducible apply Below.setCell) | (with_reducible apply Below.alloc) | (with_reducible apply Below.drew) | (with_reducible apply below_drewN) | (with_reducible refine Below.trans ?_ (Below.mono (by assumption) ?_)) | omega | (simp; done) | (simp; omega)))⟩ <;> simp [go_sem]
theorem bsame_eq {a b : Nat} {p r u m l : Int} {s : BM.St} {w : World} (hA : BktAt w a p r u m l s) (hB : BktAt w b p r u m l s) (hp : 1 ≤ p) : Calls Try.prog 19 #[.pointer (some ⟨a, 0, none⟩), .pointer (some ⟨b, 0, none⟩)] w fun e w' => e = .returned (.bool true) ∧ ∃ q, w' = w.drewN q := by
  have ca := hidd (isNone_yes hA hp)
  have cb := hidd (isNone_yes hB hp)
  obtain ⟨lt, c0, c1, c2, c3, c4, c5, c6, c7, f5, f6, f7⟩ := hA
  obtain ⟨lt', d0, d1, d2, d3, d4, d5, d6, d7, f5', f6', f7'⟩ := hB
  have h1 := fun w => bkt_eq p r u m l s.1 s.2.1 s.2.2 w
  have h2 := fun w => bkt_eq_bin p r u m l s.1 s.2.1 s.2.2 w
  clear hp f5 f6 f7 f5' f6' f7'
  go_enter Try.func19, Try.ntmps19
  go_wp2_with fail
  refine ca.out.mono ?_
  rintro e w' ⟨rfl, rfl⟩
  go_wp2_with fail
  refine cb.out.mono ?_
  rintro e w' ⟨rfl, rfl⟩
  go_wp2_with fail
  go_quiet (fail)
  go_wp2_with fail
  go_ret
  exact ⟨rfl, _, rfl⟩
theorem bsame_nil {a : Nat} {p r u m l : Int} {s : BM.St} {w : World} (hA : BktAt w a p r u m l s) (hp : 1 ≤ p) : Calls Try.prog 19 #[.pointer (some ⟨a, 0, none⟩), .pointer none] w fun e w' => e = .returned (.bool false) ∧ w = w' := by
  have ca := hidd (isNone_yes hA hp)
  have cb := hidd (fun W => isNone_nil W)
  clear hA hp
  go_enter Try.func19, Try.ntmps19
  go_wp2_with fail
  refine ca.out.mono ?_
  rintro e w' ⟨rfl, rfl⟩
  go_wp2_with fail
  refine (cb.out _).mono ?_
  rintro e w' ⟨rfl, rfl⟩
  go_wp2_with fail
  refine ca.out.mono ?_
  rintro e w' ⟨rfl, rfl⟩
  go_wp2_with fail
  go_ret
  exact ⟨rfl, rfl⟩
theorem bsame_none {b : Nat} {w : World} (hB : ZeroAt w b) : Calls Try.prog 19 #[.pointer none, .pointer (some ⟨b, 0, none⟩)] w fun e w' => e = .returned (.bool true) ∧ w = w' := by
  have ca := hidd (fun W => isNone_nil W)
  have cb := hidd (isNone_zero hB)
  clear hB
  go_enter Try.func19, Try.ntmps19
  go_wp2_with fail
  refine (ca.out _).mono ?_
  rintro e w' ⟨rfl, rfl⟩
  go_wp2_with fail
  refine (ca.out _).mono ?_
  rintro e w' ⟨rfl, rfl⟩
  go_wp2_with fail
  refine cb.out.mono ?_
  rintro e w' ⟨rfl, rfl⟩
  go_wp2_with fail
  go_ret
  exact ⟨rfl, rfl⟩
end Go.Proofs.Ytilikpacgbkebaa
