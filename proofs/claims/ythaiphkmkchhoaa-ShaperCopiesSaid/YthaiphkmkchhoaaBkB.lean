/- Buckets: none at all; what keeps one from being asked; sizes; kinds later; New. -/
import Derived.Test.YthaiphkmkchhoaaBkA
namespace Go.Proofs.Ythaiphkmkchhoaa
open Go.RowKit
set_option linter.unusedVariables false

theorem bkt_ne (p r u m l t x y : Int) (hp : ¬ p = 0) (w : World) :
    (Op.equalIn 10000 87 (.agg #[.int .i64 p, .int .i64 r, .int .i64 u, .int .i64 m, .int .i64 l, .int .i64 t, .int .i64 x, .int .i64 y]) (.agg #[.int .i64 0, .int .i64 0, .int .i64 0, .int .i64 0, .int .i64 0, .int .i64 0, .int .i64 0, .int .i64 0])).run Try.prog w = .ok false w := by
  simp [go_sem, Op.eqFields, hp]
theorem bkt_ne_bin (p r u m l t x y : Int) (hp : ¬ p = 0) (w : World) :
    (binOp .eql 87 (.agg #[.int .i64 p, .int .i64 r, .int .i64 u, .int .i64 m, .int .i64 l, .int .i64 t, .int .i64 x, .int .i64 y]) (.agg #[.int .i64 0, .int .i64 0, .int .i64 0, .int .i64 0, .int .i64 0, .int .i64 0, .int .i64 0, .int .i64 0])).run Try.prog w = .ok (.bool false) w := by
  rw [run_eql_struct, bkt_ne _ _ _ _ _ _ _ _ hp]; rfl
theorem two_eq (d : Nat) (x y : Int) (w : World) : (Op.equalIn (d + 1 + 1) 85 (.agg #[.int .i64 x, .int .i64 y]) (.agg #[.int .i64 x, .int .i64 y])).run Try.prog w = .ok true w := by
  have hi : (Try.prog.info? 2).isSome = true := by kernel_rfl
  obtain ⟨i, hi⟩ := Option.isSome_iff_exists.1 hi
  have hc : Try.prog.cellsOf 2 = 1 := by kernel_rfl
  rw [run_equalIn_array w (d + 1) _ _ (n := 2) (e := 2) Try.underlying85 hi, hc]
  have e2 : List.range 2 = [0, 1] := rfl
  rw [e2]
  simp [Op.eqItems, part, go_sem]
theorem bkt_eq (p r u m l t x y : Int) (w : World) :
    (Op.equalIn 10000 87 (.agg #[.int .i64 p, .int .i64 r, .int .i64 u, .int .i64 m, .int .i64 l, .int .i64 t, .int .i64 x, .int .i64 y]) (.agg #[.int .i64 p, .int .i64 r, .int .i64 u, .int .i64 m, .int .i64 l, .int .i64 t, .int .i64 x, .int .i64 y])).run Try.prog w = .ok true w := by
  have h := fun w => two_eq 9997 x y w
  simp [go_sem, Op.eqFields, h]
theorem bkt_eq_bin (p r u m l t x y : Int) (w : World) :
    (binOp .eql 87 (.agg #[.int .i64 p, .int .i64 r, .int .i64 u, .int .i64 m, .int .i64 l, .int .i64 t, .int .i64 x, .int .i64 y]) (.agg #[.int .i64 p, .int .i64 r, .int .i64 u, .int .i64 m, .int .i64 l, .int .i64 t, .int .i64 x, .int .i64 y])).run Try.prog w = .ok (.bool true) w := by
  rw [run_eql_struct, bkt_eq]; rfl
theorem isNone_nil (w : World) : Calls Try.prog 45 #[.pointer none] w fun e w' => e = .returned (.bool true) ∧ w = w' := by
  go_enter Try.func45, Try.ntmps45
  go_wp2_with fail
  go_ret
  exact ⟨by simp, rfl⟩
theorem isNone_yes {b : Nat} {p r u m l : Int} {s : BM.St} {w : World} (hB : BktAt w b p r u m l s) (hp : 1 ≤ p) : Calls Try.prog 45 #[.pointer (some ⟨b, 0, none⟩)] w fun e w' => e = .returned (.bool false) ∧ w = w' := by
  obtain ⟨lt, c0, c1, c2, c3, c4, c5, c6, c7, f5, f6, f7⟩ := hB
  have h1 := fun w => bkt_ne p r u m l s.1 s.2.1 s.2.2 (by omega) w
  have h2 := fun w => bkt_ne_bin p r u m l s.1 s.2.1 s.2.2 (by omega) w
  clear hp
  go_enter Try.func45, Try.ntmps45
  go_wp2_with fail
  go_ret
  exact ⟨by simp, rfl⟩
def ZeroAt (w : World) (b : Nat) : Prop := ∀ k, k < 8 → w.cell? ⟨b, k, none⟩ = some (.int .i64 0)
theorem isNone_zero {b : Nat} {w : World} (hB : ZeroAt w b) : Calls Try.prog 45 #[.pointer (some ⟨b, 0, none⟩)] w fun e w' => e = .returned (.bool true) ∧ w = w' := by
  have c0 := hB 0 (by omega)
  have c1 := hB 1 (by omega)
  have c2 := hB 2 (by omega)
  have c3 := hB 3 (by omega)
  have c4 := hB 4 (by omega)
  have c5 := hB 5 (by omega)
  have c6 := hB 6 (by omega)
  have c7 := hB 7 (by omega)
  clear hB
  have h1 := fun w => bkt_eq 0 0 0 0 0 0 0 0 w
  have h2 := fun w => bkt_eq_bin 0 0 0 0 0 0 0 0 w
  go_enter Try.func45, Try.ntmps45
  go_wp2_with fail
  go_ret
  exact ⟨by simp, rfl⟩
theorem bcheck_nil (n : Int) (w : World) : Calls Try.prog 46 #[.pointer none, .int .i64 n] w fun e w' => e = .returned (.int .i64 1) ∧ w = w' := by
  have c := hidd (fun W => isNone_nil W)
  go_enter Try.func46, Try.ntmps46
  go_wp2_with fail
  refine (c.out _).mono ?_
  rintro e w' ⟨rfl, rfl⟩
  go_wp2_with fail
  go_ret
  exact ⟨rfl, rfl⟩
theorem bcheck_zero {b : Nat} (n : Int) {w : World} (hB : ZeroAt w b) : Calls Try.prog 46 #[.pointer (some ⟨b, 0, none⟩), .int .i64 n] w fun e w' => e = .returned (.int .i64 1) ∧ w = w' := by
  have c := hidd (isNone_zero hB)
  clear hB
  go_enter Try.func46, Try.ntmps46
  go_wp2_with fail
  refine c.out.mono ?_
  rintro e w' ⟨rfl, rfl⟩
  go_wp2_with fail
  go_ret
  exact ⟨rfl, rfl⟩
theorem bcheck_any {b : Nat} {p r u m l : Int} {s : BM.St} {w : World} (hB : BktAt w b p r u m l s) (hp : 1 ≤ p) (hs : s.1 ≤ 2147483647) (n : Int) : Calls Try.prog 46 #[.pointer (some ⟨b, 0, none⟩), .int .i64 n] w fun e w' => e = .returned (.int .i64 (if BM.askB s n then 0 else 2)) ∧ w = w' := by
  have c := hidd (isNone_yes hB hp)
  have cb := hidd (fun lo hi W => bounded_any n lo hi W)
  have c5 := hB.c5
  clear hB
  by_cases hq : BM.askB s n = true
  · rw [if_pos hq]
    have hq := of_decide_eq_true hq
    have e1 : BM.bnd n s.1 2147483647 = n := by unfold BM.bnd; omega
    have cb := hidd (cb.out s.1 2147483647)
    rw [e1] at cb
    clear e1 hq
    go_enter Try.func46, Try.ntmps46
    go_wp2_with fail
    refine c.out.mono ?_
    rintro e w' ⟨rfl, rfl⟩
    go_wp2_with fail
    refine (cb.out _).mono ?_
    rintro e w' ⟨rfl, rfl⟩
    go_wp2_with fail
    go_ret
    exact ⟨rfl, rfl⟩
  · rw [if_neg hq]
    have e1 : ¬ n = BM.bnd n s.1 2147483647 := fun e => hq (decide_eq_true (by unfold BM.bnd at e; omega))
    have cb := hidd (cb.out s.1 2147483647)
    have e2 : (n == BM.bnd n s.1 2147483647) = false := beq_eq_false_iff_ne.2 e1
    have e3 : (n != BM.bnd n s.1 2147483647) = true := by simp [bne, e2]
    generalize BM.bnd n s.1 2147483647 = M at *
    clear hq
    go_enter Try.func46, Try.ntmps46
    go_wp2_with fail
    refine c.out.mono ?_
    rintro e w' ⟨rfl, rfl⟩
    go_wp2_with fail
    refine (cb.out _).mono ?_
    rintro e w' ⟨rfl, rfl⟩
    go_wp2_with fail
    go_ret
    exact ⟨rfl, rfl⟩
theorem isSize_any {b : Nat} {p r u m l : Int} {s : BM.St} {w : World} (hB : BktAt w b p r u m l s) (hl : l ≤ m) (n : Int) : Calls Try.prog 48 #[.pointer (some ⟨b, 0, none⟩), .int .i64 n] w fun e w' => e = .returned (.bool (BM.sizeB m l n)) ∧ ∃ k, w' = w.drewN k := by
  have cb := hidd (fun W => bounded_any n l m W)
  have c4 := hB.c4
  have c3 := hB.c3
  clear hB
  have hq : Hid (BM.sizeB m l n = (n == BM.bnd n l m)) := hidd (by
    rw [Bool.eq_iff_iff]
    unfold BM.sizeB BM.bnd
    rw [decide_eq_true_eq, beq_iff_eq]
    omega)
  generalize BM.sizeB m l n = S at *
  generalize BM.bnd n l m = M at *
  clear hl
  go_enter Try.func48, Try.ntmps48
  go_wp2_with fail
  go_quiet ((go_at_call 55; exact Calls.quiet_of_same ((cb.out _).mono fun e w' h => ⟨h.1, h.2.symm⟩)))
  go_wp2_with fail
  go_ret
  exact ⟨by rw [hq.out]; rfl, _, rfl⟩
theorem later_words {there most more d : Int} (a0 : 0 ≤ there) (a1 : there ≤ 10000000) (r0 : 0 ≤ more) (r1 : more ≤ 1000000) (d0 : 0 ≤ d) (d1 : d ≤ 2147483647) :
    ∃ P : Int, IntKind.i64.wrap (more * d) = P ∧ wrap64 (more * d) = P ∧ P = more * d ∧ 0 ≤ P ∧ P ≤ 2200000000000000 := by
  obtain ⟨b0, b1⟩ := rate_bounds r0 r1 d0 d1
  refine ⟨more * d, IntWalk.i64_in _ (by omega), ?_, rfl, b0, b1⟩
  simp only [wrap64]
  omega
theorem later_any (there most more d : Int) (a0 : 0 ≤ there) (a1 : there ≤ 10000000) (r0 : 0 ≤ more) (r1 : more ≤ 1000000) (d0 : 0 ≤ d) (d1 : d ≤ 2147483647) (w : World) :
    Calls Try.prog 57 #[.agg #[.int .i64 there, .int .i64 most, .int .i64 more], .int .i64 d] w fun e w' => e = .returned (.int .i64 (BM.later there most more d)) ∧ ∃ k, w' = (w.alloc (.cells #[.int .i64 there, .int .i64 most, .int .i64 more] 111)).drewN k := by
  obtain ⟨P, q0, q1, q2, q3, q4⟩ := later_words (most := most) a0 a1 r0 r1 d0 d1
  have cb := hidd (fun n W => bounded_any n 0 most W)
  have hR : Hid (BM.later there most more d = BM.bnd (there + P) 0 most) := hidd (by rw [q2]; rfl)
  clear q2 r0 r1 d0 d1
  go_enter Try.func57, Try.ntmps57
  go_wp2_with fail
  refine (cb.out _ _).mono ?_
  rintro e w' ⟨rfl, rfl⟩
  go_wp2_with fail
  go_ret
  exact ⟨ret_int hR.out.symm, 0, rfl⟩
theorem bnew_no (p r u m l : Int) (h : rightB p r u m l = false) (w : World) : Calls Try.prog 19 #[.agg #[.int .i64 p, .int .i64 r, .int .i64 u, .int .i64 m, .int .i64 l]] w fun e w' => e = .returned (.tuple #[.pointer none, .int .i64 2]) ∧ Below w.heap.size w w' := by
  have cc := hidd (fun W => check_any p r u m l W)
  rw [h] at cc
  clear h
  go_enter Try.func19, Try.ntmps19
  go_wp2_with fail
  refine wp_scope_fwd 0 (fun a' w' => Below w.heap.size w w' ∧ ∃ v0 v1 v2 v3 v4 v5 v6 v7 v8 v9 v10 v11 v12 v13 v14 : Value, a' = { tmps := #[v0, v1, v2, v3, v4, v5, v6, v7, v8, v9, v10, v11, v12, v13, v14], defers := [] }) rfl ?_ ?_
  case refine_2 =>
    rintro a' w' ⟨hb, v0, v1, v2, v3, v4, v5, v6, v7, v8, v9, v10, v11, v12, v13, v14, rfl⟩
    go_wp2_with fail
    (try rw [Exit.noGoto_ret])
    go_ret2
    exact ⟨rfl, hb⟩
  go_wp2_with fail
  refine (cc.out _).mono ?_
  rintro e w1 ⟨rfl, hb⟩
  go_wp2_with fail
  go_step3
  exact ⟨rfl, by (repeat' (first | (with_reducible exact Below.refl _ _) | (with_reducible assumption) | (with_reducible apply Below.setCell) | (with_reducible apply Below.alloc) | (with_reducible apply Below.drew) | (with_reducible apply below_drewN) | (with_reducible refine Below.trans ?_ (Below.mono (by assumption) ?_)) | omega | (simp; done) | (simp; omega))), _, _, _, _, _, _, _, _, _, _, _, _, _, _, _, rfl⟩
theorem bnew_yes (p r u m l : Int) (h : rightB p r u m l = true) (w : World) : Calls Try.prog 19 #[.agg #[.int .i64 p, .int .i64 r, .int .i64 u, .int .i64 m, .int .i64 l]] w fun e w' => ∃ b, e = .returned (.tuple #[.pointer (some ⟨b, 0, none⟩), .int .i64 0]) ∧ w.heap.size ≤ b ∧ BktAt w' b p r u m l (0, u, m) ∧ Below w.heap.size w w' := by
  have cc := hidd (fun W => check_any p r u m l W)
  rw [h] at cc
  clear h
  go_enter Try.func19, Try.ntmps19
  go_wp2_with fail
  refine wp_scope_fwd 0 (fun a' w' => False) rfl ?_ ?_
  case refine_2 => exact fun _ _ h => h.elim
  go_wp2_with fail
  refine (cc.out _).mono ?_
  rintro e w1 ⟨rfl, hb⟩
  have hB : Below w.heap.size w w1 := below_step (below_new (Below.refl _ _) _) hb
  obtain ⟨bc, bf⟩ := bcell hb
  have z : w.heap.size < w1.heap.size := by have := hb.size; simp at this; omega
  have c0 : w1.cell? ⟨w.heap.size, 0, none⟩ = some (.int .i64 p) := by rw [bc _ _ (by (first | omega | (simp; done) | (simp; omega)))]; simp [go_sem]
  have c1 : w1.cell? ⟨w.heap.size, 1, none⟩ = some (.int .i64 r) := by rw [bc _ _ (by (first | omega | (simp; done) | (simp; omega)))]; simp [go_sem]
  have c2 : w1.cell? ⟨w.heap.size, 2, none⟩ = some (.int .i64 u) := by rw [bc _ _ (by (first | omega | (simp; done) | (simp; omega)))]; simp [go_sem]
  have c3 : w1.cell? ⟨w.heap.size, 3, none⟩ = some (.int .i64 m) := by rw [bc _ _ (by (first | omega | (simp; done) | (simp; omega)))]; simp [go_sem]
  have c4 : w1.cell? ⟨w.heap.size, 4, none⟩ = some (.int .i64 l) := by rw [bc _ _ (by (first | omega | (simp; done) | (simp; omega)))]; simp [go_sem]
  clear bc bf hb
  go_wp2_with fail
  simp only [Exit.jump]
  go_ret2
  refine ⟨_, rfl, by omega, ⟨by simp, ?_, ?_, ?_, ?_, ?_, ?_, ?_, ?_, ?_, ?_, ?_⟩, hB.trans ((Below.refl _ _).alloc (by omega) _)⟩ <;> simp [go_sem]
end Go.Proofs.Ythaiphkmkchhoaa
