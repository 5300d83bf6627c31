/- Maps: are two the same. -/
import Derived.Test.YtalhbjmhipiiiaaGreatTpJ
namespace Go.Proofs.YtalhbjmhipiiiaaGreat.Tp
set_option linter.unusedVariables false
open Go.RowKit Go.Maps

def sameB (x y : Lk) : Bool := fr x == fr y && (tw x == tw y && (rt x == rt y && (sh x == sh y && (fa x == fa y && (mo x == mo y && (ro x == ro y && fi x == fi y))))))
theorem sameB_iff {x y : Lk} : sameB x y = true ↔ x = y := by
  unfold sameB
  simp only [Bool.and_eq_true, beq_iff_eq]
  constructor
  · rintro ⟨h0, h1, h2, h3, h4, h5, h6, h7⟩
    exact Prod.ext h0 (Prod.ext h1 (Prod.ext h2 (Prod.ext h3 (Prod.ext h4 (Prod.ext h5 (Prod.ext h6 h7))))))
  · rintro rfl
    exact ⟨rfl, rfl, rfl, rfl, rfl, rfl, rfl, rfl⟩
theorem same_run (a0 a1 a2 a3 a4 a5 a6 a7 b0 b1 b2 b3 b4 b5 b6 b7 : Int) (w : World) : (Op.equalIn 10000 51 (.agg #[.int .i64 a0, .int .i64 a1, .int .i64 a2, .int .i64 a3, .int .i64 a4, .int .i64 a5, .int .i64 a6, .int .i64 a7]) (.agg #[.int .i64 b0, .int .i64 b1, .int .i64 b2, .int .i64 b3, .int .i64 b4, .int .i64 b5, .int .i64 b6, .int .i64 b7])).run Tryz.prog w = .ok (sameB (a0, a1, a2, a3, a4, a5, a6, a7) (b0, b1, b2, b3, b4, b5, b6, b7)) w := by
  unfold sameB fr tw rt sh fa mo ro fi
  by_cases h0 : a0 = b0
  rotate_left
  · simp [go_sem, Op.eqFields, *]
  by_cases h1 : a1 = b1
  rotate_left
  · simp [go_sem, Op.eqFields, *]
  by_cases h2 : a2 = b2
  rotate_left
  · simp [go_sem, Op.eqFields, *]
  by_cases h3 : a3 = b3
  rotate_left
  · simp [go_sem, Op.eqFields, *]
  by_cases h4 : a4 = b4
  rotate_left
  · simp [go_sem, Op.eqFields, *]
  by_cases h5 : a5 = b5
  rotate_left
  · simp [go_sem, Op.eqFields, *]
  by_cases h6 : a6 = b6
  rotate_left
  · simp [go_sem, Op.eqFields, *]
  by_cases h7 : a7 = b7
  rotate_left
  · simp [go_sem, Op.eqFields, *]
  simp [go_sem, Op.eqFields, *]
theorem same_eq (a0 a1 a2 a3 a4 a5 a6 a7 b0 b1 b2 b3 b4 b5 b6 b7 : Int) (w : World) : (binOp .eql 51 (.agg #[.int .i64 a0, .int .i64 a1, .int .i64 a2, .int .i64 a3, .int .i64 a4, .int .i64 a5, .int .i64 a6, .int .i64 a7]) (.agg #[.int .i64 b0, .int .i64 b1, .int .i64 b2, .int .i64 b3, .int .i64 b4, .int .i64 b5, .int .i64 b6, .int .i64 b7])).run Tryz.prog w = .ok (.bool (sameB (a0, a1, a2, a3, a4, a5, a6, a7) (b0, b1, b2, b3, b4, b5, b6, b7))) w := by
  rw [run_eql_struct, same_run]; rfl
theorem same_ne (a0 a1 a2 a3 a4 a5 a6 a7 b0 b1 b2 b3 b4 b5 b6 b7 : Int) (w : World) : (binOp .neq 51 (.agg #[.int .i64 a0, .int .i64 a1, .int .i64 a2, .int .i64 a3, .int .i64 a4, .int .i64 a5, .int .i64 a6, .int .i64 a7]) (.agg #[.int .i64 b0, .int .i64 b1, .int .i64 b2, .int .i64 b3, .int .i64 b4, .int .i64 b5, .int .i64 b6, .int .i64 b7])).run Tryz.prog w = .ok (.bool (!sameB (a0, a1, a2, a3, a4, a5, a6, a7) (b0, b1, b2, b3, b4, b5, b6, b7))) w := by
  have := same_run a0 a1 a2 a3 a4 a5 a6 a7 b0 b1 b2 b3 b4 b5 b6 b7 w
  simp [binOp, Op.equal, Op.maxDepth, this]
def eqL (L M : List Lk) : Bool := decide (L.length = M.length) && (List.range L.length).all (fun i => sameB (lkAt L i) (lkAt M i))
theorem eqL_iff {L M : List Lk} : eqL L M = true ↔ L = M := by
  unfold eqL
  simp only [Bool.and_eq_true, decide_eq_true_eq, List.all_eq_true, List.mem_range, sameB_iff]
  constructor
  · rintro ⟨h, hi⟩
    refine List.ext_getElem h fun j h1 h2 => ?_
    have := hi j h1
    rwa [lkAt_get h1, lkAt_get h2] at this
  · rintro rfl
    exact ⟨rfl, fun _ _ => rfl⟩
theorem eqL_len {L M : List Lk} (h : L.length ≠ M.length) : eqL L M = false := by
  unfold eqL
  simp [h]
theorem eqL_not {L M : List Lk} (i : Nat) (hi : i < L.length) (h : sameB (lkAt L i) (lkAt M i) = false) : eqL L M = false := by
  cases e : eqL L M
  · rfl
  · have := eqL_iff.1 e
    subst this
    rw [sameB_iff.2 rfl] at h
    cases h
theorem eqL_yes {L M : List Lk} (hl : L.length = M.length) (h : ∀ i, i < L.length → sameB (lkAt L i) (lkAt M i) = true) : eqL L M = true := by
  unfold eqL
  simp only [Bool.and_eq_true, decide_eq_true_eq, List.all_eq_true, List.mem_range]
  exact ⟨hl, h⟩
set_option maxRecDepth 100000 in
set_option maxHeartbeats 4000000 in
theorem Equal_any (A : Option Addr) (L : List Lk) (c : Nat) (A' : Option Addr) (M : List Lk) (c' : Nat) (hL : L.length ≤ 1000000) (hM : M.length ≤ 1000000) (w : World) (hA : Lie linkV 8 w w.heap.size A L) (hA' : Lie linkV 8 w w.heap.size A' M) :
    Calls Tryz.prog 37 #[.slice A L.length c, .slice A' M.length c'] w fun e w' => e = .returned (.bool (eqL L M)) ∧ ∃ q, w' = w.drewN q := by
  have HA := hidd hA
  have HA' := hidd hA'
  have hno := hidd (fun i hi h => eqL_not (L := L) (M := M) i hi h)
  have hyes := hidd (fun hl h => eqL_yes (L := L) (M := M) hl h)
  by_cases hl : L.length = M.length
  rotate_left
  · rw [eqL_len hl]
    have hl' : ¬ (L.length : Int) = (M.length : Int) := by omega
    have hl2 : ((L.length : Int) == (M.length : Int)) = false := beq_eq_false_iff_ne.2 hl'
    clear hA hA' hno hyes hl
    go_enter Tryz.func37, Tryz.ntmps37
    go_wp2_with fail
    go_ret
    exact ⟨rfl, 0, rfl⟩
  generalize eqL L M = R at *
  have HL := hidd hl
  obtain ⟨N, hN⟩ : ∃ N, M.length = N := ⟨_, rfl⟩
  have HN := hidd hN
  rw [hN] at hl hM ⊢
  subst hl
  clear hA hA' hN
  go_enter Tryz.func37, Tryz.ntmps37
  go_wp2_with fail
  go_loopg [13] (L.length + 2) (fun g s13 wr => ∃ (i q : Nat), i ≤ L.length ∧ i + g = L.length + 2 ∧ s13 = .int .i64 (i : Int) ∧ (∀ j, j < i → sameB (lkAt L j) (lkAt M j) = true) ∧ wr = w.drewN q)
  case atStart => exact ⟨0, 0, by omega, by omega, rfl, fun j h => absurd h (by omega), rfl⟩
  case round =>
    obtain ⟨i, q, hi1, hg, rfl, hs, rfl⟩ := hrel
    have HG := hidd hg
    have HS := hidd hs
    clear hg hs
    by_cases hin : i < L.length
    · have hin2 : (i : Int) < (L.length : Int) := by omega
      have hi0 : (0 : Int) ≤ (i : Int) := by omega
      have hinM : i < M.length := by have := HN.out; omega
      obtain ⟨ad, rfl, ha, x0, x1, x2, x3, x4, x5, x6, x7⟩ := HA.out.link i hin
      obtain ⟨ad', rfl, ha', y0, y1, y2, y3, y4, y5, y6, y7⟩ := HA'.out.link i hinM
      have hne := fun W => same_ne (fr (lkAt L i)) (tw (lkAt L i)) (rt (lkAt L i)) (sh (lkAt L i)) (fa (lkAt L i)) (mo (lkAt L i)) (ro (lkAt L i)) (fi (lkAt L i)) (fr (lkAt M i)) (tw (lkAt M i)) (rt (lkAt M i)) (sh (lkAt M i)) (fa (lkAt M i)) (mo (lkAt M i)) (ro (lkAt M i)) (fi (lkAt M i)) W
      have hsm := fun W => same_run (fr (lkAt L i)) (tw (lkAt L i)) (rt (lkAt L i)) (sh (lkAt L i)) (fa (lkAt L i)) (mo (lkAt L i)) (ro (lkAt L i)) (fi (lkAt L i)) (fr (lkAt M i)) (tw (lkAt M i)) (rt (lkAt M i)) (sh (lkAt M i)) (fa (lkAt M i)) (mo (lkAt M i)) (ro (lkAt M i)) (fi (lkAt M i)) W
      rw [← lk_eta, ← lk_eta] at hne hsm
      have HNO := hidd (hno.out i hin)
      have HST : Hid (sameB (lkAt L i) (lkAt M i) = true → ∀ k, k < i + 1 → sameB (lkAt L k) (lkAt M k) = true) := hidd (fun h k k1 => by
        by_cases hk : k = i
        · subst hk; exact h
        · exact HS.out k (by omega))
      obtain ⟨S, hS⟩ : ∃ S, sameB (lkAt L i) (lkAt M i) = S := ⟨_, rfl⟩
      rw [hS] at hne hsm HNO HST
      clear hS
      generalize fr (lkAt L i) = a0 at *
      generalize tw (lkAt L i) = a1 at *
      generalize rt (lkAt L i) = a2 at *
      generalize sh (lkAt L i) = a3 at *
      generalize fa (lkAt L i) = a4 at *
      generalize mo (lkAt L i) = a5 at *
      generalize ro (lkAt L i) = a6 at *
      generalize fi (lkAt L i) = a7 at *
      generalize fr (lkAt M i) = b0 at *
      generalize tw (lkAt M i) = b1 at *
      generalize rt (lkAt M i) = b2 at *
      generalize sh (lkAt M i) = b3 at *
      generalize fa (lkAt M i) = b4 at *
      generalize mo (lkAt M i) = b5 at *
      generalize ro (lkAt M i) = b6 at *
      generalize fi (lkAt M i) = b7 at *
      cases S
      · go_wp2_with fail
        go_quiet (fail)
        go_wp2_with fail
        go_ret
        exact ⟨congrArg (fun b => Ending.returned (.bool b)) (HNO.out (by simp)).symm, _, by first | rfl | (rw [World.drewN_drewN]; done)⟩
      · go_wp2_with fail
        go_quiet (fail)
        go_wp2_with fail
        have hg := HG.out
        go_roundg (gk - 1)
        case measure => omega
        case rel => exact ⟨i + 1, _, by omega, by omega, by go_num, HST.out (by simp), by first | rfl | (rw [World.drewN_drewN]; done)⟩
    · have hin2 : ¬ (i : Int) < (L.length : Int) := by omega
      have hr := hidd (hyes.out HL.out (fun j h2 => HS.out j (by omega)))
      go_wp2_with fail
      go_ret
      exact ⟨congrArg (fun b => Ending.returned (.bool b)) hr.out.symm, _, rfl⟩
theorem Same_nn (v v' : Value) (w : World) (h : NoneV w v) (h' : NoneV w v') : Calls Tryz.prog 19 #[v, v'] w fun e w' => e = .returned (.bool true) ∧ w = w' := by
  have c := hidd (isNone_no v w h)
  have c' := hidd (isNone_no v' w h')
  clear h h'
  go_enter Tryz.func19, Tryz.ntmps19
  go_wp2_with fail
  refine c.out.mono ?_
  rintro e w' ⟨rfl, rfl⟩
  go_wp2_with fail
  refine c.out.mono ?_
  rintro e w' ⟨rfl, rfl⟩
  go_wp2_with fail
  refine c'.out.mono ?_
  rintro e w' ⟨rfl, rfl⟩
  go_wp2_with fail
  go_ret
  exact ⟨by first | rfl | simp, rfl⟩
theorem Same_mn (m : Nat) (n : Int) (hn : 1 ≤ n) (v' : Value) (w : World) (h : w.cell? ⟨m, 0, none⟩ = some (.int .i64 n)) (h' : NoneV w v') : Calls Tryz.prog 19 #[.pointer (some ⟨m, 0, none⟩), v'] w fun e w' => e = .returned (.bool false) ∧ w = w' := by
  have c := hidd (isNone_yes m n hn w h)
  have c' := hidd (isNone_no v' w h')
  clear h h'
  go_enter Tryz.func19, Tryz.ntmps19
  go_wp2_with fail
  refine c.out.mono ?_
  rintro e w' ⟨rfl, rfl⟩
  go_wp2_with fail
  refine c'.out.mono ?_
  rintro e w' ⟨rfl, rfl⟩
  go_wp2_with fail
  refine c.out.mono ?_
  rintro e w' ⟨rfl, rfl⟩
  go_wp2_with fail
  go_ret
  exact ⟨by first | rfl | simp, rfl⟩
def sameM (n : Int) (L : List Lk) (n' : Int) (M : List Lk) : Bool := decide (n = n') && eqL L M
theorem sameM_iff {n n' : Int} {L M : List Lk} : sameM n L n' M = true ↔ n = n' ∧ L = M := by
  unfold sameM
  simp only [Bool.and_eq_true, decide_eq_true_eq, eqL_iff]
set_option maxRecDepth 100000 in
set_option maxHeartbeats 4000000 in
theorem Same_mm (m : Nat) (n : Int) (hn : 1 ≤ n) (L : List Lk) (hL : L.length ≤ 1000000) (m' : Nat) (n' : Int) (hn' : 1 ≤ n') (M : List Lk) (hM : M.length ≤ 1000000) (w : World) (h : MapAt w m n L) (h' : MapAt w m' n' M) :
    Calls Tryz.prog 19 #[.pointer (some ⟨m, 0, none⟩), .pointer (some ⟨m', 0, none⟩)] w fun e w' => e = .returned (.bool (sameM n L n' M)) ∧ Below w.heap.size w w' := by
  obtain ⟨A, c, b, h1, h2, h3, h4, h5, h6⟩ := h
  obtain ⟨A', c', b', h1', h2', h3', h4', h5', h6'⟩ := h'
  have ci := hidd (isNone_yes m n hn w h2)
  have ci' := hidd (isNone_yes m' n' hn' w h2')
  have hq := Equal_any A L c A' M c' hL hM w h5 h5'
  have hqd := hidd (fun W (hW : W = w ∨ ∃ q, W = w.drewN q) => show Calls Tryz.prog 37 #[.slice A L.length c, .slice A' M.length c'] W (fun e w' => e = .returned (.bool (eqL L M)) ∧ Below w.heap.size w w') from by
    rcases hW with rfl | ⟨q, rfl⟩
    · exact (Equal_any A L c A' M c' hL hM W h5 h5').mono fun e w' ⟨he, q, hw⟩ => ⟨he, by rw [hw]; exact below_drewN (Below.refl _ _) q⟩
    · exact (Equal_any A L c A' M c' hL hM (w.drewN q) (h5.below (below_drewN (Below.refl _ _) q)) (h5'.below (below_drewN (Below.refl _ _) q))).mono fun e w' ⟨he, q', hw⟩ => ⟨he, by rw [hw]; exact below_drewN (below_drewN (Below.refl _ _) q) q'⟩)
  unfold sameM
  have K1 := hidd (fun W (hb : Below w.heap.size w W) => (show W.cell? ⟨m, 0, none⟩ = some (.int .i64 n) ∧ W.cell? ⟨m, 1, none⟩ = some (.slice A L.length c) ∧ W.cell? ⟨m', 0, none⟩ = some (.int .i64 n') ∧ W.cell? ⟨m', 1, none⟩ = some (.slice A' M.length c') from ⟨(hb.cell (p := ⟨m, 0, none⟩) h1).trans h2, (hb.cell (p := ⟨m, 1, none⟩) h1).trans h3, (hb.cell (p := ⟨m', 0, none⟩) h1').trans h2', (hb.cell (p := ⟨m', 1, none⟩) h1').trans h3'⟩))
  generalize eqL L M = E at *
  clear h4 h5 h6 h4' h5' h6' hq
  by_cases hnn : n = n'
  · subst hnn
    rw [decide_eq_true rfl, Bool.true_and]
    go_enter Tryz.func19, Tryz.ntmps19
    go_wp2_with fail
    refine ci.out.mono ?_
    rintro e w' ⟨rfl, rfl⟩
    go_wp2_with fail
    refine ci'.out.mono ?_
    rintro e w' ⟨rfl, rfl⟩
    go_wp2_with fail
    go_region_held3 (fun W => W.cell? ⟨m, 0, none⟩ = some (.int .i64 n) ∧ W.cell? ⟨m, 1, none⟩ = some (.slice A L.length c) ∧ W.cell? ⟨m', 0, none⟩ = some (.int .i64 n) ∧ W.cell? ⟨m', 1, none⟩ = some (.slice A' M.length c'))
      ((first | exact K1.out _ cum1 | exact K1.out _ (Below.refl _ _) | go_keep))
      ((first
        | (go_at_call 37; refine (hqd.out _ (by first | exact .inl rfl | exact .inr ⟨_, rfl⟩ | exact .inr ⟨1, rfl⟩)).mono ?_; rintro E1 v1 ⟨rfl, cum1⟩)))
    all_goals go_wp2_with fail
    all_goals go_ret
    all_goals exact ⟨by first | rfl | simp, by (repeat' (first | (with_reducible exact Below.refl _ _) | (with_reducible assumption) | (with_reducible apply Below.setCell) | (with_reducible apply Below.alloc) | (with_reducible apply Below.drew) | (with_reducible apply below_drewN) | (with_reducible refine Below.trans ?_ (Below.mono (by assumption) ?_)) | omega | (simp; done) | (simp; omega)))⟩
  · have hd : decide (n = n') = false := decide_eq_false hnn
    have hd2 : (n == n') = false := beq_eq_false_iff_ne.2 hnn
    rw [hd, Bool.false_and]
    go_enter Tryz.func19, Tryz.ntmps19
    go_wp2_with fail
    refine ci.out.mono ?_
    rintro e w' ⟨rfl, rfl⟩
    go_wp2_with fail
    refine ci'.out.mono ?_
    rintro e w' ⟨rfl, rfl⟩
    go_wp2_with fail
    go_quiet (fail)
    go_wp2_with fail
    go_ret
    exact ⟨by first | rfl | simp, by (repeat' (first | (with_reducible exact Below.refl _ _) | (with_reducible assumption) | (with_reducible apply Below.setCell) | (with_reducible apply Below.alloc) | (with_reducible apply Below.drew) | (with_reducible apply below_drewN) | (with_reducible refine Below.trans ?_ (Below.mono (by assumption) ?_)) | omega | (simp; done) | (simp; omega)))⟩
end Go.Proofs.YtalhbjmhipiiiaaGreat.Tp
