/- Maps: are two the same. -/
import Derived.Test.YtjnceoklnmmhjaaGreatTpJ
namespace Go.Proofs.YtjnceoklnmmhjaaGreat.Tp
set_option linter.unusedVariables false
open Go.RowKit Go.Maps

def sameB (x y : Lk) : Bool := fr x == fr y && (tw x == tw y && (rt x == rt y && (sh x == sh y && (fa x == fa y && (mo x == mo y && (ro x == ro y && fi x == fi y))))))
theorem sameB_iff {x y : Lk} : sameB x y = true ↔ x = y := by
  unfold sameB
  simp only [Bool.and_eq_true, beq_iff_eq]
  constructor
  · rintro ⟨h0, h1, h2, h3, h4, h5, h6, h7⟩
    exact Prod.ext h0 (Prod.ext h1 (Prod.ext h2 (Prod.ext h3 (Prod.ext h4 (Prod.ext h5 (Prod.ext h6 h7))))))
  · rintro rfl
    exact ⟨rfl, rfl, rfl, rfl, rfl, rfl, rfl, rfl⟩
theorem same_run (a0 a1 a2 a3 a4 a5 a6 a7 b0 b1 b2 b3 b4 b5 b6 b7 : Int) (w : World) : (Op.equalIn 10000 48 (.agg #[.int .i64 a0, .int .i64 a1, .int .i64 a2, .int .i64 a3, .int .i64 a4, .int .i64 a5, .int .i64 a6, .int .i64 a7]) (.agg #[.int .i64 b0, .int .i64 b1, .int .i64 b2, .int .i64 b3, .int .i64 b4, .int .i64 b5, .int .i64 b6, .int .i64 b7])).run Tryz.prog w = .ok (sameB (a0, a1, a2, a3, a4, a5, a6, a7) (b0, b1, b2, b3, b4, b5, b6, b7)) w := by
  unfold sameB fr tw rt sh fa mo ro fi
  by_cases h0 : a0 = b0
  rotate_left
  · simp [go_sem, Op.eqFields, *]
  by_cases h1 : a1 = b1
  rotate_left
  · simp [go_sem, Op.eqFields, *]
  by_cases h2 : a2 = b2
  rotate_left
  · simp [go_sem, Op.eqFields, *]
  by_cases h3 : a3 = b3
  rotate_left
  · simp [go_sem, Op.eqFields, *]
  by_cases h4 : a4 = b4
  rotate_left
  · simp [go_sem, Op.eqFields, *]
  by_cases h5 : a5 = b5
  rotate_left
  · simp [go_sem, Op.eqFields, *]
  by_cases h6 : a6 = b6
  rotate_left
  · simp [go_sem, Op.eqFields, *]
  by_cases h7 : a7 = b7
  rotate_left
  · simp [go_sem, Op.eqFields, *]
  simp [go_sem, Op.eqFields, *]
theorem same_eq (a0 a1 a2 a3 a4 a5 a6 a7 b0 b1 b2 b3 b4 b5 b6 b7 : Int) (w : World) : (binOp .eql 48 (.agg #[.int .i64 a0, .int .i64 a1, .int .i64 a2, .int .i64 a3, .int .i64 a4, .int .i64 a5, .int .i64 a6, .int .i64 a7]) (.agg #[.int .i64 b0, .int .i64 b1, .int .i64 b2, .int .i64 b3, .int .i64 b4, .int .i64 b5, .int .i64 b6, .int .i64 b7])).run Tryz.prog w = .ok (.bool (sameB (a0, a1, a2, a3, a4, a5, a6, a7) (b0, b1, b2, b3, b4, b5, b6, b7))) w := by
  rw [run_eql_struct, same_run]; rfl
theorem same_ne (a0 a1 a2 a3 a4 a5 a6 a7 b0 b1 b2 b3 b4 b5 b6 b7 : Int) (w : World) : (binOp .neq 48 (.agg #[.int .i64 a0, .int .i64 a1, .int .i64 a2, .int .i64 a3, .int .i64 a4, .int .i64 a5, .int .i64 a6, .int .i64 a7]) (.agg #[.int .i64 b0, .int .i64 b1, .int .i64 b2, .int .i64 b3, .int .i64 b4, .int .i64 b5, .int .i64 b6, .int .i64 b7])).run Tryz.prog w = .ok (.bool (!sameB (a0, a1, a2, a3, a4, a5, a6, a7) (b0, b1, b2, b3, b4, b5, b6, b7))) w := by
  have := same_run a0 a1 a2 a3 a4 a5 a6 a7 b0 b1 b2 b3 b4 b5 b6 b7 w
  simp [binOp, Op.equal, Op.maxDepth, this]
def eqL (L M : List Lk) : Bool := decide (L.length = M.length) && (List.range L.length).all (fun i => sameB (lkAt L i) (lkAt M i))
theorem eqL_iff {L M : List Lk} : eqL L M = true ↔ L = M := by
  unfold eqL
  simp only [Bool.and_eq_true, decide_eq_true_eq, List.all_eq_true, List.mem_range, sameB_iff]
  constructor
  · rintro ⟨h, hi⟩
    refine List.ext_getElem h fun j h1 h2 => ?_
    have := hi j h1
    rwa [lkAt_get h1, lkAt_get h2] at this
  · rintro rfl
    exact ⟨rfl, fun _ _ => rfl⟩
theorem eqL_len {L M : List Lk} (h : L.length ≠ M.length) : eqL L M = false := by
  unfold eqL
  simp [h]
theorem eqL_not {L M : List Lk} (i : Nat) (hi : i < L.length) (h : sameB (lkAt L i) (lkAt M i) = false) : eqL L M = false := by
  cases e : eqL L M
  · rfl
  · have := eqL_iff.1 e
    subst this
    rw [sameB_iff.2 rfl] at h
    cases h
theorem eqL_yes {L M : List Lk} (hl : L.length = M.length) (h : ∀ i, i < L.length → sameB (lkAt L i) (lkAt M i) = true) : eqL L M = true := by
  unfold eqL
  simp only [Bool.and_eq_true, decide_eq_true_eq, List.all_eq_true, List.mem_range]
  exact ⟨hl, h⟩
def sameM (n : Int) (L : List Lk) (n' : Int) (M : List Lk) : Bool := decide (n = n') && eqL L M
theorem sameM_iff {n n' : Int} {L M : List Lk} : sameM n L n' M = true ↔ n = n' ∧ L = M := by
  unfold sameM
  simp only [Bool.and_eq_true, decide_eq_true_eq, eqL_iff]
end Go.Proofs.YtjnceoklnmmhjaaGreat.Tp
