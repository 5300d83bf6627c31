/- Objects: what the laws ask of each kind, one way each. -/
import Derived.Test.YtappmacnoopmkaaGreatObRb
import Derived.Test.YtappmacnoopmkaaGreatObIY
import Derived.Test.YtappmacnoopmkaaGreatObIW
import Derived.Test.YtappmacnoopmkaaGreatObL
namespace Go.Proofs.YtappmacnoopmkaaGreat
set_option linter.unusedVariables false
open Go.RowKit

theorem styleW_in (x : Int) : 0 ≤ styleW x ∧ styleW x ≤ 18 := by
  unfold styleW
  split <;> (try split) <;> (try split) <;> omega
theorem refMayTerms (c d : Int) (w : World) : Calls Tryz.prog 50 #[.agg #[.int .i64 c, .int .i64 d]] w fun e w' => e = .returned (.bool (termB c d)) ∧ Below w.heap.size w w' := by
  have CS := hidd (fun W => refRight5 c d W)
  generalize termB c d = B at *
  go_enter Tryz.func50, Tryz.ntmps50
  go_wp2_with fail
  refine (CS.out _).mono ?_
  rintro e w1 ⟨rfl, hB⟩
  have HB := hidd hB
  clear hB
  go_wp2_with fail
  go_ret
  exact ⟨by first | rfl | simp, by have q := HB.out; (repeat' (first | (with_reducible exact Below.refl _ _) | (with_reducible assumption) | (with_reducible apply Below.setCell) | (with_reducible apply Below.alloc) | (with_reducible apply Below.drew) | (with_reducible apply below_drewN) | (with_reducible refine Below.trans ?_ (Below.mono (by assumption) ?_)) | omega | (simp; done) | (simp; omega)))⟩
theorem refSelf (a b : Int) (A B : Option Addr) (L : List Int) (n k m : Nat) (hn : L.length = n) (hm : n ≤ 100) (W : World) (hA : LieQ wdV 1 W (· < W.heap.size) A L) (hB : LieQ wdV 1 W (· < W.heap.size) B L) : Calls Tryz.prog 10 #[.agg #[.int .i64 a, .int .i64 b, .slice A n k], .agg #[.int .i64 a, .int .i64 b, .slice B n m]] W fun e w' => e = .returned (.bool true) ∧ Below W.heap.size W w' := by
  subst hn
  have h := refSame7 a b A L k a b B L m (by omega) (by omega) W hA hB
  rw [sameB_self] at h
  exact h
theorem refZero (W : World) : Calls Tryz.prog 10 #[.agg #[.int .i64 0, .int .i64 0, .slice none 0 0], .agg #[.int .i64 0, .int .i64 0, .slice none 0 0]] W fun e w' => e = .returned (.bool true) ∧ Below W.heap.size W w' :=
  refSelf 0 0 none none [] 0 0 0 rfl (by omega) W (fun h => absurd h (by simp)) (fun h => absurd h (by simp))
theorem lieq_set3 {W : World} {p : Nat → Prop} {A : Option Addr} {l : List Int} (h : LieQ wdV 1 W p A l) (B : Nat) (hB : ∀ q, p q → q ≠ B) (u v z : Value) : LieQ wdV 1 (((W.setCell ⟨B, 0, none⟩ u).setCell ⟨B, 1, none⟩ v).setCell ⟨B, 2, none⟩ z) p A l :=
  h.to (fun q hq => ⟨hq, by rw [Below.heap_setCell _ _ _ _ (hB q hq), Below.heap_setCell _ _ _ _ (hB q hq), Below.heap_setCell _ _ _ _ (hB q hq)]⟩)
/- Session -/
theorem thS0 (x0 x1 : Int) (hm : mayS x0 x1 = true) : (av [x0, (285212672 + x1)] 0) = x0 := rfl
theorem thS1 (x0 x1 : Int) (hm : mayS x0 x1 = true) : (wrap64 (av [x0, (285212672 + x1)] 1 - 285212672)) = x1 := by
  simp only [mayS, Bool.and_eq_true, inB_iff] at hm
  show wrap64 (285212672 + x1 - 285212672) = x1
  rw [IntWalk.wrap64_in _ (by omega)]; omega
theorem wbS (x0 x1 : Int) (hm : mayS x0 x1 = true) : ∀ y ∈ [x0, (285212672 + x1)], -9223372036854775808 ≤ y ∧ y ≤ 9223372036854775807 := by
  intro y hy
  simp only [mayS, Bool.and_eq_true, inB_iff] at hm
  simp only [List.mem_cons, List.not_mem_nil, or_false] at hy
  rcases hy with rfl | rfl <;> omega
theorem tS1 (x0 x1 : Int) (hm : mayS x0 x1 = true) (W : World) : Calls Tryz.prog 28 #[.agg #[.int .i64 x0, .int .i64 x1]] W fun e w' => Below W.heap.size W w' ∧ ∃ A k, e = .returned (.tuple #[.agg #[.int .i64 1, .int .i64 1, .slice A 2 k], .int .i64 0]) ∧ LieQ wdV 1 w' (· < w'.heap.size) A [x0, (285212672 + x1)] :=
  (Session_any x0 x1 W).mono fun e w' ⟨h1, h2⟩ => ⟨h1, by
    rcases h2 with ⟨_, A, k, h, hl⟩ | h
    · exact ⟨A, k, h, hl.to (fun q hq => ⟨hq.2, rfl⟩)⟩
    · rw [hm] at h; exact absurd h.1 (by decide)⟩
theorem fS1 (x0 x1 : Int) (hm : mayS x0 x1 = false) (W : World) : Calls Tryz.prog 28 #[.agg #[.int .i64 x0, .int .i64 x1]] W fun e w' => e = .returned (.tuple #[.agg #[.int .i64 0, .int .i64 0, .slice none 0 0], .int .i64 2]) ∧ Below W.heap.size W w' :=
  (Session_any x0 x1 W).mono fun e w' ⟨h1, h2⟩ => ⟨by
    rcases h2 with ⟨h, _⟩ | h
    · rw [hm] at h; exact absurd h (by decide)
    · exact h.2, h1⟩
theorem tS2 (x0 x1 : Int) (hm : mayS x0 x1 = true) (W : World) : Calls Tryz.prog 9 #[.agg #[.int .i64 x0, .int .i64 x1]] W fun e w' => e = .returned (.bool true) ∧ Below W.heap.size W w' := by
  have h := (refmayS_any x0 x1 W)
  rw [hm] at h
  exact h
theorem fS2 (x0 x1 : Int) (hm : mayS x0 x1 = false) (W : World) : Calls Tryz.prog 9 #[.agg #[.int .i64 x0, .int .i64 x1]] W fun e w' => e = .returned (.bool false) ∧ Below W.heap.size W w' := by
  have h := (refmayS_any x0 x1 W)
  rw [hm] at h
  exact h
theorem tS3 (x0 x1 : Int) (hm : mayS x0 x1 = true) (W : World) : Calls Tryz.prog 11 #[.agg #[.int .i64 x0, .int .i64 x1]] W fun e w' => Below W.heap.size W w' ∧ ∃ A k, e = .returned (.agg #[.int .i64 1, .int .i64 1, .slice A 2 k]) ∧ LieQ wdV 1 w' (fun q => W.heap.size ≤ q ∧ q < w'.heap.size) A [x0, (285212672 + x1)] :=
  refobjSession_any x0 x1 hm W
theorem tS5 (x0 x1 : Int) (hm : mayS x0 x1 = true) (A : Option Addr) (k : Nat) (W : World) (hl : LieQ wdV 1 W (· < W.heap.size) A [x0, (285212672 + x1)]) : Calls Tryz.prog 8 #[.agg #[.int .i64 1, .int .i64 1, .slice A 2 k]] W fun e w' => e = .returned (.tuple #[.agg #[.int .i64 x0, .int .i64 x1], .int .i64 0]) ∧ Below W.heap.size W w' :=
  (AsSession_any 1 1 A [x0, (285212672 + x1)] k (by simp) (wbS x0 x1 hm) W hl).mono fun e w' ⟨h1, h2⟩ => ⟨by
    rw [thS0 x0 x1 hm, thS1 x0 x1 hm] at h2
    rcases h2 with h | h
    · exact h.2
    · rw [hm, sameB_self] at h; exact absurd h.1 (by decide), h1⟩
theorem fS5 (W : World) : Calls Tryz.prog 8 #[.agg #[.int .i64 0, .int .i64 0, .slice none 0 0]] W fun e w' => e = .returned (.tuple #[.agg #[.int .i64 0, .int .i64 0], .int .i64 171]) ∧ Below W.heap.size W w' :=
  (AsSession_any 0 0 none [] 0 (by simp) (by simp) W (fun h => absurd h (by simp))).mono fun e w' ⟨h1, h2⟩ => ⟨by
    rcases h2 with h | h
    · exfalso
      have := h.1
      rw [Bool.and_eq_true] at this
      simp [sameB] at this
    · exact h.2, h1⟩
/- Hop -/
theorem thH0 (x0 x1 : Int) (hm : mayH x0 x1 = true) : (av [x0, x1] 0) = x0 := rfl
theorem thH1 (x0 x1 : Int) (hm : mayH x0 x1 = true) : (av [x0, x1] 1) = x1 := rfl
theorem wbH (x0 x1 : Int) (hm : mayH x0 x1 = true) : ∀ y ∈ [x0, x1], -9223372036854775808 ≤ y ∧ y ≤ 9223372036854775807 := by
  intro y hy
  simp only [mayH, Bool.and_eq_true, inB_iff] at hm
  simp only [List.mem_cons, List.not_mem_nil, or_false] at hy
  rcases hy with rfl | rfl <;> omega
theorem tH1 (x0 x1 : Int) (hm : mayH x0 x1 = true) (W : World) : Calls Tryz.prog 29 #[.agg #[.int .i64 x0, .int .i64 x1]] W fun e w' => Below W.heap.size W w' ∧ ∃ A k, e = .returned (.tuple #[.agg #[.int .i64 3, .int .i64 1, .slice A 2 k], .int .i64 0]) ∧ LieQ wdV 1 w' (· < w'.heap.size) A [x0, x1] :=
  (Hop_any x0 x1 W).mono fun e w' ⟨h1, h2⟩ => ⟨h1, by
    rcases h2 with ⟨_, A, k, h, hl⟩ | h
    · exact ⟨A, k, h, hl.to (fun q hq => ⟨hq.2, rfl⟩)⟩
    · rw [hm] at h; exact absurd h.1 (by decide)⟩
theorem fH1 (x0 x1 : Int) (hm : mayH x0 x1 = false) (W : World) : Calls Tryz.prog 29 #[.agg #[.int .i64 x0, .int .i64 x1]] W fun e w' => e = .returned (.tuple #[.agg #[.int .i64 0, .int .i64 0, .slice none 0 0], .int .i64 2]) ∧ Below W.heap.size W w' :=
  (Hop_any x0 x1 W).mono fun e w' ⟨h1, h2⟩ => ⟨by
    rcases h2 with ⟨h, _⟩ | h
    · rw [hm] at h; exact absurd h (by decide)
    · exact h.2, h1⟩
theorem tH2 (x0 x1 : Int) (hm : mayH x0 x1 = true) (W : World) : Calls Tryz.prog 13 #[.agg #[.int .i64 x0, .int .i64 x1]] W fun e w' => e = .returned (.bool true) ∧ Below W.heap.size W w' := by
  have h := (refmayH_any x0 x1 W)
  rw [hm] at h
  exact h
theorem fH2 (x0 x1 : Int) (hm : mayH x0 x1 = false) (W : World) : Calls Tryz.prog 13 #[.agg #[.int .i64 x0, .int .i64 x1]] W fun e w' => e = .returned (.bool false) ∧ Below W.heap.size W w' := by
  have h := (refmayH_any x0 x1 W)
  rw [hm] at h
  exact h
theorem tH3 (x0 x1 : Int) (hm : mayH x0 x1 = true) (W : World) : Calls Tryz.prog 14 #[.agg #[.int .i64 x0, .int .i64 x1]] W fun e w' => Below W.heap.size W w' ∧ ∃ A k, e = .returned (.agg #[.int .i64 3, .int .i64 1, .slice A 2 k]) ∧ LieQ wdV 1 w' (fun q => W.heap.size ≤ q ∧ q < w'.heap.size) A [x0, x1] :=
  refobjHop_any x0 x1 hm W
theorem tH5 (x0 x1 : Int) (hm : mayH x0 x1 = true) (A : Option Addr) (k : Nat) (W : World) (hl : LieQ wdV 1 W (· < W.heap.size) A [x0, x1]) : Calls Tryz.prog 12 #[.agg #[.int .i64 3, .int .i64 1, .slice A 2 k]] W fun e w' => e = .returned (.tuple #[.agg #[.int .i64 x0, .int .i64 x1], .int .i64 0]) ∧ Below W.heap.size W w' :=
  (AsHop_any 3 1 A [x0, x1] k (by simp) (wbH x0 x1 hm) W hl).mono fun e w' ⟨h1, h2⟩ => ⟨by
    rw [thH0 x0 x1 hm, thH1 x0 x1 hm] at h2
    rcases h2 with h | h
    · exact h.2
    · rw [hm, sameB_self] at h; exact absurd h.1 (by decide), h1⟩
theorem fH5 (W : World) : Calls Tryz.prog 12 #[.agg #[.int .i64 0, .int .i64 0, .slice none 0 0]] W fun e w' => e = .returned (.tuple #[.agg #[.int .i64 0, .int .i64 0], .int .i64 171]) ∧ Below W.heap.size W w' :=
  (AsHop_any 0 0 none [] 0 (by simp) (by simp) W (fun h => absurd h (by simp))).mono fun e w' ⟨h1, h2⟩ => ⟨by
    rcases h2 with h | h
    · exfalso
      have := h.1
      rw [Bool.and_eq_true] at this
      simp [sameB] at this
    · exact h.2, h1⟩
/- Period -/
theorem thQ0 (x : Int) (hm : mayQ x = true) : (av [x] 0) = x := rfl
theorem wbQ (x : Int) (hm : mayQ x = true) : ∀ y ∈ [x], -9223372036854775808 ≤ y ∧ y ≤ 9223372036854775807 := by
  intro y hy
  simp only [mayQ, inB_iff] at hm
  simp only [List.mem_cons, List.not_mem_nil, or_false] at hy
  subst hy; omega
theorem tQ1 (x : Int) (hm : mayQ x = true) (W : World) : Calls Tryz.prog 30 #[.int .i64 x] W fun e w' => Below W.heap.size W w' ∧ ∃ A k, e = .returned (.tuple #[.agg #[.int .i64 5, .int .i64 1, .slice A 1 k], .int .i64 0]) ∧ LieQ wdV 1 w' (· < w'.heap.size) A [x] :=
  (Period_any x W).mono fun e w' ⟨h1, h2⟩ => ⟨h1, by
    rcases h2 with ⟨_, A, k, h, hl⟩ | h
    · exact ⟨A, k, h, hl.to (fun q hq => ⟨hq.2, rfl⟩)⟩
    · rw [hm] at h; exact absurd h.1 (by decide)⟩
theorem fQ1 (x : Int) (hm : mayQ x = false) (W : World) : Calls Tryz.prog 30 #[.int .i64 x] W fun e w' => e = .returned (.tuple #[.agg #[.int .i64 0, .int .i64 0, .slice none 0 0], .int .i64 2]) ∧ Below W.heap.size W w' :=
  (Period_any x W).mono fun e w' ⟨h1, h2⟩ => ⟨by
    rcases h2 with ⟨h, _⟩ | h
    · rw [hm] at h; exact absurd h (by decide)
    · exact h.2, h1⟩
theorem tQ2 (x : Int) (hm : mayQ x = true) (W : World) : Calls Tryz.prog 16 #[.int .i64 x] W fun e w' => e = .returned (.bool true) ∧ Below W.heap.size W w' := by
  have h := (refmayQ_any x W)
  rw [hm] at h
  exact h
theorem fQ2 (x : Int) (hm : mayQ x = false) (W : World) : Calls Tryz.prog 16 #[.int .i64 x] W fun e w' => e = .returned (.bool false) ∧ Below W.heap.size W w' := by
  have h := (refmayQ_any x W)
  rw [hm] at h
  exact h
theorem tQ3 (x : Int) (hm : mayQ x = true) (W : World) : Calls Tryz.prog 17 #[.int .i64 x] W fun e w' => Below W.heap.size W w' ∧ ∃ A k, e = .returned (.agg #[.int .i64 5, .int .i64 1, .slice A 1 k]) ∧ LieQ wdV 1 w' (fun q => W.heap.size ≤ q ∧ q < w'.heap.size) A [x] :=
  refobjPeriod_any x hm W
theorem tQ5 (x : Int) (hm : mayQ x = true) (A : Option Addr) (k : Nat) (W : World) (hl : LieQ wdV 1 W (· < W.heap.size) A [x]) : Calls Tryz.prog 15 #[.agg #[.int .i64 5, .int .i64 1, .slice A 1 k]] W fun e w' => e = .returned (.tuple #[.int .i64 x, .int .i64 0]) ∧ Below W.heap.size W w' :=
  (AsPeriod_any 5 1 A [x] k (by simp) (wbQ x hm) W hl).mono fun e w' ⟨h1, h2⟩ => ⟨by
    rw [thQ0 x hm] at h2
    rcases h2 with h | h
    · exact h.2
    · rw [hm, sameB_self] at h; exact absurd h.1 (by decide), h1⟩
theorem fQ5 (W : World) : Calls Tryz.prog 15 #[.agg #[.int .i64 0, .int .i64 0, .slice none 0 0]] W fun e w' => e = .returned (.tuple #[.int .i64 0, .int .i64 171]) ∧ Below W.heap.size W w' :=
  (AsPeriod_any 0 0 none [] 0 (by simp) (by simp) W (fun h => absurd h (by simp))).mono fun e w' ⟨h1, h2⟩ => ⟨by
    rcases h2 with h | h
    · exfalso
      have := h.1
      rw [Bool.and_eq_true] at this
      simp [sameB] at this
    · exact h.2, h1⟩
/- Fault -/
theorem thF0 (x0 x1 x2 : Int) (hm : mayF x0 x1 x2 = true) : (av [x0, (65536 * x1 + x2)] 0) = x0 := rfl
theorem thF1 (x0 x1 x2 : Int) (hm : mayF x0 x1 x2 = true) : (av [x0, (65536 * x1 + x2)] 1 / 65536) = x1 := by
  simp only [mayF, Bool.and_eq_true, inB_iff] at hm
  show (65536 * x1 + x2) / 65536 = x1
  omega
theorem thF2 (x0 x1 x2 : Int) (hm : mayF x0 x1 x2 = true) : (av [x0, (65536 * x1 + x2)] 1 % 65536) = x2 := by
  simp only [mayF, Bool.and_eq_true, inB_iff] at hm
  show (65536 * x1 + x2) % 65536 = x2
  omega
theorem wbF (x0 x1 x2 : Int) (hm : mayF x0 x1 x2 = true) : ∀ y ∈ [x0, (65536 * x1 + x2)], -9223372036854775808 ≤ y ∧ y ≤ 9223372036854775807 := by
  intro y hy
  simp only [mayF, Bool.and_eq_true, inB_iff] at hm
  simp only [List.mem_cons, List.not_mem_nil, or_false] at hy
  rcases hy with rfl | rfl <;> omega
theorem tF1 (x0 x1 x2 : Int) (hm : mayF x0 x1 x2 = true) (W : World) : Calls Tryz.prog 31 #[.agg #[.int .i64 x0, .int .i64 x1, .int .i64 x2]] W fun e w' => Below W.heap.size W w' ∧ ∃ A k, e = .returned (.tuple #[.agg #[.int .i64 6, .int .i64 1, .slice A 2 k], .int .i64 0]) ∧ LieQ wdV 1 w' (· < w'.heap.size) A [x0, (65536 * x1 + x2)] :=
  (Fault_any x0 x1 x2 W).mono fun e w' ⟨h1, h2⟩ => ⟨h1, by
    rcases h2 with ⟨_, A, k, h, hl⟩ | h
    · exact ⟨A, k, h, hl.to (fun q hq => ⟨hq.2, rfl⟩)⟩
    · rw [hm] at h; exact absurd h.1 (by decide)⟩
theorem fF1 (x0 x1 x2 : Int) (hm : mayF x0 x1 x2 = false) (W : World) : Calls Tryz.prog 31 #[.agg #[.int .i64 x0, .int .i64 x1, .int .i64 x2]] W fun e w' => e = .returned (.tuple #[.agg #[.int .i64 0, .int .i64 0, .slice none 0 0], .int .i64 2]) ∧ Below W.heap.size W w' :=
  (Fault_any x0 x1 x2 W).mono fun e w' ⟨h1, h2⟩ => ⟨by
    rcases h2 with ⟨h, _⟩ | h
    · rw [hm] at h; exact absurd h (by decide)
    · exact h.2, h1⟩
theorem tF2 (x0 x1 x2 : Int) (hm : mayF x0 x1 x2 = true) (W : World) : Calls Tryz.prog 19 #[.agg #[.int .i64 x0, .int .i64 x1, .int .i64 x2]] W fun e w' => e = .returned (.bool true) ∧ Below W.heap.size W w' := by
  have h := (refmayF_any x0 x1 x2 W)
  rw [hm] at h
  exact h
theorem fF2 (x0 x1 x2 : Int) (hm : mayF x0 x1 x2 = false) (W : World) : Calls Tryz.prog 19 #[.agg #[.int .i64 x0, .int .i64 x1, .int .i64 x2]] W fun e w' => e = .returned (.bool false) ∧ Below W.heap.size W w' := by
  have h := (refmayF_any x0 x1 x2 W)
  rw [hm] at h
  exact h
theorem tF3 (x0 x1 x2 : Int) (hm : mayF x0 x1 x2 = true) (W : World) : Calls Tryz.prog 20 #[.agg #[.int .i64 x0, .int .i64 x1, .int .i64 x2]] W fun e w' => Below W.heap.size W w' ∧ ∃ A k, e = .returned (.agg #[.int .i64 6, .int .i64 1, .slice A 2 k]) ∧ LieQ wdV 1 w' (fun q => W.heap.size ≤ q ∧ q < w'.heap.size) A [x0, (65536 * x1 + x2)] :=
  refobjFault_any x0 x1 x2 hm W
theorem tF5 (x0 x1 x2 : Int) (hm : mayF x0 x1 x2 = true) (A : Option Addr) (k : Nat) (W : World) (hl : LieQ wdV 1 W (· < W.heap.size) A [x0, (65536 * x1 + x2)]) : Calls Tryz.prog 18 #[.agg #[.int .i64 6, .int .i64 1, .slice A 2 k]] W fun e w' => e = .returned (.tuple #[.agg #[.int .i64 x0, .int .i64 x1, .int .i64 x2], .int .i64 0]) ∧ Below W.heap.size W w' :=
  (AsFault_any 6 1 A [x0, (65536 * x1 + x2)] k (by simp) (wbF x0 x1 x2 hm) W hl).mono fun e w' ⟨h1, h2⟩ => ⟨by
    rw [thF0 x0 x1 x2 hm, thF1 x0 x1 x2 hm, thF2 x0 x1 x2 hm] at h2
    rcases h2 with h | h
    · exact h.2
    · rw [hm, sameB_self] at h; exact absurd h.1 (by decide), h1⟩
theorem fF5 (W : World) : Calls Tryz.prog 18 #[.agg #[.int .i64 0, .int .i64 0, .slice none 0 0]] W fun e w' => e = .returned (.tuple #[.agg #[.int .i64 0, .int .i64 0, .int .i64 0], .int .i64 171]) ∧ Below W.heap.size W w' :=
  (AsFault_any 0 0 none [] 0 (by simp) (by simp) W (fun h => absurd h (by simp))).mono fun e w' ⟨h1, h2⟩ => ⟨by
    rcases h2 with h | h
    · exfalso
      have := h.1
      rw [Bool.and_eq_true] at this
      simp [sameB] at this
    · exact h.2, h1⟩
/- Style -/
theorem thY0 (x : Int) (hm : mayY x = true) : (styleOf (av [(styleW x)] 0)) = x := by
  exact styleOf_hit x _ rfl hm
theorem wbY (x : Int) (hm : mayY x = true) : ∀ y ∈ [(styleW x)], -9223372036854775808 ≤ y ∧ y ≤ 9223372036854775807 := by
  intro y hy
  simp only [mayY, inB_iff] at hm
  simp only [List.mem_cons, List.not_mem_nil, or_false] at hy
  subst hy; have := styleW_in x; omega
theorem tY1 (x : Int) (hx : -9223372036854775808 ≤ x ∧ x ≤ 9223372036854775807) (hm : mayY x = true) (W : World) : Calls Tryz.prog 32 #[.int .i64 x] W fun e w' => Below W.heap.size W w' ∧ ∃ A k, e = .returned (.tuple #[.agg #[.int .i64 8, .int .i64 1, .slice A 1 k], .int .i64 0]) ∧ LieQ wdV 1 w' (· < w'.heap.size) A [(styleW x)] :=
  (Style_any x hx W).mono fun e w' ⟨h1, h2⟩ => ⟨h1, by
    rcases h2 with ⟨_, A, k, h, hl⟩ | h
    · exact ⟨A, k, h, hl.to (fun q hq => ⟨hq.2, rfl⟩)⟩
    · rw [hm] at h; exact absurd h.1 (by decide)⟩
theorem fY1 (x : Int) (hx : -9223372036854775808 ≤ x ∧ x ≤ 9223372036854775807) (hm : mayY x = false) (W : World) : Calls Tryz.prog 32 #[.int .i64 x] W fun e w' => e = .returned (.tuple #[.agg #[.int .i64 0, .int .i64 0, .slice none 0 0], .int .i64 2]) ∧ Below W.heap.size W w' :=
  (Style_any x hx W).mono fun e w' ⟨h1, h2⟩ => ⟨by
    rcases h2 with ⟨h, _⟩ | h
    · rw [hm] at h; exact absurd h (by decide)
    · exact h.2, h1⟩
theorem tY2 (x : Int) (hm : mayY x = true) (W : World) : Calls Tryz.prog 22 #[.int .i64 x] W fun e w' => e = .returned (.bool true) ∧ Below W.heap.size W w' := by
  have h := (refmayY_any x W)
  rw [hm] at h
  exact h
theorem fY2 (x : Int) (hm : mayY x = false) (W : World) : Calls Tryz.prog 22 #[.int .i64 x] W fun e w' => e = .returned (.bool false) ∧ Below W.heap.size W w' := by
  have h := (refmayY_any x W)
  rw [hm] at h
  exact h
theorem tY3 (x : Int) (hm : mayY x = true) (W : World) : Calls Tryz.prog 23 #[.int .i64 x] W fun e w' => Below W.heap.size W w' ∧ ∃ A k, e = .returned (.agg #[.int .i64 8, .int .i64 1, .slice A 1 k]) ∧ LieQ wdV 1 w' (fun q => W.heap.size ≤ q ∧ q < w'.heap.size) A [(styleW x)] :=
  refobjStyle_any x hm W
theorem tY5 (x : Int) (hm : mayY x = true) (A : Option Addr) (k : Nat) (W : World) (hl : LieQ wdV 1 W (· < W.heap.size) A [(styleW x)]) : Calls Tryz.prog 21 #[.agg #[.int .i64 8, .int .i64 1, .slice A 1 k]] W fun e w' => e = .returned (.tuple #[.int .i64 x, .int .i64 0]) ∧ Below W.heap.size W w' :=
  (AsStyle_any 8 1 A [(styleW x)] k (by simp) (wbY x hm) W hl).mono fun e w' ⟨h1, h2⟩ => ⟨by
    rw [thY0 x hm] at h2
    rcases h2 with h | h
    · exact h.2
    · rw [hm, sameB_self] at h; exact absurd h.1 (by decide), h1⟩
theorem fY5 (W : World) : Calls Tryz.prog 21 #[.agg #[.int .i64 0, .int .i64 0, .slice none 0 0]] W fun e w' => e = .returned (.tuple #[.int .i64 0, .int .i64 171]) ∧ Below W.heap.size W w' :=
  (AsStyle_any 0 0 none [] 0 (by simp) (by simp) W (fun h => absurd h (by simp))).mono fun e w' ⟨h1, h2⟩ => ⟨by
    rcases h2 with h | h
    · exfalso
      have := h.1
      rw [Bool.and_eq_true] at this
      simp [sameB] at this
    · exact h.2, h1⟩
/- Tell -/
theorem thT0 (x : Int) (hm : mayT x = true) : (av [x] 0) = x := rfl
theorem wbT (x : Int) (hm : mayT x = true) : ∀ y ∈ [x], -9223372036854775808 ≤ y ∧ y ≤ 9223372036854775807 := by
  intro y hy
  simp only [mayT, inB_iff] at hm
  simp only [List.mem_cons, List.not_mem_nil, or_false] at hy
  subst hy; omega
theorem tT1 (x : Int) (hm : mayT x = true) (W : World) : Calls Tryz.prog 33 #[.int .i64 x] W fun e w' => Below W.heap.size W w' ∧ ∃ A k, e = .returned (.tuple #[.agg #[.int .i64 15, .int .i64 1, .slice A 1 k], .int .i64 0]) ∧ LieQ wdV 1 w' (· < w'.heap.size) A [x] :=
  (Tell_any x W).mono fun e w' ⟨h1, h2⟩ => ⟨h1, by
    rcases h2 with ⟨_, A, k, h, hl⟩ | h
    · exact ⟨A, k, h, hl.to (fun q hq => ⟨hq.2, rfl⟩)⟩
    · rw [hm] at h; exact absurd h.1 (by decide)⟩
theorem fT1 (x : Int) (hm : mayT x = false) (W : World) : Calls Tryz.prog 33 #[.int .i64 x] W fun e w' => e = .returned (.tuple #[.agg #[.int .i64 0, .int .i64 0, .slice none 0 0], .int .i64 2]) ∧ Below W.heap.size W w' :=
  (Tell_any x W).mono fun e w' ⟨h1, h2⟩ => ⟨by
    rcases h2 with ⟨h, _⟩ | h
    · rw [hm] at h; exact absurd h (by decide)
    · exact h.2, h1⟩
theorem tT2 (x : Int) (hm : mayT x = true) (W : World) : Calls Tryz.prog 34 #[.int .i64 x] W fun e w' => e = .returned (.bool true) ∧ Below W.heap.size W w' := by
  have h := (refmayT_any x W)
  rw [hm] at h
  exact h
theorem fT2 (x : Int) (hm : mayT x = false) (W : World) : Calls Tryz.prog 34 #[.int .i64 x] W fun e w' => e = .returned (.bool false) ∧ Below W.heap.size W w' := by
  have h := (refmayT_any x W)
  rw [hm] at h
  exact h
theorem tT3 (x : Int) (hm : mayT x = true) (W : World) : Calls Tryz.prog 35 #[.int .i64 x] W fun e w' => Below W.heap.size W w' ∧ ∃ A k, e = .returned (.agg #[.int .i64 15, .int .i64 1, .slice A 1 k]) ∧ LieQ wdV 1 w' (fun q => W.heap.size ≤ q ∧ q < w'.heap.size) A [x] :=
  refobjTell_any x hm W
theorem tT5 (x : Int) (hm : mayT x = true) (A : Option Addr) (k : Nat) (W : World) (hl : LieQ wdV 1 W (· < W.heap.size) A [x]) : Calls Tryz.prog 36 #[.agg #[.int .i64 15, .int .i64 1, .slice A 1 k]] W fun e w' => e = .returned (.tuple #[.int .i64 x, .int .i64 0]) ∧ Below W.heap.size W w' :=
  (AsTell_any 15 1 A [x] k (by simp) (wbT x hm) W hl).mono fun e w' ⟨h1, h2⟩ => ⟨by
    rw [thT0 x hm] at h2
    rcases h2 with h | h
    · exact h.2
    · rw [hm, sameB_self] at h; exact absurd h.1 (by decide), h1⟩
theorem fT5 (W : World) : Calls Tryz.prog 36 #[.agg #[.int .i64 0, .int .i64 0, .slice none 0 0]] W fun e w' => e = .returned (.tuple #[.int .i64 0, .int .i64 171]) ∧ Below W.heap.size W w' :=
  (AsTell_any 0 0 none [] 0 (by simp) (by simp) W (fun h => absurd h (by simp))).mono fun e w' ⟨h1, h2⟩ => ⟨by
    rcases h2 with h | h
    · exfalso
      have := h.1
      rw [Bool.and_eq_true] at this
      simp [sameB] at this
    · exact h.2, h1⟩
/- Wish -/
theorem thW0 (x0 x1 x2 x3 x4 x5 x6 : Int) (hm : mayW x0 x1 x2 x3 x4 x5 x6 = true) : (av [x1, x2, x0, x4, x3, x5, x6] 2) = x0 := rfl
theorem thW1 (x0 x1 x2 x3 x4 x5 x6 : Int) (hm : mayW x0 x1 x2 x3 x4 x5 x6 = true) : (av [x1, x2, x0, x4, x3, x5, x6] 0) = x1 := rfl
theorem thW2 (x0 x1 x2 x3 x4 x5 x6 : Int) (hm : mayW x0 x1 x2 x3 x4 x5 x6 = true) : (av [x1, x2, x0, x4, x3, x5, x6] 1) = x2 := rfl
theorem thW3 (x0 x1 x2 x3 x4 x5 x6 : Int) (hm : mayW x0 x1 x2 x3 x4 x5 x6 = true) : (av [x1, x2, x0, x4, x3, x5, x6] 4) = x3 := rfl
theorem thW4 (x0 x1 x2 x3 x4 x5 x6 : Int) (hm : mayW x0 x1 x2 x3 x4 x5 x6 = true) : (av [x1, x2, x0, x4, x3, x5, x6] 3) = x4 := rfl
theorem thW5 (x0 x1 x2 x3 x4 x5 x6 : Int) (hm : mayW x0 x1 x2 x3 x4 x5 x6 = true) : (av [x1, x2, x0, x4, x3, x5, x6] 5) = x5 := rfl
theorem thW6 (x0 x1 x2 x3 x4 x5 x6 : Int) (hm : mayW x0 x1 x2 x3 x4 x5 x6 = true) : (av [x1, x2, x0, x4, x3, x5, x6] 6) = x6 := rfl
theorem wbW (x0 x1 x2 x3 x4 x5 x6 : Int) (hm : mayW x0 x1 x2 x3 x4 x5 x6 = true) : ∀ y ∈ [x1, x2, x0, x4, x3, x5, x6], -9223372036854775808 ≤ y ∧ y ≤ 9223372036854775807 := by
  intro y hy
  simp only [mayW, Zp.rightB, Bool.and_eq_true, inB_iff, decide_eq_true_eq] at hm
  simp only [List.mem_cons, List.not_mem_nil, or_false] at hy
  rcases hy with rfl | rfl | rfl | rfl | rfl | rfl | rfl <;> omega
theorem tW1 (x0 x1 x2 x3 x4 x5 x6 : Int) (hm : mayW x0 x1 x2 x3 x4 x5 x6 = true) (W : World) : Calls Tryz.prog 37 #[.agg #[.int .i64 x0, .int .i64 x1, .int .i64 x2, .int .i64 x3, .int .i64 x4, .int .i64 x5, .int .i64 x6]] W fun e w' => Below W.heap.size W w' ∧ ∃ A k, e = .returned (.tuple #[.agg #[.int .i64 9, .int .i64 2, .slice A 7 k], .int .i64 0]) ∧ LieQ wdV 1 w' (· < w'.heap.size) A [x1, x2, x0, x4, x3, x5, x6] :=
  (Wish_any x0 x1 x2 x3 x4 x5 x6 W).mono fun e w' ⟨h1, h2⟩ => ⟨h1, by
    rcases h2 with ⟨_, A, k, h, hl⟩ | h
    · exact ⟨A, k, h, hl.to (fun q hq => ⟨hq.2, rfl⟩)⟩
    · rw [hm] at h; exact absurd h.1 (by decide)⟩
theorem fW1 (x0 x1 x2 x3 x4 x5 x6 : Int) (hm : mayW x0 x1 x2 x3 x4 x5 x6 = false) (W : World) : Calls Tryz.prog 37 #[.agg #[.int .i64 x0, .int .i64 x1, .int .i64 x2, .int .i64 x3, .int .i64 x4, .int .i64 x5, .int .i64 x6]] W fun e w' => e = .returned (.tuple #[.agg #[.int .i64 0, .int .i64 0, .slice none 0 0], .int .i64 2]) ∧ Below W.heap.size W w' :=
  (Wish_any x0 x1 x2 x3 x4 x5 x6 W).mono fun e w' ⟨h1, h2⟩ => ⟨by
    rcases h2 with ⟨h, _⟩ | h
    · rw [hm] at h; exact absurd h (by decide)
    · exact h.2, h1⟩
theorem tW2 (x0 x1 x2 x3 x4 x5 x6 : Int) (hm : mayW x0 x1 x2 x3 x4 x5 x6 = true) (W : World) : Calls Tryz.prog 25 #[.agg #[.int .i64 x0, .int .i64 x1, .int .i64 x2, .int .i64 x3, .int .i64 x4, .int .i64 x5, .int .i64 x6]] W fun e w' => e = .returned (.bool true) ∧ Below W.heap.size W w' := by
  have h := (refmayW_any x0 x1 x2 x3 x4 x5 x6 W)
  rw [hm] at h
  exact h
theorem fW2 (x0 x1 x2 x3 x4 x5 x6 : Int) (hm : mayW x0 x1 x2 x3 x4 x5 x6 = false) (W : World) : Calls Tryz.prog 25 #[.agg #[.int .i64 x0, .int .i64 x1, .int .i64 x2, .int .i64 x3, .int .i64 x4, .int .i64 x5, .int .i64 x6]] W fun e w' => e = .returned (.bool false) ∧ Below W.heap.size W w' := by
  have h := (refmayW_any x0 x1 x2 x3 x4 x5 x6 W)
  rw [hm] at h
  exact h
theorem tW3 (x0 x1 x2 x3 x4 x5 x6 : Int) (hm : mayW x0 x1 x2 x3 x4 x5 x6 = true) (W : World) : Calls Tryz.prog 26 #[.agg #[.int .i64 x0, .int .i64 x1, .int .i64 x2, .int .i64 x3, .int .i64 x4, .int .i64 x5, .int .i64 x6]] W fun e w' => Below W.heap.size W w' ∧ ∃ A k, e = .returned (.agg #[.int .i64 9, .int .i64 2, .slice A 7 k]) ∧ LieQ wdV 1 w' (fun q => W.heap.size ≤ q ∧ q < w'.heap.size) A [x1, x2, x0, x4, x3, x5, x6] :=
  refobjWish_any x0 x1 x2 x3 x4 x5 x6  W
theorem tW5 (x0 x1 x2 x3 x4 x5 x6 : Int) (hm : mayW x0 x1 x2 x3 x4 x5 x6 = true) (A : Option Addr) (k : Nat) (W : World) (hl : LieQ wdV 1 W (· < W.heap.size) A [x1, x2, x0, x4, x3, x5, x6]) : Calls Tryz.prog 24 #[.agg #[.int .i64 9, .int .i64 2, .slice A 7 k]] W fun e w' => e = .returned (.tuple #[.agg #[.int .i64 x0, .int .i64 x1, .int .i64 x2, .int .i64 x3, .int .i64 x4, .int .i64 x5, .int .i64 x6], .int .i64 0]) ∧ Below W.heap.size W w' :=
  (AsWish_any 9 2 A [x1, x2, x0, x4, x3, x5, x6] k (by simp) (wbW x0 x1 x2 x3 x4 x5 x6 hm) W hl).mono fun e w' ⟨h1, h2⟩ => ⟨by
    rw [thW0 x0 x1 x2 x3 x4 x5 x6 hm, thW1 x0 x1 x2 x3 x4 x5 x6 hm, thW2 x0 x1 x2 x3 x4 x5 x6 hm, thW3 x0 x1 x2 x3 x4 x5 x6 hm, thW4 x0 x1 x2 x3 x4 x5 x6 hm, thW5 x0 x1 x2 x3 x4 x5 x6 hm, thW6 x0 x1 x2 x3 x4 x5 x6 hm] at h2
    rcases h2 with h | h
    · exact h.2
    · rw [hm, sameB_self] at h; exact absurd h.1 (by decide), h1⟩
theorem fW5 (W : World) : Calls Tryz.prog 24 #[.agg #[.int .i64 0, .int .i64 0, .slice none 0 0]] W fun e w' => e = .returned (.tuple #[.agg #[.int .i64 0, .int .i64 0, .int .i64 0, .int .i64 0, .int .i64 0, .int .i64 0, .int .i64 0], .int .i64 171]) ∧ Below W.heap.size W w' :=
  (AsWish_any 0 0 none [] 0 (by simp) (by simp) W (fun h => absurd h (by simp))).mono fun e w' ⟨h1, h2⟩ => ⟨by
    rcases h2 with h | h
    · exfalso
      have := h.1
      rw [Bool.and_eq_true] at this
      simp [sameB] at this
    · exact h.2, h1⟩
/- Filter -/
theorem thL0 (x0 x1 : Int) (hm : mayN x0 x1 = true) : (av [x0, x1] 0) = x0 := rfl
theorem thL1 (x0 x1 : Int) (hm : mayN x0 x1 = true) : (av [x0, x1] 1) = x1 := rfl
theorem wbL (x0 x1 : Int) (hm : mayN x0 x1 = true) : ∀ y ∈ [x0, x1], -9223372036854775808 ≤ y ∧ y ≤ 9223372036854775807 := by
  intro y hy
  simp only [mayN, Bool.and_eq_true, inB_iff] at hm
  simp only [List.mem_cons, List.not_mem_nil, or_false] at hy
  rcases hy with rfl | rfl <;> omega
theorem tL1 (x0 x1 : Int) (hm : mayN x0 x1 = true) (W : World) : Calls Tryz.prog 38 #[.agg #[.int .i64 x0, .int .i64 x1]] W fun e w' => Below W.heap.size W w' ∧ ∃ A k, e = .returned (.tuple #[.agg #[.int .i64 10, .int .i64 1, .slice A 2 k], .int .i64 0]) ∧ LieQ wdV 1 w' (· < w'.heap.size) A [x0, x1] :=
  (Filter_any x0 x1 W).mono fun e w' ⟨h1, h2⟩ => ⟨h1, by
    rcases h2 with ⟨_, A, k, h, hl⟩ | h
    · exact ⟨A, k, h, hl.to (fun q hq => ⟨hq.2, rfl⟩)⟩
    · rw [hm] at h; exact absurd h.1 (by decide)⟩
theorem fL1 (x0 x1 : Int) (hm : mayN x0 x1 = false) (W : World) : Calls Tryz.prog 38 #[.agg #[.int .i64 x0, .int .i64 x1]] W fun e w' => e = .returned (.tuple #[.agg #[.int .i64 0, .int .i64 0, .slice none 0 0], .int .i64 2]) ∧ Below W.heap.size W w' :=
  (Filter_any x0 x1 W).mono fun e w' ⟨h1, h2⟩ => ⟨by
    rcases h2 with ⟨h, _⟩ | h
    · rw [hm] at h; exact absurd h (by decide)
    · exact h.2, h1⟩
theorem tL2 (x0 x1 : Int) (hm : mayN x0 x1 = true) (W : World) : Calls Tryz.prog 39 #[.agg #[.int .i64 x0, .int .i64 x1]] W fun e w' => e = .returned (.bool true) ∧ Below W.heap.size W w' := by
  have h := (refmayN_any x0 x1 W)
  rw [hm] at h
  exact h
theorem fL2 (x0 x1 : Int) (hm : mayN x0 x1 = false) (W : World) : Calls Tryz.prog 39 #[.agg #[.int .i64 x0, .int .i64 x1]] W fun e w' => e = .returned (.bool false) ∧ Below W.heap.size W w' := by
  have h := (refmayN_any x0 x1 W)
  rw [hm] at h
  exact h
theorem tL3 (x0 x1 : Int) (hm : mayN x0 x1 = true) (W : World) : Calls Tryz.prog 40 #[.agg #[.int .i64 x0, .int .i64 x1]] W fun e w' => Below W.heap.size W w' ∧ ∃ A k, e = .returned (.agg #[.int .i64 10, .int .i64 1, .slice A 2 k]) ∧ LieQ wdV 1 w' (fun q => W.heap.size ≤ q ∧ q < w'.heap.size) A [x0, x1] :=
  refobjFilter_any x0 x1 hm W
theorem tL5 (x0 x1 : Int) (hm : mayN x0 x1 = true) (A : Option Addr) (k : Nat) (W : World) (hl : LieQ wdV 1 W (· < W.heap.size) A [x0, x1]) : Calls Tryz.prog 41 #[.agg #[.int .i64 10, .int .i64 1, .slice A 2 k]] W fun e w' => e = .returned (.tuple #[.agg #[.int .i64 x0, .int .i64 x1], .int .i64 0]) ∧ Below W.heap.size W w' :=
  (AsFilter_any 10 1 A [x0, x1] k (by simp) (wbL x0 x1 hm) W hl).mono fun e w' ⟨h1, h2⟩ => ⟨by
    rw [thL0 x0 x1 hm, thL1 x0 x1 hm] at h2
    rcases h2 with h | h
    · exact h.2
    · rw [hm, sameB_self] at h; exact absurd h.1 (by decide), h1⟩
theorem fL5 (W : World) : Calls Tryz.prog 41 #[.agg #[.int .i64 0, .int .i64 0, .slice none 0 0]] W fun e w' => e = .returned (.tuple #[.agg #[.int .i64 0, .int .i64 0], .int .i64 171]) ∧ Below W.heap.size W w' :=
  (AsFilter_any 0 0 none [] 0 (by simp) (by simp) W (fun h => absurd h (by simp))).mono fun e w' ⟨h1, h2⟩ => ⟨by
    rcases h2 with h | h
    · exfalso
      have := h.1
      rw [Bool.and_eq_true] at this
      simp [sameB] at this
    · exact h.2, h1⟩
/- Sender -/
theorem thN0 (x0 x1 : Int) (hm : mayN x0 x1 = true) : (av [x0, x1] 0) = x0 := rfl
theorem thN1 (x0 x1 : Int) (hm : mayN x0 x1 = true) : (av [x0, x1] 1) = x1 := rfl
theorem wbN (x0 x1 : Int) (hm : mayN x0 x1 = true) : ∀ y ∈ [x0, x1], -9223372036854775808 ≤ y ∧ y ≤ 9223372036854775807 := by
  intro y hy
  simp only [mayN, Bool.and_eq_true, inB_iff] at hm
  simp only [List.mem_cons, List.not_mem_nil, or_false] at hy
  rcases hy with rfl | rfl <;> omega
theorem tN1 (x0 x1 : Int) (hm : mayN x0 x1 = true) (W : World) : Calls Tryz.prog 42 #[.agg #[.int .i64 x0, .int .i64 x1]] W fun e w' => Below W.heap.size W w' ∧ ∃ A k, e = .returned (.tuple #[.agg #[.int .i64 11, .int .i64 1, .slice A 2 k], .int .i64 0]) ∧ LieQ wdV 1 w' (· < w'.heap.size) A [x0, x1] :=
  (Sender_any x0 x1 W).mono fun e w' ⟨h1, h2⟩ => ⟨h1, by
    rcases h2 with ⟨_, A, k, h, hl⟩ | h
    · exact ⟨A, k, h, hl.to (fun q hq => ⟨hq.2, rfl⟩)⟩
    · rw [hm] at h; exact absurd h.1 (by decide)⟩
theorem fN1 (x0 x1 : Int) (hm : mayN x0 x1 = false) (W : World) : Calls Tryz.prog 42 #[.agg #[.int .i64 x0, .int .i64 x1]] W fun e w' => e = .returned (.tuple #[.agg #[.int .i64 0, .int .i64 0, .slice none 0 0], .int .i64 2]) ∧ Below W.heap.size W w' :=
  (Sender_any x0 x1 W).mono fun e w' ⟨h1, h2⟩ => ⟨by
    rcases h2 with ⟨h, _⟩ | h
    · rw [hm] at h; exact absurd h (by decide)
    · exact h.2, h1⟩
theorem tN2 (x0 x1 : Int) (hm : mayN x0 x1 = true) (W : World) : Calls Tryz.prog 39 #[.agg #[.int .i64 x0, .int .i64 x1]] W fun e w' => e = .returned (.bool true) ∧ Below W.heap.size W w' := by
  have h := (refmayN_any x0 x1 W)
  rw [hm] at h
  exact h
theorem fN2 (x0 x1 : Int) (hm : mayN x0 x1 = false) (W : World) : Calls Tryz.prog 39 #[.agg #[.int .i64 x0, .int .i64 x1]] W fun e w' => e = .returned (.bool false) ∧ Below W.heap.size W w' := by
  have h := (refmayN_any x0 x1 W)
  rw [hm] at h
  exact h
theorem tN3 (x0 x1 : Int) (hm : mayN x0 x1 = true) (W : World) : Calls Tryz.prog 43 #[.agg #[.int .i64 x0, .int .i64 x1]] W fun e w' => Below W.heap.size W w' ∧ ∃ A k, e = .returned (.agg #[.int .i64 11, .int .i64 1, .slice A 2 k]) ∧ LieQ wdV 1 w' (fun q => W.heap.size ≤ q ∧ q < w'.heap.size) A [x0, x1] :=
  refobjSender_any x0 x1 hm W
theorem tN5 (x0 x1 : Int) (hm : mayN x0 x1 = true) (A : Option Addr) (k : Nat) (W : World) (hl : LieQ wdV 1 W (· < W.heap.size) A [x0, x1]) : Calls Tryz.prog 44 #[.agg #[.int .i64 11, .int .i64 1, .slice A 2 k]] W fun e w' => e = .returned (.tuple #[.agg #[.int .i64 x0, .int .i64 x1], .int .i64 0]) ∧ Below W.heap.size W w' :=
  (AsSender_any 11 1 A [x0, x1] k (by simp) (wbN x0 x1 hm) W hl).mono fun e w' ⟨h1, h2⟩ => ⟨by
    rw [thN0 x0 x1 hm, thN1 x0 x1 hm] at h2
    rcases h2 with h | h
    · exact h.2
    · rw [hm, sameB_self] at h; exact absurd h.1 (by decide), h1⟩
theorem fN5 (W : World) : Calls Tryz.prog 44 #[.agg #[.int .i64 0, .int .i64 0, .slice none 0 0]] W fun e w' => e = .returned (.tuple #[.agg #[.int .i64 0, .int .i64 0], .int .i64 171]) ∧ Below W.heap.size W w' :=
  (AsSender_any 0 0 none [] 0 (by simp) (by simp) W (fun h => absurd h (by simp))).mono fun e w' ⟨h1, h2⟩ => ⟨by
    rcases h2 with h | h
    · exfalso
      have := h.1
      rw [Bool.and_eq_true] at this
      simp [sameB] at this
    · exact h.2, h1⟩
/- Spec -/
theorem thP0 (x0 x1 x2 x3 x4 : Int) (hm : mayP x0 x1 x2 x3 x4 = true) : (av [x1, x2, x0, x4, x3] 2) = x0 := rfl
theorem thP1 (x0 x1 x2 x3 x4 : Int) (hm : mayP x0 x1 x2 x3 x4 = true) : (av [x1, x2, x0, x4, x3] 0) = x1 := rfl
theorem thP2 (x0 x1 x2 x3 x4 : Int) (hm : mayP x0 x1 x2 x3 x4 = true) : (av [x1, x2, x0, x4, x3] 1) = x2 := rfl
theorem thP3 (x0 x1 x2 x3 x4 : Int) (hm : mayP x0 x1 x2 x3 x4 = true) : (av [x1, x2, x0, x4, x3] 4) = x3 := rfl
theorem thP4 (x0 x1 x2 x3 x4 : Int) (hm : mayP x0 x1 x2 x3 x4 = true) : (av [x1, x2, x0, x4, x3] 3) = x4 := rfl
theorem wbP (x0 x1 x2 x3 x4 : Int) (hm : mayP x0 x1 x2 x3 x4 = true) : ∀ y ∈ [x1, x2, x0, x4, x3], -9223372036854775808 ≤ y ∧ y ≤ 9223372036854775807 := by
  intro y hy
  simp only [mayP, Zp.rightB, decide_eq_true_eq] at hm
  simp only [List.mem_cons, List.not_mem_nil, or_false] at hy
  rcases hy with rfl | rfl | rfl | rfl | rfl <;> omega
theorem tP1 (x0 x1 x2 x3 x4 : Int) (hm : mayP x0 x1 x2 x3 x4 = true) (W : World) : Calls Tryz.prog 45 #[.agg #[.int .i64 x0, .int .i64 x1, .int .i64 x2, .int .i64 x3, .int .i64 x4]] W fun e w' => Below W.heap.size W w' ∧ ∃ A k, e = .returned (.tuple #[.agg #[.int .i64 12, .int .i64 2, .slice A 5 k], .int .i64 0]) ∧ LieQ wdV 1 w' (· < w'.heap.size) A [x1, x2, x0, x4, x3] :=
  (Spec_any x0 x1 x2 x3 x4 W).mono fun e w' ⟨h1, h2⟩ => ⟨h1, by
    rcases h2 with ⟨_, A, k, h, hl⟩ | h
    · exact ⟨A, k, h, hl.to (fun q hq => ⟨hq.2, rfl⟩)⟩
    · rw [hm] at h; exact absurd h.1 (by decide)⟩
theorem fP1 (x0 x1 x2 x3 x4 : Int) (hm : mayP x0 x1 x2 x3 x4 = false) (W : World) : Calls Tryz.prog 45 #[.agg #[.int .i64 x0, .int .i64 x1, .int .i64 x2, .int .i64 x3, .int .i64 x4]] W fun e w' => e = .returned (.tuple #[.agg #[.int .i64 0, .int .i64 0, .slice none 0 0], .int .i64 2]) ∧ Below W.heap.size W w' :=
  (Spec_any x0 x1 x2 x3 x4 W).mono fun e w' ⟨h1, h2⟩ => ⟨by
    rcases h2 with ⟨h, _⟩ | h
    · rw [hm] at h; exact absurd h (by decide)
    · exact h.2, h1⟩
theorem tP2 (x0 x1 x2 x3 x4 : Int) (hm : mayP x0 x1 x2 x3 x4 = true) (W : World) : Calls Tryz.prog 46 #[.agg #[.int .i64 x0, .int .i64 x1, .int .i64 x2, .int .i64 x3, .int .i64 x4]] W fun e w' => e = .returned (.bool true) ∧ Below W.heap.size W w' := by
  have h := (refRight2 x0 x1 x2 x3 x4 W)
  change Calls _ _ _ _ fun e w' => e = .returned (.bool (mayP x0 x1 x2 x3 x4)) ∧ _ at h
  rw [hm] at h
  exact h
theorem fP2 (x0 x1 x2 x3 x4 : Int) (hm : mayP x0 x1 x2 x3 x4 = false) (W : World) : Calls Tryz.prog 46 #[.agg #[.int .i64 x0, .int .i64 x1, .int .i64 x2, .int .i64 x3, .int .i64 x4]] W fun e w' => e = .returned (.bool false) ∧ Below W.heap.size W w' := by
  have h := (refRight2 x0 x1 x2 x3 x4 W)
  change Calls _ _ _ _ fun e w' => e = .returned (.bool (mayP x0 x1 x2 x3 x4)) ∧ _ at h
  rw [hm] at h
  exact h
theorem tP3 (x0 x1 x2 x3 x4 : Int) (hm : mayP x0 x1 x2 x3 x4 = true) (W : World) : Calls Tryz.prog 47 #[.agg #[.int .i64 x0, .int .i64 x1, .int .i64 x2, .int .i64 x3, .int .i64 x4]] W fun e w' => Below W.heap.size W w' ∧ ∃ A k, e = .returned (.agg #[.int .i64 12, .int .i64 2, .slice A 5 k]) ∧ LieQ wdV 1 w' (fun q => W.heap.size ≤ q ∧ q < w'.heap.size) A [x1, x2, x0, x4, x3] :=
  refobjSpec_any x0 x1 x2 x3 x4 hm W
theorem tP5 (x0 x1 x2 x3 x4 : Int) (hm : mayP x0 x1 x2 x3 x4 = true) (A : Option Addr) (k : Nat) (W : World) (hl : LieQ wdV 1 W (· < W.heap.size) A [x1, x2, x0, x4, x3]) : Calls Tryz.prog 48 #[.agg #[.int .i64 12, .int .i64 2, .slice A 5 k]] W fun e w' => e = .returned (.tuple #[.agg #[.int .i64 x0, .int .i64 x1, .int .i64 x2, .int .i64 x3, .int .i64 x4], .int .i64 0]) ∧ Below W.heap.size W w' :=
  (AsSpec_any 12 2 A [x1, x2, x0, x4, x3] k (by simp) (wbP x0 x1 x2 x3 x4 hm) W hl).mono fun e w' ⟨h1, h2⟩ => ⟨by
    rw [thP0 x0 x1 x2 x3 x4 hm, thP1 x0 x1 x2 x3 x4 hm, thP2 x0 x1 x2 x3 x4 hm, thP3 x0 x1 x2 x3 x4 hm, thP4 x0 x1 x2 x3 x4 hm] at h2
    rcases h2 with h | h
    · exact h.2
    · rw [hm, sameB_self] at h; exact absurd h.1 (by decide), h1⟩
theorem fP5 (W : World) : Calls Tryz.prog 48 #[.agg #[.int .i64 0, .int .i64 0, .slice none 0 0]] W fun e w' => e = .returned (.tuple #[.agg #[.int .i64 0, .int .i64 0, .int .i64 0, .int .i64 0, .int .i64 0], .int .i64 171]) ∧ Below W.heap.size W w' :=
  (AsSpec_any 0 0 none [] 0 (by simp) (by simp) W (fun h => absurd h (by simp))).mono fun e w' ⟨h1, h2⟩ => ⟨by
    rcases h2 with h | h
    · exfalso
      have := h.1
      rw [Bool.and_eq_true] at this
      simp [sameB] at this
    · exact h.2, h1⟩
/- Terms -/
theorem thM0 (x0 x1 : Int) (hm : mayM x0 x1 = true) : (av [x0, x1] 0) = x0 := rfl
theorem thM1 (x0 x1 : Int) (hm : mayM x0 x1 = true) : (av [x0, x1] 1) = x1 := rfl
theorem wbM (x0 x1 : Int) (hm : mayM x0 x1 = true) : ∀ y ∈ [x0, x1], -9223372036854775808 ≤ y ∧ y ≤ 9223372036854775807 := by
  intro y hy
  simp only [mayM, termB, Bool.and_eq_true, inB_iff] at hm
  simp only [List.mem_cons, List.not_mem_nil, or_false] at hy
  rcases hy with rfl | rfl <;> omega
theorem tM1 (x0 x1 : Int) (hm : mayM x0 x1 = true) (W : World) : Calls Tryz.prog 49 #[.agg #[.int .i64 x0, .int .i64 x1]] W fun e w' => Below W.heap.size W w' ∧ ∃ A k, e = .returned (.tuple #[.agg #[.int .i64 13, .int .i64 2, .slice A 2 k], .int .i64 0]) ∧ LieQ wdV 1 w' (· < w'.heap.size) A [x0, x1] :=
  (Terms_any x0 x1 W).mono fun e w' ⟨h1, h2⟩ => ⟨h1, by
    rcases h2 with ⟨_, A, k, h, hl⟩ | h
    · exact ⟨A, k, h, hl.to (fun q hq => ⟨hq.2, rfl⟩)⟩
    · rw [hm] at h; exact absurd h.1 (by decide)⟩
theorem fM1 (x0 x1 : Int) (hm : mayM x0 x1 = false) (W : World) : Calls Tryz.prog 49 #[.agg #[.int .i64 x0, .int .i64 x1]] W fun e w' => e = .returned (.tuple #[.agg #[.int .i64 0, .int .i64 0, .slice none 0 0], .int .i64 2]) ∧ Below W.heap.size W w' :=
  (Terms_any x0 x1 W).mono fun e w' ⟨h1, h2⟩ => ⟨by
    rcases h2 with ⟨h, _⟩ | h
    · rw [hm] at h; exact absurd h (by decide)
    · exact h.2, h1⟩
theorem tM2 (x0 x1 : Int) (hm : mayM x0 x1 = true) (W : World) : Calls Tryz.prog 50 #[.agg #[.int .i64 x0, .int .i64 x1]] W fun e w' => e = .returned (.bool true) ∧ Below W.heap.size W w' := by
  have h := (refMayTerms x0 x1 W)
  change Calls _ _ _ _ fun e w' => e = .returned (.bool (mayM x0 x1)) ∧ _ at h
  rw [hm] at h
  exact h
theorem fM2 (x0 x1 : Int) (hm : mayM x0 x1 = false) (W : World) : Calls Tryz.prog 50 #[.agg #[.int .i64 x0, .int .i64 x1]] W fun e w' => e = .returned (.bool false) ∧ Below W.heap.size W w' := by
  have h := (refMayTerms x0 x1 W)
  change Calls _ _ _ _ fun e w' => e = .returned (.bool (mayM x0 x1)) ∧ _ at h
  rw [hm] at h
  exact h
theorem tM3 (x0 x1 : Int) (hm : mayM x0 x1 = true) (W : World) : Calls Tryz.prog 51 #[.agg #[.int .i64 x0, .int .i64 x1]] W fun e w' => Below W.heap.size W w' ∧ ∃ A k, e = .returned (.agg #[.int .i64 13, .int .i64 2, .slice A 2 k]) ∧ LieQ wdV 1 w' (fun q => W.heap.size ≤ q ∧ q < w'.heap.size) A [x0, x1] :=
  refobjTerms_any x0 x1 hm W
theorem tM5 (x0 x1 : Int) (hm : mayM x0 x1 = true) (A : Option Addr) (k : Nat) (W : World) (hl : LieQ wdV 1 W (· < W.heap.size) A [x0, x1]) : Calls Tryz.prog 52 #[.agg #[.int .i64 13, .int .i64 2, .slice A 2 k]] W fun e w' => e = .returned (.tuple #[.agg #[.int .i64 x0, .int .i64 x1], .int .i64 0]) ∧ Below W.heap.size W w' :=
  (AsTerms_any 13 2 A [x0, x1] k (by simp) (wbM x0 x1 hm) W hl).mono fun e w' ⟨h1, h2⟩ => ⟨by
    rw [thM0 x0 x1 hm, thM1 x0 x1 hm] at h2
    rcases h2 with h | h
    · exact h.2
    · rw [hm, sameB_self] at h; exact absurd h.1 (by decide), h1⟩
theorem fM5 (W : World) : Calls Tryz.prog 52 #[.agg #[.int .i64 0, .int .i64 0, .slice none 0 0]] W fun e w' => e = .returned (.tuple #[.agg #[.int .i64 0, .int .i64 0], .int .i64 171]) ∧ Below W.heap.size W w' :=
  (AsTerms_any 0 0 none [] 0 (by simp) (by simp) W (fun h => absurd h (by simp))).mono fun e w' ⟨h1, h2⟩ => ⟨by
    rcases h2 with h | h
    · exfalso
      have := h.1
      rw [Bool.and_eq_true] at this
      simp [sameB] at this
    · exact h.2, h1⟩
end Go.Proofs.YtappmacnoopmkaaGreat
