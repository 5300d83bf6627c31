/- The terms of a way; the document's terms of a link and of a way. -/
import Derived.Test.YtjnceoklnmmhjaaGreatBdG
namespace Go.Proofs.YtjnceoklnmmhjaaGreat
set_option linter.unusedVariables false
open Go.RowKit

def allT (l : List (Int × Int)) : Bool := l.all fun x => termsB x.1 x.2
def FoundT (l : List (Int × Int)) (w : World) (e : Ending) (w' : World) : Prop :=
  ∃ k : Int, e = .returned (.int .i64 k) ∧ decide (0 ≤ k) = !allT l ∧ Below w.heap.size w w'
theorem allT_step {l : List (Int × Int)} {i : Nat} (hlt : i < l.length) : allT (l.take (i + 1)) = (allT (l.take i) && termsB (l[i]'hlt).1 (l[i]'hlt).2) := by
  unfold allT
  rw [List.take_succ_eq_append_getElem hlt, List.all_append]; simp
theorem allT_no {l : List (Int × Int)} {i : Nat} (hlt : i < l.length) (h : termsB (l[i]'hlt).1 (l[i]'hlt).2 = false) : allT l = false := by
  unfold allT
  exact List.all_eq_false.2 ⟨_, List.getElem_mem hlt, by simp [h]⟩
def sumC (l : List (Int × Int)) : Int := (l.map fun x => x.1).sum
def sumD (l : List (Int × Int)) : Int := (l.map fun x => x.2).sum
theorem sum_step {l : List (Int × Int)} {i : Nat} (hlt : i < l.length) : sumC (l.take (i + 1)) = sumC (l.take i) + (l[i]'hlt).1 ∧ sumD (l.take (i + 1)) = sumD (l.take i) + (l[i]'hlt).2 := by
  unfold sumC sumD
  rw [List.take_succ_eq_append_getElem hlt, List.map_append, List.map_append, List.sum_append, List.sum_append]
  simp only [List.map_cons, List.map_nil, List.sum_cons, List.sum_nil, Int.add_zero]
  exact ⟨trivial, trivial⟩
theorem allT_at {l : List (Int × Int)} (h : allT l = true) {i : Nat} (hlt : i < l.length) : (0 ≤ (l[i]'hlt).1 ∧ (l[i]'hlt).1 ≤ 10000000) ∧ 0 ≤ (l[i]'hlt).2 ∧ (l[i]'hlt).2 ≤ 1000000 := by
  have := List.all_eq_true.1 h _ (List.getElem_mem hlt)
  unfold termsB at this
  rw [Bool.and_eq_true] at this
  exact ⟨fromB_iff.1 this.1, fromB_iff.1 this.2⟩
end Go.Proofs.YtjnceoklnmmhjaaGreat
