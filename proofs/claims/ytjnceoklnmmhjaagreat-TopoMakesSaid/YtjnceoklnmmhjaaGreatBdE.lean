/- The faces Room and Rate, where all is right. -/
import Derived.Test.YtjnceoklnmmhjaaGreatBdD
namespace Go.Proofs.YtjnceoklnmmhjaaGreat
set_option linter.unusedVariables false
open Go.RowKit

def upV (N D : Int) : Int := -(-N / D)
/-- the bound told, and all of it fits. -/
def Told (p r u m l R c d N D : Int) : Prop := (1 ≤ R ∧ R ≤ 1000000) ∧ LateOk p r u m l R c d N D ∧ (-9223372036854775808 ≤ N ∧ N ≤ 9223372036854775807 ∧ D ≤ 9223372036854775807) ∧ rightB N D = true
/-- the search by halves. -/
def search (does : Int → Bool) : Nat → Int → Int → Int
  | 0, lo, _ => lo
  | n + 1, lo, hi => if lo < hi then (if does (lo + (hi - lo) / 2) then search does n lo (lo + (hi - lo) / 2) else search does n (lo + (hi - lo) / 2 + 1) hi) else lo
def searchOk (okk does : Int → Bool) : Nat → Int → Int → Bool
  | 0, _, _ => true
  | n + 1, lo, hi => if lo < hi then okk (lo + (hi - lo) / 2) && (if does (lo + (hi - lo) / 2) then searchOk okk does n lo (lo + (hi - lo) / 2) else searchOk okk does n (lo + (hi - lo) / 2 + 1) hi) else true
def wordB (x : Int) : Bool := decide (-9223372036854775808 ≤ x) && decide (x ≤ 9223372036854775807)
theorem wordB_iff {x : Int} (h : wordB x = true) : -9223372036854775808 ≤ x ∧ x ≤ 9223372036854775807 := by unfold wordB at h; simpa using h
def partA (m c R : Int) : Int × Int × Int := makeR (m + c) R
def partG (p r u m R : Int) : Int × Int × Int := if R < p then makeR ((u - m) * (p - R)) (R * (p - r)) else (0, 1, 0)
def lateF (p r u m c d R : Int) : Int × Int × Int := sumR [((partA m c R).1, (partA m c R).2.1), ((makeR d 1).1, (makeR d 1).2.1), ((partG p r u m R).1, (partG p r u m R).2.1)]
def okF (p r u m c d R : Int) : Bool :=
  (decide (1 ≤ R) && decide (R ≤ 1000000)) && (decide ((partA m c R).2.2 = 0) && decide ((makeR d 1).2.2 = 0) && decide ((partG p r u m R).2.2 = 0) && decide ((lateF p r u m c d R).2.2 = 0)) &&
  (wordB (partA m c R).1 && wordB (partA m c R).2.1 && wordB (makeR d 1).1 && wordB (makeR d 1).2.1 && wordB (partG p r u m R).1 && wordB (partG p r u m R).2.1) && (wordB (lateF p r u m c d R).1 && wordB (lateF p r u m c d R).2.1) && rightB (lateF p r u m c d R).1 (lateF p r u m c d R).2.1
theorem told_of {p r u m l c d R : Int} (h : okF p r u m c d R = true) : Told p r u m l R c d (lateF p r u m c d R).1 (lateF p r u m c d R).2.1 := by
  unfold okF at h
  simp only [Bool.and_eq_true, decide_eq_true_eq] at h
  obtain ⟨⟨⟨⟨⟨h1, h2⟩, ⟨⟨h3, h4⟩, h5⟩, h6⟩, ⟨⟨⟨⟨w1, w2⟩, w3⟩, w4⟩, w5⟩, w6⟩, w7, w8⟩, h7⟩ := h
  refine ⟨⟨h1, h2⟩, ⟨(partA m c R).1, (partA m c R).2.1, (makeR d 1).1, (makeR d 1).2.1, (partG p r u m R).1, (partG p r u m R).2.1, ?_, ?_, ?_, ?_, ?_⟩, ⟨(wordB_iff w7).1, (wordB_iff w7).2, (wordB_iff w8).2⟩, h7⟩
  · rw [← h3]; rfl
  · rw [← h4]
  · unfold partG at h5 ⊢
    by_cases hp : R < p
    · rw [if_pos hp] at h5 ⊢
      exact .inl ⟨hp, by rw [← h5]⟩
    · rw [if_neg hp]
      exact .inr ⟨hp, rfl, rfl⟩
  · rw [← h6]; rfl
  · intro x hx
    simp only [List.mem_cons, List.not_mem_nil, or_false] at hx
    rcases hx with rfl | rfl | rfl
    · exact ⟨(wordB_iff w1).1, (wordB_iff w1).2, (wordB_iff w2).1, (wordB_iff w2).2⟩
    · exact ⟨(wordB_iff w3).1, (wordB_iff w3).2, (wordB_iff w4).1, (wordB_iff w4).2⟩
    · exact ⟨(wordB_iff w5).1, (wordB_iff w5).2, (wordB_iff w6).1, (wordB_iff w6).2⟩
def inTime (p r u m c d T R : Int) : Bool := decide (upV (lateF p r u m c d R).1 (lateF p r u m c d R).2.1 ≤ T)
end Go.Proofs.YtjnceoklnmmhjaaGreat
