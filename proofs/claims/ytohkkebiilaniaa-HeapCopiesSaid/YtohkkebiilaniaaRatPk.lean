/- The faces of making one and of rounding. -/
import Derived.Test.YtohkkebiilaniaaRatPj
namespace Go.Proofs.Ytohkkebiilaniaa
open Go.RowKit

/-- how a step ends that tells (N, D) where nothing was wrong, and gives up by a number elsewhere. -/
def endOf (r : Int × Int × Int) : Ending :=
  if r.2.2 = 0 then .returned (.agg #[.int .i64 r.1, .int .i64 r.2.1]) else errPanic r.2.2
theorem endOf_ok (r : Int × Int × Int) (h : r.2.2 = 0) : endOf r = .returned (.agg #[.int .i64 r.1, .int .i64 r.2.1]) := by simp [endOf, h]
theorem endOf_no (r : Int × Int × Int) (h : ¬ r.2.2 = 0) : endOf r = errPanic r.2.2 := by simp only [endOf, if_neg h]
/-- beside an error all else is nought. -/
def Clean (r : Int × Int × Int) : Prop := ¬ r.2.2 = 0 → r.1 = 0 ∧ r.2.1 = 0
def pairOf (r : Int × Int × Int) : Value := .tuple #[.agg #[.int .i64 r.1, .int .i64 r.2.1], .int .i64 r.2.2]

theorem fracP_clean (b : Bool) (n d : Nat) : Clean (RM.fracP b n d) := by
  unfold Clean RM.fracP
  split <;> simp
theorem fracN_clean (b : Bool) (n d : Nat) : Clean (RM.fracN b n d) := by
  unfold RM.fracN
  split
  · simp [Clean]
  · exact fracP_clean _ _ _

def makeR (n d : Int) : Int × Int × Int := RM.fracN (decide (n < 0) != decide (d < 0)) n.natAbs d.natAbs

theorem looks_nil (w : World) : Looks (.slice none 0 0) false w :=
  fun W _ => (contains_nil W).mono fun _ _ ⟨he, hw⟩ => ⟨he, by rw [← hw]; exact Below.refl _ _⟩

/-- a list of one fraction in memory of the call's own. -/
theorem looks_one (n d : Int) (h0 : -9223372036854775808 ≤ n) (h1 : n ≤ 9223372036854775807) (h2 : -9223372036854775808 ≤ d) (h3 : d ≤ 9223372036854775807) (b : Nat) (w : World)
    (hb : b < w.heap.size) (hc : w.cell? ⟨b, 0, none⟩ = some (.int .i64 n)) (hd : w.cell? ⟨b, 1, none⟩ = some (.int .i64 d)) (c : Nat) :
    Looks (.slice (some ⟨b, 0, none⟩) 1 c) (!rightB n d) w := by
  intro W hW
  have hl : Lies w b 0 [(n, d)] := by
    intro i hi
    have : i = 0 := by simpa using hi
    subst this
    exact ⟨hc, hd⟩
  have h := contains_any [(n, d)] (by intro x hx; simp at hx; subst hx; exact ⟨h0, h1, h2, h3⟩) b 0 c W (Nat.lt_of_lt_of_le hb hW.size) (hl.below hW hb) (by simp)
  simpa [allRight] using h
theorem looks_two (n d m e : Int) (h0 : -9223372036854775808 ≤ n) (h1 : n ≤ 9223372036854775807) (h2 : -9223372036854775808 ≤ d) (h3 : d ≤ 9223372036854775807)
    (k0 : -9223372036854775808 ≤ m) (k1 : m ≤ 9223372036854775807) (k2 : -9223372036854775808 ≤ e) (k3 : e ≤ 9223372036854775807) (b : Nat) (w : World)
    (hb : b < w.heap.size) (hc : w.cell? ⟨b, 0, none⟩ = some (.int .i64 n)) (hd : w.cell? ⟨b, 1, none⟩ = some (.int .i64 d)) (hm : w.cell? ⟨b, 2, none⟩ = some (.int .i64 m)) (he : w.cell? ⟨b, 3, none⟩ = some (.int .i64 e)) (c : Nat) :
    Looks (.slice (some ⟨b, 0, none⟩) 2 c) (!(rightB n d && rightB m e)) w := by
  intro W hW
  have hl : Lies w b 0 [(n, d), (m, e)] := by
    intro i hi
    have : i = 0 ∨ i = 1 := by simp at hi; omega
    rcases this with rfl | rfl
    · exact ⟨hc, hd⟩
    · exact ⟨hm, he⟩
  have h := contains_any [(n, d), (m, e)] (by intro x hx; simp at hx; rcases hx with rfl | rfl; exact ⟨h0, h1, h2, h3⟩; exact ⟨k0, k1, k2, k3⟩) b 0 c W (Nat.lt_of_lt_of_le hb hW.size) (hl.below hW hb) (by simp)
  simpa [allRight] using h
end Go.Proofs.Ytohkkebiilaniaa
