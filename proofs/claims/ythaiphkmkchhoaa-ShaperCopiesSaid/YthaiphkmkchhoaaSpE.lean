/- The first sending with which a spec is not kept: the walk. -/
import Derived.Test.YthaiphkmkchhoaaSpD
import Derived.Test.YthaiphkmkchhoaaSpM
import Derived.IntWalk
namespace Go.Proofs.Ythaiphkmkchhoaa
open Go.RowKit

theorem block_of_add (a : Addr) (n : Nat) : (a.add n).block = a.block := by unfold Addr.add; split <;> rfl
theorem add_of_add (a : Addr) (i j : Nat) : (a.add i).add j = a.add (i + j) := by
  unfold Addr.add
  by_cases hi : i = 0 <;> by_cases hj : j = 0 <;> simp [hi, hj, Nat.add_assoc]
/-- a list lies in memory below block B, each of it in 'sz' cells. -/
def Lie {α : Type} (f : α → List Value) (sz : Nat) (w : World) (B : Nat) (A : Option Addr) (l : List α) : Prop :=
  0 < l.length → ∃ ad, A = some ad ∧ ad.block < B ∧ ∀ i x, l[i]? = some x → ∀ j v, (f x)[j]? = some v → w.cell? (ad.add (i * sz + j)) = some v
theorem Lie.keep {α : Type} {f : α → List Value} {sz : Nat} {w w' : World} {B : Nat} {A : Option Addr} {l : List α} (h : Lie f sz w B A l) (hb : Below B w w') : Lie f sz w' B A l := fun hl => by
  obtain ⟨ad, e, hB, hc⟩ := h hl
  exact ⟨ad, e, hB, fun i x hx j v hv => (hb.cell (by rw [block_of_add]; exact hB)).trans (hc i x hx j v hv)⟩
theorem Lie.more {α : Type} {f : α → List Value} {sz : Nat} {w : World} {B B' : Nat} {A : Option Addr} {l : List α} (h : Lie f sz w B A l) (hb : B ≤ B') : Lie f sz w B' A l := fun hl => by
  obtain ⟨ad, e, hB, hc⟩ := h hl
  exact ⟨ad, e, Nat.lt_of_lt_of_le hB hb, hc⟩
theorem Lie.below {α : Type} {f : α → List Value} {sz : Nat} {w w' : World} {A : Option Addr} {l : List α} (h : Lie f sz w w.heap.size A l) (hb : Below w.heap.size w w') : Lie f sz w' w'.heap.size A l :=
  (h.keep hb).more hb.size
theorem Lie.nil {α : Type} {f : α → List Value} {sz : Nat} {w : World} {B : Nat} {A : Option Addr} : Lie f sz w B A [] := fun h => absurd h (by simp)
def sendV (x : Int × Int) : List Value := [.int .i64 x.1, .int .i64 x.2]
theorem Lie.send {w : World} {B : Nat} {A : Option Addr} {l : List (Int × Int)} (h : Lie sendV 2 w B A l) (i : Nat) (hi : i < l.length) :
    ∃ ad, A = some ad ∧ ad.block < B ∧ w.cell? (ad.add (i * 2)) = some (.int .i64 l[i].1) ∧ w.cell? ⟨(ad.add (i * 2)).block, (ad.add (i * 2)).off + 1, none⟩ = some (.int .i64 l[i].2) := by
  obtain ⟨ad, e, hB, hc⟩ := h (by omega)
  have hx : l[i]? = some l[i] := List.getElem?_eq_getElem hi
  refine ⟨ad, e, hB, hc i _ hx 0 _ rfl, ?_⟩
  have := hc i _ hx 1 _ rfl
  rw [← add_of_add] at this
  exact this

/-- the words of one step of what is kept of a line. -/
theorem more_words (rate kept now a s : Int) (r0 : 0 ≤ rate) (r1 : rate ≤ 1000000) (k0 : 0 ≤ kept) (k1 : kept ≤ 10000000) (n0 : 0 ≤ now) (n1 : now ≤ a) (n2 : a ≤ 2147483647) (s0 : 0 ≤ s) (s1 : s ≤ 2000) :
    ∃ d P Q M n : Int, IntKind.i64.wrap (a - now) = d ∧ IntKind.i64.wrap (rate * d) = P ∧ IntKind.i64.wrap (kept - P) = Q ∧ ((Q < 0 ∧ M = 0) ∨ (0 ≤ Q ∧ M = Q)) ∧ IntKind.i64.wrap (M + s) = n ∧ n = SM.more rate kept now a s ∧ 0 ≤ n := by
  obtain ⟨b0, b1⟩ := rate_bounds (b := rate) (t := a - now) r0 r1 (by omega) (by omega)
  refine ⟨a - now, rate * (a - now), kept - rate * (a - now), if kept - rate * (a - now) < 0 then 0 else kept - rate * (a - now), SM.more rate kept now a s, ?_, ?_, ?_, ?_, ?_, rfl, ?_⟩
  · exact IntWalk.i64_in _ (by omega)
  · exact IntWalk.i64_in _ (by omega)
  · exact IntWalk.i64_in _ (by omega)
  · split
    · exact .inl ⟨by assumption, rfl⟩
    · exact .inr ⟨by omega, rfl⟩
  · have : SM.more rate kept now a s = (if kept - rate * (a - now) < 0 then 0 else kept - rate * (a - now)) + s := by
      unfold SM.more
      split <;> omega
    rw [← this]
    exact IntWalk.i64_in _ (by rw [this]; split <;> omega)
  · unfold SM.more; omega

end Go.Proofs.Ythaiphkmkchhoaa
