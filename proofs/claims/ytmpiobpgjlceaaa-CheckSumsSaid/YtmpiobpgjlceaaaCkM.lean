/- Sums of 16 bits: numbers put together, pairs of bytes, what is under way. Plain facts. -/
import Derived.Test.YtmpiobpgjlceaaaCkA
namespace Go.Proofs.Ytmpiobpgjlceaaa
set_option linter.unusedVariables false

/-- two numbers of 16 bits, put together. -/
def put (a b : Int) : Int := if a + b > 65535 then a + b - 65535 else a + b
def W16 (a : Int) : Prop := 0 ≤ a ∧ a ≤ 65535
theorem put_w {a b : Int} (ha : W16 a) (hb : W16 b) : W16 (put a b) := by unfold put W16 at *; split <;> omega
theorem put_zero {a : Int} (ha : W16 a) : put a 0 = a := by unfold put W16 at *; split <;> omega
/-- what is under way: what is left of a pair, whether anything is, all whole pairs put together. -/
structure St where
  hi : Int
  g : Bool
  all : Int
def St.ok (s : St) : Prop := 0 ≤ s.hi ∧ s.hi ≤ 255 ∧ W16 s.all ∧ (s.g = false → s.hi = 0)
def feed (s : St) (x : Int) : St := if s.g then ⟨0, false, put s.all (256 * s.hi + x)⟩ else ⟨x, true, s.all⟩
def feedAll (s : St) (l : List Int) : St := l.foldl feed s
def fin (s : St) : Int := 65535 - put s.all (256 * s.hi)
def st0 : St := ⟨0, false, 0⟩
theorem feed_ok {s : St} {x : Int} (h : s.ok) (hx : 0 ≤ x ∧ x ≤ 255) : (feed s x).ok := by
  obtain ⟨h1, h2, h3, h4⟩ := h
  unfold feed
  cases hg : s.g
  · exact ⟨hx.1, hx.2, h3, fun h => by cases h⟩
  · exact ⟨by simp, by simp, put_w h3 ⟨by omega, by omega⟩, fun _ => rfl⟩
theorem feedAll_ok : ∀ {l : List Int} {s : St}, s.ok → Bytes l → (feedAll s l).ok
  | [], _, h, _ => h
  | x :: l, _, h, hb => feedAll_ok (l := l) (feed_ok h (hb x (by simp))) (fun y hy => hb y (by simp [hy]))
theorem feedAll_app (s : St) (l m : List Int) : feedAll s (l ++ m) = feedAll (feedAll s l) m := by simp [feedAll]
theorem st0_ok : st0.ok := ⟨by simp [st0], by simp [st0], ⟨by simp [st0], by simp [st0]⟩, fun _ => rfl⟩
theorem fin_w {s : St} (h : s.ok) : W16 (fin s) := by
  obtain ⟨h1, h2, h3, h4⟩ := h
  have := put_w (b := 256 * s.hi) h3 ⟨by omega, by omega⟩
  unfold fin W16 at *; omega
/-- the pairs of bytes. -/
def pairs : List Int → List Int
  | [] => []
  | [x] => [256 * x]
  | x :: y :: l => (256 * x + y) :: pairs l
def sumN (n : Int) (l : List Int) : Int := (pairs l).foldl put n
def sumR (l : List Int) : Int := 65535 - sumN 0 l
theorem fin_feed : ∀ (l : List Int) (a : Int), W16 a → Bytes l → fin (feedAll ⟨0, false, a⟩ l) = 65535 - sumN a l
  | [], a, ha, _ => by simp [feedAll, fin, sumN, pairs, put_zero ha]
  | [x], a, ha, _ => by simp [feedAll, fin, sumN, pairs, feed]
  | x :: y :: l, a, ha, hb => by
    have hx := hb x (by simp)
    have hy := hb y (by simp)
    have e : feedAll ⟨0, false, a⟩ (x :: y :: l) = feedAll ⟨0, false, put a (256 * x + y)⟩ l := by simp [feedAll, feed]
    rw [e, fin_feed l _ (put_w ha ⟨by omega, by omega⟩) (fun z hz => hb z (by simp [hz]))]
    simp [sumN, pairs]
theorem fin_sum (l : List Int) (hb : Bytes l) : fin (feedAll st0 l) = sumR l := fin_feed l 0 ⟨by omega, by omega⟩ hb
end Go.Proofs.Ytmpiobpgjlceaaa
