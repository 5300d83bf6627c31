/- Buckets: by halves; how many ticks later there are so many bytes. -/
import Derived.Test.YthaiphkmkchhoaaBkG
namespace Go.Proofs.Ythaiphkmkchhoaa
open Go.RowKit
set_option linter.unusedVariables false
/-- where the search ends. -/
def Ends (N : Nat) (p : Nat → Bool) (t : Nat) : Prop := t ≤ N ∧ (∀ i, i < t → p i = false) ∧ (t < N → p t = true)
def SearchEnd (N : Nat) (p : Nat → Bool) (w : World) (e : Ending) (w' : World) : Prop := ∃ t : Nat, e = .returned (.int .i64 (t : Int)) ∧ Ends N p t ∧ Below w.heap.size w w'
def HalfAt (N : Nat) (p : Nat → Bool) (lo hi : Nat) : Prop := (∀ t, t < lo → p t = false) ∧ (∀ t, hi ≤ t → t < N → p t = true)
set_option maxHeartbeats 2000000 in
theorem search_any (K : Nat) (cap : Array Value) (he : ∀ args w, (callFunc K args).run Try.prog w = .ok (.enter K args) w) (N : Nat) (hN : N ≤ 1000000) (p : Nat → Bool) (hmono : ∀ a b, a ≤ b → b < N → p a = true → p b = true) (w : World)
    (hf : ∀ W, Below w.heap.size w W → ∀ i : Nat, i < N → Calls Try.prog K (#[.int .i64 (i : Int)] ++ cap) W fun e w' => e = .returned (.bool (p i)) ∧ Below W.heap.size W w') :
    Calls Try.prog 58 #[.int .i64 (N : Int), .func (Fn.func K) #[] cap] w (SearchEnd N p w) := by
  have HF := hidd hf
  have M := hidd hmono
  clear hf hmono
  go_enter Try.func58, Try.ntmps58
  go_wp2_with fail
  go_loopg [5, 6] (N + 1) (fun kx s5 s6 wr => ∃ lo hi : Nat, s5 = .int .i64 (lo : Int) ∧ s6 = .int .i64 (hi : Int) ∧ lo ≤ hi ∧ hi ≤ N ∧ hi - lo < kx ∧ Below w.heap.size w wr ∧ HalfAt N p lo hi)
  case atStart => exact ⟨0, N, rfl, rfl, Nat.zero_le _, Nat.le_refl _, by omega, Below.refl _ _, fun t ht => absurd ht (Nat.not_lt_zero _), fun t h1 h2 => by omega⟩
  case round =>
    obtain ⟨lo, hi, rfl, rfl, hlh, hin, hg, hB, I⟩ := hrel
    have HI := hidd I
    have HB := hidd hB
    clear I hB
    by_cases hlt : lo < hi
    · have hc := HF.out wr HB.out ((lo + hi) / 2) (by omega)
      rw [show (((lo + hi) / 2 : Nat) : Int) = ((lo : Int) + (hi : Int)) / 2 by omega] at hc
      cases hp : p ((lo + hi) / 2) <;> rw [hp] at hc
      · have HP := hidd hp
        have HC := hidd hc
        clear hp hc
        go_wp2_with fail
        refine HC.out.mono ?_
        rintro e w' ⟨rfl, hb⟩
        have HB2 := hidd (HB.out.trans (hb.mono HB.out.size))
        clear hb
        go_wp2_with fail
        go_roundg (gk - 1)
        case measure => omega
        case rel => exact ⟨(lo + hi) / 2 + 1, hi, by rw [show ((lo : Int) + (hi : Int)) / 2 + 1 = (((lo + hi) / 2 + 1 : Nat) : Int) by omega], rfl, by omega, hin, by omega, HB2.out, fun t ht => (by
            cases h : p t with
            | false => rfl
            | true => have := M.out t ((lo + hi) / 2) (by omega) (by omega) h; rw [HP.out] at this; cases this), HI.out.2⟩
      · have HP := hidd hp
        have HC := hidd hc
        clear hp hc
        go_wp2_with fail
        refine HC.out.mono ?_
        rintro e w' ⟨rfl, hb⟩
        have HB2 := hidd (HB.out.trans (hb.mono HB.out.size))
        clear hb
        go_wp2_with fail
        go_roundg (gk - 1)
        case measure => omega
        case rel => exact ⟨lo, (lo + hi) / 2, rfl, by rw [show ((lo : Int) + (hi : Int)) / 2 = (((lo + hi) / 2 : Nat) : Int) by omega], by omega, by omega, by omega, HB2.out, HI.out.1, fun t ht htn => M.out ((lo + hi) / 2) t ht htn HP.out⟩
    · obtain rfl : hi = lo := by omega
      go_wp2_with fail
      go_ret
      exact ⟨hi, rfl, ⟨hin, HI.out.1, fun h => HI.out.2 hi (Nat.le_refl _) h⟩, HB.out⟩
end Go.Proofs.Ythaiphkmkchhoaa
