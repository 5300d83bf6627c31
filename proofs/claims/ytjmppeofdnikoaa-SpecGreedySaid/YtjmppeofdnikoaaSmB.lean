/- The ticks of two senders, one behind the other; how many bytes one sends from a tick to a tick. -/
import Derived.Test.YtjmppeofdnikoaaSpR
import Derived.Test.YtjmppeofdnikoaaSmA
namespace Go.Proofs.Ytjmppeofdnikoaa
set_option linter.unusedVariables false
open Go.RowKit RowK

theorem av_at {L : List (Int × Int)} {i : Nat} (h : i < L.length) : L[i].1 = SM.av L i ∧ L[i].2 = SM.sv L i := by
  simp [SM.av, SM.sv, List.getD_eq_getElem?_getD, List.getElem?_eq_getElem h]
def tickV (X Y : List (Int × Int)) (i : Nat) : Int := if i < X.length then SM.av X i else SM.av Y (i - X.length)
set_option maxHeartbeats 1000000 in
theorem tick_any (A B : Option Addr) (X Y : List (Int × Int)) (c d i : Nat) (hx : X.length ≤ 20) (hy : Y.length ≤ 20) (hi : i < X.length + Y.length) (w : World) (hA : Lie sendV 2 w w.heap.size A X) (hB : Lie sendV 2 w w.heap.size B Y) :
    Calls Try.prog 16 #[.slice A X.length c, .slice B Y.length d, .int .i64 i] w fun e w' => e = .returned (.int .i64 (tickV X Y i)) ∧ w' = w := by
  by_cases hlt : i < X.length
  · obtain ⟨ad, rfl, hb, x0, x1⟩ := hA.send i hlt
    rw [(av_at hlt).1] at x0
    have HV := hidd (show tickV X Y i = SM.av X i by unfold tickV; rw [if_pos hlt])
    generalize SM.av X i = v at *
    clear hA hB x1
    go_enter Try.func16, Try.ntmps16
    go_wp2
    go_ret
    exact ⟨ret_int HV.out.symm, rfl⟩
  · obtain ⟨ad, rfl, hb, x0, x1⟩ := hB.send (i - X.length) (by omega)
    rw [(av_at (show i - X.length < Y.length by omega)).1] at x0
    have HV := hidd (show tickV X Y i = SM.av Y (i - X.length) by unfold tickV; rw [if_neg hlt])
    generalize SM.av Y (i - X.length) = v at *
    obtain ⟨j, hj⟩ : ∃ j : Nat, i - X.length = j := ⟨_, rfl⟩
    rw [hj] at x0
    obtain rfl : i = X.length + j := by omega
    clear hA hB x1 hj hlt
    have hlt : ¬ ((X.length : Int) + (j : Int) < (X.length : Int)) := by omega
    have e1 : wrap64 ((X.length : Int) + (j : Int) - (X.length : Int)) = (j : Int) := by unfold wrap64; omega
    have e2 : IntKind.i64.wrap ((X.length : Int) + (j : Int) - (X.length : Int)) = (j : Int) := by rw [IntKind.wrap_i64]; unfold wrap64 at e1; omega
    go_enter Try.func16, Try.ntmps16
    go_wp2
    go_ret
    exact ⟨ret_int HV.out.symm, rfl⟩
def sentV (L : List (Int × Int)) (f t : Int) (k : Nat) : Int := SM.sentN (SM.av L) (SM.sv L) f t k
set_option maxHeartbeats 2000000 in
theorem sent_any (A : Option Addr) (L : List (Int × Int)) (c : Nat) (f t : Int) (hx : L.length ≤ 20) (hs : ∀ i, i < L.length → 0 ≤ SM.sv L i ∧ SM.sv L i ≤ 2000) (w : World) (hA : Lie sendV 2 w w.heap.size A L) :
    Calls Try.prog 18 #[.slice A L.length c, .int .i64 f, .int .i64 t] w fun e w' => e = .returned (.int .i64 (sentV L f t L.length)) ∧ w' = w := by
  have HA := hidd hA
  have HS := hidd hs
  clear hA hs
  go_enter Try.func18, Try.ntmps18
  go_wp2
  go_loop [7, 8] (fun n i => ∃ k : Nat, k ≤ L.length ∧ i = .int .i64 k ∧ n = .int .i64 (sentV L f t k)) (fun _ i => L.length - (intOf i).toNat)
  case atStart => exact ⟨0, Nat.zero_le _, rfl, rfl⟩
  case round =>
    obtain ⟨k, hk, rfl, rfl⟩ := hrel
    have hbd : 0 ≤ sentV L f t k ∧ sentV L f t k ≤ 2000 * k := SM.sentN_bd HS.out k (by omega)
    by_cases hlt : k < L.length
    · obtain ⟨ad, rfl, hb, x0, x1⟩ := HA.out.send k hlt
      rw [(av_at hlt).1] at x0
      rw [(av_at hlt).2] at x1
      have hsk := HS.out k hlt
      have HN := hidd (show sentV L f t (k + 1) = if f ≤ SM.av L k ∧ SM.av L k ≤ t then sentV L f t k + SM.sv L k else sentV L f t k from rfl)
      generalize sentV L f t k = v at *
      generalize SM.av L k = a at *
      generalize SM.sv L k = s at *
      obtain ⟨hs0, hs1⟩ := hsk
      obtain ⟨hb0, hb1⟩ := hbd
      go_wp2
      all_goals
        go_round
        case rel => exact ⟨k + 1, by omega, by go_num, by rw [HN.out]; first | rw [if_pos ⟨by assumption, by assumption⟩] | rw [if_neg (by omega)]⟩
        case measure => simp [intOf]; omega
    · obtain rfl : k = L.length := by omega
      go_wp2
      go_ret
      exact ⟨rfl, rfl⟩
end Go.Proofs.Ytjmppeofdnikoaa
