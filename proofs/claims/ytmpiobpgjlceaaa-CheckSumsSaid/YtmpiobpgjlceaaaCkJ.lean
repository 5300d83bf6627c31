/- Sums: what every law of the layer looks at besides; are all bytes noughts; parts, one behind the other. -/
import Derived.Test.YtmpiobpgjlceaaaCkI
namespace Go.Proofs.Ytmpiobpgjlceaaa
set_option linter.unusedVariables false
open Go.RowKit

theorem bytes_by {w : World} {b : Nat} {l : List Int} (hb : b < w.heap.size) (h : ∀ i, i < l.length → w.cell? ⟨b, i, none⟩ = some (.int .u8 (av l i))) : Lie byV 1 w w.heap.size (some ⟨b, 0, none⟩) l := fun _ => by
  refine ⟨_, rfl, hb, fun i x hx j v hv => ?_⟩
  obtain ⟨hi, rfl⟩ := List.getElem?_eq_some_iff.1 hx
  match j, hv with
  | 0, hv =>
    simp [byV] at hv; subst hv
    have := h i hi
    rw [Nat.mul_one, Nat.add_zero, add_zero, this, av_at hi]
  | j + 1, hv => simp [byV] at hv
theorem known1 : sealL [69, 0, 0, 0] 2 = [69, 0, 186, 255] := by decide
theorem known2 : sumR [0, 1, 242, 3, 244, 245, 246, 247] = 8717 := by decide
theorem known3 : (sumR [69, 0, 186, 255] == 0) = true := by decide
theorem known4 : strOfNums [69, 0, 186, 255] = { data := #[69, 0, 186, 255] } := by rfl
theorem bytes4 : Bytes [69, 0, 0, 0] := by intro x hx; simp at hx; omega
theorem bytes4' : Bytes [69, 0, 186, 255] := by intro x hx; simp at hx; omega
theorem bytes8 : Bytes [0, 1, 242, 3, 244, 245, 246, 247] := by intro x hx; simp at hx; omega
set_option maxHeartbeats 4000000 in
theorem known_any (w : World) : Calls Try.prog 11 #[] w fun e w' => e = .returned (.bool true) ∧ Below w.heap.size w w' := by
  have cs := hidd (fun b W h => Seal_any (some ⟨b, 0, none⟩) [69, 0, 0, 0] 4 2 (by omega) (by omega) (by simp) bytes4 W h)
  have c1 := hidd (fun b g W h1 h2 h3 => sum1_any b (some ⟨g, 0, none⟩) [0, 1, 242, 3, 244, 245, 246, 247] 8 (by simp) bytes8 W h1 h2 h3)
  have cr := hidd (fun g cap W h => Right_any (some ⟨g, 0, none⟩) [69, 0, 186, 255] cap (by simp) bytes4' W h)
  have cv := hidd (fun g cap W h => conv_any (some ⟨g, 0, none⟩) [69, 0, 186, 255] 4 cap rfl W W.heap.size h)
  rw [known2] at c1
  rw [known3] at cr
  rw [known4] at cv
  go_enter Try.func11, Try.ntmps11
  go_wp2_with fail
  refine (cs.out _ _ (bytes_by (by simp) (fun i hi => by
    match i, hi with
    | 0, _ | 1, _ | 2, _ | 3, _ => simp [go_sem, av]))).mono ?_
  rintro e W1 (⟨_, g, cap, rfl, hO, hB⟩ | ⟨h, _⟩)
  rotate_left
  · exact absurd (by decide) h
  have hO2 : OwnL byV 1 W1 (w.heap.size + 1) 5 (.slice (some ⟨g, 0, none⟩) 4 cap) [69, 0, 186, 255] := by
    have := hO
    rw [show (2 : Int).toNat = 2 from rfl, known1] at this
    simpa using this
  have HO := hidd hO2
  have HB := hidd (below_step (below_new (Below.refl w.heap.size w) _) hB)
  clear hO hO2 hB
  go_wp2_with fail
  refine (c1.out _ W1.heap.size _ (by simp [go_sem]) (by simp) ((bytes_by (by (first | omega | (simp; done) | (simp; omega))) (fun i hi => by
    match i, hi with
    | 0, _ | 1, _ | 2, _ | 3, _ | 4, _ | 5, _ | 6, _ | 7, _ => simp [go_sem, av])).q (fun k hk => by simpa using hk))).mono ?_
  rintro e W2 ⟨rfl, hb2⟩
  have HO2 := hidd (((HO.out.alloc _).alloc _).below hb2)
  have HB2 := hidd (below_step (below_new (below_new HB.out _) _) hb2)
  have hcv := cv.out g cap W2 HO2.out.lieAt
  clear hb2
  go_wp2_with fail
  refine (cr.out g cap W2 HO2.out.lieAt).mono ?_
  rintro e W3 ⟨rfl, hb3⟩
  have HB3 := hidd (below_step HB2.out hb3)
  clear hb3
  go_wp2_with fail
  go_ret
  exact ⟨rfl, HB3.out⟩
def noughtB (l : List Int) : Bool := l.all (fun x => x == 0)
theorem nought_get {l : List Int} (h : noughtB l = true) {i : Nat} (hi : i < l.length) : av l i = 0 := by
  have := List.all_eq_true.1 h _ (av_mem hi)
  simpa using this
set_option maxHeartbeats 1000000 in
theorem nought_any (A : Option Addr) (l : List Int) (c : Nat) (hlen : l.length ≤ 1000000) (w : World) (hl : Lie byV 1 w w.heap.size A l) :
    Calls Try.prog 24 #[.slice A l.length c] w fun e w' => e = .returned (.bool (noughtB l)) ∧ w = w' := by
  have HL := hidd hl
  clear hl
  obtain ⟨R, hR0⟩ : ∃ R, noughtB l = R := ⟨_, rfl⟩
  rw [hR0]
  have HR := hidd hR0
  clear hR0
  go_enter Try.func24, Try.ntmps24
  go_wp2_with fail
  go_loopg [3] (l.length + 1) (fun k s3 wr => ∃ i : Nat, i ≤ l.length ∧ i + k = l.length + 1 ∧ s3 = .int .i64 (i : Int) ∧ noughtB (l.take i) = true ∧ w = wr)
  case atStart => exact ⟨0, by omega, by omega, rfl, rfl, rfl⟩
  case round =>
    obtain ⟨i, hi, hk, rfl, hN, rfl⟩ := hrel
    have HK := hidd hk
    have HN := hidd hN
    clear hk hN
    have w1 : IntKind.i64.wrap ((i : Int) + 1) = (i : Int) + 1 := IntWalk.i64_in _ (by omega)
    by_cases h1 : i < l.length
    · have hi1 : (i : Int) < (l.length : Int) := by omega
      obtain ⟨ad, rfl, _, x0⟩ := HL.out.byte i h1
      by_cases hx : av l i = 0
      · rw [hx] at x0
        have HN2 : Hid (noughtB (l.take (i + 1)) = true) := hidd (by
          rw [take_oneB h1]
          have := HN.out
          unfold noughtB at *
          rw [List.all_append, this, hx]; rfl)
        clear hx
        go_wp2_with fail
        have hk := HK.out
        go_roundg (gk - 1)
        case measure => omega
        case rel => exact ⟨i + 1, by omega, by omega, by simp, HN2.out, rfl⟩
      · have hR : noughtB l = false := by
          cases h : noughtB l
          · rfl
          · exact absurd (nought_get h h1) hx
        have HR2 : Hid (R = false) := hidd (by rw [← HR.out, hR])
        generalize av l i = x at *
        have hx2 : (x != 0) = true := by simpa using hx
        clear hR hx
        go_wp2_with fail
        go_ret
        exact ⟨by rw [HR2.out]; rfl, rfl⟩
    · obtain rfl : i = l.length := by omega
      have hR : noughtB l = true := by have := HN.out; rwa [List.take_length] at this
      have HR2 : Hid (R = true) := hidd (by rw [← HR.out, hR])
      clear hR HN
      have hi1 : ¬ ((l.length : Int) < (l.length : Int)) := by omega
      go_wp2_with fail
      go_ret
      exact ⟨by rw [HR2.out]; rfl, rfl⟩
end Go.Proofs.Ytmpiobpgjlceaaa
