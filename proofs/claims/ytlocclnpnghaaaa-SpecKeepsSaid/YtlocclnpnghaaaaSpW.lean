/- The document's answer: the first one with which they do not keep to a spec. -/
import Derived.Test.YtlocclnpnghaaaaSpI
namespace Go.Proofs.Ytlocclnpnghaaaa
open Go.RowKit

theorem S_congr {s s' : Nat → Int} : ∀ {n : Nat}, (∀ j, j < n → s j = s' j) → SM.S s n = SM.S s' n
  | 0, _ => rfl
  | n + 1, h => by
    have ih := S_congr (n := n) (fun j hj => h j (by omega))
    have := h n (by omega)
    show SM.S s n + s n = SM.S s' n + s' n
    rw [ih, this]
theorem KP_congr {a s a' s' : Nat → Int} {p r u m l : Int} {n : Nat} (ha : ∀ j, j < n → a j = a' j) (hs : ∀ j, j < n → s j = s' j) (h : SM.KP a s p r u m l n) : SM.KP a' s' p r u m l n := by
  refine ⟨fun i hi => ?_, fun i k hik hk => ?_⟩
  · have h1 := h.1 i hi
    unfold SM.OkAt at h1 ⊢
    rw [← ha i hi, ← hs i hi]
    refine ⟨h1.1, h1.2.1, h1.2.2.1, h1.2.2.2.1, fun h0 => ?_⟩
    rw [← ha (i - 1) (by omega)]
    exact h1.2.2.2.2 h0
  · have h2 := h.2 i k hik hk
    rw [← S_congr (n := k + 1) (fun j hj => hs j (by omega)), ← S_congr (n := i) (fun j hj => hs j (by omega)), ← ha i (by omega), ← ha k hk]
    exact h2
theorem take_get {L : List (Int × Int)} {n j : Nat} (hj : j < n) : (L.take n).getD j (0, 0) = L.getD j (0, 0) := by
  simp [List.getElem?_take, hj]
theorem KP_take {L : List (Int × Int)} {p r u m l : Int} {n : Nat} : SM.KP (SM.av (L.take n)) (SM.sv (L.take n)) p r u m l n ↔ SM.KP (SM.av L) (SM.sv L) p r u m l n := by
  have h1 : ∀ j, j < n → SM.av (L.take n) j = SM.av L j := fun j hj => by unfold SM.av; rw [take_get hj]
  have h2 : ∀ j, j < n → SM.sv (L.take n) j = SM.sv L j := fun j hj => by unfold SM.sv; rw [take_get hj]
  exact ⟨KP_congr h1 h2, KP_congr (fun j hj => (h1 j hj).symm) (fun j hj => (h2 j hj).symm)⟩
theorem Lie.take {w : World} {B : Nat} {A : Option Addr} {l : List (Int × Int)} (h : Lie sendV 2 w B A l) (n : Nat) : Lie sendV 2 w B A (l.take n) := fun hl => by
  obtain ⟨ad, e, hB, hc⟩ := h (by rw [List.length_take] at hl; omega)
  refine ⟨ad, e, hB, fun i x hx j v hv => hc i x ?_ j v hv⟩
  rw [List.getElem?_take] at hx
  split at hx
  · exact hx
  · cases hx

set_option maxHeartbeats 4000000 in
theorem refBreaks_any (p r u m l : Int) (hr : rightB p r u m l = true) (A : Option Addr) (L : List (Int × Int)) (N c : Nat) (hn : L.length = N) (hm : N ≤ 1000000) (hc : N ≤ c) (hx : c ≤ maxLen) (w : World) (hl : Lie sendV 2 w w.heap.size A L) :
    Calls Try.prog 16 #[.agg #[.int .i64 p, .int .i64 r, .int .i64 u, .int .i64 m, .int .i64 l], .slice A N c] w fun e w' => e = .returned (.int .i64 (fb0 p r u m l L : Nat)) ∧ Below w.heap.size w w' := by
  unfold maxLen at hx
  have HR := hidd hr
  have HL := hidd hl
  have HN := hidd hn
  have b := rightB_iff hr
  have hfirst := SM.fb_first (p := p) (r := r) (u := u) (m := m) (l := l) (by omega) (by omega) L
  have HF := hidd (show ∀ n, SM.First p r u m l L n → fb0 p r u m l L = n from fun n h => hfirst.unique h)
  have hck : Hid (∀ i, i < N → ∀ W, Lie sendV 2 W W.heap.size A L → Calls Try.prog 15 #[.agg #[.int .i64 p, .int .i64 r, .int .i64 u, .int .i64 m, .int .i64 l], .slice A (i + 1) c] W fun e w' => ∃ b : Bool, e = .returned (.bool b) ∧ (b = true ↔ SM.KP (SM.av L) (SM.sv L) p r u m l (i + 1)) ∧ Below W.heap.size W w') := hidd fun i hi W hl => by
    have hlen : (L.take (i + 1)).length = i + 1 := by rw [List.length_take, HN.out]; omega
    refine (refKeeps_any p r u m l HR.out A (L.take (i + 1)) (i + 1) c hlen (by omega) W (hl.take _)).mono ?_
    rintro e w' ⟨b, he, hb, hB⟩
    rw [hlen] at hb
    exact ⟨b, he, hb.trans KP_take, hB⟩
  clear hr hl hn b hfirst
  go_enter Try.func16, Try.ntmps16
  go_wp2_with fail
  go_loopg [5] (N + 1) (fun g s5 wr => ∃ i : Nat, i ≤ N ∧ i + g = N + 1 ∧ s5 = .int .i64 (i : Int) ∧ SM.KP (SM.av L) (SM.sv L) p r u m l i ∧ Below w.heap.size w wr ∧ HasSpec wr w.heap.size p r u m l)
  case atStart => exact ⟨0, by omega, by omega, rfl, ⟨fun i hi => absurd hi (by omega), fun i k _ hk => absurd hk (by omega)⟩, by (repeat' (first | (with_reducible exact Below.refl _ _) | (with_reducible assumption) | (with_reducible apply Below.setCell) | (with_reducible apply Below.alloc) | (with_reducible apply Below.drew) | (with_reducible apply below_drewN) | (with_reducible refine Below.trans ?_ (Below.mono (by assumption) ?_)) | omega | (simp; done) | (simp; omega))), HasSpec.new w _ p r u m l⟩
  case round =>
    obtain ⟨i, hi, hk, rfl, hkp, hB, hS⟩ := hrel
    have HK := hidd hk
    have HKP := hidd hkp
    have HB := hidd hB
    have HS := hidd hS
    clear hk hkp hB hS
    by_cases hlt : i < N
    · obtain ⟨ad, rfl, hadb, -, -⟩ := HL.out.at_ i (by rw [HN.out]; exact hlt)
      have cc := hidd (hck.out i hlt)
      have t1 : ((i : Int) + 1).toNat = i + 1 := by omega
      have t2 : (0 : Int) ≤ (i : Int) + 1 := by omega
      have t3 : (i : Int) + 1 ≤ (c : Int) := by omega
      have t4 : IntKind.i64.wrap ((i : Int) + 1) = (i : Int) + 1 := IntWalk.i64_in _ (by omega)
      have t5 : i + 1 ≤ c := by omega
      have t6 : (i : Int) < (N : Int) := by omega
      obtain ⟨hz, d0, d1, d2, d3, d4⟩ := HS.out
      have hadb := hidd hadb
      go_wp2_with fail
      go_region_with (go_at_call 15; refine (cc.out _ (HL.out.below (by have := HB.out; have := HB.out.size; (repeat' (first | (with_reducible exact Below.refl _ _) | (with_reducible assumption) | (with_reducible apply Below.setCell) | (with_reducible apply Below.alloc) | (with_reducible apply Below.drew) | (with_reducible apply below_drewN) | (with_reducible refine Below.trans ?_ (Below.mono (by assumption) ?_)) | omega | (simp; done) | (simp; omega)))))).mono ?_; rintro E wk ⟨b, rfl, hb, hbk⟩; have Hb := hidd hb; clear hb)
      all_goals
        have LW := hidd (show Below w.heap.size w wk by have := HB.out; have := HB.out.size; (repeat' (first | (with_reducible exact Below.refl _ _) | (with_reducible assumption) | (with_reducible apply Below.setCell) | (with_reducible apply Below.alloc) | (with_reducible apply Below.drew) | (with_reducible apply below_drewN) | (with_reducible refine Below.trans ?_ (Below.mono (by assumption) ?_)) | omega | (simp; done) | (simp; omega))))
        have HS2 := hidd (show HasSpec wk w.heap.size p r u m l from HasSpec.step (w := wr) HS.out (show Below wr.heap.size wr wk from ⟨hbk.os, hbk.tape, hbk.output, hbk.size, hbk.block⟩))
        clear hbk
        cases b
        · go_wp2_with fail
          go_ret
          have hF := HF.out i ⟨by rw [HN.out]; omega, HKP.out, fun _ hk => absurd (Hb.out.2 hk) (by decide)⟩
          exact ⟨ret_int (by omega), LW.out⟩
        · go_wp2_with fail
          have hk := HK.out
          go_roundg (gk - 1)
          case measure => omega
          case rel => exact ⟨i + 1, by omega, by omega, by go_num, Hb.out.1 (by trivial), LW.out, HS2.out⟩
    · have t6 : ¬ (i : Int) < (N : Int) := by omega
      have d6 : decide ((i : Int) < (N : Int)) = false := decide_eq_false t6
      go_wp2_with fail
      go_quiet (fail)
      go_wp2_with fail
      go_ret
      have hi' : i = N := by omega
      have hF := HF.out i ⟨by rw [HN.out]; omega, HKP.out, fun h => absurd h (by rw [HN.out]; omega)⟩
      exact ⟨ret_int (by omega), by have := HB.out; (repeat' (first | (with_reducible exact Below.refl _ _) | (with_reducible assumption) | (with_reducible apply Below.setCell) | (with_reducible apply Below.alloc) | (with_reducible apply Below.drew) | (with_reducible apply below_drewN) | (with_reducible refine Below.trans ?_ (Below.mono (by assumption) ?_)) | omega | (simp; done) | (simp; omega)))⟩
end Go.Proofs.Ytlocclnpnghaaaa
