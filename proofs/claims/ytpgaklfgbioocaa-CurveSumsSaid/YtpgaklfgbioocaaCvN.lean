/- Curves: may lines be, as the program asks. -/
import Derived.Test.YtpgaklfgbioocaaCvL
import Derived.Test.YtpgaklfgbioocaaCvD
namespace Go.Proofs.Ytpgaklfgbioocaa
set_option linter.unusedVariables false
open Go.RowKit Go.Proofs.Ytpgaklfgbioocaa.RowK

def IdxEnd (L : List (Int × Int)) (w : World) (e : Ending) (w' : World) : Prop := ∃ n : Int, e = .returned (.int .i64 n) ∧ (-1 ≤ n ∧ n ≤ 1000000) ∧ (0 ≤ n ↔ ¬ MayAll L) ∧ Below w.heap.size w w'
theorem idxEnd_of {L : List (Int × Int)} {w : World} (n : Int) (w' : World) (h1 : -1 ≤ n) (h2 : n ≤ 1000000) (h3 : 0 ≤ n ↔ ¬ MayAll L) (hb : Below w.heap.size w w') : IdxEnd L w (.returned (.int .i64 n)) w' := ⟨n, rfl, ⟨h1, h2⟩, h3, hb⟩

set_option maxHeartbeats 2000000 in
theorem idxL_any (A : Option Addr) (L : List (Int × Int)) (c : Nat) (hL : L.length ≤ 1000000) (w : World) (hA : Lie sendV 2 w w.heap.size A L) :
    Calls Try.prog 46 #[.slice A L.length c, .func (.func 30) #[] #[]] w (IdxEnd L w) := by
  have HA := hidd hA
  have C := hidd (fun a b W => isNoLine_any a b W)
  obtain ⟨P, hP⟩ : ∃ P : Prop, MayAll L = P := ⟨_, rfl⟩
  have HP := hidd hP
  have HID := hidd (idxEnd_of (L := L) (w := w))
  clear hA hP
  go_enter Try.func46, Try.ntmps46
  go_wp2_with fail
  go_loopg [8] (L.length + 2) (fun g s8 wr => ∃ i : Nat, i ≤ L.length ∧ i + g = L.length + 2 ∧ s8 = .int .i64 (i : Int) ∧ (∀ j, j < i → mayB (SM.av L j, SM.sv L j) = true) ∧ Below w.heap.size w wr)
  case atStart => exact ⟨0, by omega, by omega, rfl, fun j h => absurd h (by omega), Below.refl _ _⟩
  case round =>
    obtain ⟨i, hi1, hg, rfl, hs, hB⟩ := hrel
    have HG := hidd hg
    have HS := hidd hs
    have HB := hidd hB
    clear hg hs hB
    by_cases hin : i < L.length
    · have hin2 : (i : Int) < (L.length : Int) := by omega
      have hi0 : (0 : Int) ≤ (i : Int) := by omega
      obtain ⟨ad, rfl, ha, x0, x1⟩ := (HA.out.below HB.out).send i hin
      rw [(av_at hin).1] at x0
      rw [(av_at hin).2] at x1
      have hno : mayB (SM.av L i, SM.sv L i) = false → ¬ MayAll L := fun h hh => by
        have := hh i hin
        rw [h] at this
        exact absurd this (by decide)
      have HNO := hidd hno
      have hst : mayB (SM.av L i, SM.sv L i) = true → ∀ k, k < i + 1 → mayB (SM.av L k, SM.sv L k) = true := fun h k k1 => by
        by_cases hk : k = i
        · subst hk; exact h
        · exact HS.out k (by omega)
      have HST := hidd hst
      clear hst
      have hBB := HB.out
      have hBs := hBB.size
      have ci := hidd (C.out (SM.av L i) (SM.sv L i))
      clear hno
      generalize SM.av L i = a0 at *
      generalize SM.sv L i = a1 at *
      obtain ⟨M, hM⟩ : ∃ M, mayB (a0, a1) = M := ⟨_, rfl⟩
      have HM := hidd hM
      rw [hM] at ci
      clear hM
      cases M
      · go_wp2_with fail
        refine (ci.out _).mono ?_
        rintro e w2 ⟨rfl, hb2⟩
        go_wp2_with fail
        go_ret
        exact HID.out _ _ (by omega) (by omega) ⟨fun _ => HNO.out HM.out, fun _ => by omega⟩ (by (repeat' (first | (with_reducible exact Below.refl _ _) | (with_reducible assumption) | (with_reducible apply Below.setCell) | (with_reducible apply Below.alloc) | (with_reducible apply Below.drew) | (with_reducible apply below_drewN) | (with_reducible refine Below.trans ?_ (Below.mono (by assumption) ?_)) | omega | (simp; done) | (simp; omega))))
      · go_wp2_with fail
        refine (ci.out _).mono ?_
        rintro e w2 ⟨rfl, hb2⟩
        go_wp2_with fail
        have hg := HG.out
        go_roundg (gk - 1)
        case measure => omega
        case rel => exact ⟨i + 1, by omega, by omega, by go_num, HST.out HM.out, by (repeat' (first | (with_reducible exact Below.refl _ _) | (with_reducible assumption) | (with_reducible apply Below.setCell) | (with_reducible apply Below.alloc) | (with_reducible apply Below.drew) | (with_reducible apply below_drewN) | (with_reducible refine Below.trans ?_ (Below.mono (by assumption) ?_)) | omega | (simp; done) | (simp; omega)))⟩
    · have hall : MayAll L := fun j h2 => HS.out j (by omega)
      have HALL := hidd hall
      have hin2 : ¬ (i : Int) < (L.length : Int) := by omega
      clear hall
      go_wp2_with fail
      go_ret
      exact HID.out _ _ (by omega) (by omega) ⟨fun h => absurd h (by omega), fun h => absurd HALL.out h⟩ HB.out
theorem conL_any (A : Option Addr) (L : List (Int × Int)) (c : Nat) (hL : L.length ≤ 1000000) (w : World) (hA : Lie sendV 2 w w.heap.size A L) :
    Calls Try.prog 29 #[.slice A L.length c, .func (.func 30) #[] #[]] w (MayEnd (¬ MayAll L) w) := by
  have ci := hidd (idxL_any A L c hL w hA)
  clear hA
  unfold MayEnd
  go_enter Try.func29, Try.ntmps29
  go_wp2_with fail
  refine ci.out.mono ?_
  rintro e w1 ⟨n, rfl, h1, h2, hb⟩
  have H2 := hidd h2
  have HB := hidd hb
  clear h2 hb
  by_cases h0 : 0 ≤ n
  · go_wp2_with fail
    go_ret
    exact ⟨true, by simp, ⟨fun _ => H2.out.1 h0, fun _ => rfl⟩, HB.out⟩
  · go_wp2_with fail
    go_ret
    exact ⟨false, by simp; omega, ⟨fun h => absurd h Bool.false_ne_true, fun h => absurd (H2.out.2 h) (by omega)⟩, HB.out⟩

set_option maxHeartbeats 2000000 in
theorem idxC_any (A : Option Addr) (L : List (Int × Int)) (c : Nat) (hL : L.length ≤ 1000000) (w : World) (hA : Lie sendV 2 w w.heap.size A L) :
    Calls Try.prog 51 #[.slice A L.length c, .func (.func 30) #[] #[]] w (IdxEnd L w) := by
  have HA := hidd hA
  have C := hidd (fun a b W => isNoLine_any a b W)
  obtain ⟨P, hP⟩ : ∃ P : Prop, MayAll L = P := ⟨_, rfl⟩
  have HP := hidd hP
  have HID := hidd (idxEnd_of (L := L) (w := w))
  clear hA hP
  go_enter Try.func51, Try.ntmps51
  go_wp2_with fail
  go_loopg [8] (L.length + 2) (fun g s8 wr => ∃ i : Nat, i ≤ L.length ∧ i + g = L.length + 2 ∧ s8 = .int .i64 (i : Int) ∧ (∀ j, j < i → mayB (SM.av L j, SM.sv L j) = true) ∧ Below w.heap.size w wr)
  case atStart => exact ⟨0, by omega, by omega, rfl, fun j h => absurd h (by omega), Below.refl _ _⟩
  case round =>
    obtain ⟨i, hi1, hg, rfl, hs, hB⟩ := hrel
    have HG := hidd hg
    have HS := hidd hs
    have HB := hidd hB
    clear hg hs hB
    by_cases hin : i < L.length
    · have hin2 : (i : Int) < (L.length : Int) := by omega
      have hi0 : (0 : Int) ≤ (i : Int) := by omega
      obtain ⟨ad, rfl, ha, x0, x1⟩ := (HA.out.below HB.out).send i hin
      rw [(av_at hin).1] at x0
      rw [(av_at hin).2] at x1
      have hno : mayB (SM.av L i, SM.sv L i) = false → ¬ MayAll L := fun h hh => by
        have := hh i hin
        rw [h] at this
        exact absurd this (by decide)
      have HNO := hidd hno
      have hst : mayB (SM.av L i, SM.sv L i) = true → ∀ k, k < i + 1 → mayB (SM.av L k, SM.sv L k) = true := fun h k k1 => by
        by_cases hk : k = i
        · subst hk; exact h
        · exact HS.out k (by omega)
      have HST := hidd hst
      clear hst
      have hBB := HB.out
      have hBs := hBB.size
      have ci := hidd (C.out (SM.av L i) (SM.sv L i))
      clear hno
      generalize SM.av L i = a0 at *
      generalize SM.sv L i = a1 at *
      obtain ⟨M, hM⟩ : ∃ M, mayB (a0, a1) = M := ⟨_, rfl⟩
      have HM := hidd hM
      rw [hM] at ci
      clear hM
      cases M
      · go_wp2_with fail
        refine (ci.out _).mono ?_
        rintro e w2 ⟨rfl, hb2⟩
        go_wp2_with fail
        go_ret
        exact HID.out _ _ (by omega) (by omega) ⟨fun _ => HNO.out HM.out, fun _ => by omega⟩ (by (repeat' (first | (with_reducible exact Below.refl _ _) | (with_reducible assumption) | (with_reducible apply Below.setCell) | (with_reducible apply Below.alloc) | (with_reducible apply Below.drew) | (with_reducible apply below_drewN) | (with_reducible refine Below.trans ?_ (Below.mono (by assumption) ?_)) | omega | (simp; done) | (simp; omega))))
      · go_wp2_with fail
        refine (ci.out _).mono ?_
        rintro e w2 ⟨rfl, hb2⟩
        go_wp2_with fail
        have hg := HG.out
        go_roundg (gk - 1)
        case measure => omega
        case rel => exact ⟨i + 1, by omega, by omega, by go_num, HST.out HM.out, by (repeat' (first | (with_reducible exact Below.refl _ _) | (with_reducible assumption) | (with_reducible apply Below.setCell) | (with_reducible apply Below.alloc) | (with_reducible apply Below.drew) | (with_reducible apply below_drewN) | (with_reducible refine Below.trans ?_ (Below.mono (by assumption) ?_)) | omega | (simp; done) | (simp; omega)))⟩
    · have hall : MayAll L := fun j h2 => HS.out j (by omega)
      have HALL := hidd hall
      have hin2 : ¬ (i : Int) < (L.length : Int) := by omega
      clear hall
      go_wp2_with fail
      go_ret
      exact HID.out _ _ (by omega) (by omega) ⟨fun h => absurd h (by omega), fun h => absurd HALL.out h⟩ HB.out
theorem conC_any (A : Option Addr) (L : List (Int × Int)) (c : Nat) (hL : L.length ≤ 1000000) (w : World) (hA : Lie sendV 2 w w.heap.size A L) :
    Calls Try.prog 44 #[.slice A L.length c, .func (.func 30) #[] #[]] w (MayEnd (¬ MayAll L) w) := by
  have ci := hidd (idxC_any A L c hL w hA)
  clear hA
  unfold MayEnd
  go_enter Try.func44, Try.ntmps44
  go_wp2_with fail
  refine ci.out.mono ?_
  rintro e w1 ⟨n, rfl, h1, h2, hb⟩
  have H2 := hidd h2
  have HB := hidd hb
  clear h2 hb
  by_cases h0 : 0 ≤ n
  · go_wp2_with fail
    go_ret
    exact ⟨true, by simp, ⟨fun _ => H2.out.1 h0, fun _ => rfl⟩, HB.out⟩
  · go_wp2_with fail
    go_ret
    exact ⟨false, by simp; omega, ⟨fun h => absurd h Bool.false_ne_true, fun h => absurd (H2.out.2 h) (by omega)⟩, HB.out⟩
end Go.Proofs.Ytpgaklfgbioocaa
