/- Curves: may lines be; may a curve be (the document's side). -/
import Derived.Test.YtpgaklfgbioocaaCvC
namespace Go.Proofs.Ytpgaklfgbioocaa
set_option linter.unusedVariables false
open Go.RowKit RowK

/-- may all of them be. -/
def MayAll (L : List (Int × Int)) : Prop := ∀ i, i < L.length → mayB (SM.av L i, SM.sv L i) = true
def RgtC (L : List (Int × Int)) : Prop := (1 ≤ L.length ∧ L.length ≤ 32) ∧ MayAll L ∧ Nrm L
theorem MayAll.all {L : List (Int × Int)} (h : MayAll L) : allMay L := fun i hi => by
  have := mayB_iff (h i hi)
  exact ⟨⟨this.1, by have := this.2.1; simp only at this; omega⟩, this.2.2.1, by have := this.2.2.2; simp only at this; omega⟩
def MayEnd (P : Prop) (w : World) (e : Ending) (w' : World) : Prop := ∃ R, e = .returned (.bool R) ∧ (R = true ↔ P) ∧ Below w.heap.size w w'
set_option maxRecDepth 100000 in
set_option maxHeartbeats 4000000 in
theorem right3_any (A : Option Addr) (L : List (Int × Int)) (c : Nat) (hL : L.length ≤ 1000000) (w : World) (hA : Lie sendV 2 w w.heap.size A L) :
    Calls Try.prog 6 #[.slice A L.length c] w (MayEnd (RgtC L) w) := by
  have HA := hidd hA
  have C := hidd (fun a b W => refMay_any a b W)
  obtain ⟨P, hP⟩ : ∃ P : Prop, RgtC L = P := ⟨_, rfl⟩
  rw [hP]
  have HP := hidd hP
  clear hA hP
  have CN := hidd (fun hm W hW => normal_any A L c hL hm W hW)
  by_cases hn : 1 ≤ L.length ∧ L.length ≤ 32
  case neg =>
    have hnp : ¬ P := fun h => hn (HP.out ▸ h : RgtC L).1
    have HNP := hidd hnp
    clear hnp
    by_cases h1 : L.length < 1
    · have h1' : (L.length : Int) < 1 := by omega
      clear hn
      go_enter Try.func6, Try.ntmps6
      go_wp2_with fail
      go_ret
      exact ⟨false, rfl, ⟨fun h => absurd h Bool.false_ne_true, fun h => absurd h HNP.out⟩, by (repeat' (first | (with_reducible exact Below.refl _ _) | (with_reducible assumption) | (with_reducible apply Below.setCell) | (with_reducible apply Below.alloc) | (with_reducible apply Below.drew) | (with_reducible apply below_drewN) | (with_reducible refine Below.trans ?_ (Below.mono (by assumption) ?_)) | omega | (simp; done) | (simp; omega)))⟩
    · have h1' : ¬ (L.length : Int) < 1 := by omega
      have h2' : (32 : Int) < (L.length : Int) := by omega
      clear hn
      go_enter Try.func6, Try.ntmps6
      go_wp2_with fail
      go_ret
      exact ⟨false, rfl, ⟨fun h => absurd h Bool.false_ne_true, fun h => absurd h HNP.out⟩, by (repeat' (first | (with_reducible exact Below.refl _ _) | (with_reducible assumption) | (with_reducible apply Below.setCell) | (with_reducible apply Below.alloc) | (with_reducible apply Below.drew) | (with_reducible apply below_drewN) | (with_reducible refine Below.trans ?_ (Below.mono (by assumption) ?_)) | omega | (simp; done) | (simp; omega)))⟩
  have h1' : ¬ (L.length : Int) < 1 := by omega
  have h2' : ¬ (32 : Int) < (L.length : Int) := by omega
  go_enter Try.func6, Try.ntmps6
  go_wp2_with fail
  go_loopg [3] (L.length + 2) (fun g s3 wr => ∃ i : Nat, i ≤ L.length ∧ i + g = L.length + 2 ∧ s3 = .int .i64 (i : Int) ∧ (∀ j, j < i → mayB (SM.av L j, SM.sv L j) = true) ∧ Below w.heap.size w wr)
  case atStart => exact ⟨0, by omega, by omega, rfl, fun j h => absurd h (by omega), Below.refl _ _⟩
  case round =>
    obtain ⟨i, hi1, hg, rfl, hs, hB⟩ := hrel
    have HG := hidd hg
    have HS := hidd hs
    have HB := hidd hB
    clear hg hs hB
    by_cases hin : i < L.length
    · have hin2 : (i : Int) < (L.length : Int) := by omega
      have hi0 : (0 : Int) ≤ (i : Int) := by omega
      obtain ⟨ad, rfl, ha, x0, x1⟩ := (HA.out.below HB.out).send i hin
      rw [(av_at hin).1] at x0
      rw [(av_at hin).2] at x1
      have hno : mayB (SM.av L i, SM.sv L i) = false → ¬ P := fun h hh => by
        rw [← HP.out] at hh
        have := hh.2.1 i hin
        rw [h] at this
        exact absurd this (by decide)
      have HNO := hidd hno
      have hst : mayB (SM.av L i, SM.sv L i) = true → ∀ k, k < i + 1 → mayB (SM.av L k, SM.sv L k) = true := fun h k k1 => by
        by_cases hk : k = i
        · subst hk; exact h
        · exact HS.out k (by omega)
      have HST := hidd hst
      clear hst
      have hBB := HB.out
      have hBs := hBB.size
      have ci := hidd (C.out (SM.av L i) (SM.sv L i))
      clear hno
      generalize SM.av L i = a0 at *
      generalize SM.sv L i = a1 at *
      obtain ⟨M, hM⟩ : ∃ M, mayB (a0, a1) = M := ⟨_, rfl⟩
      have HM := hidd hM
      rw [hM] at ci
      clear hM
      cases M
      · go_wp2_with fail
        refine (ci.out _).mono ?_
        rintro e w2 ⟨rfl, hb2⟩
        go_wp2_with fail
        go_ret
        have hnn := HNO.out HM.out
        exact ⟨false, rfl, ⟨fun h => absurd h Bool.false_ne_true, fun h => absurd h hnn⟩, by (repeat' (first | (with_reducible exact Below.refl _ _) | (with_reducible assumption) | (with_reducible apply Below.setCell) | (with_reducible apply Below.alloc) | (with_reducible apply Below.drew) | (with_reducible apply below_drewN) | (with_reducible refine Below.trans ?_ (Below.mono (by assumption) ?_)) | omega | (simp; done) | (simp; omega)))⟩
      · go_wp2_with fail
        refine (ci.out _).mono ?_
        rintro e w2 ⟨rfl, hb2⟩
        go_wp2_with fail
        have hg := HG.out
        go_roundg (gk - 1)
        case measure => omega
        case rel => exact ⟨i + 1, by omega, by omega, by go_num, HST.out HM.out, by (repeat' (first | (with_reducible exact Below.refl _ _) | (with_reducible assumption) | (with_reducible apply Below.setCell) | (with_reducible apply Below.alloc) | (with_reducible apply Below.drew) | (with_reducible apply below_drewN) | (with_reducible refine Below.trans ?_ (Below.mono (by assumption) ?_)) | omega | (simp; done) | (simp; omega)))⟩
    · have hin2 : ¬ (i : Int) < (L.length : Int) := by omega
      have hall : MayAll L := fun j h2 => HS.out j (by omega)
      have HALL := hidd hall
      have hk := HA.out.below HB.out
      have ci := hidd (CN.out hall.all)
      have HN := hidd hn
      have HK := hidd hk
      clear hall hk hn
      go_wp2_with fail
      refine (ci.out _ (by first | exact HK.out | exact HK.out.below (Below.drewN ..))).mono ?_
      rintro e w2 ⟨R, rfl, hR, hb2⟩
      have HR := hidd hR
      clear hR
      have hBB := HB.out
      have hBs := hBB.size
      go_wp2_with fail
      go_ret
      exact ⟨R, rfl, HR.out.trans (HP.out ▸ ⟨fun h => ⟨HN.out, HALL.out, h⟩, fun h => h.2.2⟩), by (repeat' (first | (with_reducible exact Below.refl _ _) | (with_reducible assumption) | (with_reducible apply Below.setCell) | (with_reducible apply Below.alloc) | (with_reducible apply Below.drew) | (with_reducible apply below_drewN) | (with_reducible refine Below.trans ?_ (Below.mono (by assumption) ?_)) | omega | (simp; done) | (simp; omega)))⟩
end Go.Proofs.Ytpgaklfgbioocaa
