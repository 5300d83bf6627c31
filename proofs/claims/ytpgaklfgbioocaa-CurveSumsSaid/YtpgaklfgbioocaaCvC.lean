/- Curves: which lists of lines are some curve's. -/
import Derived.Test.YtpgaklfgbioocaaCvB
import Derived.RegionTactic
namespace Go.Proofs.Ytpgaklfgbioocaa
set_option linter.unusedVariables false
open Go.RowKit RowK

/-- is each line the only least one somewhere, by rising Bursts. -/
def NrmAt (L : List (Int × Int)) (i : Nat) : Prop :=
  (SM.av L (i - 1) < SM.av L i ∧ SM.sv L i < SM.sv L (i - 1)) ∧ (2 ≤ i → (SM.av L (i - 1) - SM.av L (i - 2)) * (SM.sv L (i - 1) - SM.sv L i) < (SM.av L i - SM.av L (i - 1)) * (SM.sv L (i - 2) - SM.sv L (i - 1)))
def Nrm (L : List (Int × Int)) : Prop := 0 < L.length ∧ ∀ i, 1 ≤ i → i < L.length → NrmAt L i
def LineBox (w : World) (b : Nat) (x y : Int) : Prop := b < w.heap.size ∧ w.cell? ⟨b, 0, none⟩ = some (.int .i64 x) ∧ w.cell? ⟨b, 1, none⟩ = some (.int .i64 y)
theorem LineBox.step {w w' : World} {b : Nat} {x y : Int} (h : LineBox w b x y) (hb : Below w.heap.size w w') : LineBox w' b x y :=
  ⟨Nat.lt_of_lt_of_le h.1 hb.size, (hb.cell (p := ⟨b, 0, none⟩) h.1).trans h.2.1, (hb.cell (p := ⟨b, 1, none⟩) h.1).trans h.2.2⟩
def allMay (L : List (Int × Int)) : Prop := ∀ i, i < L.length → (0 ≤ SM.av L i ∧ SM.av L i ≤ 2000000000) ∧ 0 ≤ SM.sv L i ∧ SM.sv L i ≤ 2000000000
def NrmEnd (L : List (Int × Int)) (w : World) (e : Ending) (w' : World) : Prop := ∃ R, e = .returned (.bool R) ∧ (R = true ↔ Nrm L) ∧ Below w.heap.size w w'
set_option maxRecDepth 100000 in
set_option maxHeartbeats 4000000 in
theorem normal_any (A : Option Addr) (L : List (Int × Int)) (c : Nat) (hL : L.length ≤ 1000000) (hm : allMay L) (w : World) (hA : Lie sendV 2 w w.heap.size A L) :
    Calls Try.prog 20 #[.slice A L.length c] w (NrmEnd L w) := by
  have HA := hidd hA
  have HM := hidd hm
  clear hA hm
  go_enter Try.func20, Try.ntmps20
  go_wp2_with fail
  go_loopg [3] (L.length + 2) (fun g s3 wr => ∃ i : Nat, 1 ≤ i ∧ i ≤ L.length + 1 ∧ i + g = L.length + 3 ∧ s3 = .int .i64 (i : Int) ∧ (∀ j, 1 ≤ j → j < i → j < L.length → NrmAt L j) ∧ Below w.heap.size w wr)
  case atStart => exact ⟨1, by omega, by omega, by omega, rfl, fun j h1 h2 => absurd h2 (by omega), Below.refl _ _⟩
  case round =>
    obtain ⟨i, hi1, hi2, hg, rfl, hs, hB⟩ := hrel
    have HG := hidd hg
    have HS := hidd hs
    have HB := hidd hB
    clear hg hs hB
    by_cases hin : i < L.length
    · have hin2 : (i : Int) < (L.length : Int) := by omega
      obtain ⟨j, rfl⟩ : ∃ j, i = j + 1 := ⟨i - 1, by omega⟩
      obtain ⟨ad, rfl, ha, x0, x1⟩ := (HA.out.below HB.out).send (j + 1) hin
      obtain ⟨ad', e', ha', y0, y1⟩ := (HA.out.below HB.out).send j (by omega)
      obtain rfl : ad = ad' := by injection e'
      rw [(av_at hin).1] at x0
      rw [(av_at hin).2] at x1
      rw [(av_at (show j < L.length by omega)).1] at y0
      rw [(av_at (show j < L.length by omega)).2] at y1
      have hj1 : ((j + 1 : Nat) : Int) - 1 = (j : Int) := by omega
      have hj2 : IntKind.i64.wrap (((j + 1 : Nat) : Int) - 1) = (j : Int) := by rw [IntWalk.i64_in _ (by omega)]; omega
      have hj0 : (0 : Int) ≤ (j : Int) := by omega
      have hj3 : (j : Int) < (L.length : Int) := by omega
      have hj4 : (0 : Int) ≤ ((j + 1 : Nat) : Int) := by omega
      obtain ⟨⟨b00, b01⟩, b02, b03⟩ := HM.out (j + 1) hin
      obtain ⟨⟨a00, a01⟩, a02, a03⟩ := HM.out j (by omega)
      clear e'
      go_wp2_with fail
      go_cut [4, 5] (fun s4 s5 wx => ∃ p q, s4 = .pointer (some ⟨p, 0, none⟩) ∧ s5 = .pointer (some ⟨q, 0, none⟩) ∧ LineBox wx p (SM.av L j) (SM.sv L j) ∧ LineBox wx q (SM.av L (j + 1)) (SM.sv L (j + 1)) ∧ Below w.heap.size w wx)
      case first =>
        generalize SM.av L j = aa at *
        generalize SM.sv L j = ar at *
        generalize SM.av L (j + 1) = ba at *
        generalize SM.sv L (j + 1) = br at *
        have hBs := HB.out.size
        have hq0 : (ad.add (j * 2)).block < wr.heap.size := by rw [block_of_add] at *; exact ha'
        have hq1 : (ad.add ((j + 1) * 2)).block < wr.heap.size := by rw [block_of_add] at *; exact ha
        have hBB := HB.out
        go_region
        all_goals go_wp2_with fail
        all_goals go_meet
        all_goals exact ⟨_, _, rfl, rfl, ⟨by first | (simp; done) | (simp; omega), by simp [go_sem], by simp [go_sem]⟩, ⟨by first | (simp; done) | (simp; omega), by simp [go_sem], by simp [go_sem]⟩, by (repeat' (first | (with_reducible exact Below.refl _ _) | (with_reducible assumption) | (with_reducible apply Below.setCell) | (with_reducible apply Below.alloc) | (with_reducible apply Below.drew) | (with_reducible apply below_drewN) | (with_reducible refine Below.trans ?_ (Below.mono (by assumption) ?_)) | omega | (simp; done) | (simp; omega)))⟩
      case rest =>
        obtain ⟨p, q, rfl, rfl, ⟨hp, p0, p1⟩, ⟨hq, q0, q1⟩, hB2⟩ := hcut
        have HB2 := hidd hB2
        have hno : ¬ NrmAt L (j + 1) → ¬ Nrm L := fun h hn => h (hn.2 (j + 1) (by omega) hin)
        have HNO := hidd hno
        have hat : NrmAt L (j + 1) ↔ (SM.av L j < SM.av L (j + 1) ∧ SM.sv L (j + 1) < SM.sv L j) ∧ (1 ≤ j → (SM.av L j - SM.av L (j - 1)) * (SM.sv L j - SM.sv L (j + 1)) < (SM.av L (j + 1) - SM.av L j) * (SM.sv L (j - 1) - SM.sv L j)) := by
          unfold NrmAt
          rw [Nat.add_sub_cancel, show j + 1 - 2 = j - 1 by omega]
          constructor
          · exact fun h => ⟨h.1, fun h1 => h.2 (by omega)⟩
          · exact fun h => ⟨h.1, fun h1 => h.2 (by omega)⟩
        have HAT := hidd hat
        clear hB2 hno hat x0 x1 y0 y1 hj1 hj2
        by_cases h1 : SM.av L (j + 1) ≤ SM.av L j
        · have hnn := HNO.out (fun h => by have := (HAT.out.1 h).1.1; omega)
          have HNN := hidd hnn
          clear hnn
          generalize SM.av L j = aa at *
          generalize SM.av L (j + 1) = ba at *
          go_wp2_with fail
          go_ret
          exact ⟨false, rfl, ⟨fun h => absurd h Bool.false_ne_true, fun h => absurd h HNN.out⟩, HB2.out⟩
        · by_cases h2 : SM.sv L j ≤ SM.sv L (j + 1)
          · have hnn := HNO.out (fun h => by have := (HAT.out.1 h).1.2; omega)
            have HNN := hidd hnn
            clear hnn
            have h2d : decide (SM.sv L j ≤ SM.sv L (j + 1)) = true := decide_eq_true h2
            go_wp2_with fail
            go_ret
            exact ⟨false, rfl, ⟨fun h => absurd h Bool.false_ne_true, fun h => absurd h HNN.out⟩, HB2.out⟩
          · by_cases hj : j = 0
            · subst hj
              have hok : NrmAt L (0 + 1) := HAT.out.2 ⟨⟨by omega, by omega⟩, fun h => absurd h (by omega)⟩
              have HOK := hidd hok
              clear hok
              go_wp2_with fail
              have hg := HG.out
              go_roundg (gk - 1)
              case measure => omega
              case rel => exact ⟨0 + 1 + 1, by omega, by omega, by omega, by go_num, fun k k1 k2 k3 => by
                obtain rfl : k = 0 + 1 := by omega
                exact HOK.out, HB2.out⟩
            · obtain ⟨m, rfl⟩ : ∃ m, j = m + 1 := ⟨j - 1, by omega⟩
              obtain ⟨zd, e', hz, z0, z1⟩ := (HA.out.below HB2.out).send m (by omega)
              obtain rfl : ad = zd := by injection e'
              rw [(av_at (show m < L.length by omega)).1] at z0
              rw [(av_at (show m < L.length by omega)).2] at z1
              obtain ⟨⟨c00, c01⟩, c02, c03⟩ := HM.out m (by omega)
              have hok : NrmAt L (m + 1 + 1) ↔ ¬ ((SM.av L (m + 1 + 1) - SM.av L (m + 1)) * (SM.sv L m - SM.sv L (m + 1)) ≤ (SM.av L (m + 1) - SM.av L m) * (SM.sv L (m + 1) - SM.sv L (m + 1 + 1))) := by
                rw [HAT.out, Nat.add_sub_cancel]
                constructor
                · intro h; have := h.2 (by omega); omega
                · intro h; exact ⟨⟨by omega, by omega⟩, fun _ => by omega⟩
              have HOK := hidd hok
              have hi1 : (1 : Int) < ((m + 1 + 1 : Nat) : Int) := by omega
              have hj2 : IntKind.i64.wrap (((m + 1 + 1 : Nat) : Int) - 2) = (m : Int) := by rw [IntWalk.i64_in _ (by omega)]; omega
              have hj5 : (0 : Int) ≤ (m : Int) := by omega
              have hj6 : (m : Int) < (L.length : Int) := by omega
              clear e' hok
              generalize SM.av L (m + 1 + 1) = ba at *
              generalize SM.sv L (m + 1 + 1) = br at *
              generalize SM.av L (m + 1) = aa at *
              generalize SM.sv L (m + 1) = ar at *
              generalize SM.av L m = za at *
              generalize SM.sv L m = zr at *
              have f1 : wrap64 ((aa - za) * (ar - br)) = (aa - za) * (ar - br) := by
                have := prod_bd (x := aa - za) (y := ar - br) (by omega) (by omega) (by omega) (by omega)
                have e1 : IntKind.i64.wrap ((aa - za) * (ar - br)) = (aa - za) * (ar - br) := IntWalk.i64_in _ (by omega)
                conv => rhs; rw [← e1]
                simp [IntKind.wrap_i64, wrap64]
              have f2 : wrap64 ((ba - aa) * (zr - ar)) = (ba - aa) * (zr - ar) := by
                by_cases hz : zr - ar ≤ 2000000000
                · have := prod_bd (x := ba - aa) (y := zr - ar) (by omega) (by omega) (by omega) (by omega)
                  have e1 : IntKind.i64.wrap ((ba - aa) * (zr - ar)) = (ba - aa) * (zr - ar) := IntWalk.i64_in _ (by omega)
                  conv => rhs; rw [← e1]
                  simp [IntKind.wrap_i64, wrap64]
                · omega
              have F1 := hidd f1
              have F2 := hidd f2
              have hBs := HB2.out.size
              have hBB := HB2.out
              clear f1 f2
              go_wp2_with fail
              · rename_i hle
                rw [F1.out, F2.out] at hle
                have hnn := HNO.out (fun h => absurd (HOK.out.1 h) (by omega))
                have HNN := hidd hnn
                clear hnn
                go_ret
                exact ⟨false, rfl, ⟨fun h => absurd h Bool.false_ne_true, fun h => absurd h HNN.out⟩, by (repeat' (first | (with_reducible exact Below.refl _ _) | (with_reducible assumption) | (with_reducible apply Below.setCell) | (with_reducible apply Below.alloc) | (with_reducible apply Below.drew) | (with_reducible apply below_drewN) | (with_reducible refine Below.trans ?_ (Below.mono (by assumption) ?_)) | omega | (simp; done) | (simp; omega)))⟩
              · rename_i hlt
                rw [F1.out, F2.out] at hlt
                have hnn := HOK.out.2 hlt
                have HNN := hidd hnn
                clear hnn
                have hg := HG.out
                go_roundg (gk - 1)
                case measure => omega
                case rel => exact ⟨m + 1 + 1 + 1, by omega, by omega, by omega, by go_num, fun k k1 k2 k3 => by
                  by_cases hk : k = m + 1 + 1
                  · subst hk; exact HNN.out
                  · exact HS.out k k1 (by omega) k3, by (repeat' (first | (with_reducible exact Below.refl _ _) | (with_reducible assumption) | (with_reducible apply Below.setCell) | (with_reducible apply Below.alloc) | (with_reducible apply Below.drew) | (with_reducible apply below_drewN) | (with_reducible refine Below.trans ?_ (Below.mono (by assumption) ?_)) | omega | (simp; done) | (simp; omega)))⟩
    · have hin2 : ¬ (i : Int) < (L.length : Int) := by omega
      have hall : ∀ j, 1 ≤ j → j < L.length → NrmAt L j := fun j h1 h2 => HS.out j h1 (by omega) h2
      have HALL := hidd hall
      clear hall
      by_cases h0 : L.length = 0
      · have h01 : ¬ (0 : Int) < (L.length : Int) := by omega
        have h02 : ¬ 0 < L.length := by omega
        have HN : Hid (¬ Nrm L) := hidd (fun h => h02 h.1)
        go_wp2_with fail
        go_ret
        exact ⟨false, by first | rfl | simp [h0], ⟨fun h => absurd h Bool.false_ne_true, fun h => absurd h HN.out⟩, HB.out⟩
      · have h01 : (0 : Int) < (L.length : Int) := by omega
        have h02 : 0 < L.length := by omega
        have HN : Hid (Nrm L) := hidd ⟨h02, HALL.out⟩
        go_wp2_with fail
        go_ret
        exact ⟨true, by first | rfl | simp [h02], ⟨fun _ => HN.out, fun _ => rfl⟩, HB.out⟩
end Go.Proofs.Ytpgaklfgbioocaa
