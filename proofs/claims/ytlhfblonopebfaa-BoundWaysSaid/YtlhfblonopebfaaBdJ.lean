/- The document's terms of a way; the walk of BoundWays. -/
import Derived.Test.YtlhfblonopebfaaBdI
import Derived.BigQuiet
namespace Go.Proofs.Ytlhfblonopebfaa
set_option linter.unusedVariables false
open Go.RowKit

set_option maxRecDepth 100000 in
set_option maxHeartbeats 4000000 in
theorem refWay_any (A : Option Addr) (l : List (Int × Int)) (c : Nat) (hm : l.length ≤ 1000) (w : World) (hl : LiesO w A l) :
    Calls Try.prog 20 #[.slice A l.length c] w fun e w' => e = .returned (pairOf (wayR l)) ∧ Below w.heap.size w w' := by
  have HL := hidd hl
  obtain ⟨R, hR⟩ : ∃ R, wayR l = R := ⟨_, rfl⟩
  have HR := hidd hR
  rw [hR]
  obtain ⟨R1, R2, R3⟩ := R
  unfold pairOf
  dsimp only
  have cR := hidd (fun c d W => refTerms_any c d W)
  clear hl hR
  go_enter Try.func20, Try.ntmps20
  go_wp2_with fail
  go_loopg [4] (l.length + 1) (fun g s4 wr => ∃ i : Nat, i ≤ l.length ∧ i + g = l.length + 1 ∧ s4 = .int .i64 (i : Int) ∧ allT (l.take i) = true ∧ Below w.heap.size w wr ∧ GBox wr w.heap.size 0 0)
  case atStart => exact ⟨0, by omega, by omega, by first | rfl | simp, rfl, by (repeat' (first | (with_reducible exact Below.refl _ _) | (with_reducible assumption) | (with_reducible apply Below.setCell) | (with_reducible apply Below.alloc) | (with_reducible apply Below.drew) | (with_reducible apply below_drewN) | (with_reducible refine Below.trans ?_ (Below.mono (by assumption) ?_)) | omega | (simp; done) | (simp; omega))), GBox.new rfl _ 0 0⟩
  case round =>
    obtain ⟨i, hi1, hg, rfl, ha, hB, hZ⟩ := hrel
    have HG := hidd hg
    have HA := hidd ha
    have HB := hidd hB
    have HZ := hidd hZ
    clear hg ha hB hZ
    by_cases hlt : i < l.length
    · obtain ⟨ad, rfl, hbs, hll⟩ := (HL.out.below HB.out) (by omega)
      obtain ⟨p0, p1⟩ := hll i hlt
      have hin2 : (i : Int) < (l.length : Int) := by omega
      have hi0 : (0 : Int) ≤ (i : Int) := by omega
      have HTK := hidd (allT_step hlt)
      have HAL := hidd (allT_no hlt)
      have cr := hidd (cR.out (l[i]'hlt).1 (l[i]'hlt).2)
      generalize (l[i]'hlt).1 = N at *
      generalize (l[i]'hlt).2 = D at *
      generalize termsB N D = P at *
      clear hll
      cases P
      · have hr := hidd (HAL.out rfl)
        go_wp2_with fail
        refine (cr.out _).mono ?_
        rintro e w1 ⟨rfl, hb1⟩
        have HB1 := hidd (below_step HB.out hb1)
        obtain ⟨g0, g1, g2, g3, g4⟩ := HZ.out.step hb1
        clear hb1 p0 p1
        obtain ⟨rfl, rfl, rfl⟩ : R1 = 0 ∧ R2 = 0 ∧ R3 = 2 := by
          have := HR.out
          unfold wayR at this
          rw [hr.out] at this
          simp at this
          omega
        go_wp2_with fail
        exact bodyPost_ret (v := .tuple #[.agg #[.int .i64 0, .int .i64 0], .int .i64 2]) (by simp [results, Try.results20, go_sem, *]) rfl ⟨rfl, by have := HB1.out; (repeat' (first | (with_reducible exact Below.refl _ _) | (with_reducible assumption) | (with_reducible apply Below.setCell) | (with_reducible apply Below.alloc) | (with_reducible apply Below.drew) | (with_reducible apply below_drewN) | (with_reducible refine Below.trans ?_ (Below.mono (by assumption) ?_)) | omega | (simp; done) | (simp; omega)))⟩
      · go_wp2_with fail
        refine (cr.out _).mono ?_
        rintro e w1 ⟨rfl, hb1⟩
        have HB1 := hidd (below_step HB.out hb1)
        have HZ1 := hidd (HZ.out.step hb1)
        clear hb1
        go_wp2_with fail
        have hg := HG.out
        go_roundg (gk - 1)
        case measure => omega
        case rel => exact ⟨i + 1, by omega, by omega, by go_num, by rw [HTK.out, HA.out]; rfl, HB1.out, HZ1.out⟩
    · obtain rfl : i = l.length := by omega
      have hal : allT l = true := by have := HA.out; rwa [List.take_length] at this
      have HAA := hidd hal
      have HR2 := hidd (show (if termsB (sumC l) (sumD l) then (sumC l, sumD l, 0) else (0, 0, 3)) = (R1, R2, R3) by have := HR.out; unfold wayR at this; rwa [hal, if_pos rfl] at this)
      clear hal HR HA HG
      go_wp2_with fail
      go_loopg [5, 6, 7] (l.length + 1) (fun g s5 s6 s7 wr => ∃ (i : Nat) (C D : Int), i ≤ l.length ∧ i + g = l.length + 1 ∧ s7 = .int .i64 (i : Int) ∧ s5 = .int .i64 C ∧ s6 = .int .i64 D ∧ (C = sumC (l.take i) ∧ D = sumD (l.take i)) ∧ ((0 ≤ C ∧ C ≤ i * 10000000) ∧ 0 ≤ D ∧ D ≤ i * 1000000) ∧ Below w.heap.size w wr ∧ GBox wr w.heap.size 0 0)
      case atStart => exact ⟨0, 0, 0, by omega, by omega, by first | rfl | simp, by first | rfl | simp, by first | rfl | simp, ⟨rfl, rfl⟩, by omega, HB.out, HZ.out⟩
      case round =>
        clear HB HZ
        obtain ⟨i, C, D, hi1, hg, rfl, rfl, rfl, hCD, ⟨⟨hC0, hC1⟩, hD0, hD1⟩, hB, hZ⟩ := hrel
        have HG := hidd hg
        have HCD := hidd hCD
        have HB := hidd hB
        have HZ := hidd hZ
        clear hg hCD hB hZ
        by_cases hlt : i < l.length
        · obtain ⟨ad, rfl, hbs, hll⟩ := (HL.out.below HB.out) (by omega)
          obtain ⟨p0, p1⟩ := hll i hlt
          obtain ⟨⟨t0, t1⟩, t2, t3⟩ := allT_at HAA.out hlt
          have hst := hidd (sum_step hlt)
          have hin2 : (i : Int) < (l.length : Int) := by omega
          have hi0 : (0 : Int) ≤ (i : Int) := by omega
          generalize (l[i]'hlt).1 = u at *
          generalize (l[i]'hlt).2 = v at *
          have e1 : IntKind.i64.wrap (C + u) = C + u := IntWalk.i64_in _ (by omega)
          have e2 : IntKind.i64.wrap (D + v) = D + v := IntWalk.i64_in _ (by omega)
          clear hll
          go_wp2_with fail
          go_quiet (fail)
          go_wp2_with fail
          have hg := HG.out
          have hZ := HZ.out
          go_roundg (gk - 1)
          case measure => omega
          case rel => exact ⟨i + 1, C + u, D + v, by omega, by omega, by go_num, rfl, rfl, ⟨by rw [hst.out.1, HCD.out.1], by rw [hst.out.2, HCD.out.2]⟩, by omega, by have := HB.out; (repeat' (first | (with_reducible exact Below.refl _ _) | (with_reducible assumption) | (with_reducible apply Below.setCell) | (with_reducible apply Below.alloc) | (with_reducible apply Below.drew) | (with_reducible apply below_drewN) | (with_reducible refine Below.trans ?_ (Below.mono (by assumption) ?_)) | omega | (simp; done) | (simp; omega))), hZ.step (by (repeat' (first | (with_reducible exact Below.refl _ _) | (with_reducible assumption) | (with_reducible apply Below.setCell) | (with_reducible apply Below.alloc) | (with_reducible apply Below.drew) | (with_reducible apply below_drewN) | (with_reducible refine Below.trans ?_ (Below.mono (by assumption) ?_)) | omega | (simp; done) | (simp; omega))))⟩
        · obtain rfl : i = l.length := by omega
          obtain ⟨zz, z0, z1, z2, z3⟩ := HZ.out
          have hE := hidd (show C = sumC l ∧ D = sumD l by have := HCD.out; rwa [List.take_length] at this)
          have cr := hidd (cR.out C D)
          have hRR := HR2.out
          rw [← hE.out.1, ← hE.out.2] at hRR
          generalize termsB C D = P at *
          clear HCD cR HR2
          cases P
          · obtain ⟨rfl, rfl, rfl⟩ : R1 = 0 ∧ R2 = 0 ∧ R3 = 3 := by simp at hRR; omega
            clear hRR
            go_wp2_with fail
            refine (cr.out _).mono ?_
            rintro e w1 ⟨rfl, hb1⟩
            have HB1 := hidd (below_step HB.out hb1)
            obtain ⟨g0, g1, g2, g3, g4⟩ := HZ.out.step hb1
            clear hb1 z0 z1 z2 z3
            go_wp2_with fail
            exact bodyPost_ret (v := .tuple #[.agg #[.int .i64 0, .int .i64 0], .int .i64 3]) (by simp [results, Try.results20, go_sem, *]) rfl ⟨rfl, by have := HB1.out; (repeat' (first | (with_reducible exact Below.refl _ _) | (with_reducible assumption) | (with_reducible apply Below.setCell) | (with_reducible apply Below.alloc) | (with_reducible apply Below.drew) | (with_reducible apply below_drewN) | (with_reducible refine Below.trans ?_ (Below.mono (by assumption) ?_)) | omega | (simp; done) | (simp; omega)))⟩
          · obtain ⟨rfl, rfl, rfl⟩ : C = R1 ∧ D = R2 ∧ R3 = 0 := by simp at hRR; omega
            clear hRR
            go_wp2_with fail
            refine (cr.out _).mono ?_
            rintro e w1 ⟨rfl, hb1⟩
            have HB1 := hidd (below_step HB.out hb1)
            obtain ⟨g0, g1, g2, g3, g4⟩ := HZ.out.step hb1
            clear hb1 z0 z1 z2 z3
            go_wp2_with fail
            exact bodyPost_ret (v := .tuple #[.agg #[.int .i64 C, .int .i64 D], .int .i64 0]) (by simp [results, Try.results20, go_sem, *]) rfl ⟨rfl, by have := HB1.out; (repeat' (first | (with_reducible exact Below.refl _ _) | (with_reducible assumption) | (with_reducible apply Below.setCell) | (with_reducible apply Below.alloc) | (with_reducible apply Below.drew) | (with_reducible apply below_drewN) | (with_reducible refine Below.trans ?_ (Below.mono (by assumption) ?_)) | omega | (simp; done) | (simp; omega)))⟩
end Go.Proofs.Ytlhfblonopebfaa
