/- The document's sum of some specs; who is within whom. -/
import Derived.Test.YtlocclnpnghaaaaSpS
namespace Go.Proofs.Ytlocclnpnghaaaa
open Go.RowKit RowK

def refSumR (L : List Spc) (N : Nat) : Spc × Bool := if rightS (acc sumV L (N - 1)) = true then (acc sumV L (N - 1), true) else (z5, false)
set_option maxHeartbeats 4000000 in
theorem refSum_any (A : Option Addr) (L : List Spc) (N c : Nat) (hn : L.length = N) (h1 : 1 ≤ N) (hm : N ≤ 1000000) (w : World) (hl : Lie specV 5 w w.heap.size A L) :
    Calls Try.prog 23 #[.slice A N c] w fun e w' => e = .returned (.tuple #[specA (refSumR L N).1, .bool (refSumR L N).2]) ∧ Below w.heap.size w w' := by
  have HL := hidd hl
  have HN := hidd hn
  clear hl hn
  have cm := hidd (fun x y W => more_any x y W)
  have cf := hidd (fun x y W => fewer_any x y W)
  obtain ⟨ad, rfl, hadb, x0, x1, x2, x3, x4⟩ := HL.out.spec 0 (by rw [HN.out]; omega)
  have ea : ad.add (0 * 5) = ad := rfl
  rw [ea] at hadb x0 x1 x2 x3 x4
  clear ea
  have h0 : (0 : Int) < (N : Int) := by omega
  go_enter Try.func23, Try.ntmps23
  go_wp2_with fail
  go_loopg [5] (N + 1) (fun g s4 wr => ∃ k : Nat, 1 ≤ k ∧ k ≤ N ∧ k + g = N + 2 ∧ s4 = .int .i64 (k : Int) ∧ Below w.heap.size w wr ∧ Box wr (w.heap.size + 1) (acc sumV L (k - 1)) ∧ Box wr w.heap.size (0, 0, 0, 0, 0))
  case atStart => exact ⟨1, by omega, by omega, by omega, rfl, by (repeat' (first | (with_reducible exact Below.refl _ _) | (with_reducible assumption) | (with_reducible apply Below.setCell) | (with_reducible apply Below.alloc) | (with_reducible apply Below.drew) | (with_reducible apply below_drewN) | (with_reducible refine Below.trans ?_ (Below.mono (by assumption) ?_)) | omega | (simp; done) | (simp; omega))), Box.new' (by simp) _ (spAt L 0), (Box.new' rfl _ (0, 0, 0, 0, 0)).past _⟩
  case round =>
    obtain ⟨k, hk1, hi, hk, rfl, hB, hX, hZ⟩ := hrel
    have HK := hidd hk
    have HB := hidd hB
    have hs := hB.size
    have HZ := hidd hZ
    clear hk hB x0 x1 x2 x3 x4 h0
    obtain ⟨⟨yz, y0, y1, y2, y3, y4⟩, f0, f1, f2, f3, f4⟩ := hX
    have hacc : Hid (∀ a b r, acc sumV L (k - 1) = a → spAt L k = b → sumV a b = r → acc sumV L k = r) := hidd (by
      obtain ⟨i, rfl⟩ : ∃ i, k = i + 1 := ⟨k - 1, by omega⟩
      rintro a b r rfl rfl rfl; rfl)
    generalize ga : acc sumV L (k - 1) = a at *
    have GA := hidd ga
    clear ga
    by_cases hlt : k < N
    · obtain ⟨ad', e', hb', x0, x1, x2, x3, x4⟩ := (HL.out.keep HB.out).spec k (by rw [HN.out]; omega)
      obtain rfl : ad = ad' := by injection e'
      generalize gb : spAt L k = b at *
      have GB := hidd gb
      have HX := hidd (⟨⟨yz, y0, y1, y2, y3, y4⟩, f0, f1, f2, f3, f4⟩ : Box wr (w.heap.size + 1) a)
      clear e' hZ gb
      go_wp2_with fail
      go_still_tail 41, (by kernel_rfl)
      still_call ((cm.out _ _ _).mono fun _ _ h => ⟨h.1, h.2.symm⟩)
      repeat still_step
      still_call ((cf.out _ _ _).mono fun _ _ h => ⟨h.1, h.2.symm⟩)
      repeat still_step
      refine wpStill_nil ?_
      change wpList _ _ _ _ _ wr.drew
      have hr : sumV a b = (wrap64 (a.1 + b.1), wrap64 (a.2.1 + b.2.1), wrap64 (a.2.2.1 + b.2.2.1), mx a.2.2.2.1 b.2.2.2.1, mn a.2.2.2.2 b.2.2.2.2) := rfl
      have hac := hacc.out a b _ (by first | rfl | exact GA.out) (by first | rfl | exact GB.out) hr
      have HAC := hidd hac
      clear hr hac x0 x1 x2 x3 x4
      generalize gr0 : wrap64 (a.1 + b.1) = r0 at *
      generalize gr1 : wrap64 (a.2.1 + b.2.1) = r1 at *
      generalize gr2 : wrap64 (a.2.2.1 + b.2.2.1) = r2 at *
      generalize mx a.2.2.2.1 b.2.2.2.1 = r3 at *
      generalize mn a.2.2.2.2 b.2.2.2.2 = r4 at *
      go_wp2_with fail
      have hk := HK.out
      go_roundg (gk - 1)
      case measure => omega
      case rel =>
        refine ⟨k + 1, by omega, by omega, by omega, by go_num, by have := HB.out; have := HB.out.size; (repeat' (first | (with_reducible exact Below.refl _ _) | (with_reducible assumption) | (with_reducible apply Below.setCell) | (with_reducible apply Below.alloc) | (with_reducible apply Below.drew) | (with_reducible apply below_drewN) | (with_reducible refine Below.trans ?_ (Below.mono (by assumption) ?_)) | omega | (simp; done) | (simp; omega))), ?_, ?_⟩
        · rw [Nat.add_sub_cancel, HAC.out]
          exact ⟨⟨by simpa using yz, by simp [go_sem, *], by simp [go_sem, *], by simp [go_sem, *], by simp [go_sem, *], by simp [go_sem, *]⟩, by simp [go_sem, *], by simp [go_sem, *], by simp [go_sem, *], by simp [go_sem, *], by simp [go_sem, *]⟩
        · obtain ⟨⟨uz, u0, u1, u2, u3, u4⟩, v0, v1, v2, v3, v4⟩ := HZ.out
          exact ⟨⟨by simpa using uz, by simp [go_sem, *], by simp [go_sem, *], by simp [go_sem, *], by simp [go_sem, *], by simp [go_sem, *]⟩, by simp [go_sem, *], by simp [go_sem, *], by simp [go_sem, *], by simp [go_sem, *], by simp [go_sem, *]⟩
    · obtain ⟨⟨uz, u0, u1, u2, u3, u4⟩, v0, v1, v2, v3, v4⟩ := hZ
      obtain rfl : k = N := by omega
      have hR : refSumR L k = if rightS a = true then (a, true) else (z5, false) := by
        unfold refSumR; rw [GA.out]
      have cr := hidd (fun W => right_any a.1 a.2.1 a.2.2.1 a.2.2.2.1 a.2.2.2.2 W)
      unfold rightS at hR
      have HZ2 := hidd (⟨⟨uz, u0, u1, u2, u3, u4⟩, v0, v1, v2, v3, v4⟩ : Box wr w.heap.size (0, 0, 0, 0, 0))
      have HY2 := hidd (⟨⟨yz, y0, y1, y2, y3, y4⟩, f0, f1, f2, f3, f4⟩ : Box wr (w.heap.size + 1) a)
      generalize rightB a.1 a.2.1 a.2.2.1 a.2.2.2.1 a.2.2.2.2 = b at *
      have HRR := hidd hR
      clear hR
      cases b
      · have HE : Hid (refSumR L k = (z5, false)) := hidd (by rw [HRR.out]; rfl)
        go_wp2_with fail
        refine (cr.out _).mono ?_
        rintro e w1 ⟨rfl, hb1⟩
        obtain ⟨⟨uz, u0, u1, u2, u3, u4⟩, v0, v1, v2, v3, v4⟩ := (show Box wr w.heap.size (0, 0, 0, 0, 0) from HZ2.out).step hb1
        have hB1 := below_step HB.out hb1
        have HB1 := hidd hB1
        clear hB1
        go_wp2_with fail
        refine bodyPost_ret (v := .tuple #[specA z5, .bool false]) (by simp [results, Try.results23, go_sem, specA, z5, *]) rfl ⟨by rw [HE.out], by have := HB1.out; (repeat' (first | (with_reducible exact Below.refl _ _) | (with_reducible assumption) | (with_reducible apply Below.setCell) | (with_reducible apply Below.alloc) | (with_reducible apply Below.drew) | (with_reducible apply below_drewN) | (with_reducible refine Below.trans ?_ (Below.mono (by assumption) ?_)) | omega | (simp; done) | (simp; omega)))⟩
      · have HE : Hid (refSumR L k = (a, true)) := hidd (by rw [HRR.out]; rfl)
        go_wp2_with fail
        refine (cr.out _).mono ?_
        rintro e w1 ⟨rfl, hb1⟩
        obtain ⟨⟨uz, u0, u1, u2, u3, u4⟩, v0, v1, v2, v3, v4⟩ := (show Box wr w.heap.size (0, 0, 0, 0, 0) from HZ2.out).step hb1
        obtain ⟨⟨yz, y0, y1, y2, y3, y4⟩, f0, f1, f2, f3, f4⟩ := (show Box wr (w.heap.size + 1) a from HY2.out).step hb1
        have hB1 := below_step HB.out hb1
        have HB1 := hidd hB1
        clear hB1
        go_wp2_with fail
        refine bodyPost_ret (v := .tuple #[specA a, .bool true]) (by simp [results, Try.results23, go_sem, specA, *]) rfl ⟨by rw [HE.out], by have := HB1.out; (repeat' (first | (with_reducible exact Below.refl _ _) | (with_reducible assumption) | (with_reducible apply Below.setCell) | (with_reducible apply Below.alloc) | (with_reducible apply Below.drew) | (with_reducible apply below_drewN) | (with_reducible refine Below.trans ?_ (Below.mono (by assumption) ?_)) | omega | (simp; done) | (simp; omega)))⟩
def refWithinB (a b : Spc) : Bool := decide (a.1 ≤ b.1 ∧ a.2.1 ≤ b.2.1 ∧ a.2.2.1 ≤ b.2.2.1 ∧ a.2.2.2.1 ≤ b.2.2.2.1 ∧ b.2.2.2.2 ≤ a.2.2.2.2)
set_option maxHeartbeats 2000000 in
theorem refWithin_any (a b : Spc) (w : World) : Calls Try.prog 20 #[specA a, specA b] w fun e w' => e = .returned (.bool (refWithinB a b)) ∧ Below w.heap.size w w' := by
  obtain ⟨a0, a1, a2, a3, a4⟩ := a
  obtain ⟨b0, b1, b2, b3, b4⟩ := b
  unfold specA
  have hb : refWithinB (a0, a1, a2, a3, a4) (b0, b1, b2, b3, b4) = decide (a0 ≤ b0 ∧ a1 ≤ b1 ∧ a2 ≤ b2 ∧ a3 ≤ b3 ∧ b4 ≤ a4) := rfl
  generalize refWithinB (a0, a1, a2, a3, a4) (b0, b1, b2, b3, b4) = R at *
  have HB := hidd hb
  clear hb
  go_enter Try.func20, Try.ntmps20
  go_wp2_with fail
  all_goals go_ret
  all_goals (refine ⟨ret_bool ?_, by (repeat' (first | (with_reducible exact Below.refl _ _) | (with_reducible assumption) | (with_reducible apply Below.setCell) | (with_reducible apply Below.alloc) | (with_reducible apply Below.drew) | (with_reducible apply below_drewN) | (with_reducible refine Below.trans ?_ (Below.mono (by assumption) ?_)) | omega | (simp; done) | (simp; omega)))⟩; rw [HB.out]; first | (simp [*]; done) | (simp [*]; omega))
end Go.Proofs.Ytlocclnpnghaaaa
