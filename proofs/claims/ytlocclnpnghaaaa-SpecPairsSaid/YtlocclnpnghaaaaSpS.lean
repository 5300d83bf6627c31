/- The document's joint spec, its sum, and who is within whom. -/
import Derived.Test.YtlocclnpnghaaaaSpP
import Derived.StillTailTactics
namespace Go.Proofs.Ytlocclnpnghaaaa
open Go.RowKit RowK

theorem more_any (x y : Int) (w : World) : Calls Try.prog 37 #[.int .i64 x, .int .i64 y] w fun e w' => e = .returned (.int .i64 (mx x y)) ∧ w = w' := by
  have hw : mx x y = if y > x then y else x := rfl
  generalize mx x y = M at *
  have hv := hidd hw
  clear hw
  by_cases h : y < x
  all_goals
    go_enter Try.func37, Try.ntmps37
    go_wp2_with fail
    go_ret
    exact ⟨ret_int (by rw [hv.out]; split <;> omega), rfl⟩
theorem fewer_any (x y : Int) (w : World) : Calls Try.prog 38 #[.int .i64 x, .int .i64 y] w fun e w' => e = .returned (.int .i64 (mn x y)) ∧ w = w' := by
  have hw : mn x y = if y < x then y else x := rfl
  generalize mn x y = M at *
  have hv := hidd hw
  clear hw
  by_cases h : x < y
  all_goals
    go_enter Try.func38, Try.ntmps38
    go_wp2_with fail
    go_ret
    exact ⟨ret_int (by rw [hv.out]; split <;> omega), rfl⟩
set_option maxHeartbeats 4000000 in
theorem refJoint_any (A : Option Addr) (L : List Spc) (N c : Nat) (hn : L.length = N) (h1 : 1 ≤ N) (hm : N ≤ 1000000) (w : World) (hl : Lie specV 5 w w.heap.size A L) :
    Calls Try.prog 24 #[.slice A N c] w fun e w' => e = .returned (specA (acc jointV L (N - 1))) ∧ Below w.heap.size w w' := by
  have HL := hidd hl
  have HN := hidd hn
  clear hl hn
  have cm := hidd (fun x y W => more_any x y W)
  have cf := hidd (fun x y W => fewer_any x y W)
  obtain ⟨ad, rfl, hadb, x0, x1, x2, x3, x4⟩ := HL.out.spec 0 (by rw [HN.out]; omega)
  have ea : ad.add (0 * 5) = ad := rfl
  rw [ea] at hadb x0 x1 x2 x3 x4
  clear ea
  have h0 : (0 : Int) < (N : Int) := by omega
  go_enter Try.func24, Try.ntmps24
  go_wp2_with fail
  go_loopg [4] (N + 1) (fun g s4 wr => ∃ k : Nat, 1 ≤ k ∧ k ≤ N ∧ k + g = N + 2 ∧ s4 = .int .i64 (k : Int) ∧ Below w.heap.size w wr ∧ Box wr (w.heap.size + 1) (acc jointV L (k - 1)) ∧ Box wr w.heap.size (0, 0, 0, 0, 0))
  case atStart => exact ⟨1, by omega, by omega, by omega, rfl, by (repeat' (first | (with_reducible exact Below.refl _ _) | (with_reducible assumption) | (with_reducible apply Below.setCell) | (with_reducible apply Below.alloc) | (with_reducible apply Below.drew) | (with_reducible apply below_drewN) | (with_reducible refine Below.trans ?_ (Below.mono (by assumption) ?_)) | omega | (simp; done) | (simp; omega))), Box.new' (by simp) _ (spAt L 0), (Box.new' rfl _ (0, 0, 0, 0, 0)).past _⟩
  case round =>
    obtain ⟨k, hk1, hi, hk, rfl, hB, hX, hZ⟩ := hrel
    have HK := hidd hk
    have HB := hidd hB
    have hs := hB.size
    have HZ := hidd hZ
    clear hk hB x0 x1 x2 x3 x4 h0
    obtain ⟨⟨yz, y0, y1, y2, y3, y4⟩, f0, f1, f2, f3, f4⟩ := hX
    have hacc : Hid (∀ a b r, acc jointV L (k - 1) = a → spAt L k = b → jointV a b = r → acc jointV L k = r) := hidd (by
      obtain ⟨i, rfl⟩ : ∃ i, k = i + 1 := ⟨k - 1, by omega⟩
      rintro a b r rfl rfl rfl; rfl)
    generalize ga : acc jointV L (k - 1) = a at *
    have GA := hidd ga
    clear ga
    by_cases hlt : k < N
    · obtain ⟨ad', e', hb', x0, x1, x2, x3, x4⟩ := (HL.out.keep HB.out).spec k (by rw [HN.out]; omega)
      obtain rfl : ad = ad' := by injection e'
      generalize gb : spAt L k = b at *
      have GB := hidd gb
      have HX := hidd (⟨⟨yz, y0, y1, y2, y3, y4⟩, f0, f1, f2, f3, f4⟩ : Box wr (w.heap.size + 1) a)
      clear e' hZ gb
      go_wp2_with fail
      go_still_tail 41, (by kernel_rfl)
      still_call ((cm.out _ _ _).mono fun _ _ h => ⟨h.1, h.2.symm⟩)
      repeat still_step
      still_call ((cm.out _ _ _).mono fun _ _ h => ⟨h.1, h.2.symm⟩)
      repeat still_step
      still_call ((cm.out _ _ _).mono fun _ _ h => ⟨h.1, h.2.symm⟩)
      repeat still_step
      still_call ((cm.out _ _ _).mono fun _ _ h => ⟨h.1, h.2.symm⟩)
      repeat still_step
      still_call ((cf.out _ _ _).mono fun _ _ h => ⟨h.1, h.2.symm⟩)
      repeat still_step
      refine wpStill_nil ?_
      change wpList _ _ _ _ _ wr.drew
      have hr : jointV a b = (mx a.1 b.1, mx a.2.1 b.2.1, mx a.2.2.1 b.2.2.1, mx a.2.2.2.1 b.2.2.2.1, mn a.2.2.2.2 b.2.2.2.2) := rfl
      have hac := hacc.out a b _ (by first | rfl | exact GA.out) (by first | rfl | exact GB.out) hr
      have HAC := hidd hac
      clear hr hac x0 x1 x2 x3 x4
      generalize mx a.1 b.1 = r0 at *
      generalize mx a.2.1 b.2.1 = r1 at *
      generalize mx a.2.2.1 b.2.2.1 = r2 at *
      generalize mx a.2.2.2.1 b.2.2.2.1 = r3 at *
      generalize mn a.2.2.2.2 b.2.2.2.2 = r4 at *
      go_wp2_with fail
      have hk := HK.out
      go_roundg (gk - 1)
      case measure => omega
      case rel =>
        refine ⟨k + 1, by omega, by omega, by omega, by go_num, by have := HB.out; have := HB.out.size; (repeat' (first | (with_reducible exact Below.refl _ _) | (with_reducible assumption) | (with_reducible apply Below.setCell) | (with_reducible apply Below.alloc) | (with_reducible apply Below.drew) | (with_reducible apply below_drewN) | (with_reducible refine Below.trans ?_ (Below.mono (by assumption) ?_)) | omega | (simp; done) | (simp; omega))), ?_, ?_⟩
        · rw [Nat.add_sub_cancel, HAC.out]
          exact ⟨⟨by simpa using yz, by simp [go_sem, *], by simp [go_sem, *], by simp [go_sem, *], by simp [go_sem, *], by simp [go_sem, *]⟩, by simp [go_sem, *], by simp [go_sem, *], by simp [go_sem, *], by simp [go_sem, *], by simp [go_sem, *]⟩
        · obtain ⟨⟨uz, u0, u1, u2, u3, u4⟩, v0, v1, v2, v3, v4⟩ := HZ.out
          exact ⟨⟨by simpa using uz, by simp [go_sem, *], by simp [go_sem, *], by simp [go_sem, *], by simp [go_sem, *], by simp [go_sem, *]⟩, by simp [go_sem, *], by simp [go_sem, *], by simp [go_sem, *], by simp [go_sem, *], by simp [go_sem, *]⟩
    · obtain ⟨⟨uz, u0, u1, u2, u3, u4⟩, v0, v1, v2, v3, v4⟩ := hZ
      obtain rfl : k = N := by omega
      go_wp2_with fail
      refine bodyPost_ret (v := specA a) (by simp [results, Try.results24, go_sem, specA, *]) rfl ⟨by rw [GA.out], by have := HB.out; (repeat' (first | (with_reducible exact Below.refl _ _) | (with_reducible assumption) | (with_reducible apply Below.setCell) | (with_reducible apply Below.alloc) | (with_reducible apply Below.drew) | (with_reducible apply below_drewN) | (with_reducible refine Below.trans ?_ (Below.mono (by assumption) ?_)) | omega | (simp; done) | (simp; omega)))⟩
end Go.Proofs.Ytlocclnpnghaaaa
