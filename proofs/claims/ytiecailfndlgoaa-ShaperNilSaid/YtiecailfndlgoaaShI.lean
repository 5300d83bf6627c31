/- Shapers: what every law of the layer looks at besides; one that is not there. -/
import Derived.Test.YtiecailfndlgoaaShH
namespace Go.Proofs.Ytiecailfndlgoaa
open Go.RowKit Go.Sort
set_option linter.unusedVariables false
attribute [local go_sem] Oper.semAt_some
theorem some13_any (w : World) : Calls Try.prog 24 #[] w fun e w' => e = .returned (.agg #[.int .i64 10, .int .i64 2, .int .i64 20, .int .i64 8, .int .i64 1]) ∧ Below w.heap.size w w' := by
  go_enter Try.func24, Try.ntmps24
  go_wp2_with fail
  exact bodyPost_ret (v := .agg #[.int .i64 10, .int .i64 2, .int .i64 20, .int .i64 8, .int .i64 1]) (by simp [results, Try.results24, go_sem]) rfl ⟨rfl, by (repeat' (first | (with_reducible exact Below.refl _ _) | (with_reducible assumption) | (with_reducible apply Below.setCell) | (with_reducible apply Below.alloc) | (with_reducible apply Below.drew) | (with_reducible apply below_drewN) | (with_reducible refine Below.trans ?_ (Below.mono (by assumption) ?_)) | omega | (simp; done) | (simp; omega)))⟩
theorem goes_known : BM.Goes 10 2 20 8 1 (BM.step 10 2 20 8 1 (0, 20, 8) 0 0).1 0 [(1, 8), (2, 8)] 1 (0, 12, 0) := by
  refine ⟨by decide, by decide, fun i hi h => ?_, fun h => by decide +revert⟩
  obtain rfl : i = 0 := by omega
  decide +revert
theorem when_known13 : BM.IsWhen 10 2 20 8 (0, 12, 0) 0 8 1 := by
  refine ⟨by decide, by decide, by decide, fun k h0 h1 => ?_⟩
  obtain rfl : k = 0 := by omega
  decide
section
variable {w w' : World} {h g b : Nat} {v v' : Value}
/-- what a shaper's blocks are worth behind a change: they are its own, or new. -/
theorem Sav.low {S : Nat → Prop} {B : Nat} (hs : Sav S w w') (hB : B ≤ w.heap.size) (h : ∀ j, S j → B ≤ j) : Below B w w' := hs.below hB h
end
set_option maxRecDepth 100000 in
set_option maxHeartbeats 8000000 in
theorem known13_any (w : World) : Calls Try.prog 9 #[] w fun e w' => e = .returned (.bool true) ∧ Below w.heap.size w w' := by
  have cs := hidd (fun W => some13_any W)
  have cn := hidd (fun W => shNew_yes 10 2 20 8 1 20 (by decide) W)
  have cP := hidd (fun W h g b v s L i z (H : ShAt W h g b v 10 2 20 8 1 s 20 L) hi hz hr => put_ok (w := W) H (i := i) (z := z) hi hz hr)
  have cR := hidd (fun W h g b v s L i z (H : ShAt W h g b v 10 2 20 8 1 s 20 L) hi hz hr => put_room (w := W) H (i := i) (z := z) hi hz hr)
  have cG := hidd (fun W h g b v s L n (H : ShAt W h g b v 10 2 20 8 1 s 20 L) hn => go_yes (w := W) H n hn)
  have cX := hidd (fun W h g b v s L x t (H : ShAt W h g b v 10 2 20 8 1 s 20 (x :: L)) (ht : BM.IsWhen 10 2 20 8 s s.1 x.2 t) => next_some (w := W) H ht)
  have cB := hidd (fun W h g b v s L (H : ShAt W h g b v 10 2 20 8 1 s 20 L) => bytes_any (w := W) H)
  unfold GoEnd at cG
  go_enter Try.func9, Try.ntmps9
  go_wp2_with fail
  refine (cs.out _).mono ?_
  rintro e w1 ⟨rfl, hb1⟩
  go_wp2_with fail
  refine (cn.out _).mono ?_
  rintro e w2 ⟨h, g, b, rfl, l1, l2, l3, hH, hb2⟩
  have HH := hidd hH
  have hw := hb1.size
  have N0 : Hid (∀ j, ShBlk h g b (.slice none 0 0) j → w.heap.size ≤ j) := hidd (fun j hj => by
    rcases hj with rfl | rfl | rfl | e
    · omega
    · omega
    · omega
    · cases e)
  have B2 := hidd (below_step hb1 hb2)
  clear hb1 hb2 hH l1 l2 l3 hw
  go_wp2_with fail
  refine (cP.out _ _ _ _ _ _ _ 1 8 HH.out (by omega) (by decide) (by decide)).mono ?_
  rintro e w3 ⟨rfl, v3, hH, hs, hn⟩
  have H3 := hidd hH
  have B3 := hidd (B2.out.trans (hs.below B2.out.size N0.out))
  have N3 : Hid (∀ j, ShBlk h g b v3 j → w.heap.size ≤ j) := hidd (fun j hj => by
    rcases Nat.lt_or_ge j w2.heap.size with q | q
    · exact N0.out j (hn j q hj)
    · have := B2.out.size; omega)
  clear hH hs hn
  go_wp2_with fail
  refine (cP.out _ _ _ _ _ _ _ 2 8 H3.out (by omega) (by decide) (by decide)).mono ?_
  rintro e w4 ⟨rfl, v4, hH, hs, hn⟩
  have H4 := hidd hH
  have B4 := hidd (B3.out.trans (hs.below B3.out.size N3.out))
  have N4 : Hid (∀ j, ShBlk h g b v4 j → w.heap.size ≤ j) := hidd (fun j hj => by
    rcases Nat.lt_or_ge j w3.heap.size with q | q
    · exact N3.out j (hn j q hj)
    · have := B3.out.size; omega)
  clear hH hs hn
  go_wp2_with fail
  refine (cR.out _ _ _ _ _ _ _ 3 5 H4.out (by omega) (by decide) (by decide)).mono ?_
  rintro e w5 ⟨rfl, hb5⟩
  have H5 := hidd (H4.out.below hb5)
  have B5 := hidd (below_step B4.out hb5)
  clear hb5
  go_wp2_with fail
  refine (cG.out _ _ _ _ _ _ _ 0 H5.out (by decide)).mono ?_
  rintro e w6 ⟨k, s', A2, c2, v2, rfl, hg, hH, ho, hq, hqn, hs⟩
  obtain ⟨rfl, rfl⟩ := hg.uniq goes_known
  have H6 := hidd hH
  have B6 := hidd (B5.out.trans (hs.below B5.out.size N4.out))
  obtain ⟨A3, c3, e3, _, _, hl⟩ := hq.lie
  cases e3
  obtain ⟨ad, rfl, ha, x0, x1⟩ := hl.send 0 (by decide)
  rw [Nat.zero_mul] at x0
  have e0 : ad.add 0 = ad := rfl
  rw [e0] at x0
  have X0 : Hid (w6.cell? ad = some (.int .i64 1)) := hidd x0
  have AL := hidd ha
  clear hH hs hq hqn hg hl x0 x1 ho ha
  go_wp2_with fail
  refine (cX.out _ _ _ _ _ _ [] (2, 8) 1 H6.out when_known13).mono ?_
  rintro e w7 ⟨rfl, hb7⟩
  have H7 := hidd (H6.out.below hb7)
  have B7 := hidd (below_step B6.out hb7)
  have x0 := (hb7.cell AL.out).trans X0.out
  clear hb7
  go_wp2_with fail
  refine (cB.out _ _ _ _ _ _ _ H7.out).mono ?_
  rintro e w8 ⟨rfl, rfl⟩
  go_wp2_with fail
  go_ret
  exact ⟨rfl, B7.out⟩
theorem go_nil (n : Int) (w : World) : Calls Try.prog 16 #[.pointer none, .int .i64 n] w fun e w' => e = .returned (.tuple #[.slice none 0 0, .int .i64 1]) ∧ Below w.heap.size w w' := by
  have c := hidd (fun W => shNone_nil W)
  go_enter Try.func16, Try.ntmps16
  go_wp2_with fail
  refine wp_scope_straight ?_
  go_wp2_with fail
  refine (c.out _).mono ?_
  rintro e w' ⟨rfl, rfl⟩
  go_wp2_with fail
  (try rw [Exit.noGoto_ret])
  go_ret2
  exact ⟨rfl, by (repeat' (first | (with_reducible exact Below.refl _ _) | (with_reducible assumption) | (with_reducible apply Below.setCell) | (with_reducible apply Below.alloc) | (with_reducible apply Below.drew) | (with_reducible apply below_drewN) | (with_reducible refine Below.trans ?_ (Below.mono (by assumption) ?_)) | omega | (simp; done) | (simp; omega)))⟩
section
variable {w : World} {h : Nat}
theorem next_zero (hz : PtrAt w h none) : Calls Try.prog 19 #[.pointer (some ⟨h, 0, none⟩)] w fun e w' => e = .returned (.tuple #[.int .i64 0, .bool false]) ∧ w = w' := by
  have c := hidd (shNone_zero hz)
  clear hz
  go_enter Try.func19, Try.ntmps19
  go_wp2_with fail
  refine c.out.mono ?_
  rintro e w' ⟨rfl, rfl⟩
  go_wp2_with fail
  go_ret2
  exact ⟨rfl, rfl⟩
theorem bytes_nil (w : World) : Calls Try.prog 20 #[.pointer none] w fun e w' => e = .returned (.int .i64 0) ∧ w = w' := by
  have c := hidd (fun W => shNone_nil W)
  go_enter Try.func20, Try.ntmps20
  go_wp2_with fail
  refine (c.out _).mono ?_
  rintro e w' ⟨rfl, rfl⟩
  go_wp2_with fail
  go_ret
  exact ⟨rfl, rfl⟩
theorem bytes_zero (hz : PtrAt w h none) : Calls Try.prog 20 #[.pointer (some ⟨h, 0, none⟩)] w fun e w' => e = .returned (.int .i64 0) ∧ w = w' := by
  have c := hidd (shNone_zero hz)
  clear hz
  go_enter Try.func20, Try.ntmps20
  go_wp2_with fail
  refine c.out.mono ?_
  rintro e w' ⟨rfl, rfl⟩
  go_wp2_with fail
  go_ret
  exact ⟨rfl, rfl⟩
theorem copy_nil (w : World) : Calls Try.prog 21 #[.pointer none] w fun e w' => e = .returned (.pointer none) ∧ w = w' := by
  have c := hidd (fun W => shNone_nil W)
  go_enter Try.func21, Try.ntmps21
  go_wp2_with fail
  refine (c.out _).mono ?_
  rintro e w' ⟨rfl, rfl⟩
  go_wp2_with fail
  go_ret
  exact ⟨rfl, rfl⟩
theorem same_none (hz : PtrAt w h none) : Calls Try.prog 22 #[.pointer none, .pointer (some ⟨h, 0, none⟩)] w fun e w' => e = .returned (.bool true) ∧ w = w' := by
  have c := hidd (fun W => shNone_nil W)
  have c2 := hidd (shNone_zero hz)
  clear hz
  go_enter Try.func22, Try.ntmps22
  go_wp2_with fail
  refine (c.out _).mono ?_
  rintro e w' ⟨rfl, rfl⟩
  go_wp2_with fail
  refine (c.out _).mono ?_
  rintro e w' ⟨rfl, rfl⟩
  go_wp2_with fail
  refine c2.out.mono ?_
  rintro e w' ⟨rfl, rfl⟩
  go_wp2_with fail
  go_ret
  exact ⟨rfl, rfl⟩
theorem all_zero (hz : PtrAt w h none) : Calls Try.prog 23 #[.pointer (some ⟨h, 0, none⟩)] w fun e w' => e = .returned (.func (.func 57) #[] #[.pointer (some ⟨w.heap.size, 0, none⟩)]) ∧ w' = w.alloc (.cells #[.slice none 0 0] 33) := by
  have c := hidd (shNone_zero hz)
  have cv := hidd (fun A n c W => waitVals_any A n c W)
  clear hz
  go_enter Try.func23, Try.ntmps23
  go_wp2_with fail
  refine c.out.mono ?_
  rintro e w' ⟨rfl, rfl⟩
  go_wp2_with fail
  refine (cv.out _ _ _ _).mono ?_
  rintro e w' ⟨rfl, rfl⟩
  go_wp2_with fail
  go_ret
  exact ⟨rfl, rfl⟩
theorem spec_zero (hz : PtrAt w h none) : Calls Try.prog 14 #[.pointer (some ⟨h, 0, none⟩)] w fun e w' => e = .returned (.agg #[.int .i64 0, .int .i64 0, .int .i64 0, .int .i64 0, .int .i64 0]) ∧ Below w.heap.size w w' := by
  have hlt : h < w.heap.size := World.block_lt_of_cell? w _ hz
  have B1 := hidd (show Below w.heap.size w (w.alloc (.cells #[.int .i64 0, .int .i64 0, .int .i64 0, .int .i64 0, .int .i64 0] 23)) from by (repeat' (first | (with_reducible exact Below.refl _ _) | (with_reducible assumption) | (with_reducible apply Below.setCell) | (with_reducible apply Below.alloc) | (with_reducible apply Below.drew) | (with_reducible apply below_drewN) | (with_reducible refine Below.trans ?_ (Below.mono (by assumption) ?_)) | omega | (simp; done) | (simp; omega))))
  have c := hidd (shNone_zero (w := w.alloc (.cells #[.int .i64 0, .int .i64 0, .int .i64 0, .int .i64 0, .int .i64 0] 23)) ((B1.out.cell (p := ⟨h, 0, none⟩) hlt).trans hz))
  clear hz
  go_enter Try.func14, Try.ntmps14
  go_wp2_with fail
  refine c.out.mono ?_
  rintro e w' ⟨rfl, rfl⟩
  go_wp2_with fail
  exact bodyPost_ret (v := .agg #[.int .i64 0, .int .i64 0, .int .i64 0, .int .i64 0, .int .i64 0]) (by simp [results, Try.results14, go_sem]) rfl ⟨rfl, by (repeat' (first | (with_reducible exact Below.refl _ _) | (with_reducible assumption) | (with_reducible apply Below.setCell) | (with_reducible apply Below.alloc) | (with_reducible apply Below.drew) | (with_reducible apply below_drewN) | (with_reducible refine Below.trans ?_ (Below.mono (by assumption) ?_)) | omega | (simp; done) | (simp; omega)))⟩
end
end Go.Proofs.Ytiecailfndlgoaa
