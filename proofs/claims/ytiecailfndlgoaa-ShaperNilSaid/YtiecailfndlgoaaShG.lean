/- Shapers: Put. -/
import Derived.Test.YtiecailfndlgoaaShF
import Derived.Deep.RegionHeld3
namespace Go.Proofs.Ytiecailfndlgoaa
open Go.RowKit Go.Sort
set_option linter.unusedVariables false
section
variable {w : World} {h g b : Nat} {v : Value} {p r u m l : Int} {s : BM.St} {room : Int} {L : List (Int × Int)}
theorem put_nil (i z : Int) (w : World) : Calls Try.prog 15 #[.pointer none, .agg #[.int .i64 i, .int .i64 z]] w fun e w' => e = .returned (.int .i64 1) ∧ Below w.heap.size w w' := by
  have c := hidd (fun W => shNone_nil W)
  go_enter Try.func15, Try.ntmps15
  go_wp2_with fail
  refine (c.out _).mono ?_
  rintro e w' ⟨rfl, rfl⟩
  go_wp2_with fail
  go_ret
  exact ⟨rfl, by (repeat' (first | (with_reducible exact Below.refl _ _) | (with_reducible assumption) | (with_reducible apply Below.setCell) | (with_reducible apply Below.alloc) | (with_reducible apply Below.drew) | (with_reducible apply below_drewN) | (with_reducible refine Below.trans ?_ (Below.mono (by assumption) ?_)) | omega | (simp; done) | (simp; omega)))⟩
theorem put_zero (i z : Int) (w : World) (hz : PtrAt w h none) : Calls Try.prog 15 #[.pointer (some ⟨h, 0, none⟩), .agg #[.int .i64 i, .int .i64 z]] w fun e w' => e = .returned (.int .i64 1) ∧ Below w.heap.size w w' := by
  have hlt : h < w.heap.size := World.block_lt_of_cell? w _ hz
  have B1 := hidd (show Below w.heap.size w (w.alloc (.cells #[.int .i64 i, .int .i64 z] 41)) from by (repeat' (first | (with_reducible exact Below.refl _ _) | (with_reducible assumption) | (with_reducible apply Below.setCell) | (with_reducible apply Below.alloc) | (with_reducible apply Below.drew) | (with_reducible apply below_drewN) | (with_reducible refine Below.trans ?_ (Below.mono (by assumption) ?_)) | omega | (simp; done) | (simp; omega))))
  have c := hidd (shNone_zero (w := w.alloc (.cells #[.int .i64 i, .int .i64 z] 41)) ((B1.out.cell (p := ⟨h, 0, none⟩) hlt).trans hz))
  clear hz
  go_enter Try.func15, Try.ntmps15
  go_wp2_with fail
  refine c.out.mono ?_
  rintro e w' ⟨rfl, rfl⟩
  go_wp2_with fail
  go_ret
  exact ⟨rfl, B1.out⟩
/-- what Put answers. -/
def putE (m l room : Int) (L : List (Int × Int)) (i z : Int) : Int := if i < 0 ∨ 4611686018427387904 < i then 2 else if BM.sizeB m l z then (if room < sumB L + z then 230 else 0) else 220
set_option maxHeartbeats 4000000 in
theorem put_arg (H : ShAt w h g b v p r u m l s room L) {i : Int} (hi : i < 0 ∨ 4611686018427387904 < i) (z : Int) : Calls Try.prog 15 #[.pointer (some ⟨h, 0, none⟩), .agg #[.int .i64 i, .int .i64 z]] w fun e w' => e = .returned (.int .i64 2) ∧ Below w.heap.size w w' := by
  have B1 := hidd (show Below w.heap.size w (w.alloc (.cells #[.int .i64 i, .int .i64 z] 41)) from by (repeat' (first | (with_reducible exact Below.refl _ _) | (with_reducible assumption) | (with_reducible apply Below.setCell) | (with_reducible apply Below.alloc) | (with_reducible apply Below.drew) | (with_reducible apply below_drewN) | (with_reducible refine Below.trans ?_ (Below.mono (by assumption) ?_)) | omega | (simp; done) | (simp; omega))))
  have c := hidd (shNone_yes (H.below B1.out).h0)
  have ca := hidd (fun k c b1 b2 W => isAny2 k c b1 b2 W)
  clear H
  obtain ⟨D0, hD0⟩ : ∃ D : Bool, decide (i < 0) = D := ⟨_, rfl⟩
  obtain ⟨D1, hD1⟩ : ∃ D : Bool, decide (4611686018427387904 < i) = D := ⟨_, rfl⟩
  have hor : Hid ((D0 || D1) = true) := hidd (by rw [← hD0, ← hD1]; rcases hi with q | q <;> simp [q])
  clear hi
  go_enter Try.func15, Try.ntmps15
  go_wp2_with fail
  refine c.out.mono ?_
  rintro e w' ⟨rfl, rfl⟩
  go_wp2_with fail
  refine (ca.out _ _ D0 D1 _ (by simp [go_sem]) (by simp [go_sem])).mono ?_
  rintro e w2 ⟨rfl, rfl⟩
  rw [hor.out]
  go_wp2_with fail
  go_ret
  exact ⟨rfl, below_new B1.out _⟩
set_option maxHeartbeats 4000000 in
theorem put_size (H : ShAt w h g b v p r u m l s room L) {i : Int} (hi : 0 ≤ i ∧ i ≤ 4611686018427387904) {z : Int} (hz : BM.sizeB m l z = false) : Calls Try.prog 15 #[.pointer (some ⟨h, 0, none⟩), .agg #[.int .i64 i, .int .i64 z]] w fun e w' => e = .returned (.int .i64 220) ∧ Below w.heap.size w w' := by
  have hi0 : decide (i < 0) = false := decide_eq_false (by omega)
  have hi1 : decide (4611686018427387904 < i) = false := decide_eq_false (by omega)
  have B1 := hidd (show Below w.heap.size w (w.alloc (.cells #[.int .i64 i, .int .i64 z] 41)) from by (repeat' (first | (with_reducible exact Below.refl _ _) | (with_reducible assumption) | (with_reducible apply Below.setCell) | (with_reducible apply Below.alloc) | (with_reducible apply Below.drew) | (with_reducible apply below_drewN) | (with_reducible refine Below.trans ?_ (Below.mono (by assumption) ?_)) | omega | (simp; done) | (simp; omega))))
  have c := hidd (shNone_yes (H.below B1.out).h0)
  have ca := hidd (fun k c b1 b2 W => isAny2 k c b1 b2 W)
  have HH := hidd H
  clear hi H
  go_enter Try.func15, Try.ntmps15
  go_wp2_with fail
  refine c.out.mono ?_
  rintro e w' ⟨rfl, rfl⟩
  go_wp2_with fail
  refine (ca.out _ _ false false _ (by simp [go_sem]) (by simp [go_sem])).mono ?_
  rintro e w2 ⟨rfl, rfl⟩
  rw [show (false || false) = false from rfl]
  obtain ⟨W1, hW1⟩ : ∃ W1, (w.alloc (.cells #[.int .i64 i, .int .i64 z] 41)).alloc (.cells #[.bool false, .bool false] 4) = W1 := ⟨_, rfl⟩
  have B2 := hidd (show Below w.heap.size w W1 from by rw [← hW1]; (repeat' (first | (with_reducible exact Below.refl _ _) | (with_reducible assumption) | (with_reducible apply Below.setCell) | (with_reducible apply Below.alloc) | (with_reducible apply Below.drew) | (with_reducible apply below_drewN) | (with_reducible refine Below.trans ?_ (Below.mono (by assumption) ?_)) | omega | (simp; done) | (simp; omega))))
  have x0 : W1.cell? ⟨w.heap.size, 0, none⟩ = some (.int .i64 i) := by rw [← hW1]; simp [go_sem]
  have x1 : W1.cell? ⟨w.heap.size, 1, none⟩ = some (.int .i64 z) := by rw [← hW1]; simp [go_sem]
  have xl : w.heap.size < W1.heap.size := by rw [← hW1]; simp; omega
  (try rw [hi0])
  (try rw [hi1])
  rw [hW1]
  clear hW1 hi0 hi1 ca c B1
  have H1 := hidd (HH.out.below B2.out)
  have h0 := H1.out.h0
  have g0 := H1.out.g0
  have cS := hidd (fun d os => (Calls.regrown_of (checkSize_any (H1.out.bk.below (below_regrown W1 d os)) (cell_regrown g0 d os) H1.out.rt H1.out.ok z) : Calls Try.prog 33 #[.pointer (some ⟨g, 0, none⟩), .int .i64 z] (grow (redrawn W1 d) os) fun e w'' => e = .returned (.int .i64 (if BM.sizeB m l z then 0 else 220)) ∧ ∃ q : Regrown, w'' = grow (redrawn W1 q.d) q.os))
  have h0q := cell_regrown h0
  have x1q := cell_regrown x1
  rw [hz] at cS
  have cS2 := cS.out
  simp only [Bool.false_eq_true, if_false] at cS2
  clear hz cS
  go_wp2_with fail
  refine wp_region_quiet_below (by kernel_rfl) (by kernel_rfl) ?_
  repeat (quiet_step (exact cS2 _ _))
  refine wpQuiet_nil ?_
  intro _ hw'
  obtain ⟨⟨dq, osq⟩, hw''⟩ := hw'
  subst hw''
  go_wp2_with fail
  go_ret
  exact ⟨rfl, below_step B2.out (below_regrown W1 dq osq)⟩
set_option maxHeartbeats 4000000 in
theorem put_room (H : ShAt w h g b v p r u m l s room L) {i : Int} (hi : 0 ≤ i ∧ i ≤ 4611686018427387904) {z : Int} (hz : BM.sizeB m l z = true) (hr : room < sumB L + z) : Calls Try.prog 15 #[.pointer (some ⟨h, 0, none⟩), .agg #[.int .i64 i, .int .i64 z]] w fun e w' => e = .returned (.int .i64 230) ∧ Below w.heap.size w w' := by
  have hi0 : decide (i < 0) = false := decide_eq_false (by omega)
  have hi1 : decide (4611686018427387904 < i) = false := decide_eq_false (by omega)
  have B1 := hidd (show Below w.heap.size w (w.alloc (.cells #[.int .i64 i, .int .i64 z] 41)) from by (repeat' (first | (with_reducible exact Below.refl _ _) | (with_reducible assumption) | (with_reducible apply Below.setCell) | (with_reducible apply Below.alloc) | (with_reducible apply Below.drew) | (with_reducible apply below_drewN) | (with_reducible refine Below.trans ?_ (Below.mono (by assumption) ?_)) | omega | (simp; done) | (simp; omega))))
  have c := hidd (shNone_yes (H.below B1.out).h0)
  have ca := hidd (fun k c b1 b2 W => isAny2 k c b1 b2 W)
  have HH := hidd H
  clear hi H
  go_enter Try.func15, Try.ntmps15
  go_wp2_with fail
  refine c.out.mono ?_
  rintro e w' ⟨rfl, rfl⟩
  go_wp2_with fail
  refine (ca.out _ _ false false _ (by simp [go_sem]) (by simp [go_sem])).mono ?_
  rintro e w2 ⟨rfl, rfl⟩
  rw [show (false || false) = false from rfl]
  obtain ⟨W1, hW1⟩ : ∃ W1, (w.alloc (.cells #[.int .i64 i, .int .i64 z] 41)).alloc (.cells #[.bool false, .bool false] 4) = W1 := ⟨_, rfl⟩
  have B2 := hidd (show Below w.heap.size w W1 from by rw [← hW1]; (repeat' (first | (with_reducible exact Below.refl _ _) | (with_reducible assumption) | (with_reducible apply Below.setCell) | (with_reducible apply Below.alloc) | (with_reducible apply Below.drew) | (with_reducible apply below_drewN) | (with_reducible refine Below.trans ?_ (Below.mono (by assumption) ?_)) | omega | (simp; done) | (simp; omega))))
  have x0 : W1.cell? ⟨w.heap.size, 0, none⟩ = some (.int .i64 i) := by rw [← hW1]; simp [go_sem]
  have x1 : W1.cell? ⟨w.heap.size, 1, none⟩ = some (.int .i64 z) := by rw [← hW1]; simp [go_sem]
  have xl : w.heap.size < W1.heap.size := by rw [← hW1]; simp; omega
  (try rw [hi0])
  (try rw [hi1])
  rw [hW1]
  clear hW1 hi0 hi1 ca c B1
  have H1 := hidd (HH.out.below B2.out)
  have h0 := H1.out.h0
  have g0 := H1.out.g0
  have cS := hidd (fun d os => (Calls.regrown_of (checkSize_any (H1.out.bk.below (below_regrown W1 d os)) (cell_regrown g0 d os) H1.out.rt H1.out.ok z) : Calls Try.prog 33 #[.pointer (some ⟨g, 0, none⟩), .int .i64 z] (grow (redrawn W1 d) os) fun e w'' => e = .returned (.int .i64 (if BM.sizeB m l z then 0 else 220)) ∧ ∃ q : Regrown, w'' = grow (redrawn W1 q.d) q.os))
  have h0q := cell_regrown h0
  have x1q := cell_regrown x1
  rw [hz] at cS
  have cS2 := cS.out
  simp only [if_true] at cS2
  clear cS
  go_wp2_with fail
  refine wp_region_quiet_below (by kernel_rfl) (by kernel_rfl) ?_
  repeat (quiet_step (exact cS2 _ _))
  refine wpQuiet_nil ?_
  intro _ hw'
  obtain ⟨⟨dq, osq⟩, hw''⟩ := hw'
  subst hw''
  obtain ⟨W2, hW2⟩ : ∃ W2, grow (redrawn W1 dq) osq = W2 := ⟨_, rfl⟩
  have b2 : Below W1.heap.size W1 W2 := by rw [← hW2]; exact below_regrown W1 dq osq
  rw [hW2]
  have B3 := hidd (below_step B2.out b2)
  have H2 := hidd (H1.out.below b2)
  have h0 := H2.out.h0
  have g2 := H2.out.g2
  have g3 := H2.out.g3
  have x0 := (b2.cell (p := ⟨w.heap.size, 0, none⟩) xl).trans x0
  have x1 := (b2.cell (p := ⟨w.heap.size, 1, none⟩) xl).trans x1
  have xl := Nat.lt_of_lt_of_le xl b2.size
  clear hW2 b2 H1 g0 h0q x1q cS2 B2
  have hbs := H2.out.sm
  have hb0 : 0 ≤ sumB L := Int.le_trans (by omega) (H2.out.sz.sum (by have := rightB_iff H2.out.rt; omega))
  have hr0 := H2.out.r0
  have hr1 := H2.out.r1
  have ew : IntKind.i64.wrap (room - sumB L) = room - sumB L := IntWalk.i64_in _ (by omega)
  have hgt : room - sumB L < z := by omega
  clear hz hr hbs hb0 hr0 hr1
  generalize sumB L = B0 at *
  go_wp2_with fail
  go_quiet (fail)
  go_wp2_with fail
  go_ret
  exact ⟨rfl, below_drewN B3.out _⟩
/-- a shaper with one more that waits, as the program lays it: the slice first, the bytes then. -/
theorem put_fin {W W4 w4 : World} {X : Nat} {i z : Int} {v' : Value} (H : ShAt W h g b v p r u m l s room L) (b4 : Below W.heap.size W W4) (hX : X < W.heap.size) (nX : ¬ ShBlk h g b v X)
    (x0 : W.cell? ⟨X, 0, none⟩ = some (.int .i64 i)) (x1 : W.cell? ⟨X, 1, none⟩ = some (.int .i64 z)) (hz : l ≤ z ∧ z ≤ m) (hr : sumB L + z ≤ room)
    (hq : QL w4 v' (L ++ [(i, z)])) (hgr : W4.grownBy w4 v.ownBlock) (hor : v'.ownBlock = v.ownBlock ∨ ∃ q, v'.ownBlock = some q ∧ W4.heap.size ≤ q) :
    (w4.cell? ⟨g, 1, none⟩ = some v ∧ w4.frozen? ⟨g, 1, none⟩ = false) ∧
    ((w4.setCell ⟨g, 1, none⟩ v').cell? ⟨h, 0, none⟩ = some (.pointer (some ⟨g, 0, none⟩)) ∧ (w4.setCell ⟨g, 1, none⟩ v').cell? ⟨X, 0, none⟩ = some (.int .i64 i) ∧ (w4.setCell ⟨g, 1, none⟩ v').cell? ⟨X, 1, none⟩ = some (.int .i64 z)) ∧ ((w4.setCell ⟨g, 1, none⟩ v').cell? ⟨g, 2, none⟩ = some (.int .i64 (sumB L)) ∧ (w4.setCell ⟨g, 1, none⟩ v').frozen? ⟨g, 2, none⟩ = false) ∧ (((w4.setCell ⟨g, 1, none⟩ v').drew.setCell ⟨g, 2, none⟩ (.int .i64 (sumB L + z))).cell? ⟨h, 0, none⟩ = some (.pointer (some ⟨g, 0, none⟩)) ∧ ((w4.setCell ⟨g, 1, none⟩ v').drew.setCell ⟨g, 2, none⟩ (.int .i64 (sumB L + z))).cell? ⟨X, 0, none⟩ = some (.int .i64 i) ∧ ((w4.setCell ⟨g, 1, none⟩ v').drew.setCell ⟨g, 2, none⟩ (.int .i64 (sumB L + z))).cell? ⟨X, 1, none⟩ = some (.int .i64 z)) ∧
    (ShAt ((w4.setCell ⟨g, 1, none⟩ v').drew.setCell ⟨g, 2, none⟩ (.int .i64 (sumB L + z))) h g b v' p r u m l s room (L ++ [(i, z)]) ∧ Sav (ShBlk h g b v) W ((w4.setCell ⟨g, 1, none⟩ v').drew.setCell ⟨g, 2, none⟩ (.int .i64 (sumB L + z))) ∧ ∀ k, k < W.heap.size → ShBlk h g b v' k → ShBlk h g b v k) := by
  have hlt := H.hlt
  have glt := H.glt
  have blt := H.blt
  have bl : ∀ k, k < W.heap.size → v.ownBlock ≠ some k → w4.heap[k]? = W.heap[k]? := fun k hk hn => (hgr.block k (Nat.lt_of_lt_of_le hk b4.size) (fun e => hn e.symm)).trans (b4.block k hk)
  have nv : ∀ k, k < W.heap.size → v.ownBlock ≠ some k → v'.ownBlock ≠ some k := fun k hk hn e => by
    rcases hor with q | ⟨q, e2, h2⟩
    · exact hn (q.symm.trans e)
    · rw [e2] at e; cases e; have := b4.size; omega
  have vX : v.ownBlock ≠ some X := fun e => nX (.inr (.inr (.inr e)))
  have Xg : X ≠ g := fun e => nX (.inr (.inl e))
  have cg := fun o => World.cell?_of_block (w := W) (w' := w4) (a := ⟨g, o, none⟩) (bl g glt H.vg)
  have fg := fun o => World.frozen?_of_block (w := W) (w' := w4) (a := ⟨g, o, none⟩) (bl g glt H.vg)
  have ch := fun o => World.cell?_of_block (w := W) (w' := w4) (a := ⟨h, o, none⟩) (bl h hlt H.vh)
  have cX := fun o => World.cell?_of_block (w := W) (w' := w4) (a := ⟨X, o, none⟩) (bl X hX vX)
  have h0 := (ch 0).trans H.h0
  have g0 := (cg 0).trans H.g0
  have g1 := (cg 1).trans H.g1
  have g2 := (cg 2).trans H.g2
  have g3 := (cg 3).trans H.g3
  have e1 := (fg 1).trans H.e1
  have e2 := (fg 2).trans H.e2
  have y0 := (cX 0).trans x0
  have y1 := (cX 1).trans x1
  have hg := H.hg
  have oth : ∀ k, k ≠ g → ((w4.setCell ⟨g, 1, none⟩ v').drew.setCell ⟨g, 2, none⟩ (.int .i64 (sumB L + z))).heap[k]? = w4.heap[k]? := fun k hk =>
    (Below.heap_setCell (w4.setCell ⟨g, 1, none⟩ v').drew ⟨g, 2, none⟩ _ _ (fun e => hk e)).trans (Below.heap_setCell w4 ⟨g, 1, none⟩ _ _ (fun e => hk e))
  have hsz : w4.heap.size ≤ ((w4.setCell ⟨g, 1, none⟩ v').drew.setCell ⟨g, 2, none⟩ (.int .i64 (sumB L + z))).heap.size := by simp [World.setCell, World.drew]
  have hw4 : W.heap.size ≤ w4.heap.size := Nat.le_trans b4.size hgr.size
  refine ⟨⟨g1, e1⟩, ⟨?_, ?_, ?_⟩, ⟨?_, ?_⟩, ⟨?_, ?_, ?_⟩, ⟨H.bk.of ((oth b (fun e => H.gb e.symm)).trans (bl b blt H.vb)) (Nat.le_trans hw4 hsz), hq.keep (fun k e => oth k (fun e2 => by subst e2; exact nv _ glt H.vg e)) hsz, ?_, ?_, ?_, ?_, ?_, ?_, ?_, H.hg, H.hb, H.gb, nv h hlt H.vh, nv g glt H.vg, nv b blt H.vb, H.rt, H.ok, H.sz.snoc hz, H.r0, H.r1, by rw [sumB_snoc]; exact hr⟩,
    ⟨(hgr.os.trans b4.os), (hgr.tape.trans b4.tape), (hgr.output.trans b4.output), Nat.le_trans hw4 hsz, fun k hk hn => (oth k (fun e => hn (.inr (.inl e)))).trans (bl k hk (fun e => hn (.inr (.inr (.inr e)))))⟩, fun k hk hb => ?_⟩
  · simp [go_sem, h0]
  · simp [go_sem, y0]
  · simp [go_sem, y1]
  · simp [go_sem, g2]
  · simp [go_sem, e2]
  · simp [go_sem, h0]
  · simp [go_sem, y0]
  · simp [go_sem, y1]
  · simp [go_sem, h0]
  · simp [go_sem, g0]
  · simp [go_sem, g1]
  · simp [go_sem, g2, sumB_snoc]
  · simp [go_sem, g3]
  · simp [go_sem, e1]
  · simp [go_sem, e2]
  · rcases hb with q | q | q | q
    · exact .inl q
    · exact .inr (.inl q)
    · exact .inr (.inr (.inl q))
    · rcases hor with e | ⟨q2, e, h2⟩
      · exact .inr (.inr (.inr (e.symm.trans q)))
      · rw [e] at q; cases q; have := b4.size; omega
set_option maxRecDepth 100000 in
set_option maxHeartbeats 8000000 in
theorem put_ok (H : ShAt w h g b v p r u m l s room L) {i : Int} (hi : 0 ≤ i ∧ i ≤ 4611686018427387904) {z : Int} (hz : BM.sizeB m l z = true) (hr : ¬ room < sumB L + z) : Calls Try.prog 15 #[.pointer (some ⟨h, 0, none⟩), .agg #[.int .i64 i, .int .i64 z]] w fun e w' => e = .returned (.int .i64 0) ∧ ∃ v', ShAt w' h g b v' p r u m l s room (L ++ [(i, z)]) ∧ Sav (ShBlk h g b v) w w' ∧ (∀ k, k < w.heap.size → ShBlk h g b v' k → ShBlk h g b v k) := by
  have hi0 : decide (i < 0) = false := decide_eq_false (by omega)
  have hi1 : decide (4611686018427387904 < i) = false := decide_eq_false (by omega)
  have B1 := hidd (show Below w.heap.size w (w.alloc (.cells #[.int .i64 i, .int .i64 z] 41)) from by (repeat' (first | (with_reducible exact Below.refl _ _) | (with_reducible assumption) | (with_reducible apply Below.setCell) | (with_reducible apply Below.alloc) | (with_reducible apply Below.drew) | (with_reducible apply below_drewN) | (with_reducible refine Below.trans ?_ (Below.mono (by assumption) ?_)) | omega | (simp; done) | (simp; omega))))
  have c := hidd (shNone_yes (H.below B1.out).h0)
  have ca := hidd (fun k c b1 b2 W => isAny2 k c b1 b2 W)
  have HH := hidd H
  clear hi H
  go_enter Try.func15, Try.ntmps15
  go_wp2_with fail
  refine c.out.mono ?_
  rintro e w' ⟨rfl, rfl⟩
  go_wp2_with fail
  refine (ca.out _ _ false false _ (by simp [go_sem]) (by simp [go_sem])).mono ?_
  rintro e w2 ⟨rfl, rfl⟩
  rw [show (false || false) = false from rfl]
  obtain ⟨W1, hW1⟩ : ∃ W1, (w.alloc (.cells #[.int .i64 i, .int .i64 z] 41)).alloc (.cells #[.bool false, .bool false] 4) = W1 := ⟨_, rfl⟩
  have B2 := hidd (show Below w.heap.size w W1 from by rw [← hW1]; (repeat' (first | (with_reducible exact Below.refl _ _) | (with_reducible assumption) | (with_reducible apply Below.setCell) | (with_reducible apply Below.alloc) | (with_reducible apply Below.drew) | (with_reducible apply below_drewN) | (with_reducible refine Below.trans ?_ (Below.mono (by assumption) ?_)) | omega | (simp; done) | (simp; omega))))
  have x0 : W1.cell? ⟨w.heap.size, 0, none⟩ = some (.int .i64 i) := by rw [← hW1]; simp [go_sem]
  have x1 : W1.cell? ⟨w.heap.size, 1, none⟩ = some (.int .i64 z) := by rw [← hW1]; simp [go_sem]
  have xl : w.heap.size < W1.heap.size := by rw [← hW1]; simp; omega
  (try rw [hi0])
  (try rw [hi1])
  rw [hW1]
  clear hW1 hi0 hi1 ca c B1
  have H1 := hidd (HH.out.below B2.out)
  have h0 := H1.out.h0
  have g0 := H1.out.g0
  have cS := hidd (fun d os => (Calls.regrown_of (checkSize_any (H1.out.bk.below (below_regrown W1 d os)) (cell_regrown g0 d os) H1.out.rt H1.out.ok z) : Calls Try.prog 33 #[.pointer (some ⟨g, 0, none⟩), .int .i64 z] (grow (redrawn W1 d) os) fun e w'' => e = .returned (.int .i64 (if BM.sizeB m l z then 0 else 220)) ∧ ∃ q : Regrown, w'' = grow (redrawn W1 q.d) q.os))
  have h0q := cell_regrown h0
  have x1q := cell_regrown x1
  rw [hz] at cS
  have cS2 := cS.out
  simp only [if_true] at cS2
  clear cS
  go_wp2_with fail
  refine wp_region_quiet_below (by kernel_rfl) (by kernel_rfl) ?_
  repeat (quiet_step (exact cS2 _ _))
  refine wpQuiet_nil ?_
  intro _ hw'
  obtain ⟨⟨dq, osq⟩, hw''⟩ := hw'
  subst hw''
  obtain ⟨W2, hW2⟩ : ∃ W2, grow (redrawn W1 dq) osq = W2 := ⟨_, rfl⟩
  have b2 : Below W1.heap.size W1 W2 := by rw [← hW2]; exact below_regrown W1 dq osq
  rw [hW2]
  have B3 := hidd (below_step B2.out b2)
  have H2 := hidd (H1.out.below b2)
  have h0 := H2.out.h0
  have g2 := H2.out.g2
  have g3 := H2.out.g3
  have x0 := (b2.cell (p := ⟨w.heap.size, 0, none⟩) xl).trans x0
  have x1 := (b2.cell (p := ⟨w.heap.size, 1, none⟩) xl).trans x1
  have xl := Nat.lt_of_lt_of_le xl b2.size
  clear hW2 b2 H1 g0 h0q x1q cS2 B2
  have hbs := H2.out.sm
  have hb0 : 0 ≤ sumB L := Int.le_trans (by omega) (H2.out.sz.sum (by have := rightB_iff H2.out.rt; omega))
  have hr0 := H2.out.r0
  have hr1 := H2.out.r1
  have ew : IntKind.i64.wrap (room - sumB L) = room - sumB L := IntWalk.i64_in _ (by omega)
  have hgt : ¬ room - sumB L < z := by omega
  have hzz := hidd (of_decide_eq_true hz)
  have HWD : Hid (sumB L + z ≤ room) := hidd (by omega)
  have ew2 : IntKind.i64.wrap (sumB L + z) = sumB L + z := IntWalk.i64_in _ (by have := rightB_iff H2.out.rt; have := hzz.out; omega)
  have NX : Hid (¬ ShBlk h g b v w.heap.size) := hidd (fun q => by have := HH.out.lt q; omega)
  clear hz hr hbs hb0 hr0 hr1
  go_wp2_with fail
  go_quiet (fail)
  obtain ⟨W3, hW3⟩ : ∃ W3, W2.drewN nq = W3 := ⟨_, rfl⟩
  have b3 : Below W2.heap.size W2 W3 := by rw [← hW3]; exact below_drewN (Below.refl _ _) _
  rw [hW3]
  go_wp2_with fail
  obtain ⟨WA, hWA⟩ : ∃ WA, W3.drew = WA := ⟨_, rfl⟩
  have b4 : Below W2.heap.size W2 WA := by rw [← hWA]; exact Below.drew b3
  have HA := hidd (H2.out.below b4)
  have hSA : Hid (WA.cell? ⟨h, 0, none⟩ = some (.pointer (some ⟨g, 0, none⟩)) ∧ WA.cell? ⟨w.heap.size, 0, none⟩ = some (.int .i64 i) ∧ WA.cell? ⟨w.heap.size, 1, none⟩ = some (.int .i64 z)) := hidd ⟨HA.out.h0, (b4.cell (p := ⟨w.heap.size, 0, none⟩) xl).trans x0, (b4.cell (p := ⟨w.heap.size, 1, none⟩) xl).trans x1⟩
  have hXA := hidd (Nat.lt_of_lt_of_le xl b4.size)
  have B4 := hidd (below_step B3.out b4)
  have HBB : Hid (Below WA.heap.size WA (WA.alloc (.cells #[.int .i64 i, .int .i64 z] 41))) := hidd (below_new (Below.refl _ _) _)
  have HSB : Hid ((WA.alloc (.cells #[.int .i64 i, .int .i64 z] 41)).cell? ⟨g, 1, none⟩ = some v ∧ (WA.alloc (.cells #[.int .i64 i, .int .i64 z] 41)).cell? ⟨h, 0, none⟩ = some (.pointer (some ⟨g, 0, none⟩)) ∧ (WA.alloc (.cells #[.int .i64 i, .int .i64 z] 41)).cell? ⟨w.heap.size, 0, none⟩ = some (.int .i64 i) ∧ (WA.alloc (.cells #[.int .i64 i, .int .i64 z] 41)).cell? ⟨w.heap.size, 1, none⟩ = some (.int .i64 z)) := hidd ⟨(HBB.out.cell (p := ⟨g, 1, none⟩) HA.out.glt).trans HA.out.g1, (HBB.out.cell (p := ⟨h, 0, none⟩) HA.out.hlt).trans hSA.out.1, (HBB.out.cell (p := ⟨w.heap.size, 0, none⟩) hXA.out).trans hSA.out.2.1, (HBB.out.cell (p := ⟨w.heap.size, 1, none⟩) hXA.out).trans hSA.out.2.2⟩
  have HQB := hidd (HA.out.q.below HBB.out)
  have hLL : Hid (L.length ≤ 1000000000) := hidd (by have := HA.out.len; omega)
  have NEW : Hid (∀ j u, (sendV (i, z))[j]? = some u → (WA.alloc (.cells #[.int .i64 i, .int .i64 z] 41)).cell? ((⟨WA.heap.size, 0, none⟩ : Addr).add j) = some u) := hidd (fun j u hj => by
    rw [Addr.add_lit]
    match j, hj with
    | 0, hj => simp [sendV] at hj; subst hj; simp [go_sem]
    | 1, hj => simp [sendV] at hj; subst hj; simp [go_sem])
  have SV : Hid (∀ w4, (WA.alloc (.cells #[.int .i64 i, .int .i64 z] 41)).grownBy w4 v.ownBlock → w4.cell? ⟨h, 0, none⟩ = some (.pointer (some ⟨g, 0, none⟩)) ∧ w4.cell? ⟨w.heap.size, 0, none⟩ = some (.int .i64 i) ∧ w4.cell? ⟨w.heap.size, 1, none⟩ = some (.int .i64 z)) := hidd (fun w4 hg => by
    have k : ∀ k o, k < WA.heap.size → v.ownBlock ≠ some k → w4.cell? ⟨k, o, none⟩ = (WA.alloc (.cells #[.int .i64 i, .int .i64 z] 41)).cell? ⟨k, o, none⟩ := fun k o hk hn => World.cell?_of_block (hg.block k (Nat.lt_of_lt_of_le hk HBB.out.size) (fun e => hn e.symm))
    exact ⟨(k h 0 HA.out.hlt HA.out.vh).trans HSB.out.2.1, (k _ 0 hXA.out (fun e => NX.out (.inr (.inr (.inr e))))).trans HSB.out.2.2.1, (k _ 1 hXA.out (fun e => NX.out (.inr (.inr (.inr e))))).trans HSB.out.2.2.2⟩)
  clear b3 b4 hW3 x0 x1 xl h0 g2 g3 H2 B3 hgt ew
  refine wp_region_held_drew (S := (fun Y => Y.cell? ⟨h, 0, none⟩ = some (.pointer (some ⟨g, 0, none⟩)) ∧ Y.cell? ⟨w.heap.size, 0, none⟩ = some (.int .i64 i) ∧ Y.cell? ⟨w.heap.size, 1, none⟩ = some (.int .i64 z))) (by kernel_rfl) (by rw [hWA]; exact hSA.out) (fun hH => ?_)
  rw [hWA] at hH
  rw [hWA]
  clear hWA
  refine wpAnyH_take (i := 0) (v := ?vr0_1) (by (conv => lhs; simp only [List.getElem?_toArray, List.getElem?_cons_succ, List.getElem?_cons_zero])) (by kernel_rfl) (by kernel_rfl) (by kernel_rfl) ?hQ (Or.inl ⟨by rfl, ?hyr0_1⟩) hH ?restr0_1
  case hQ => exact fun _ _ _ h => h
  case hyr0_1 => (intro Y hY; obtain ⟨y0, y1, y2⟩ := hY; go_simp; try (with_reducible rfl))
  try simp only [Act.put, List.setIfInBounds_toArray, List.set_cons_zero, List.set_cons_succ]
  refine wpAnyH_take (i := 1) (v := ?vr1_2) (by (conv => lhs; simp only [List.getElem?_toArray, List.getElem?_cons_succ, List.getElem?_cons_zero])) (by kernel_rfl) (by kernel_rfl) (by kernel_rfl) ?hQ (Or.inl ⟨by rfl, ?hyr1_2⟩) hH ?restr1_2
  case hQ => exact fun _ _ _ h => h
  case hyr1_2 => (intro Y hY; obtain ⟨y0, y1, y2⟩ := hY; go_simp; try (with_reducible rfl))
  try simp only [Act.put, List.setIfInBounds_toArray, List.set_cons_zero, List.set_cons_succ]
  refine wpAnyH_take (i := 2) (v := ?vr2_3) (by (conv => lhs; simp only [List.getElem?_toArray, List.getElem?_cons_succ, List.getElem?_cons_zero])) (by kernel_rfl) (by kernel_rfl) (by kernel_rfl) ?hQ (Or.inl ⟨by rfl, ?hyr2_3⟩) hH ?restr2_3
  case hQ => exact fun _ _ _ h => h
  case hyr2_3 => (intro Y hY; obtain ⟨y0, y1, y2⟩ := hY; go_simp; try (with_reducible rfl))
  try simp only [Act.put, List.setIfInBounds_toArray, List.set_cons_zero, List.set_cons_succ]
  refine wpAnyH_take (i := 3) (v := ?vr3_4) (by (conv => lhs; simp only [List.getElem?_toArray, List.getElem?_cons_succ, List.getElem?_cons_zero])) (by kernel_rfl) (by kernel_rfl) (by kernel_rfl) ?hQ (Or.inl ⟨by rfl, ?hyr3_4⟩) hH ?restr3_4
  case hQ => exact fun _ _ _ h => h
  case hyr3_4 => (intro Y hY; obtain ⟨y0, y1, y2⟩ := hY; go_simp; try (with_reducible rfl))
  try simp only [Act.put, List.setIfInBounds_toArray, List.set_cons_zero, List.set_cons_succ]
  refine wpAnyH_take (i := 4) (v := ?vr4_5) (by (conv => lhs; simp only [List.getElem?_toArray, List.getElem?_cons_succ, List.getElem?_cons_zero])) (by kernel_rfl) (by kernel_rfl) (by kernel_rfl) ?hQ (Or.inl ⟨by rfl, ?hyr4_5⟩) hH ?restr4_5
  case hQ => exact fun _ _ _ h => h
  case hyr4_5 => (intro Y hY; obtain ⟨y0, y1, y2⟩ := hY; go_simp; try (with_reducible rfl))
  try simp only [Act.put, List.setIfInBounds_toArray, List.set_cons_zero, List.set_cons_succ]
  refine wpAnyH_take (i := 5) (v := ?vr5_6) (by (conv => lhs; simp only [List.getElem?_toArray, List.getElem?_cons_succ, List.getElem?_cons_zero])) (by kernel_rfl) (by kernel_rfl) (by kernel_rfl) ?hQ (Or.inl ⟨by rfl, ?hyr5_6⟩) hH ?restr5_6
  case hQ => exact fun _ _ _ h => h
  case hyr5_6 => (intro Y hY; obtain ⟨y0, y1, y2⟩ := hY; go_simp; try (with_reducible rfl))
  try simp only [Act.put, List.setIfInBounds_toArray, List.set_cons_zero, List.set_cons_succ]
  refine wpAnyH_take (i := 6) (v := ?vr6_7) (by (conv => lhs; simp only [List.getElem?_toArray, List.getElem?_cons_succ, List.getElem?_cons_zero])) (by kernel_rfl) (by kernel_rfl) (by kernel_rfl) ?hQ (Or.inl ⟨by rfl, ?hyr6_7⟩) hH ?restr6_7
  case hQ => exact fun _ _ _ h => h
  case hyr6_7 => (intro Y hY; obtain ⟨y0, y1, y2⟩ := hY; go_simp; try (with_reducible rfl))
  try simp only [Act.put, List.setIfInBounds_toArray, List.set_cons_zero, List.set_cons_succ]
  refine wpAnyH_take (i := 7) (v := ?vr7_8) (by (conv => lhs; simp only [List.getElem?_toArray, List.getElem?_cons_succ, List.getElem?_cons_zero])) (by kernel_rfl) (by kernel_rfl) (by kernel_rfl) ?hQ (Or.inl ⟨by rfl, ?hyr7_8⟩) hH ?restr7_8
  case hQ => exact fun _ _ _ h => h
  case hyr7_8 => (intro Y hY; obtain ⟨y0, y1, y2⟩ := hY; go_simp; try (with_reducible rfl))
  try simp only [Act.put, List.setIfInBounds_toArray, List.set_cons_zero, List.set_cons_succ]
  refine wpAnyH_take (i := 8) (v := ?vr8_9) (by (conv => lhs; simp only [List.getElem?_toArray, List.getElem?_cons_succ, List.getElem?_cons_zero])) (by kernel_rfl) (by kernel_rfl) (by kernel_rfl) ?hQ (Or.inl ⟨by rfl, ?hyr8_9⟩) hH ?restr8_9
  case hQ => exact fun _ _ _ h => h
  case hyr8_9 => (intro Y hY; obtain ⟨y0, y1, y2⟩ := hY; go_simp; try (with_reducible rfl))
  try simp only [Act.put, List.setIfInBounds_toArray, List.set_cons_zero, List.set_cons_succ]
  refine wpAnyH_take (i := 9) (v := ?vr9_10) (by (conv => lhs; simp only [List.getElem?_toArray, List.getElem?_cons_succ, List.getElem?_cons_zero])) (by kernel_rfl) (by kernel_rfl) (by kernel_rfl) ?hQ (Or.inl ⟨by rfl, ?hyr9_10⟩) hH ?restr9_10
  case hQ => exact fun _ _ _ h => h
  case hyr9_10 => (intro Y hY; obtain ⟨y0, y1, y2⟩ := hY; go_simp; try (with_reducible rfl))
  try simp only [Act.put, List.setIfInBounds_toArray, List.set_cons_zero, List.set_cons_succ]
  refine wpAnyH_take (i := 11) (v := ?vr11_11) (by (conv => lhs; simp only [List.getElem?_toArray, List.getElem?_cons_succ, List.getElem?_cons_zero])) (by kernel_rfl) (by kernel_rfl) (by kernel_rfl) ?hQ (Or.inl ⟨by rfl, ?hyr11_11⟩) hH ?restr11_11
  case hQ => exact fun _ _ _ h => h
  case hyr11_11 => (intro Y hY; obtain ⟨y0, y1, y2⟩ := hY; go_simp; try (with_reducible rfl))
  try simp only [Act.put, List.setIfInBounds_toArray, List.set_cons_zero, List.set_cons_succ]
  refine wpAnyH_ready (rs := [10, 12]) (by kernel_rfl) (by simp) ?_
  refine AllReadyH.cons (by (conv => lhs; simp only [List.getElem?_toArray, List.getElem?_cons_succ, List.getElem?_cons_zero])) (fun K hK => ?_) (AllReadyH.cons (by (conv => lhs; simp only [List.getElem?_toArray, List.getElem?_cons_succ, List.getElem?_cons_zero])) (fun K hK => ?_) AllReadyH.nil)
  · have u1 : WA.cell? ⟨g, 1, none⟩ = some v := HA.out.g1
    go_simp
    refine hK.out _ _ hSA.out (fun hHa => ?_)
    clear hK hH u1
    try simp only [Act.put, List.setIfInBounds_toArray, List.set_cons_zero, List.set_cons_succ]
    refine wpAnyH_ready (rs := [12]) (by kernel_rfl) (by simp) ?_
    refine AllReadyH.cons (by (conv => lhs; simp only [List.getElem?_toArray, List.getElem?_cons_succ, List.getElem?_cons_zero])) (fun K hK => ?_) AllReadyH.nil
    go_simp
    refine hK.out _ _ HSB.out.2 (fun hHb => ?_)
    clear hK hHa
    try simp only [Act.put, List.setIfInBounds_toArray, List.set_cons_zero, List.set_cons_succ]
    refine wpAnyH_ready (rs := [13]) (by kernel_rfl) (by simp) ?_
    refine AllReadyH.cons (by (conv => lhs; simp only [List.getElem?_toArray, List.getElem?_cons_succ, List.getElem?_cons_zero])) (fun K hK => ?_) AllReadyH.nil
    rw [if_pos (by rfl)]
    refine wp_append_q (.tmp 54) (.tmp 56) 33 (by rfl) Try.underlying33 (v := v) (L := L) (by rfl) HQB.out hLL.out ⟨WA.heap.size, 0, none⟩ 1 (i, z) (by rfl) NEW.out ?_
    intro v' w4 hq hgr hor
    obtain ⟨A', n', c', rfl⟩ : ∃ A' n' c', v' = .slice A' n' c' := by obtain ⟨a, c, e, _⟩ := hq.lie; exact ⟨a, _, c, e⟩
    have F4 := hidd (put_fin HA.out HBB.out hXA.out NX.out hSA.out.2.1 hSA.out.2.2 hzz.out HWD.out hq hgr hor)
    have hv := F4.out.1
    refine hK.out _ _ (SV.out w4 hgr) (fun hHc => ?_)
    clear hK hHb hq hgr hor
    try simp only [Act.put, List.setIfInBounds_toArray, List.set_cons_zero, List.set_cons_succ]
    refine wpAnyH_take (i := 14) (v := ?vqA14_1) (by (conv => lhs; simp only [List.getElem?_toArray, List.getElem?_cons_succ, List.getElem?_cons_zero])) (by kernel_rfl) (by kernel_rfl) (by kernel_rfl) ?hQ (Or.inl ⟨by rfl, ?hyqA14_1⟩) hHc ?restqA14_1
    case hQ => exact fun _ _ _ h => h
    case hyqA14_1 => (intro Y hY; obtain ⟨y0, y1, y2⟩ := hY; go_simp; try (with_reducible rfl))
    try simp only [Act.put, List.setIfInBounds_toArray, List.set_cons_zero, List.set_cons_succ]
    refine wpAnyH_take (i := 15) (v := ?vqA15_2) (by (conv => lhs; simp only [List.getElem?_toArray, List.getElem?_cons_succ, List.getElem?_cons_zero])) (by kernel_rfl) (by kernel_rfl) (by kernel_rfl) ?hQ (Or.inl ⟨by rfl, ?hyqA15_2⟩) hHc ?restqA15_2
    case hQ => exact fun _ _ _ h => h
    case hyqA15_2 => (intro Y hY; obtain ⟨y0, y1, y2⟩ := hY; go_simp; try (with_reducible rfl))
    try simp only [Act.put, List.setIfInBounds_toArray, List.set_cons_zero, List.set_cons_succ]
    obtain ⟨hv1, hv2⟩ := hv
    refine wpAnyH_ready (rs := [16]) (by kernel_rfl) (by simp) ?_
    refine AllReadyH.cons (by (conv => lhs; simp only [List.getElem?_toArray, List.getElem?_cons_succ, List.getElem?_cons_zero])) (fun K hK => ?_) AllReadyH.nil
    go_simp
    refine hK.out _ _ F4.out.2.1 (fun hHd => ?_)
    clear hK hHc hv1 hv2
    try simp only [Act.put, List.setIfInBounds_toArray, List.set_cons_zero, List.set_cons_succ]
    refine wpAnyH_done (by kernel_rfl) (?_) _
    have F5 := F4.out.2
    obtain ⟨w5, hw5⟩ : ∃ w5, w4.setCell ⟨g, 1, none⟩ (.slice A' n' c') = w5 := ⟨_, rfl⟩
    rw [hw5] at F5
    rw [hw5]
    clear hw5 hHd F4
    obtain ⟨f0, ⟨g25, e25⟩, f3, f4⟩ := F5
    have hS5 := hidd f0
    have KP5 := hidd f3
    have END := hidd f4
    clear f0 f3 f4
    go_wp2_with fail
    refine wp_region_held_drew (S := (fun Y => Y.cell? ⟨h, 0, none⟩ = some (.pointer (some ⟨g, 0, none⟩)) ∧ Y.cell? ⟨w.heap.size, 0, none⟩ = some (.int .i64 i) ∧ Y.cell? ⟨w.heap.size, 1, none⟩ = some (.int .i64 z))) (by kernel_rfl) (hS5.out) (fun hH => ?_)
    refine wpAnyH_take (i := 0) (v := ?vtA0_1) (by (conv => lhs; simp only [List.getElem?_toArray, List.getElem?_cons_succ, List.getElem?_cons_zero])) (by kernel_rfl) (by kernel_rfl) (by kernel_rfl) ?hQ (Or.inl ⟨by rfl, ?hytA0_1⟩) hH ?resttA0_1
    case hQ => exact fun _ _ _ h => h
    case hytA0_1 => (intro Y hY; obtain ⟨y0, y1, y2⟩ := hY; go_simp; try (with_reducible rfl))
    try simp only [Act.put, List.setIfInBounds_toArray, List.set_cons_zero, List.set_cons_succ]
    refine wpAnyH_take (i := 1) (v := ?vtA1_2) (by (conv => lhs; simp only [List.getElem?_toArray, List.getElem?_cons_succ, List.getElem?_cons_zero])) (by kernel_rfl) (by kernel_rfl) (by kernel_rfl) ?hQ (Or.inl ⟨by rfl, ?hytA1_2⟩) hH ?resttA1_2
    case hQ => exact fun _ _ _ h => h
    case hytA1_2 => (intro Y hY; obtain ⟨y0, y1, y2⟩ := hY; go_simp; try (with_reducible rfl))
    try simp only [Act.put, List.setIfInBounds_toArray, List.set_cons_zero, List.set_cons_succ]
    refine wpAnyH_take (i := 2) (v := ?vtA2_3) (by (conv => lhs; simp only [List.getElem?_toArray, List.getElem?_cons_succ, List.getElem?_cons_zero])) (by kernel_rfl) (by kernel_rfl) (by kernel_rfl) ?hQ (Or.inl ⟨by rfl, ?hytA2_3⟩) hH ?resttA2_3
    case hQ => exact fun _ _ _ h => h
    case hytA2_3 => (intro Y hY; obtain ⟨y0, y1, y2⟩ := hY; go_simp; try (with_reducible rfl))
    try simp only [Act.put, List.setIfInBounds_toArray, List.set_cons_zero, List.set_cons_succ]
    refine wpAnyH_take (i := 3) (v := ?vtA3_4) (by (conv => lhs; simp only [List.getElem?_toArray, List.getElem?_cons_succ, List.getElem?_cons_zero])) (by kernel_rfl) (by kernel_rfl) (by kernel_rfl) ?hQ (Or.inl ⟨by rfl, ?hytA3_4⟩) hH ?resttA3_4
    case hQ => exact fun _ _ _ h => h
    case hytA3_4 => (intro Y hY; obtain ⟨y0, y1, y2⟩ := hY; go_simp; try (with_reducible rfl))
    try simp only [Act.put, List.setIfInBounds_toArray, List.set_cons_zero, List.set_cons_succ]
    refine wpAnyH_take (i := 4) (v := ?vtA4_5) (by (conv => lhs; simp only [List.getElem?_toArray, List.getElem?_cons_succ, List.getElem?_cons_zero])) (by kernel_rfl) (by kernel_rfl) (by kernel_rfl) ?hQ (Or.inl ⟨by rfl, ?hytA4_5⟩) hH ?resttA4_5
    case hQ => exact fun _ _ _ h => h
    case hytA4_5 => (intro Y hY; obtain ⟨y0, y1, y2⟩ := hY; go_simp; try (with_reducible rfl))
    try simp only [Act.put, List.setIfInBounds_toArray, List.set_cons_zero, List.set_cons_succ]
    refine wpAnyH_take (i := 5) (v := ?vtA5_6) (by (conv => lhs; simp only [List.getElem?_toArray, List.getElem?_cons_succ, List.getElem?_cons_zero])) (by kernel_rfl) (by kernel_rfl) (by kernel_rfl) ?hQ (Or.inl ⟨by rfl, ?hytA5_6⟩) hH ?resttA5_6
    case hQ => exact fun _ _ _ h => h
    case hytA5_6 => (intro Y hY; obtain ⟨y0, y1, y2⟩ := hY; go_simp; try (with_reducible rfl))
    try simp only [Act.put, List.setIfInBounds_toArray, List.set_cons_zero, List.set_cons_succ]
    refine wpAnyH_take (i := 7) (v := ?vtA7_7) (by (conv => lhs; simp only [List.getElem?_toArray, List.getElem?_cons_succ, List.getElem?_cons_zero])) (by kernel_rfl) (by kernel_rfl) (by kernel_rfl) ?hQ (Or.inl ⟨by rfl, ?hytA7_7⟩) hH ?resttA7_7
    case hQ => exact fun _ _ _ h => h
    case hytA7_7 => (intro Y hY; obtain ⟨y0, y1, y2⟩ := hY; go_simp; try (with_reducible rfl))
    try simp only [Act.put, List.setIfInBounds_toArray, List.set_cons_zero, List.set_cons_succ]
    have u2 : w5.drew.cell? ⟨g, 2, none⟩ = some (.int .i64 (sumB L)) := g25
    have u3 : w5.drew.frozen? ⟨g, 2, none⟩ = false := e25
    refine wpAnyH_take (i := 8) (v := ?vtA8_8) (by (conv => lhs; simp only [List.getElem?_toArray, List.getElem?_cons_succ, List.getElem?_cons_zero])) (by kernel_rfl) (by kernel_rfl) (by kernel_rfl) ?hQ (Or.inl ⟨by rfl, ?hytA8_8⟩) hH ?resttA8_8
    case hQ => exact fun _ _ _ h => h
    case hytA8_8 => (intro Y hY; obtain ⟨y0, y1, y2⟩ := hY; go_simp; try (with_reducible rfl))
    try simp only [Act.put, List.setIfInBounds_toArray, List.set_cons_zero, List.set_cons_succ]
    refine wpAnyH_ready (rs := [6]) (by kernel_rfl) (by simp) ?_
    refine AllReadyH.cons (by (conv => lhs; simp only [List.getElem?_toArray, List.getElem?_cons_succ, List.getElem?_cons_zero])) (fun K hK => ?_) AllReadyH.nil
    go_simp
    refine hK.out _ _ hH (fun hHa => ?_)
    clear hK hH
    try simp only [Act.put, List.setIfInBounds_toArray, List.set_cons_zero, List.set_cons_succ]
    refine wpAnyH_take (i := 9) (v := ?vtA9_9) (by (conv => lhs; simp only [List.getElem?_toArray, List.getElem?_cons_succ, List.getElem?_cons_zero])) (by kernel_rfl) (by kernel_rfl) (by kernel_rfl) ?hQ (Or.inl ⟨by rfl, ?hytA9_9⟩) hHa ?resttA9_9
    case hQ => exact fun _ _ _ h => h
    case hytA9_9 => (intro Y hY; obtain ⟨y0, y1, y2⟩ := hY; go_simp; try (with_reducible rfl))
    try simp only [Act.put, List.setIfInBounds_toArray, List.set_cons_zero, List.set_cons_succ]
    refine wpAnyH_take (i := 10) (v := ?vtA10_10) (by (conv => lhs; simp only [List.getElem?_toArray, List.getElem?_cons_succ, List.getElem?_cons_zero])) (by kernel_rfl) (by kernel_rfl) (by kernel_rfl) ?hQ (Or.inl ⟨by rfl, ?hytA10_10⟩) hHa ?resttA10_10
    case hQ => exact fun _ _ _ h => h
    case hytA10_10 => (intro Y hY; obtain ⟨y0, y1, y2⟩ := hY; go_simp; try (with_reducible rfl))
    try simp only [Act.put, List.setIfInBounds_toArray, List.set_cons_zero, List.set_cons_succ]
    refine wpAnyH_take (i := 11) (v := ?vtA11_11) (by (conv => lhs; simp only [List.getElem?_toArray, List.getElem?_cons_succ, List.getElem?_cons_zero])) (by kernel_rfl) (by kernel_rfl) (by kernel_rfl) ?hQ (Or.inl ⟨by rfl, ?hytA11_11⟩) hHa ?resttA11_11
    case hQ => exact fun _ _ _ h => h
    case hytA11_11 => (intro Y hY; obtain ⟨y0, y1, y2⟩ := hY; go_simp; try (with_reducible rfl))
    try simp only [Act.put, List.setIfInBounds_toArray, List.set_cons_zero, List.set_cons_succ]
    refine wpAnyH_ready (rs := [12]) (by kernel_rfl) (by simp) ?_
    refine AllReadyH.cons (by (conv => lhs; simp only [List.getElem?_toArray, List.getElem?_cons_succ, List.getElem?_cons_zero])) (fun K hK => ?_) AllReadyH.nil
    go_simp
    refine hK.out _ _ KP5.out (fun hHb => ?_)
    clear hK hHa u2 u3 g25 e25
    try simp only [Act.put, List.setIfInBounds_toArray, List.set_cons_zero, List.set_cons_succ]
    refine wpAnyH_done (by kernel_rfl) (?_) _
    go_wp2_with fail
    go_ret
    refine ⟨rfl, _, END.out.1, (Sav.of B4.out).trans END.out.2.1 (fun j _ q => q), fun k hk q => END.out.2.2 k (Nat.lt_of_lt_of_le hk B4.out.size) q⟩
  · go_simp
    refine hK.out _ _ HSB.out.2 (fun hHa => ?_)
    clear hK hH
    try simp only [Act.put, List.setIfInBounds_toArray, List.set_cons_zero, List.set_cons_succ]
    refine wpAnyH_ready (rs := [10]) (by kernel_rfl) (by simp) ?_
    refine AllReadyH.cons (by (conv => lhs; simp only [List.getElem?_toArray, List.getElem?_cons_succ, List.getElem?_cons_zero])) (fun K hK => ?_) AllReadyH.nil
    have u1 : (WA.alloc (.cells #[.int .i64 i, .int .i64 z] 41)).cell? ⟨g, 1, none⟩ = some v := HSB.out.1
    go_simp
    refine hK.out _ _ HSB.out.2 (fun hHb => ?_)
    clear hK hHa u1
    try simp only [Act.put, List.setIfInBounds_toArray, List.set_cons_zero, List.set_cons_succ]
    refine wpAnyH_ready (rs := [13]) (by kernel_rfl) (by simp) ?_
    refine AllReadyH.cons (by (conv => lhs; simp only [List.getElem?_toArray, List.getElem?_cons_succ, List.getElem?_cons_zero])) (fun K hK => ?_) AllReadyH.nil
    rw [if_pos (by rfl)]
    refine wp_append_q (.tmp 54) (.tmp 56) 33 (by rfl) Try.underlying33 (v := v) (L := L) (by rfl) HQB.out hLL.out ⟨WA.heap.size, 0, none⟩ 1 (i, z) (by rfl) NEW.out ?_
    intro v' w4 hq hgr hor
    obtain ⟨A', n', c', rfl⟩ : ∃ A' n' c', v' = .slice A' n' c' := by obtain ⟨a, c, e, _⟩ := hq.lie; exact ⟨a, _, c, e⟩
    have F4 := hidd (put_fin HA.out HBB.out hXA.out NX.out hSA.out.2.1 hSA.out.2.2 hzz.out HWD.out hq hgr hor)
    have hv := F4.out.1
    refine hK.out _ _ (SV.out w4 hgr) (fun hHc => ?_)
    clear hK hHb hq hgr hor
    try simp only [Act.put, List.setIfInBounds_toArray, List.set_cons_zero, List.set_cons_succ]
    refine wpAnyH_take (i := 14) (v := ?vqB14_1) (by (conv => lhs; simp only [List.getElem?_toArray, List.getElem?_cons_succ, List.getElem?_cons_zero])) (by kernel_rfl) (by kernel_rfl) (by kernel_rfl) ?hQ (Or.inl ⟨by rfl, ?hyqB14_1⟩) hHc ?restqB14_1
    case hQ => exact fun _ _ _ h => h
    case hyqB14_1 => (intro Y hY; obtain ⟨y0, y1, y2⟩ := hY; go_simp; try (with_reducible rfl))
    try simp only [Act.put, List.setIfInBounds_toArray, List.set_cons_zero, List.set_cons_succ]
    refine wpAnyH_take (i := 15) (v := ?vqB15_2) (by (conv => lhs; simp only [List.getElem?_toArray, List.getElem?_cons_succ, List.getElem?_cons_zero])) (by kernel_rfl) (by kernel_rfl) (by kernel_rfl) ?hQ (Or.inl ⟨by rfl, ?hyqB15_2⟩) hHc ?restqB15_2
    case hQ => exact fun _ _ _ h => h
    case hyqB15_2 => (intro Y hY; obtain ⟨y0, y1, y2⟩ := hY; go_simp; try (with_reducible rfl))
    try simp only [Act.put, List.setIfInBounds_toArray, List.set_cons_zero, List.set_cons_succ]
    obtain ⟨hv1, hv2⟩ := hv
    refine wpAnyH_ready (rs := [16]) (by kernel_rfl) (by simp) ?_
    refine AllReadyH.cons (by (conv => lhs; simp only [List.getElem?_toArray, List.getElem?_cons_succ, List.getElem?_cons_zero])) (fun K hK => ?_) AllReadyH.nil
    go_simp
    refine hK.out _ _ F4.out.2.1 (fun hHd => ?_)
    clear hK hHc hv1 hv2
    try simp only [Act.put, List.setIfInBounds_toArray, List.set_cons_zero, List.set_cons_succ]
    refine wpAnyH_done (by kernel_rfl) (?_) _
    have F5 := F4.out.2
    obtain ⟨w5, hw5⟩ : ∃ w5, w4.setCell ⟨g, 1, none⟩ (.slice A' n' c') = w5 := ⟨_, rfl⟩
    rw [hw5] at F5
    rw [hw5]
    clear hw5 hHd F4
    obtain ⟨f0, ⟨g25, e25⟩, f3, f4⟩ := F5
    have hS5 := hidd f0
    have KP5 := hidd f3
    have END := hidd f4
    clear f0 f3 f4
    go_wp2_with fail
    refine wp_region_held_drew (S := (fun Y => Y.cell? ⟨h, 0, none⟩ = some (.pointer (some ⟨g, 0, none⟩)) ∧ Y.cell? ⟨w.heap.size, 0, none⟩ = some (.int .i64 i) ∧ Y.cell? ⟨w.heap.size, 1, none⟩ = some (.int .i64 z))) (by kernel_rfl) (hS5.out) (fun hH => ?_)
    refine wpAnyH_take (i := 0) (v := ?vtB0_1) (by (conv => lhs; simp only [List.getElem?_toArray, List.getElem?_cons_succ, List.getElem?_cons_zero])) (by kernel_rfl) (by kernel_rfl) (by kernel_rfl) ?hQ (Or.inl ⟨by rfl, ?hytB0_1⟩) hH ?resttB0_1
    case hQ => exact fun _ _ _ h => h
    case hytB0_1 => (intro Y hY; obtain ⟨y0, y1, y2⟩ := hY; go_simp; try (with_reducible rfl))
    try simp only [Act.put, List.setIfInBounds_toArray, List.set_cons_zero, List.set_cons_succ]
    refine wpAnyH_take (i := 1) (v := ?vtB1_2) (by (conv => lhs; simp only [List.getElem?_toArray, List.getElem?_cons_succ, List.getElem?_cons_zero])) (by kernel_rfl) (by kernel_rfl) (by kernel_rfl) ?hQ (Or.inl ⟨by rfl, ?hytB1_2⟩) hH ?resttB1_2
    case hQ => exact fun _ _ _ h => h
    case hytB1_2 => (intro Y hY; obtain ⟨y0, y1, y2⟩ := hY; go_simp; try (with_reducible rfl))
    try simp only [Act.put, List.setIfInBounds_toArray, List.set_cons_zero, List.set_cons_succ]
    refine wpAnyH_take (i := 2) (v := ?vtB2_3) (by (conv => lhs; simp only [List.getElem?_toArray, List.getElem?_cons_succ, List.getElem?_cons_zero])) (by kernel_rfl) (by kernel_rfl) (by kernel_rfl) ?hQ (Or.inl ⟨by rfl, ?hytB2_3⟩) hH ?resttB2_3
    case hQ => exact fun _ _ _ h => h
    case hytB2_3 => (intro Y hY; obtain ⟨y0, y1, y2⟩ := hY; go_simp; try (with_reducible rfl))
    try simp only [Act.put, List.setIfInBounds_toArray, List.set_cons_zero, List.set_cons_succ]
    refine wpAnyH_take (i := 3) (v := ?vtB3_4) (by (conv => lhs; simp only [List.getElem?_toArray, List.getElem?_cons_succ, List.getElem?_cons_zero])) (by kernel_rfl) (by kernel_rfl) (by kernel_rfl) ?hQ (Or.inl ⟨by rfl, ?hytB3_4⟩) hH ?resttB3_4
    case hQ => exact fun _ _ _ h => h
    case hytB3_4 => (intro Y hY; obtain ⟨y0, y1, y2⟩ := hY; go_simp; try (with_reducible rfl))
    try simp only [Act.put, List.setIfInBounds_toArray, List.set_cons_zero, List.set_cons_succ]
    refine wpAnyH_take (i := 4) (v := ?vtB4_5) (by (conv => lhs; simp only [List.getElem?_toArray, List.getElem?_cons_succ, List.getElem?_cons_zero])) (by kernel_rfl) (by kernel_rfl) (by kernel_rfl) ?hQ (Or.inl ⟨by rfl, ?hytB4_5⟩) hH ?resttB4_5
    case hQ => exact fun _ _ _ h => h
    case hytB4_5 => (intro Y hY; obtain ⟨y0, y1, y2⟩ := hY; go_simp; try (with_reducible rfl))
    try simp only [Act.put, List.setIfInBounds_toArray, List.set_cons_zero, List.set_cons_succ]
    refine wpAnyH_take (i := 5) (v := ?vtB5_6) (by (conv => lhs; simp only [List.getElem?_toArray, List.getElem?_cons_succ, List.getElem?_cons_zero])) (by kernel_rfl) (by kernel_rfl) (by kernel_rfl) ?hQ (Or.inl ⟨by rfl, ?hytB5_6⟩) hH ?resttB5_6
    case hQ => exact fun _ _ _ h => h
    case hytB5_6 => (intro Y hY; obtain ⟨y0, y1, y2⟩ := hY; go_simp; try (with_reducible rfl))
    try simp only [Act.put, List.setIfInBounds_toArray, List.set_cons_zero, List.set_cons_succ]
    refine wpAnyH_take (i := 7) (v := ?vtB7_7) (by (conv => lhs; simp only [List.getElem?_toArray, List.getElem?_cons_succ, List.getElem?_cons_zero])) (by kernel_rfl) (by kernel_rfl) (by kernel_rfl) ?hQ (Or.inl ⟨by rfl, ?hytB7_7⟩) hH ?resttB7_7
    case hQ => exact fun _ _ _ h => h
    case hytB7_7 => (intro Y hY; obtain ⟨y0, y1, y2⟩ := hY; go_simp; try (with_reducible rfl))
    try simp only [Act.put, List.setIfInBounds_toArray, List.set_cons_zero, List.set_cons_succ]
    have u2 : w5.drew.cell? ⟨g, 2, none⟩ = some (.int .i64 (sumB L)) := g25
    have u3 : w5.drew.frozen? ⟨g, 2, none⟩ = false := e25
    refine wpAnyH_take (i := 8) (v := ?vtB8_8) (by (conv => lhs; simp only [List.getElem?_toArray, List.getElem?_cons_succ, List.getElem?_cons_zero])) (by kernel_rfl) (by kernel_rfl) (by kernel_rfl) ?hQ (Or.inl ⟨by rfl, ?hytB8_8⟩) hH ?resttB8_8
    case hQ => exact fun _ _ _ h => h
    case hytB8_8 => (intro Y hY; obtain ⟨y0, y1, y2⟩ := hY; go_simp; try (with_reducible rfl))
    try simp only [Act.put, List.setIfInBounds_toArray, List.set_cons_zero, List.set_cons_succ]
    refine wpAnyH_ready (rs := [6]) (by kernel_rfl) (by simp) ?_
    refine AllReadyH.cons (by (conv => lhs; simp only [List.getElem?_toArray, List.getElem?_cons_succ, List.getElem?_cons_zero])) (fun K hK => ?_) AllReadyH.nil
    go_simp
    refine hK.out _ _ hH (fun hHa => ?_)
    clear hK hH
    try simp only [Act.put, List.setIfInBounds_toArray, List.set_cons_zero, List.set_cons_succ]
    refine wpAnyH_take (i := 9) (v := ?vtB9_9) (by (conv => lhs; simp only [List.getElem?_toArray, List.getElem?_cons_succ, List.getElem?_cons_zero])) (by kernel_rfl) (by kernel_rfl) (by kernel_rfl) ?hQ (Or.inl ⟨by rfl, ?hytB9_9⟩) hHa ?resttB9_9
    case hQ => exact fun _ _ _ h => h
    case hytB9_9 => (intro Y hY; obtain ⟨y0, y1, y2⟩ := hY; go_simp; try (with_reducible rfl))
    try simp only [Act.put, List.setIfInBounds_toArray, List.set_cons_zero, List.set_cons_succ]
    refine wpAnyH_take (i := 10) (v := ?vtB10_10) (by (conv => lhs; simp only [List.getElem?_toArray, List.getElem?_cons_succ, List.getElem?_cons_zero])) (by kernel_rfl) (by kernel_rfl) (by kernel_rfl) ?hQ (Or.inl ⟨by rfl, ?hytB10_10⟩) hHa ?resttB10_10
    case hQ => exact fun _ _ _ h => h
    case hytB10_10 => (intro Y hY; obtain ⟨y0, y1, y2⟩ := hY; go_simp; try (with_reducible rfl))
    try simp only [Act.put, List.setIfInBounds_toArray, List.set_cons_zero, List.set_cons_succ]
    refine wpAnyH_take (i := 11) (v := ?vtB11_11) (by (conv => lhs; simp only [List.getElem?_toArray, List.getElem?_cons_succ, List.getElem?_cons_zero])) (by kernel_rfl) (by kernel_rfl) (by kernel_rfl) ?hQ (Or.inl ⟨by rfl, ?hytB11_11⟩) hHa ?resttB11_11
    case hQ => exact fun _ _ _ h => h
    case hytB11_11 => (intro Y hY; obtain ⟨y0, y1, y2⟩ := hY; go_simp; try (with_reducible rfl))
    try simp only [Act.put, List.setIfInBounds_toArray, List.set_cons_zero, List.set_cons_succ]
    refine wpAnyH_ready (rs := [12]) (by kernel_rfl) (by simp) ?_
    refine AllReadyH.cons (by (conv => lhs; simp only [List.getElem?_toArray, List.getElem?_cons_succ, List.getElem?_cons_zero])) (fun K hK => ?_) AllReadyH.nil
    go_simp
    refine hK.out _ _ KP5.out (fun hHb => ?_)
    clear hK hHa u2 u3 g25 e25
    try simp only [Act.put, List.setIfInBounds_toArray, List.set_cons_zero, List.set_cons_succ]
    refine wpAnyH_done (by kernel_rfl) (?_) _
    go_wp2_with fail
    go_ret
    refine ⟨rfl, _, END.out.1, (Sav.of B4.out).trans END.out.2.1 (fun j _ q => q), fun k hk q => END.out.2.2 k (Nat.lt_of_lt_of_le hk B4.out.size) q⟩
end
end Go.Proofs.Ytiecailfndlgoaa
