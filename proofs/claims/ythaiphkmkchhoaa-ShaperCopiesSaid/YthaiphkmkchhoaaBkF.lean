/- Buckets: what Take answers, and the bucket behind it; Has. -/
import Derived.Test.YthaiphkmkchhoaaBkE
import Derived.StillTailTactics
namespace Go.Proofs.Ythaiphkmkchhoaa
open Go.RowKit
set_option linter.unusedVariables false
theorem btake_no {b : Nat} {p r u m l : Int} {s : BM.St} {w : World} (hB : BktAt w b p r u m l s) (hr : rightB p r u m l = true) (hs : BM.Ok u m s) (n z : Int) (hn : BM.askB s n = false) :
    Calls Try.prog 34 #[.pointer (some ⟨b, 0, none⟩), .int .i64 n, .int .i64 z] w fun e w' => e = .returned (.tuple #[.bool false, .int .i64 2]) ∧ w = w' := by
  have hb := rightB_iff hr
  have cc := hidd (bcheck_any hB (by omega) hs.2.1 n)
  rw [hn] at cc
  clear hB hr hs hn hb
  go_enter Try.func34, Try.ntmps34
  go_wp2_with fail
  refine wp_scope_fwd 0 (fun a' w' => w = w' ∧ ∃ v0 v1 v2 v3 v4 v5 v6 v7 v8 v9 v10 v11 v12 v13 v14 v15 v16 v17 v18 v19 v20 v21 v22 v23 v24 v25 v26 v27 v28 v29 v30 v31 v32 v33 v34 v35 v36 v37 v38 v39 v40 v41 v42 v43 v44 v45 v46 v47 v48 v49 v50 v51 v52 v53 v54 v55 v56 v57 v58 v59 v60 : Value, a' = { tmps := #[v0, v1, v2, v3, v4, v5, v6, v7, .int .i64 2, v8, v9, v10, v11, v12, v13, v14, v15, v16, v17, v18, v19, v20, v21, v22, v23, v24, v25, v26, v27, v28, v29, v30, v31, v32, v33, v34, v35, v36, v37, v38, v39, v40, v41, v42, v43, v44, v45, v46, v47, v48, v49, v50, v51, v52, v53, v54, v55, v56, v57, v58, v59, v60], defers := [] }) rfl ?_ ?_
  case refine_2 =>
    rintro a' w' ⟨rfl, v0, v1, v2, v3, v4, v5, v6, v7, v8, v9, v10, v11, v12, v13, v14, v15, v16, v17, v18, v19, v20, v21, v22, v23, v24, v25, v26, v27, v28, v29, v30, v31, v32, v33, v34, v35, v36, v37, v38, v39, v40, v41, v42, v43, v44, v45, v46, v47, v48, v49, v50, v51, v52, v53, v54, v55, v56, v57, v58, v59, v60, rfl⟩
    go_wp2_with fail
    (try rw [Exit.noGoto_ret])
    go_ret2
    exact ⟨rfl, rfl⟩
  go_wp2_with fail
  refine cc.out.mono ?_
  rintro e w1 ⟨rfl, rfl⟩
  go_wp2_with fail
  go_step3
  exact ⟨rfl, rfl, _, _, _, _, _, _, _, _, _, _, _, _, _, _, _, _, _, _, _, _, _, _, _, _, _, _, _, _, _, _, _, _, _, _, _, _, _, _, _, _, _, _, _, _, _, _, _, _, _, _, _, _, _, _, _, _, _, _, _, _, _, rfl⟩
theorem BktAt.drewN {w : World} {b : Nat} {p r u m l : Int} {s : BM.St} (h : BktAt w b p r u m l s) (k : Nat) : BktAt (w.drewN k) b p r u m l s := ⟨h.lt, h.c0, h.c1, h.c2, h.c3, h.c4, h.c5, h.c6, h.c7, h.f5, h.f6, h.f7⟩
theorem But.drewN {b : Nat} {w W : World} (h : But b w W) (k : Nat) : But b w (W.drewN k) := ⟨h.os, h.tape, h.output, h.size, h.block⟩
/-- behind Take: the bucket, and all besides as it lay. -/
def TakeEnd (b : Nat) (p r u m l : Int) (s : BM.St) (n z : Int) (w : World) (e : Ending) (w' : World) : Prop :=
  e = .returned (.tuple #[.bool (BM.step p r u m l s n z).2.1, .int .i64 (BM.step p r u m l s n z).2.2]) ∧ BktAt w' b p r u m l (BM.step p r u m l s n z).1 ∧ But b w w'
set_option maxRecDepth 100000 in
set_option maxHeartbeats 4000000 in
theorem btake_yes {b : Nat} {p r u m l : Int} {s : BM.St} {w : World} (hB : BktAt w b p r u m l s) (hr : rightB p r u m l = true) (hs : BM.Ok u m s) (n z : Int) (hn : BM.askB s n = true) :
    Calls Try.prog 34 #[.pointer (some ⟨b, 0, none⟩), .int .i64 n, .int .i64 z] w (TakeEnd b p r u m l s n z w) := by
  have hb := rightB_iff hr
  have cc := hidd (bcheck_any hB (by omega) hs.2.1 n)
  rw [hn] at cc
  have ca := hidd (at_any hB hr hs n hn)
  have cs := hidd (fun W s' (h : BktAt W b p r u m l s') => isSize_any h (by omega) z)
  have HB := hidd hB
  have a0 : 0 ≤ BM.lev0 r u s n ∧ BM.lev0 r u s n ≤ u := BM.later_bd (by omega)
  have a1 : 0 ≤ BM.lev1 p m s n ∧ BM.lev1 p m s n ≤ m := BM.later_bd (by omega)
  have hu : u ≤ 10000000 := by omega
  have hm : m ≤ 2000 := by omega
  have hst : Hid (BM.step p r u m l s n z = if BM.fitB p r u m l s n z then ((n, BM.lev0 r u s n - z, BM.lev1 p m s n - z), true, 0) else ((n, BM.lev0 r u s n, BM.lev1 p m s n), false, 0)) := hidd (by unfold BM.step; rw [if_pos hn])
  have hft : Hid (BM.fitB p r u m l s n z = (BM.sizeB m l z && decide (z ≤ BM.lev0 r u s n ∧ z ≤ BM.lev1 p m s n))) := hidd rfl
  have hzz : Hid (BM.sizeB m l z = decide (l ≤ z ∧ z ≤ m)) := hidd rfl
  have hl : 1 ≤ l := by omega
  unfold TakeEnd
  generalize BM.step p r u m l s n z = St at *
  generalize BM.lev0 r u s n = x at *
  generalize BM.lev1 p m s n = y at *
  clear hB hr hs hn hb
  have hlt := HB.out.lt
  go_enter Try.func34, Try.ntmps34
  go_wp2_with fail
  refine wp_scope_fwd 0 (fun a' w' => False) rfl ?_ ?_
  case refine_2 => exact fun _ _ h => h.elim
  go_wp2_with fail
  refine cc.out.mono ?_
  rintro e w1 ⟨rfl, rfl⟩
  go_wp2_with fail
  refine ca.out.mono ?_
  rintro e w1 ⟨rfl, hb1⟩
  have HB1 := HB.out.below hb1
  obtain ⟨lt, c0, c1, c2, c3, c4, c5, c6, c7, f5, f6, f7⟩ := HB1
  have HB1 := hidd (HB.out.below hb1)
  have Hb1 := hidd hb1
  clear hb1 c0 c1 c2 c3 c4
  go_wp2_with fail
  obtain ⟨w2, hw2⟩ : ∃ w2 : World, ((w1.setCell ⟨b, 6, none⟩ (.int .i64 x)).setCell ⟨b, 7, none⟩ (.int .i64 y)).setCell ⟨b, 5, none⟩ (.int .i64 n) = w2 := ⟨_, rfl⟩
  have hB2 : BktAt w2 b p r u m l (n, x, y) := by rw [← hw2]; exact HB1.out.set n x y
  have hb2 : But b w w2 := by rw [← hw2]; exact (below_but Hb1.out b).trans (((But.set _ _ _).trans (But.set _ _ _)).trans (But.set _ _ _))
  rw [hw2]
  clear hw2 Hb1 HB1 lt c5 c6 c7 f5 f6 f7
  obtain ⟨lt, c0, c1, c2, c3, c4, c5, c6, c7, f5, f6, f7⟩ := id hB2
  have HB2 := hidd hB2
  have Hb2 := hidd hb2
  have ci := hidd (fun q => cs.out (w2.drewN q) _ (hB2.drewN q))
  clear hB2 hb2 c0 c1 c2 c3 c4 c5 HB cs
  dsimp only at c6 c7
  by_cases hsz : BM.sizeB m l z = true
  · rw [hsz] at ci
    have hz := of_decide_eq_true (hzz.out.symm.trans hsz)
    obtain ⟨hz0, hz1⟩ := hz
    by_cases hfx : z ≤ x ∧ z ≤ y
    · have hS : Hid (St = ((n, x - z, y - z), true, 0)) := hidd (by rw [hst.out, if_pos (by rw [hft.out, hsz, decide_eq_true hfx]; rfl)])
      obtain ⟨a2, a3⟩ := a0
      obtain ⟨a4, a5⟩ := a1
      obtain ⟨h0, h1⟩ := hfx
      have e0 : IntKind.i64.wrap (x - z) = x - z := IntWalk.i64_in _ (by omega)
      have e1 : IntKind.i64.wrap (y - z) = y - z := IntWalk.i64_in _ (by omega)
      clear hsz hst hft hzz
      by_cases hyx : y < x
      all_goals
        go_quiet ((go_at_call 48; exact Calls.quiet_of (ci.out _)))
        obtain ⟨w3, hw3⟩ : ∃ w3 : World, w2.drewN nq = w3 := ⟨_, rfl⟩
        have HB3 : Hid (BktAt w3 b p r u m l (n, x, y)) := hidd (by rw [← hw3]; exact HB2.out.drewN _)
        have Hb3 : Hid (But b w w3) := hidd (by rw [← hw3]; exact Hb2.out.drewN _)
        rw [hw3]
        have c6 := HB3.out.c6
        have c7 := HB3.out.c7
        have f6 := HB3.out.f6
        have f7 := HB3.out.f7
        have lt := HB3.out.lt
        dsimp only at c6 c7
        clear hw3 HB2 Hb2 ci
        go_wp2_with fail
        go_still_tail 18, (by kernel_rfl)
        change wpList _ _ _ _ _ w3.drew
        have HB4 := hidd HB3.out.drew
        have Hb4 := hidd Hb3.out.drew
        generalize w3.drew = w4 at *
        have c6 := HB4.out.c6
        have c7 := HB4.out.c7
        have f6 := HB4.out.f6
        have f7 := HB4.out.f7
        have lt := HB4.out.lt
        dsimp only at c6 c7
        go_wp2_with fail
        simp only [Exit.jump]
        go_ret2
        rw [hS.out]
        exact ⟨rfl, HB4.out.put (x - z) (y - z), Hb4.out.trans ((But.set _ _ _).trans (But.set _ _ _))⟩
    · have hS : Hid (St = ((n, x, y), false, 0)) := hidd (by rw [hst.out, if_neg (by rw [hft.out, hsz, decide_eq_false hfx]; simp)])
      clear hsz hst hft hzz
      by_cases hyx : y < x
      all_goals
        first
        | have hg : y < z := by omega
        | have hg : x < z := by omega
        clear hfx
        go_quiet ((go_at_call 48; exact Calls.quiet_of (ci.out _)))
        go_wp2_with fail
        simp only [Exit.jump]
        go_ret2
        rw [hS.out]
        exact ⟨rfl, HB2.out.drewN _, Hb2.out.drewN _⟩
  · have hsz : BM.sizeB m l z = false := by simpa using hsz
    rw [hsz] at ci
    have hS : Hid (St = ((n, x, y), false, 0)) := hidd (by rw [hst.out, if_neg (by rw [hft.out, hsz]; simp)])
    clear hsz hst hft hzz
    go_quiet ((go_at_call 48; exact Calls.quiet_of (ci.out _)))
    go_wp2_with fail
    simp only [Exit.jump]
    go_ret2
    rw [hS.out]
    exact ⟨rfl, HB2.out.drewN _, Hb2.out.drewN _⟩
end Go.Proofs.Ythaiphkmkchhoaa
