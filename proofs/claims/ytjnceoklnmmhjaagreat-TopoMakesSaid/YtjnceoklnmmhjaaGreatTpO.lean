/- Maps: two nodes: known. -/
import Derived.Test.YtjnceoklnmmhjaaGreatTpK
namespace Go.Proofs.YtjnceoklnmmhjaaGreat.Tp
set_option linter.unusedVariables false
open Go.RowKit Go.Maps

def pairL : List Lk := [(0, 1, 10, 8, 2, 100, 1000, 500), (1, 0, 10, 8, 2, 100, 1000, 500)]
def oneL : List Lk := [(0, 1, 10, 8, 2, 100, 1000, 500)]
theorem pair_wide : WideL pairL := fun x hx => by
  simp only [pairL, List.mem_cons, List.not_mem_nil, or_false] at hx
  rcases hx with rfl | rfl <;> exact ⟨⟨by decide, by decide⟩, ⟨by decide, by decide⟩⟩
theorem one_wide : WideL oneL := fun x hx => by
  simp only [oneL, List.mem_cons, List.not_mem_nil, or_false] at hx
  subst hx
  exact ⟨⟨by decide, by decide⟩, ⟨by decide, by decide⟩⟩
theorem err_pair : errN 2 pairL = 0 := by decide +kernel
theorem err_one : errN 2 oneL = 191 := by decide +kernel
def PairEnd (w : World) (e : Ending) (w' : World) : Prop := ∃ b, e = .returned (.slice (some ⟨b, 0, none⟩) 2 2) ∧ Lie linkV 8 w' w'.heap.size (some ⟨b, 0, none⟩) pairL ∧ Below w.heap.size w w'
set_option maxHeartbeats 2000000 in
theorem pair_any (w : World) : Calls Tryz.prog 12 #[] w (PairEnd w) := by
  go_enter Tryz.func12, Tryz.ntmps12
  go_wp2
  go_ret
  refine ⟨_, rfl, fun _ => ⟨_, rfl, by simp, fun i x hx j v hv => ?_⟩, by (repeat' (first | (with_reducible exact Below.refl _ _) | (with_reducible assumption) | (with_reducible apply Below.setCell) | (with_reducible apply Below.alloc) | (with_reducible apply Below.drew) | (with_reducible apply below_drewN) | (with_reducible refine Below.trans ?_ (Below.mono (by assumption) ?_)) | omega | (simp; done) | (simp; omega)))⟩
  match i, hx with
  | 0, hx =>
    have : x = (0, 1, 10, 8, 2, 100, 1000, 500) := by simpa [pairL] using hx.symm
    subst this
    match j, hv with
    | 0, hv | 1, hv | 2, hv | 3, hv | 4, hv | 5, hv | 6, hv | 7, hv => simp [linkV, fr, tw, rt, sh, fa, mo, ro, fi] at hv; subst hv; simp [Addr.add, go_sem]
    | j + 8, hv => simp [linkV] at hv
  | 1, hx =>
    have : x = (1, 0, 10, 8, 2, 100, 1000, 500) := by simpa [pairL] using hx.symm
    subst this
    match j, hv with
    | 0, hv | 1, hv | 2, hv | 3, hv | 4, hv | 5, hv | 6, hv | 7, hv => simp [linkV, fr, tw, rt, sh, fa, mo, ro, fi] at hv; subst hv; simp [Addr.add, go_sem]
    | j + 8, hv => simp [linkV] at hv
  | i + 2, hx => simp [pairL] at hx
theorem lie_one {w : World} {B : Nat} {A : Option Addr} (h : Lie linkV 8 w B A pairL) : Lie linkV 8 w B A oneL := fun _ => by
  obtain ⟨ad, e, hB, hc⟩ := h (by decide)
  refine ⟨ad, e, hB, fun i x hx j v hv => hc i x ?_ j v hv⟩
  match i, hx with
  | 0, hx => exact hx
  | i + 1, hx => simp [oneL] at hx
def NewPairEnd (w : World) (e : Ending) (w' : World) : Prop := ∃ m, e = .returned (.tuple #[.pointer (some ⟨m, 0, none⟩), .int .i64 0]) ∧ MapAt w' m 2 pairL ∧ Below w.heap.size w w'
theorem newPair_any (A : Option Addr) (c : Nat) (w : World) (hA : Lie linkV 8 w w.heap.size A pairL) : Calls Tryz.prog 5 #[.int .i64 2, .slice A 2 c] w (NewPairEnd w) :=
  (show Calls Tryz.prog 5 #[.int .i64 2, .slice A 2 c] w (NewEnd 2 pairL w) from New_any 2 A pairL c (by decide) pair_wide w hA).mono fun e w' h => by
    rcases h with ⟨h, _⟩ | ⟨_, m, he, hm, _, hb⟩
    · exact absurd err_pair h
    · exact ⟨m, he, hm, hb⟩
theorem newOne_any (A : Option Addr) (c : Nat) (w : World) (hA : Lie linkV 8 w w.heap.size A pairL) : Calls Tryz.prog 5 #[.int .i64 2, .slice A 1 c] w fun e w' => e = .returned (.tuple #[.pointer none, .int .i64 191]) ∧ Below w.heap.size w w' :=
  (show Calls Tryz.prog 5 #[.int .i64 2, .slice A 1 c] w (NewEnd 2 oneL w) from New_any 2 A oneL c (by decide) one_wide w (lie_one hA)).mono fun e w' h => by
    rcases h with ⟨_, he, hb⟩ | ⟨h, _⟩
    · rw [err_one] at he; exact ⟨he, hb⟩
    · rw [err_one] at h; exact absurd h (by decide)
theorem backPair_any (m : Nat) (w : World) (h : MapAt w m 2 pairL) : Calls Tryz.prog 13 #[.pointer (some ⟨m, 0, none⟩), .int .i64 0] w fun e w' => e = .returned (.tuple #[.int .i64 1, .int .i64 0]) ∧ Below w.heap.size w w' := by
  have := Back_in m 2 (by decide) pairL (by decide) pair_wide 0 (by decide) w h
  have e1 : lastAt (endsL pairL) (tw (lkAt pairL 0), fr (lkAt pairL 0)) (endsL pairL).length = 1 := by decide +kernel
  rw [e1] at this
  exact this
theorem betweenPair_any (m : Nat) (w : World) (h : MapAt w m 2 pairL) : Calls Tryz.prog 8 #[.pointer (some ⟨m, 0, none⟩), .int .i64 1, .int .i64 0] w fun e w' => e = .returned (.tuple #[.int .i64 1, .bool true]) ∧ w = w' := by
  have := Between_yes m 2 (by decide) pairL pair_wide 1 0 ⟨by decide, by decide⟩ ⟨by decide, by decide⟩ w h
  have e1 : lastAt (endsL pairL) (1, 0) (endsL pairL).length = 1 := by decide +kernel
  have e2 : decide (((1 : Int), (0 : Int)) ∈ endsL pairL) = true := by decide +kernel
  rw [e1, e2] at this
  exact this
theorem lenPair_any (m : Nat) (w : World) (h : MapAt w m 2 pairL) : Calls Tryz.prog 10 #[.pointer (some ⟨m, 0, none⟩)] w fun e w' => e = .returned (.int .i64 2) ∧ w = w' := Len_yes m 2 (by decide) pairL w h
set_option maxRecDepth 100000 in
set_option maxHeartbeats 4000000 in
theorem known_any (w : World) : Calls Tryz.prog 4 #[] w fun e w' => e = .returned (.bool true) ∧ Below w.heap.size w w' := by
  have cP := hidd (fun W => pair_any W)
  have cN := hidd (fun A c W h => newPair_any A c W h)
  have cO := hidd (fun A c W h => newOne_any A c W h)
  have cB := hidd (fun m W h => backPair_any m W h)
  have cT := hidd (fun m W h => betweenPair_any m W h)
  have cL := hidd (fun m W h => lenPair_any m W h)
  go_enter Tryz.func4, Tryz.ntmps4
  go_wp2_with fail
  refine (cP.out _).mono ?_
  rintro e w1 ⟨b, rfl, hl, hb1⟩
  have HL1 := hidd hl
  have HB1 := hidd hb1
  clear hl hb1
  go_wp2_with fail
  refine (cN.out _ _ _ HL1.out).mono ?_
  rintro e w2 ⟨m, rfl, hm, hb2⟩
  have HM2 := hidd hm
  have HB2 := hidd (below_step HB1.out hb2)
  clear hm hb2
  go_wp2_with fail
  refine (cB.out _ _ HM2.out).mono ?_
  rintro e w3 ⟨rfl, hb3⟩
  have HM3 := hidd (HM2.out.below hb3)
  have HB3 := hidd (below_step HB2.out hb3)
  clear hb3
  go_wp2_with fail
  refine (cT.out _ _ HM3.out).mono ?_
  rintro e w' ⟨rfl, rfl⟩
  go_wp2_with fail
  refine (cP.out _).mono ?_
  rintro e w4 ⟨b', rfl, hl, hb4⟩
  have HL4 := hidd hl
  have HB4 := hidd (below_step HB3.out hb4)
  have HM4 := hidd (HM3.out.below hb4)
  clear hl hb4
  go_wp2_with fail
  refine (cO.out _ _ _ HL4.out).mono ?_
  rintro e w5 ⟨rfl, hb5⟩
  have HB5 := hidd (below_step HB4.out hb5)
  have HM5 := hidd (HM4.out.below hb5)
  clear hb5
  go_wp2_with fail
  refine (cL.out _ _ HM5.out).mono ?_
  rintro e w' ⟨rfl, rfl⟩
  go_wp2_with fail
  go_ret
  exact ⟨by first | rfl | simp, HB5.out⟩
end Go.Proofs.YtjnceoklnmmhjaaGreat.Tp
