/- minplus: how high a line is; what is served. -/
import Derived.Test.YtokcalmmmfakcaaGreatMpB
import Derived.Deep.RegionHeld
namespace Go.Proofs.YtokcalmmmfakcaaGreat
set_option linter.unusedVariables false
open Go.RowKit

abbrev Num3 := Int × Int × Int
def thenR (a : Num3) (f : Int → Int → Num3) : Num3 := if a.2.2 = 0 then f a.1 a.2.1 else (0, 0, a.2.2)
theorem thenR_ok (N D : Int) (f : Int → Int → Num3) : thenR (N, D, 0) f = f N D := by unfold thenR; rfl
theorem thenR_no {k : Int} (hk : ¬ k = 0) (f : Int → Int → Num3) : thenR (0, 0, k) f = (0, 0, k) := by unfold thenR; rw [if_neg hk]
/-- a number that is told, or over. -/
def Tells (r : Num3) : Prop := (∃ N D, r = (N, D, 0) ∧ RM.Right N D) ∨ ∃ k, r = (0, 0, k) ∧ ¬ k = 0
theorem tells_plus (x d y e : Int) (hd : 1 ≤ d) (he : 1 ≤ e) : Tells (RM.plusR x d y e) := by
  rcases RM.plusR_err x d y e hd he with ⟨N, D, h⟩ | h
  · exact .inl ⟨N, D, h, ((RM.plusR_ok x d y e N D hd he).1 h).1⟩
  · exact .inr ⟨110, h, by decide⟩
theorem tells_times (x d y e : Int) (hd : 1 ≤ d) (he : 1 ≤ e) : Tells (RM.timesR x d y e) := by
  rcases RM.timesR_err x d y e hd he with ⟨N, D, h⟩ | h
  · exact .inl ⟨N, D, h, ((RM.timesR_ok x d y e N D hd he).1 h).1⟩
  · exact .inr ⟨110, h, by decide⟩
theorem tells_by (x d y e : Int) (hd : 1 ≤ d) (he : 1 ≤ e) : Tells (divT x d y e) := by
  unfold divT
  split
  · exact .inr ⟨2, rfl, by decide⟩
  · split
    · exact tells_times x d (-e) (-y) hd (by omega)
    · exact tells_times x d e y hd (by omega)
theorem tells_then {a : Num3} {f : Int → Int → Num3} (h : Tells a) (g : ∀ N D, RM.Right N D → Tells (f N D)) : Tells (thenR a f) := by
  rcases h with ⟨N, D, rfl, hr⟩ | ⟨k, rfl, hk⟩
  · rw [thenR_ok]; exact g N D hr
  · rw [thenR_no hk]; exact .inr ⟨k, rfl, hk⟩
/-- how a step ends: with the number, or it gives up. -/
def NumEnd (r : Num3) (w : World) (E : Ending) (w' : World) : Prop :=
  (∃ N D, E = .returned (.agg #[.int .i64 N, .int .i64 D]) ∧ r = (N, D, 0) ∧ RM.Right N D ∧ Below w.heap.size w w') ∨ (∃ k, E = errPanic k ∧ r = (0, 0, k) ∧ ¬ k = 0 ∧ Below w.heap.size w w')
theorem numEnd_of {r : Num3} (ht : Tells r) {w w' : World} {E : Ending} (h : E = endOf r ∧ Below w.heap.size w w') : NumEnd r w E w' := by
  obtain ⟨rfl, hb⟩ := h
  rcases ht with ⟨N, D, rfl, hr⟩ | ⟨k, rfl, hk⟩
  · exact .inl ⟨N, D, endOf_ok _ rfl, rfl, hr, hb⟩
  · exact .inr ⟨k, endOf_no _ hk, rfl, hk, hb⟩
theorem NumEnd.more {r : Num3} {w w1 w' : World} {E : Ending} (h : NumEnd r w1 E w') (hb : Below w.heap.size w w1) : NumEnd r w E w' := by
  rcases h with ⟨N, D, a, b, c, e⟩ | ⟨k, a, b, c, e⟩
  · exact .inl ⟨N, D, a, b, c, below_step hb e⟩
  · exact .inr ⟨k, a, b, c, below_step hb e⟩
theorem and_any (x d y e : Int) (hx : Fit x d) (hy : Fit y e) (w : World) : Calls Tryz.prog 43 #[.agg #[.int .i64 x, .int .i64 d], .agg #[.int .i64 y, .int .i64 e]] w (NumEnd (RM.plusR x d y e) w) :=
  (num_and x d y e hx hy w).mono fun _ _ h => numEnd_of (tells_plus x d y e hx.right.1 hy.right.1) h
theorem less_num (x d y e : Int) (hx : Fit x d) (hy : Fit y e) (w : World) : Calls Tryz.prog 42 #[.agg #[.int .i64 x, .int .i64 d], .agg #[.int .i64 y, .int .i64 e]] w (NumEnd (subT x d y e) w) :=
  (num_less x d y e hx hy w).mono fun _ _ h => numEnd_of (tells_plus x d (-y) e hx.right.1 hy.right.1) h
theorem times_num (x d y e : Int) (hx : Fit x d) (hy : Fit y e) (w : World) : Calls Tryz.prog 88 #[.agg #[.int .i64 x, .int .i64 d], .agg #[.int .i64 y, .int .i64 e]] w (NumEnd (RM.timesR x d y e) w) :=
  (num_times x d y e hx hy w).mono fun _ _ h => numEnd_of (tells_times x d y e hx.right.1 hy.right.1) h
theorem by_num (x d y e : Int) (hx : Fit x d) (hy : Fit y e) (w : World) : Calls Tryz.prog 41 #[.agg #[.int .i64 x, .int .i64 d], .agg #[.int .i64 y, .int .i64 e]] w (NumEnd (divT x d y e) w) :=
  (num_by x d y e hx hy w).mono fun _ _ h => numEnd_of (tells_by x d y e hx.right.1 hy.right.1) h
def hgtR (b r n d : Int) : Num3 := thenR (RM.timesR r 1 n d) (fun N D => RM.plusR b 1 N D)
theorem tells_hgt (b r n d : Int) (hd : 1 ≤ d) : Tells (hgtR b r n d) := tells_then (tells_times r 1 n d (by decide) hd) (fun N D h => tells_plus b 1 N D (by decide) h.1)
set_option maxRecDepth 100000 in
set_option maxHeartbeats 4000000 in
theorem height_any (b r n d : Int) (hb : Fit b 1) (hr : Fit r 1) (hn : Fit n d) (w : World) :
    Calls Tryz.prog 77 #[.agg #[.int .i64 b, .int .i64 r], .agg #[.int .i64 n, .int .i64 d]] w (NumEnd (hgtR b r n d) w) := by
  have ct := hidd (fun W => times_num r 1 n d hr hn W)
  have ca := hidd (fun N D (h : RM.Right N D) W => and_any b 1 N D hb h.fit W)
  have cb := hidd (fun W => whole_any b W)
  have cr := hidd (fun W => whole_any r W)
  have hfd := field_num
  have q0 : (((w.alloc (.cells #[.int .i64 b, .int .i64 r] 68)).alloc (.cells #[.int .i64 n, .int .i64 d] 25)).alloc (.cells #[.int .i64 0, .int .i64 0] 66)).cell? ⟨w.heap.size, 0, none⟩ = some (.int .i64 b) := by simp [go_sem]
  have d0 : w.heap.size < (((w.alloc (.cells #[.int .i64 b, .int .i64 r] 68)).alloc (.cells #[.int .i64 n, .int .i64 d] 25)).alloc (.cells #[.int .i64 0, .int .i64 0] 66)).heap.size := by first | (simp; done) | (simp; omega)
  have q1 : (((w.alloc (.cells #[.int .i64 b, .int .i64 r] 68)).alloc (.cells #[.int .i64 n, .int .i64 d] 25)).alloc (.cells #[.int .i64 0, .int .i64 0] 66)).cell? ⟨w.heap.size, 1, none⟩ = some (.int .i64 r) := by simp [go_sem]
  have d1 : w.heap.size < (((w.alloc (.cells #[.int .i64 b, .int .i64 r] 68)).alloc (.cells #[.int .i64 n, .int .i64 d] 25)).alloc (.cells #[.int .i64 0, .int .i64 0] 66)).heap.size := by first | (simp; done) | (simp; omega)
  have q2 : (((w.alloc (.cells #[.int .i64 b, .int .i64 r] 68)).alloc (.cells #[.int .i64 n, .int .i64 d] 25)).alloc (.cells #[.int .i64 0, .int .i64 0] 66)).cell? ⟨w.heap.size + 1, 0, none⟩ = some (.int .i64 n) := by simp [go_sem]
  have d2 : w.heap.size + 1 < (((w.alloc (.cells #[.int .i64 b, .int .i64 r] 68)).alloc (.cells #[.int .i64 n, .int .i64 d] 25)).alloc (.cells #[.int .i64 0, .int .i64 0] 66)).heap.size := by first | (simp; done) | (simp; omega)
  have q3 : (((w.alloc (.cells #[.int .i64 b, .int .i64 r] 68)).alloc (.cells #[.int .i64 n, .int .i64 d] 25)).alloc (.cells #[.int .i64 0, .int .i64 0] 66)).cell? ⟨w.heap.size + 1, 1, none⟩ = some (.int .i64 d) := by simp [go_sem]
  have d3 : w.heap.size + 1 < (((w.alloc (.cells #[.int .i64 b, .int .i64 r] 68)).alloc (.cells #[.int .i64 n, .int .i64 d] 25)).alloc (.cells #[.int .i64 0, .int .i64 0] 66)).heap.size := by first | (simp; done) | (simp; omega)
  have p0 : (((w.alloc (.cells #[.int .i64 b, .int .i64 r] 68)).alloc (.cells #[.int .i64 n, .int .i64 d] 25)).alloc (.cells #[.int .i64 0, .int .i64 0] 66)).cell? ⟨w.heap.size + 1 + 1, 0, none⟩ = some (.int .i64 0) := by simp [go_sem]
  have z0 : (((w.alloc (.cells #[.int .i64 b, .int .i64 r] 68)).alloc (.cells #[.int .i64 n, .int .i64 d] 25)).alloc (.cells #[.int .i64 0, .int .i64 0] 66)).frozen? ⟨w.heap.size + 1 + 1, 0, none⟩ = false := by simp [go_sem]
  have p1 : (((w.alloc (.cells #[.int .i64 b, .int .i64 r] 68)).alloc (.cells #[.int .i64 n, .int .i64 d] 25)).alloc (.cells #[.int .i64 0, .int .i64 0] 66)).cell? ⟨w.heap.size + 1 + 1, 1, none⟩ = some (.int .i64 0) := by simp [go_sem]
  have z1 : (((w.alloc (.cells #[.int .i64 b, .int .i64 r] 68)).alloc (.cells #[.int .i64 n, .int .i64 d] 25)).alloc (.cells #[.int .i64 0, .int .i64 0] 66)).frozen? ⟨w.heap.size + 1 + 1, 1, none⟩ = false := by simp [go_sem]
  have dz : w.heap.size + 1 + 1 < (((w.alloc (.cells #[.int .i64 b, .int .i64 r] 68)).alloc (.cells #[.int .i64 n, .int .i64 d] 25)).alloc (.cells #[.int .i64 0, .int .i64 0] 66)).heap.size := by first | (simp; done) | (simp; omega)
  have hBw : Below w.heap.size w (((w.alloc (.cells #[.int .i64 b, .int .i64 r] 68)).alloc (.cells #[.int .i64 n, .int .i64 d] 25)).alloc (.cells #[.int .i64 0, .int .i64 0] 66)) := by (repeat' (first | (with_reducible exact Below.refl _ _) | (with_reducible assumption) | (with_reducible apply Below.setCell) | (with_reducible apply Below.alloc) | (with_reducible apply Below.drew) | (with_reducible apply below_drewN) | (with_reducible refine Below.trans ?_ (Below.mono (by assumption) ?_)) | omega | (simp; done) | (simp; omega)))
  have KEEP := hidd (fun (w' : World) (hb : Below (((w.alloc (.cells #[.int .i64 b, .int .i64 r] 68)).alloc (.cells #[.int .i64 n, .int .i64 d] 25)).alloc (.cells #[.int .i64 0, .int .i64 0] 66)).heap.size (((w.alloc (.cells #[.int .i64 b, .int .i64 r] 68)).alloc (.cells #[.int .i64 n, .int .i64 d] 25)).alloc (.cells #[.int .i64 0, .int .i64 0] 66)) w') => (show w'.cell? ⟨w.heap.size, 0, none⟩ = some (.int .i64 b) ∧ w'.cell? ⟨w.heap.size, 1, none⟩ = some (.int .i64 r) ∧ w'.cell? ⟨w.heap.size + 1, 0, none⟩ = some (.int .i64 n) ∧ w'.cell? ⟨w.heap.size + 1, 1, none⟩ = some (.int .i64 d) from ⟨(hb.cell (p := ⟨w.heap.size, 0, none⟩) d0).trans q0, (hb.cell (p := ⟨w.heap.size, 1, none⟩) d1).trans q1, (hb.cell (p := ⟨w.heap.size + 1, 0, none⟩) d2).trans q2, (hb.cell (p := ⟨w.heap.size + 1, 1, none⟩) d3).trans q3⟩))
  have OUT := hidd (fun (w' : World) (hb : Below (((w.alloc (.cells #[.int .i64 b, .int .i64 r] 68)).alloc (.cells #[.int .i64 n, .int .i64 d] 25)).alloc (.cells #[.int .i64 0, .int .i64 0] 66)).heap.size (((w.alloc (.cells #[.int .i64 b, .int .i64 r] 68)).alloc (.cells #[.int .i64 n, .int .i64 d] 25)).alloc (.cells #[.int .i64 0, .int .i64 0] 66)) w') => (show (w'.cell? ⟨w.heap.size + 1 + 1, 0, none⟩ = some (.int .i64 0) ∧ w'.cell? ⟨w.heap.size + 1 + 1, 1, none⟩ = some (.int .i64 0)) ∧ (w'.frozen? ⟨w.heap.size + 1 + 1, 0, none⟩ = false ∧ w'.frozen? ⟨w.heap.size + 1 + 1, 1, none⟩ = false) ∧ w.heap.size + 1 + 1 < w'.heap.size ∧ Below w.heap.size w w' from ⟨⟨(hb.cell (p := ⟨w.heap.size + 1 + 1, 0, none⟩) dz).trans p0, (hb.cell (p := ⟨w.heap.size + 1 + 1, 1, none⟩) dz).trans p1⟩, ⟨(hb.frozen (p := ⟨w.heap.size + 1 + 1, 0, none⟩) dz).trans z0, (hb.frozen (p := ⟨w.heap.size + 1 + 1, 1, none⟩) dz).trans z1⟩, Nat.lt_of_lt_of_le dz hb.size, below_step hBw hb⟩))
  clear hb hr hn hBw d0 d1 d2 d3
  unfold NumEnd at ct ca ⊢
  go_enter Tryz.func77, Tryz.ntmps77
  go_wp2_with fail
  go_region_held (fun w' => w'.cell? ⟨w.heap.size, 0, none⟩ = some (.int .i64 b) ∧ w'.cell? ⟨w.heap.size, 1, none⟩ = some (.int .i64 r) ∧ w'.cell? ⟨w.heap.size + 1, 0, none⟩ = some (.int .i64 n) ∧ w'.cell? ⟨w.heap.size + 1, 1, none⟩ = some (.int .i64 d))
    ((first | exact KEEP.out _ cum4 | exact KEEP.out _ cum3 | exact KEEP.out _ cum2 | exact KEEP.out _ cum1 | exact KEEP.out _ (Below.refl _ _) | exact KEEP.out _ (Below.drew (Below.refl _ _)) | (obtain ⟨j0, j1, j2, j3⟩ := KEEP.out _ cum4; refine ⟨?_, ?_, ?_, ?_⟩ <;> simp [go_sem, *]; done) | go_keep))
    ((first
      | (go_at_call_of 52 (Value.int IntKind.i64 b); refine (cb.out _).mono ?_; rintro E1 v1 ⟨rfl, l1⟩; have cum1 : Below (((w.alloc (.cells #[.int .i64 b, .int .i64 r] 68)).alloc (.cells #[.int .i64 n, .int .i64 d] 25)).alloc (.cells #[.int .i64 0, .int .i64 0] 66)).heap.size (((w.alloc (.cells #[.int .i64 b, .int .i64 r] 68)).alloc (.cells #[.int .i64 n, .int .i64 d] 25)).alloc (.cells #[.int .i64 0, .int .i64 0] 66)) v1 := (by first | exact below_step (Below.drew (Below.refl _ _)) l1 | exact below_step (Below.refl _ _) l1))
      | (go_at_call_of 52 (Value.int IntKind.i64 r); refine (cr.out _).mono ?_; rintro E2 v2 ⟨rfl, l2⟩; have cum2 : Below (((w.alloc (.cells #[.int .i64 b, .int .i64 r] 68)).alloc (.cells #[.int .i64 n, .int .i64 d] 25)).alloc (.cells #[.int .i64 0, .int .i64 0] 66)).heap.size (((w.alloc (.cells #[.int .i64 b, .int .i64 r] 68)).alloc (.cells #[.int .i64 n, .int .i64 d] 25)).alloc (.cells #[.int .i64 0, .int .i64 0] 66)) v2 := (by exact below_step cum1 l2))
      | (go_at_call 88; refine (ct.out _).mono ?_; rintro E3 v3 (⟨N, D, rfl, hN, hNr, l3⟩ | ⟨k, rfl, hk, hk0, l3⟩); rotate_left; exact ⟨rfl, .inr ⟨k, rfl, by unfold hgtR; rw [hk, thenR_no hk0], hk0, (OUT.out _ (by first | exact below_step cum2 l3 | exact below_step (Below.drew (Below.refl _ _)) l3 | exact below_step (Below.refl _ _) l3)).2.2.2⟩⟩; have cum3 : Below (((w.alloc (.cells #[.int .i64 b, .int .i64 r] 68)).alloc (.cells #[.int .i64 n, .int .i64 d] 25)).alloc (.cells #[.int .i64 0, .int .i64 0] 66)).heap.size (((w.alloc (.cells #[.int .i64 b, .int .i64 r] 68)).alloc (.cells #[.int .i64 n, .int .i64 d] 25)).alloc (.cells #[.int .i64 0, .int .i64 0] 66)) v3 := (by exact below_step cum2 l3))
      | (go_at_call 43; refine (ca.out N D hNr _).mono ?_; rintro E4 v4 (⟨P, Q, rfl, hP, hPr, l4⟩ | ⟨k, rfl, hk, hk0, l4⟩); rotate_left; exact ⟨rfl, .inr ⟨k, rfl, by unfold hgtR; rw [hN, thenR_ok, hk], hk0, (OUT.out _ (by first | exact below_step cum3 l4 | exact below_step (Below.drew (Below.refl _ _)) l4 | exact below_step (Below.refl _ _) l4)).2.2.2⟩⟩; have cum4 : Below (((w.alloc (.cells #[.int .i64 b, .int .i64 r] 68)).alloc (.cells #[.int .i64 n, .int .i64 d] 25)).alloc (.cells #[.int .i64 0, .int .i64 0] 66)).heap.size (((w.alloc (.cells #[.int .i64 b, .int .i64 r] 68)).alloc (.cells #[.int .i64 n, .int .i64 d] 25)).alloc (.cells #[.int .i64 0, .int .i64 0] 66)) v4 := (by exact below_step cum3 l4); obtain ⟨⟨o0, o1⟩, ⟨f0, f1⟩, o5, _⟩ := OUT.out _ cum4)))
  all_goals go_wp2_with fail
  all_goals exact bodyPost_ret (v := .agg #[.int .i64 P, .int .i64 Q]) (by simp [results, Tryz.results77, go_sem, *]) rfl (.inl ⟨P, Q, rfl, by unfold hgtR; rw [hN, thenR_ok, hP], hPr, by have q := (OUT.out _ cum4).2.2.2; (repeat' (first | (with_reducible exact Below.refl _ _) | (with_reducible assumption) | (with_reducible apply Below.setCell) | (with_reducible apply Below.alloc) | (with_reducible apply Below.drew) | (with_reducible apply below_drewN) | (with_reducible refine Below.trans ?_ (Below.mono (by assumption) ?_)) | omega | (simp; done) | (simp; omega)))⟩)
/-- what is served. -/
def servR (rn rd ln ld n d : Int) : Num3 := if n * ld ≤ ln * d then (0, 1, 0) else thenR (subT n d ln ld) (fun a b => RM.timesR rn rd a b)
set_option maxRecDepth 100000 in
set_option maxHeartbeats 4000000 in
theorem served_any (rn rd ln ld n d : Int) (hr : Fit rn rd) (hl : Fit ln ld) (hn : Fit n d) (w : World) :
    Calls Tryz.prog 48 #[.agg #[.int .i64 rn, .int .i64 rd, .int .i64 ln, .int .i64 ld], .agg #[.int .i64 n, .int .i64 d]] w (NumEnd (servR rn rd ln ld n d) w) := by
  have ca := hidd (fun W => num_isAbove n d ln ld hn hl W)
  have cl := hidd (fun W => less_num n d ln ld hn hl W)
  have ct := hidd (fun N D (h : RM.Right N D) W => times_num rn rd N D hr h.fit W)
  have cw := hidd (fun W => whole_any 0 W)
  have hfd := field_num
  rw [ord_above] at ca
  clear hr hl hn
  unfold NumEnd at cl ct ⊢
  by_cases hle : n * ld ≤ ln * d
  · have hz : decide (ln * d < n * ld) = false := decide_eq_false (by omega)
    rw [hz] at ca
    have HLE := hidd hle
    clear hle hz
    go_enter Tryz.func48, Tryz.ntmps48
    go_wp2_with fail
    refine (ca.out _).mono ?_
    rintro E0 v0 ⟨rfl, hb⟩
    obtain ⟨bc, bf⟩ := bcell hb
    have hs := hb.size
    have hBw : Below w.heap.size w v0 := Below.trans (by (repeat' (first | (with_reducible exact Below.refl _ _) | (with_reducible assumption) | (with_reducible apply Below.setCell) | (with_reducible apply Below.alloc) | (with_reducible apply Below.drew) | (with_reducible apply below_drewN) | (with_reducible refine Below.trans ?_ (Below.mono (by assumption) ?_)) | omega | (simp; done) | (simp; omega)))) (hb.mono (by first | (simp; done) | (simp; omega)))
    have dz : w.heap.size + 1 + 1 < v0.heap.size := by simp at hs; omega
    have p0 : v0.cell? ⟨w.heap.size + 1 + 1, 0, none⟩ = some (.int .i64 0) := by rw [bc _ _ (by first | (simp; done) | (simp; omega))]; simp [go_sem]
    have p1 : v0.cell? ⟨w.heap.size + 1 + 1, 1, none⟩ = some (.int .i64 0) := by rw [bc _ _ (by first | (simp; done) | (simp; omega))]; simp [go_sem]
    have z0 : v0.frozen? ⟨w.heap.size + 1 + 1, 0, none⟩ = false := by rw [bf _ _ (by first | (simp; done) | (simp; omega))]; simp [go_sem]
    have z1 : v0.frozen? ⟨w.heap.size + 1 + 1, 1, none⟩ = false := by rw [bf _ _ (by first | (simp; done) | (simp; omega))]; simp [go_sem]
    clear hs hb bc bf
    go_wp2_with fail
    refine (cw.out _).mono ?_
    rintro E1 v1 ⟨rfl, hb1⟩
    obtain ⟨bc, bf⟩ := bcell hb1
    have p0' := (bc (w.heap.size + 1 + 1) 0 dz).trans p0
    have p1' := (bc (w.heap.size + 1 + 1) 1 dz).trans p1
    have z0' := (bf (w.heap.size + 1 + 1) 0 dz).trans z0
    have z1' := (bf (w.heap.size + 1 + 1) 1 dz).trans z1
    have dz' : w.heap.size + 1 + 1 < v1.heap.size := Nat.lt_of_lt_of_le dz hb1.size
    have hBw' := below_step hBw hb1
    clear bc bf p0 p1 z0 z1 hb1
    go_wp2_with fail
    exact bodyPost_ret (v := .agg #[.int .i64 0, .int .i64 1]) (by simp [results, Tryz.results48, go_sem, *]) rfl (.inl ⟨0, 1, rfl, by unfold servR; rw [if_pos (by have := HLE.out; omega)], ⟨by decide, by decide, by decide, by decide, by decide⟩, by (repeat' (first | (with_reducible exact Below.refl _ _) | (with_reducible assumption) | (with_reducible apply Below.setCell) | (with_reducible apply Below.alloc) | (with_reducible apply Below.drew) | (with_reducible apply below_drewN) | (with_reducible refine Below.trans ?_ (Below.mono (by assumption) ?_)) | omega | (simp; done) | (simp; omega)))⟩)
  · have hz : decide (ln * d < n * ld) = true := decide_eq_true (by omega)
    rw [hz] at ca
    have HLE := hidd hle
    clear hle hz
    go_enter Tryz.func48, Tryz.ntmps48
    go_wp2_with fail
    refine (ca.out _).mono ?_
    rintro E0 v0 ⟨rfl, hb⟩
    obtain ⟨bc, bf⟩ := bcell hb
    have hs := hb.size
    have hBw : Below w.heap.size w v0 := Below.trans (by (repeat' (first | (with_reducible exact Below.refl _ _) | (with_reducible assumption) | (with_reducible apply Below.setCell) | (with_reducible apply Below.alloc) | (with_reducible apply Below.drew) | (with_reducible apply below_drewN) | (with_reducible refine Below.trans ?_ (Below.mono (by assumption) ?_)) | omega | (simp; done) | (simp; omega)))) (hb.mono (by first | (simp; done) | (simp; omega)))
    have q0 : v0.cell? ⟨w.heap.size, 0, none⟩ = some (.int .i64 rn) := by rw [bc _ _ (by first | (simp; done) | (simp; omega))]; simp [go_sem]
    have d0 : w.heap.size < v0.heap.size := by simp at hs; omega
    have q1 : v0.cell? ⟨w.heap.size, 1, none⟩ = some (.int .i64 rd) := by rw [bc _ _ (by first | (simp; done) | (simp; omega))]; simp [go_sem]
    have d1 : w.heap.size < v0.heap.size := by simp at hs; omega
    have q2 : v0.cell? ⟨w.heap.size, 2, none⟩ = some (.int .i64 ln) := by rw [bc _ _ (by first | (simp; done) | (simp; omega))]; simp [go_sem]
    have d2 : w.heap.size < v0.heap.size := by simp at hs; omega
    have q3 : v0.cell? ⟨w.heap.size, 3, none⟩ = some (.int .i64 ld) := by rw [bc _ _ (by first | (simp; done) | (simp; omega))]; simp [go_sem]
    have d3 : w.heap.size < v0.heap.size := by simp at hs; omega
    have q4 : v0.cell? ⟨w.heap.size + 1 + 1 + 1, 0, none⟩ = some (.int .i64 n) := by rw [bc _ _ (by first | (simp; done) | (simp; omega))]; simp [go_sem]
    have d4 : w.heap.size + 1 + 1 + 1 < v0.heap.size := by simp at hs; omega
    have q5 : v0.cell? ⟨w.heap.size + 1 + 1 + 1, 1, none⟩ = some (.int .i64 d) := by rw [bc _ _ (by first | (simp; done) | (simp; omega))]; simp [go_sem]
    have d5 : w.heap.size + 1 + 1 + 1 < v0.heap.size := by simp at hs; omega
    have p0 : v0.cell? ⟨w.heap.size + 1 + 1, 0, none⟩ = some (.int .i64 0) := by rw [bc _ _ (by first | (simp; done) | (simp; omega))]; simp [go_sem]
    have z0 : v0.frozen? ⟨w.heap.size + 1 + 1, 0, none⟩ = false := by rw [bf _ _ (by first | (simp; done) | (simp; omega))]; simp [go_sem]
    have p1 : v0.cell? ⟨w.heap.size + 1 + 1, 1, none⟩ = some (.int .i64 0) := by rw [bc _ _ (by first | (simp; done) | (simp; omega))]; simp [go_sem]
    have z1 : v0.frozen? ⟨w.heap.size + 1 + 1, 1, none⟩ = false := by rw [bf _ _ (by first | (simp; done) | (simp; omega))]; simp [go_sem]
    have dz : w.heap.size + 1 + 1 < v0.heap.size := by simp at hs; omega
    have KEEP := hidd (fun (w' : World) (hb : Below v0.heap.size v0 w') => (show w'.cell? ⟨w.heap.size, 0, none⟩ = some (.int .i64 rn) ∧ w'.cell? ⟨w.heap.size, 1, none⟩ = some (.int .i64 rd) ∧ w'.cell? ⟨w.heap.size, 2, none⟩ = some (.int .i64 ln) ∧ w'.cell? ⟨w.heap.size, 3, none⟩ = some (.int .i64 ld) ∧ w'.cell? ⟨w.heap.size + 1 + 1 + 1, 0, none⟩ = some (.int .i64 n) ∧ w'.cell? ⟨w.heap.size + 1 + 1 + 1, 1, none⟩ = some (.int .i64 d) from ⟨(hb.cell (p := ⟨w.heap.size, 0, none⟩) d0).trans q0, (hb.cell (p := ⟨w.heap.size, 1, none⟩) d1).trans q1, (hb.cell (p := ⟨w.heap.size, 2, none⟩) d2).trans q2, (hb.cell (p := ⟨w.heap.size, 3, none⟩) d3).trans q3, (hb.cell (p := ⟨w.heap.size + 1 + 1 + 1, 0, none⟩) d4).trans q4, (hb.cell (p := ⟨w.heap.size + 1 + 1 + 1, 1, none⟩) d5).trans q5⟩))
    have OUT := hidd (fun (w' : World) (hb : Below v0.heap.size v0 w') => (show (w'.cell? ⟨w.heap.size + 1 + 1, 0, none⟩ = some (.int .i64 0) ∧ w'.cell? ⟨w.heap.size + 1 + 1, 1, none⟩ = some (.int .i64 0)) ∧ (w'.frozen? ⟨w.heap.size + 1 + 1, 0, none⟩ = false ∧ w'.frozen? ⟨w.heap.size + 1 + 1, 1, none⟩ = false) ∧ w.heap.size + 1 + 1 < w'.heap.size ∧ Below w.heap.size w w' from ⟨⟨(hb.cell (p := ⟨w.heap.size + 1 + 1, 0, none⟩) dz).trans p0, (hb.cell (p := ⟨w.heap.size + 1 + 1, 1, none⟩) dz).trans p1⟩, ⟨(hb.frozen (p := ⟨w.heap.size + 1 + 1, 0, none⟩) dz).trans z0, (hb.frozen (p := ⟨w.heap.size + 1 + 1, 1, none⟩) dz).trans z1⟩, Nat.lt_of_lt_of_le dz hb.size, below_step hBw hb⟩))
    clear hb bc bf hs hBw d0 d1 d2 d3 d4 d5
    go_wp2_with fail
    go_region_held (fun w' => w'.cell? ⟨w.heap.size, 0, none⟩ = some (.int .i64 rn) ∧ w'.cell? ⟨w.heap.size, 1, none⟩ = some (.int .i64 rd) ∧ w'.cell? ⟨w.heap.size, 2, none⟩ = some (.int .i64 ln) ∧ w'.cell? ⟨w.heap.size, 3, none⟩ = some (.int .i64 ld) ∧ w'.cell? ⟨w.heap.size + 1 + 1 + 1, 0, none⟩ = some (.int .i64 n) ∧ w'.cell? ⟨w.heap.size + 1 + 1 + 1, 1, none⟩ = some (.int .i64 d))
      ((first | exact KEEP.out _ cum2 | exact KEEP.out _ cum1 | exact KEEP.out _ (Below.refl _ _) | exact KEEP.out _ (Below.drew (Below.refl _ _)) | (obtain ⟨j0, j1, j2, j3, j4, j5⟩ := KEEP.out _ cum2; refine ⟨?_, ?_, ?_, ?_, ?_, ?_⟩ <;> simp [go_sem, *]; done) | go_keep))
      ((first
        | (go_at_call 42; refine (cl.out _).mono ?_; rintro E1 v1 (⟨N, D, rfl, hN, hNr, l1⟩ | ⟨k, rfl, hk, hk0, l1⟩); rotate_left; exact ⟨rfl, .inr ⟨k, rfl, by unfold servR; rw [if_neg (by have := HLE.out; omega), hk, thenR_no hk0], hk0, (OUT.out _ (by first | exact below_step cum0 l1 | exact below_step (Below.drew (Below.refl _ _)) l1 | exact below_step (Below.refl _ _) l1)).2.2.2⟩⟩; have cum1 : Below v0.heap.size v0 v1 := (by first | exact below_step (Below.drew (Below.refl _ _)) l1 | exact below_step (Below.refl _ _) l1))
        | (go_at_call 88; refine (ct.out N D hNr _).mono ?_; rintro E2 v2 (⟨P, Q, rfl, hP, hPr, l2⟩ | ⟨k, rfl, hk, hk0, l2⟩); rotate_left; exact ⟨rfl, .inr ⟨k, rfl, by unfold servR; rw [if_neg (by have := HLE.out; omega), hN, thenR_ok, hk], hk0, (OUT.out _ (by first | exact below_step cum1 l2 | exact below_step (Below.drew (Below.refl _ _)) l2 | exact below_step (Below.refl _ _) l2)).2.2.2⟩⟩; have cum2 : Below v0.heap.size v0 v2 := (by exact below_step cum1 l2); obtain ⟨⟨o0, o1⟩, ⟨f0, f1⟩, o5, _⟩ := OUT.out _ cum2)))
    all_goals go_wp2_with fail
    all_goals exact bodyPost_ret (v := .agg #[.int .i64 P, .int .i64 Q]) (by simp [results, Tryz.results48, go_sem, *]) rfl (.inl ⟨P, Q, rfl, by unfold servR; rw [if_neg (by have := HLE.out; omega), hN, thenR_ok, hP], hPr, by have q := (OUT.out _ cum2).2.2.2; (repeat' (first | (with_reducible exact Below.refl _ _) | (with_reducible assumption) | (with_reducible apply Below.setCell) | (with_reducible apply Below.alloc) | (with_reducible apply Below.drew) | (with_reducible apply below_drewN) | (with_reducible refine Below.trans ?_ (Below.mono (by assumption) ?_)) | omega | (simp; done) | (simp; omega)))⟩)
end Go.Proofs.YtokcalmmmfakcaaGreat
