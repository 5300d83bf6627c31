/- minplus: may a service be, may ticks; what is within. -/
import Derived.Test.YtokcalmmmfakcaaGreatMpA
import Derived.Test.YtokcalmmmfakcaaGreatBgH
import Derived.Test.YtokcalmmmfakcaaGreatRatOm
import Derived.Deep.RegionHeld3
import Derived.Deep.RegionWith
namespace Go.Proofs.YtokcalmmmfakcaaGreat
set_option linter.unusedVariables false
open Go.RowKit

/-- a fraction from nought to a whole number. -/
def withB (x d m : Int) : Bool := rightB x d && decide (0 ≤ x) && decide (x ≤ m * d)
theorem fit_whole {m : Int} (h0 : -9223372036854775807 ≤ m) (h1 : m ≤ 9223372036854775807) : Fit m 1 := by
  refine ⟨rightB_of m 1 ⟨by decide, by decide, h0, h1, by simp⟩, by omega, h1, by decide, by decide⟩
theorem ord_above (p q : Int) : decide (0 < ordZ p q) = decide (q < p) := by
  rcases ordZ_cases p q with ⟨e, h⟩ | ⟨e, h⟩ | ⟨e, h⟩ <;> rw [e] <;> simp <;> omega
set_option maxRecDepth 100000 in
theorem field_num (a b : Value) (w : World) : (Instr.field 66 (.agg #[a, b]) 0).run Tryz.prog w = .ok (.agg #[a, b]) w := by
  first | rfl | kernel_rfl
theorem HasRat.two {w : World} {b : Nat} {x d : Int} (h : HasRat w b x d) : w.cell? ⟨b, 0, none⟩ = some (.int .i64 x) ∧ w.cell? ⟨b, 1, none⟩ = some (.int .i64 d) := ⟨h.1, h.2.1⟩
set_option maxRecDepth 100000 in
set_option maxHeartbeats 2000000 in
theorem isWithin_any (x d m : Int) (h0 : -9223372036854775808 ≤ x) (h1 : x ≤ 9223372036854775807) (h2 : -9223372036854775808 ≤ d) (h3 : d ≤ 9223372036854775807) (m0 : 0 ≤ m) (m1 : m ≤ 9223372036854775807) (w : World) :
    Calls Tryz.prog 73 #[.agg #[.int .i64 x, .int .i64 d], .int .i64 m] w fun E w' => E = .returned (.bool (withB x d m)) ∧ Below w.heap.size w w' := by
  have cc := hidd (fun W => ratCheck_any x d h0 h1 h2 h3 W)
  by_cases hr : rightB x d = true
  · by_cases hx : 0 ≤ x
    · have hf : Fit x d := ⟨hr, h0, h1, h2, h3⟩
      have ca := hidd (fun W => num_isAbove x d m 1 hf (fit_whole (by omega) m1) W)
      have cw := hidd (fun W => whole_any m W)
      have e1 : withB x d m = !(decide (0 < ordZ (x * 1) (m * d))) := by
        unfold withB
        rw [hr, ord_above, Int.mul_one]
        by_cases h : x ≤ m * d
        · simp [hx, h]
        · simp [hx, h]; omega
      have hx2 : decide (0 ≤ x) = true := decide_eq_true hx
      rw [hr] at cc
      simp only [if_true] at cc
      rw [e1]
      clear e1 hr hf
      generalize decide (0 < ordZ (x * 1) (m * d)) = Z at *
      have hfd := field_num
      have KEEP := hidd (fun W' (hb : Below (w.alloc (.cells #[.int .i64 x, .int .i64 d] 25)).heap.size (w.alloc (.cells #[.int .i64 x, .int .i64 d] 25)) W') => (HasRat.two ((HasRat.new w x d 25).step hb)))
      obtain ⟨k0, k1⟩ := KEEP.out _ (Below.refl _ _)
      go_enter Tryz.func73, Tryz.ntmps73
      go_wp2_with fail
      go_region_held3 (fun w' => w'.cell? ⟨w.heap.size, 0, none⟩ = some (.int .i64 x) ∧ w'.cell? ⟨w.heap.size, 1, none⟩ = some (.int .i64 d))
        ((first | exact KEEP.out _ cum3 | exact KEEP.out _ cum2 | exact KEEP.out _ cum1 | exact ⟨k0, k1⟩ | exact KEEP.out _ (Below.drew (Below.refl _ _)) | go_keep))
        ((first
          | (go_at_call 100; refine (cc.out _).mono ?_; rintro E1 v1 ⟨rfl, l1⟩; have cum1 : Below (w.alloc (.cells #[.int .i64 x, .int .i64 d] 25)).heap.size (w.alloc (.cells #[.int .i64 x, .int .i64 d] 25)) v1 := (by first | exact below_step (Below.drew (Below.refl _ _)) l1 | exact below_step (Below.refl _ _) l1))
          | (go_at_call 52; refine (cw.out _).mono ?_; rintro E2 v2 ⟨rfl, l2⟩; have cum2 : Below (w.alloc (.cells #[.int .i64 x, .int .i64 d] 25)).heap.size (w.alloc (.cells #[.int .i64 x, .int .i64 d] 25)) v2 := (by first | exact below_step cum1 l2))
          | (go_at_call 75; refine (ca.out _).mono ?_; rintro E3 v3 ⟨rfl, l3⟩; have cum3 : Below (w.alloc (.cells #[.int .i64 x, .int .i64 d] 25)).heap.size (w.alloc (.cells #[.int .i64 x, .int .i64 d] 25)) v3 := (by first | exact below_step cum2 l3))))
      all_goals go_wp2_with fail
      all_goals go_ret
      all_goals exact ⟨by first | rfl | simp, (below_new (Below.refl w.heap.size w) (.cells #[.int .i64 x, .int .i64 d] 25)).trans (cum3.mono (by simp))⟩
    · have e1 : withB x d m = false := by unfold withB; simp [hx]
      have hx2 : decide (0 ≤ x) = false := decide_eq_false hx
      rw [hr] at cc
      simp only [if_true] at cc
      rw [e1]
      clear e1 hr
      have KEEP := hidd (fun W' (hb : Below (w.alloc (.cells #[.int .i64 x, .int .i64 d] 25)).heap.size (w.alloc (.cells #[.int .i64 x, .int .i64 d] 25)) W') => (HasRat.two ((HasRat.new w x d 25).step hb)))
      obtain ⟨k0, k1⟩ := KEEP.out _ (Below.refl _ _)
      go_enter Tryz.func73, Tryz.ntmps73
      go_wp2_with fail
      first | (go_region_with (go_at_call 100; refine (cc.out _).mono ?_; rintro E1 v1 ⟨rfl, l1⟩; have l1' := below_step (Below.drew (Below.refl _ _)) l1; obtain ⟨j0, j1⟩ := KEEP.out _ l1')) | fail
      all_goals go_wp2_with fail
      all_goals go_ret
      all_goals exact ⟨by first | rfl | simp, (below_new (Below.refl w.heap.size w) (.cells #[.int .i64 x, .int .i64 d] 25)).trans (l1'.mono (by simp))⟩
  · have hr2 : rightB x d = false := by simpa using hr
    have e1 : withB x d m = false := by unfold withB; simp [hr2]
    rw [hr2] at cc
    simp only [Bool.false_eq_true, if_false] at cc
    rw [e1]
    clear e1 hr hr2
    have KEEP := hidd (fun W' (hb : Below (w.alloc (.cells #[.int .i64 x, .int .i64 d] 25)).heap.size (w.alloc (.cells #[.int .i64 x, .int .i64 d] 25)) W') => (HasRat.two ((HasRat.new w x d 25).step hb)))
    obtain ⟨k0, k1⟩ := KEEP.out _ (Below.refl _ _)
    go_enter Tryz.func73, Tryz.ntmps73
    go_wp2_with fail
    first | (go_region_with (go_at_call 100; refine (cc.out _).mono ?_; rintro E1 v1 ⟨rfl, l1⟩; have l1' := below_step (Below.drew (Below.refl _ _)) l1; obtain ⟨j0, j1⟩ := KEEP.out _ l1')) | fail
    all_goals go_wp2_with fail
    all_goals go_ret
    all_goals exact ⟨by first | rfl | simp, (below_new (Below.refl w.heap.size w) (.cells #[.int .i64 x, .int .i64 d] 25)).trans (l1'.mono (by simp))⟩
theorem isTicks_any (x d : Int) (h0 : -9223372036854775808 ≤ x) (h1 : x ≤ 9223372036854775807) (h2 : -9223372036854775808 ≤ d) (h3 : d ≤ 9223372036854775807) (w : World) :
    Calls Tryz.prog 55 #[.agg #[.int .i64 x, .int .i64 d]] w fun E w' => E = .returned (.bool (withB x d 2147483647)) ∧ Below w.heap.size w w' := by
  have ca := hidd (fun W => isWithin_any x d 2147483647 h0 h1 h2 h3 (by decide) (by decide) W)
  generalize withB x d 2147483647 = Z at *
  go_enter Tryz.func55, Tryz.ntmps55
  go_wp2_with fail
  refine (ca.out _).mono ?_
  rintro E w1 ⟨rfl, hb⟩
  go_wp2_with fail
  go_ret
  exact ⟨rfl, by (repeat' (first | (with_reducible exact Below.refl _ _) | (with_reducible assumption) | (with_reducible apply Below.setCell) | (with_reducible apply Below.alloc) | (with_reducible apply Below.drew) | (with_reducible apply below_drewN) | (with_reducible refine Below.trans ?_ (Below.mono (by assumption) ?_)) | omega | (simp; done) | (simp; omega)))⟩
/-- four words. -/
def Word4 (a b c d : Int) : Prop := ((-9223372036854775808 ≤ a ∧ a ≤ 9223372036854775807) ∧ -9223372036854775808 ≤ b ∧ b ≤ 9223372036854775807) ∧ (-9223372036854775808 ≤ c ∧ c ≤ 9223372036854775807) ∧ -9223372036854775808 ≤ d ∧ d ≤ 9223372036854775807
/-- may a service be. -/
def servB (rn rd ln ld : Int) : Bool := withB rn rd 1000000 && decide (0 < rn) && decide (rd ≤ 1000) && withB ln ld 2147483647 && decide (ld ≤ 1000000)
def HasServ (w : World) (b : Nat) (rn rd ln ld : Int) : Prop := b < w.heap.size ∧ (w.cell? ⟨b, 0, none⟩ = some (.int .i64 rn) ∧ w.cell? ⟨b, 1, none⟩ = some (.int .i64 rd)) ∧ w.cell? ⟨b, 2, none⟩ = some (.int .i64 ln) ∧ w.cell? ⟨b, 3, none⟩ = some (.int .i64 ld)
theorem HasServ.step {w w' : World} {b : Nat} {rn rd ln ld : Int} (h : HasServ w b rn rd ln ld) (hb : Below w.heap.size w w') : HasServ w' b rn rd ln ld :=
  ⟨Nat.lt_of_lt_of_le h.1 hb.size, ⟨(hb.cell (p := ⟨b, 0, none⟩) h.1).trans h.2.1.1, (hb.cell (p := ⟨b, 1, none⟩) h.1).trans h.2.1.2⟩, (hb.cell (p := ⟨b, 2, none⟩) h.1).trans h.2.2.1, (hb.cell (p := ⟨b, 3, none⟩) h.1).trans h.2.2.2⟩
theorem HasServ.new (w : World) (rn rd ln ld : Int) (t : TypeId) : HasServ (w.alloc (.cells #[.int .i64 rn, .int .i64 rd, .int .i64 ln, .int .i64 ld] t)) w.heap.size rn rd ln ld :=
  ⟨by simp, ⟨by simp [go_sem], by simp [go_sem]⟩, by simp [go_sem], by simp [go_sem]⟩
set_option maxRecDepth 100000 in
set_option maxHeartbeats 2000000 in
theorem isService_any (rn rd ln ld : Int) (hw : Word4 rn rd ln ld) (w : World) :
    Calls Tryz.prog 38 #[.agg #[.int .i64 rn, .int .i64 rd, .int .i64 ln, .int .i64 ld]] w fun E w' => E = .returned (.bool (servB rn rd ln ld)) ∧ Below w.heap.size w w' := by
  have ca := hidd (fun W => isWithin_any rn rd 1000000 hw.1.1.1 hw.1.1.2 hw.1.2.1 hw.1.2.2 (by decide) (by decide) W)
  have ct := hidd (fun W => isTicks_any ln ld hw.2.1.1 hw.2.1.2 hw.2.2.1 hw.2.2.2 W)
  unfold servB
  obtain ⟨P, hP⟩ : ∃ P, withB rn rd 1000000 = P := ⟨_, rfl⟩
  obtain ⟨Q, hQ⟩ : ∃ Q, withB ln ld 2147483647 = Q := ⟨_, rfl⟩
  rw [hP] at ca ⊢
  rw [hQ] at ct ⊢
  clear hP hQ hw
  have KEEP := hidd (fun W' (hb : Below (w.alloc (.cells #[.int .i64 rn, .int .i64 rd, .int .i64 ln, .int .i64 ld] 27)).heap.size (w.alloc (.cells #[.int .i64 rn, .int .i64 rd, .int .i64 ln, .int .i64 ld] 27)) W') => (HasServ.new w rn rd ln ld 27).step hb)
  obtain ⟨-, ⟨k0, k1⟩, k2, k3⟩ := KEEP.out _ (Below.refl _ _)
  have hsp : (P = false ∨ (P = true ∧ ¬ 0 < rn) ∨ (P = true ∧ 0 < rn ∧ ¬ rd ≤ 1000)) ∨ (P = true ∧ 0 < rn ∧ rd ≤ 1000) := by
    cases P <;> simp <;> omega
  rcases hsp with (rfl | ⟨rfl, h1⟩ | ⟨rfl, h1, h2⟩) | ⟨rfl, h1, h2⟩
  iterate 3
    · go_enter Tryz.func38, Tryz.ntmps38
      go_wp2_with fail
      refine (ca.out _).mono ?_
      rintro E v1 ⟨rfl, l1⟩
      obtain ⟨-, ⟨j0, j1⟩, j2, j3⟩ := KEEP.out _ l1
      go_wp2_with fail
      go_ret
      exact ⟨by first | rfl | (simp; done) | (simp; omega) | (simp [*]; done), (below_new (Below.refl w.heap.size w) (.cells #[.int .i64 rn, .int .i64 rd, .int .i64 ln, .int .i64 ld] 27)).trans (l1.mono (by simp))⟩
  · cases Q
    · go_enter Tryz.func38, Tryz.ntmps38
      go_wp2_with fail
      refine (ca.out _).mono ?_
      rintro E v1 ⟨rfl, l1⟩
      obtain ⟨-, ⟨j0, j1⟩, j2, j3⟩ := KEEP.out _ l1
      go_wp2_with fail
      refine (ct.out _).mono ?_
      rintro E v2 ⟨rfl, l2⟩
      have l3 := below_step l1 l2
      clear j0 j1 j2 j3
      obtain ⟨-, ⟨j0, j1⟩, j2, j3⟩ := KEEP.out _ l3
      go_wp2_with fail
      go_ret
      exact ⟨by first | rfl | (simp; done) | (simp; omega) | (simp [*]; done), (below_new (Below.refl w.heap.size w) (.cells #[.int .i64 rn, .int .i64 rd, .int .i64 ln, .int .i64 ld] 27)).trans (l3.mono (by simp))⟩
    · go_enter Tryz.func38, Tryz.ntmps38
      go_wp2_with fail
      refine (ca.out _).mono ?_
      rintro E v1 ⟨rfl, l1⟩
      obtain ⟨-, ⟨j0, j1⟩, j2, j3⟩ := KEEP.out _ l1
      go_wp2_with fail
      refine (ct.out _).mono ?_
      rintro E v2 ⟨rfl, l2⟩
      have l3 := below_step l1 l2
      clear j0 j1 j2 j3
      obtain ⟨-, ⟨j0, j1⟩, j2, j3⟩ := KEEP.out _ l3
      go_wp2_with fail
      go_ret
      exact ⟨by first | rfl | (simp; done) | (simp; omega) | (simp [*]; done), (below_new (Below.refl w.heap.size w) (.cells #[.int .i64 rn, .int .i64 rd, .int .i64 ln, .int .i64 ld] 27)).trans (l3.mono (by simp))⟩
theorem minNone_any (rn rd ln ld : Int) (hw : Word4 rn rd ln ld) (w : World) :
    Calls Tryz.prog 62 #[.agg #[.int .i64 rn, .int .i64 rd, .int .i64 ln, .int .i64 ld]] w fun E w' => E = .returned (.bool (!servB rn rd ln ld)) ∧ Below w.heap.size w w' := by
  have ca := hidd (fun W => isService_any rn rd ln ld hw W)
  generalize servB rn rd ln ld = Z at *
  go_enter Tryz.func62, Tryz.ntmps62
  go_wp2_with fail
  refine (ca.out _).mono ?_
  rintro E w1 ⟨rfl, hb⟩
  go_wp2_with fail
  go_ret
  exact ⟨rfl, by (repeat' (first | (with_reducible exact Below.refl _ _) | (with_reducible assumption) | (with_reducible apply Below.setCell) | (with_reducible apply Below.alloc) | (with_reducible apply Below.drew) | (with_reducible apply below_drewN) | (with_reducible refine Below.trans ?_ (Below.mono (by assumption) ?_)) | omega | (simp; done) | (simp; omega)))⟩
theorem minCheck_any (rn rd ln ld : Int) (hw : Word4 rn rd ln ld) (w : World) :
    Calls Tryz.prog 20 #[.agg #[.int .i64 rn, .int .i64 rd, .int .i64 ln, .int .i64 ld]] w fun E w' => E = .returned (.int .i64 (if servB rn rd ln ld then 0 else 2)) ∧ Below w.heap.size w w' := by
  have ca := hidd (fun W => isService_any rn rd ln ld hw W)
  generalize servB rn rd ln ld = Z at *
  cases Z
  all_goals
    go_enter Tryz.func20, Tryz.ntmps20
    go_wp2_with fail
    refine (ca.out _).mono ?_
    rintro E w1 ⟨rfl, hb⟩
    go_wp2_with fail
    go_ret
    exact ⟨rfl, by (repeat' (first | (with_reducible exact Below.refl _ _) | (with_reducible assumption) | (with_reducible apply Below.setCell) | (with_reducible apply Below.alloc) | (with_reducible apply Below.drew) | (with_reducible apply below_drewN) | (with_reducible refine Below.trans ?_ (Below.mono (by assumption) ?_)) | omega | (simp; done) | (simp; omega)))⟩
end Go.Proofs.YtokcalmmmfakcaaGreat
