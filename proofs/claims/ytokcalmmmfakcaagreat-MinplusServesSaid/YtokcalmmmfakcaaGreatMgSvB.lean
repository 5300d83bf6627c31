/- Texts that the claim hangs on, in one. -/
import Derived.Test.YtokcalmmmfakcaaGreatBgR
import Derived.Test.YtokcalmmmfakcaaGreatBgH
import Derived.Test.YtokcalmmmfakcaaGreatRatFm
import Derived.Test.YtokcalmmmfakcaaGreatMpC
import Derived.Test.YtokcalmmmfakcaaGreatBgU
import Derived.Test.YtokcalmmmfakcaaGreatMpE
import Derived.Deep.DeepCutAuto
/- The walk of the law on sums, differences, products, quotients. -/
namespace Go.Proofs.YtokcalmmmfakcaaGreat
set_option linter.unusedVariables false
open Go.RowKit

theorem rat_eq_same (a b : Int) (w : World) : (binOp .eql 25 (.agg #[.int .i64 a, .int .i64 b]) (.agg #[.int .i64 a, .int .i64 b])).run Tryz.prog w = .ok (.bool true) w := by
  rw [run_eql_struct]
  simp [go_sem, Op.eqFields]
theorem HasRat.drew {w : World} {b : Nat} {x d : Int} (h : HasRat w b x d) : HasRat w.drew b x d := h
end Go.Proofs.YtokcalmmmfakcaaGreat

/- The document's numbers of layer 4, and which services may be. -/
namespace Go.Proofs.YtokcalmmmfakcaaGreat
set_option linter.unusedVariables false
open Go.RowKit

/-- a number, or an error beside which all else is nought. -/
def NumOk (a1 a2 a3 : Int) : Prop := (a3 = 0 ∧ RM.Right a1 a2) ∨ (¬ a3 = 0 ∧ a1 = 0 ∧ a2 = 0)
theorem NumOk.of {r : Num3} (h : Tells r) : NumOk r.1 r.2.1 r.2.2 := by
  rcases h with ⟨N, D, rfl, hr⟩ | ⟨k, rfl, hk⟩
  · exact .inl ⟨rfl, hr⟩
  · exact .inr ⟨hk, rfl, rfl⟩
def opR (f : Int → Int → Int → Int → Num3) (a1 a2 a3 b1 b2 b3 : Int) : Num3 := if ¬ a3 = 0 then (a1, a2, a3) else if ¬ b3 = 0 then (b1, b2, b3) else f a1 a2 b1 b2
def numV (r : Num3) : Value := .agg #[.int .i64 r.1, .int .i64 r.2.1, .int .i64 r.2.2]
theorem refWhole_any (n : Int) (w : World) : Calls Tryz.prog 32 #[.int .i64 n] w fun E w' => E = .returned (.agg #[.int .i64 n, .int .i64 1, .int .i64 0]) ∧ Below w.heap.size w w' := by
  go_enter Tryz.func32, Tryz.ntmps32
  go_wp2_with fail
  exact bodyPost_ret (v := .agg #[.int .i64 n, .int .i64 1, .int .i64 0]) (by simp [results, Tryz.results32, go_sem]) rfl ⟨rfl, by (repeat' (first | (with_reducible exact Below.refl _ _) | (with_reducible assumption) | (with_reducible apply Below.setCell) | (with_reducible apply Below.alloc) | (with_reducible apply Below.drew) | (with_reducible apply below_drewN) | (with_reducible refine Below.trans ?_ (Below.mono (by assumption) ?_)) | omega | (simp; done) | (simp; omega)))⟩
def firstR4 (a1 a2 a3 b1 b2 b3 x1 x2 k : Int) : Num3 := if ¬ a3 = 0 then (a1, a2, a3) else if ¬ b3 = 0 then (b1, b2, b3) else if ¬ k = 0 then (0, 0, k) else (x1, x2, 0)
set_option maxHeartbeats 2000000 in
theorem refFirst_any (a1 a2 a3 b1 b2 b3 x1 x2 k : Int) (w : World) : Calls Tryz.prog 65 #[.agg #[.int .i64 a1, .int .i64 a2, .int .i64 a3], .agg #[.int .i64 b1, .int .i64 b2, .int .i64 b3], .agg #[.int .i64 x1, .int .i64 x2], .int .i64 k] w fun E w' => E = .returned (numV (firstR4 a1 a2 a3 b1 b2 b3 x1 x2 k)) ∧ Below w.heap.size w w' := by
  unfold firstR4 numV
  by_cases h1 : a3 = 0
  · by_cases h2 : b3 = 0
    · by_cases h3 : k = 0
      · subst h1 h2 h3
        go_enter Tryz.func65, Tryz.ntmps65
        go_wp2_with fail
        exact bodyPost_ret (v := .agg #[.int .i64 x1, .int .i64 x2, .int .i64 0]) (by simp [results, Tryz.results65, go_sem]) rfl ⟨by simp, by (repeat' (first | (with_reducible exact Below.refl _ _) | (with_reducible assumption) | (with_reducible apply Below.setCell) | (with_reducible apply Below.alloc) | (with_reducible apply Below.drew) | (with_reducible apply below_drewN) | (with_reducible refine Below.trans ?_ (Below.mono (by assumption) ?_)) | omega | (simp; done) | (simp; omega)))⟩
      · have e3 : (k == 0) = false := beq_eq_false_iff_ne.2 h3
        subst h1 h2
        go_enter Tryz.func65, Tryz.ntmps65
        go_wp2_with fail
        exact bodyPost_ret (v := .agg #[.int .i64 0, .int .i64 0, .int .i64 k]) (by simp [results, Tryz.results65, go_sem]) rfl ⟨by simp, by (repeat' (first | (with_reducible exact Below.refl _ _) | (with_reducible assumption) | (with_reducible apply Below.setCell) | (with_reducible apply Below.alloc) | (with_reducible apply Below.drew) | (with_reducible apply below_drewN) | (with_reducible refine Below.trans ?_ (Below.mono (by assumption) ?_)) | omega | (simp; done) | (simp; omega)))⟩
    · have e3 : (b3 == 0) = false := beq_eq_false_iff_ne.2 h2
      subst h1
      go_enter Tryz.func65, Tryz.ntmps65
      go_wp2_with fail
      exact bodyPost_ret (v := .agg #[.int .i64 b1, .int .i64 b2, .int .i64 b3]) (by simp [results, Tryz.results65, go_sem]) rfl ⟨by simp, by (repeat' (first | (with_reducible exact Below.refl _ _) | (with_reducible assumption) | (with_reducible apply Below.setCell) | (with_reducible apply Below.alloc) | (with_reducible apply Below.drew) | (with_reducible apply below_drewN) | (with_reducible refine Below.trans ?_ (Below.mono (by assumption) ?_)) | omega | (simp; done) | (simp; omega)))⟩
  · have e3 : (a3 == 0) = false := beq_eq_false_iff_ne.2 h1
    go_enter Tryz.func65, Tryz.ntmps65
    go_wp2_with fail
    exact bodyPost_ret (v := .agg #[.int .i64 a1, .int .i64 a2, .int .i64 a3]) (by simp [results, Tryz.results65, go_sem]) rfl ⟨by simp, by (repeat' (first | (with_reducible exact Below.refl _ _) | (with_reducible assumption) | (with_reducible apply Below.setCell) | (with_reducible apply Below.alloc) | (with_reducible apply Below.drew) | (with_reducible apply below_drewN) | (with_reducible refine Below.trans ?_ (Below.mono (by assumption) ?_)) | omega | (simp; done) | (simp; omega)))⟩
theorem firstR4_err {a1 a2 a3 b1 b2 b3 x1 x2 : Int} (f : Int → Int → Int → Int → Num3) (h : ¬ a3 = 0 ∨ ¬ b3 = 0) : firstR4 a1 a2 a3 b1 b2 b3 x1 x2 0 = opR f a1 a2 a3 b1 b2 b3 := by
  unfold firstR4 opR
  by_cases h1 : a3 = 0
  · by_cases h2 : b3 = 0
    · rcases h with h | h
      · exact absurd h1 h
      · exact absurd h2 h
    · simp [h1, h2]
  · simp [h1]
theorem firstR4_ok {a1 a2 b1 b2 : Int} {f : Int → Int → Int → Int → Num3} (h : Tells (f a1 a2 b1 b2)) : firstR4 a1 a2 0 b1 b2 0 (f a1 a2 b1 b2).1 (f a1 a2 b1 b2).2.1 (f a1 a2 b1 b2).2.2 = opR f a1 a2 0 b1 b2 0 := by
  unfold firstR4 opR
  rcases h with ⟨N, D, h, _⟩ | ⟨k, h, hk⟩
  · rw [h]; simp
  · rw [h]; simp [hk]
def ThreeBox (w : World) (b : Nat) (x y z : Int) : Prop := b < w.heap.size ∧ w.cell? ⟨b, 0, none⟩ = some (.int .i64 x) ∧ w.cell? ⟨b, 1, none⟩ = some (.int .i64 y) ∧ w.cell? ⟨b, 2, none⟩ = some (.int .i64 z)
theorem ThreeBox.step {w w' : World} {b : Nat} {x y z : Int} (h : ThreeBox w b x y z) (hb : Below w.heap.size w w') : ThreeBox w' b x y z :=
  ⟨Nat.lt_of_lt_of_le h.1 hb.size, (hb.cell (p := ⟨b, 0, none⟩) h.1).trans h.2.1, (hb.cell (p := ⟨b, 1, none⟩) h.1).trans h.2.2.1, (hb.cell (p := ⟨b, 2, none⟩) h.1).trans h.2.2.2⟩
theorem ThreeBox.new {w : World} {b : Nat} (hb : w.heap.size = b) (t : TypeId) (x y z : Int) : ThreeBox (w.alloc (.cells #[.int .i64 x, .int .i64 y, .int .i64 z] t)) b x y z := by
  subst hb
  exact ⟨by simp, by simp [go_sem], by simp [go_sem], by simp [go_sem]⟩
def ThreeOut (w : World) (b : Nat) : Prop := ThreeBox w b 0 0 0 ∧ w.frozen? ⟨b, 0, none⟩ = false ∧ w.frozen? ⟨b, 1, none⟩ = false ∧ w.frozen? ⟨b, 2, none⟩ = false
theorem ThreeOut.step {w w' : World} {b : Nat} (h : ThreeOut w b) (hb : Below w.heap.size w w') : ThreeOut w' b :=
  ⟨h.1.step hb, (hb.frozen (p := ⟨b, 0, none⟩) h.1.1).trans h.2.1, (hb.frozen (p := ⟨b, 1, none⟩) h.1.1).trans h.2.2.1, (hb.frozen (p := ⟨b, 2, none⟩) h.1.1).trans h.2.2.2⟩
theorem ThreeOut.new {w : World} {b : Nat} (hb : w.heap.size = b) (t : TypeId) : ThreeOut (w.alloc (.cells #[.int .i64 0, .int .i64 0, .int .i64 0] t)) b := by
  refine ⟨ThreeBox.new hb t 0 0 0, ?_⟩
  subst hb
  exact ⟨by simp [go_sem], by simp [go_sem], by simp [go_sem]⟩
set_option maxRecDepth 100000 in
set_option maxHeartbeats 4000000 in
theorem refPlus4 (a1 a2 a3 b1 b2 b3 : Int) (ha : NumOk a1 a2 a3) (hb : NumOk b1 b2 b3) (w : World) : Calls Tryz.prog 28 #[.agg #[.int .i64 a1, .int .i64 a2, .int .i64 a3], .agg #[.int .i64 b1, .int .i64 b2, .int .i64 b3]] w fun E w' => E = .returned (numV (opR RM.plusR a1 a2 a3 b1 b2 b3)) ∧ Below w.heap.size w w' := by
  have HA := hidd (show ThreeBox (((w.alloc (.cells #[.int .i64 a1, .int .i64 a2, .int .i64 a3] 37)).alloc (.cells #[.int .i64 b1, .int .i64 b2, .int .i64 b3] 37)).alloc (.cells #[.int .i64 0, .int .i64 0, .int .i64 0] 37)) w.heap.size a1 a2 a3 from (ThreeBox.new (w := w) rfl 37 a1 a2 a3).step (by (repeat' (first | (with_reducible exact Below.refl _ _) | (with_reducible assumption) | (with_reducible apply Below.setCell) | (with_reducible apply Below.alloc) | (with_reducible apply Below.drew) | (with_reducible apply below_drewN) | (with_reducible refine Below.trans ?_ (Below.mono (by assumption) ?_)) | omega | (simp; done) | (simp; omega)))))
  have HB := hidd (show ThreeBox (((w.alloc (.cells #[.int .i64 a1, .int .i64 a2, .int .i64 a3] 37)).alloc (.cells #[.int .i64 b1, .int .i64 b2, .int .i64 b3] 37)).alloc (.cells #[.int .i64 0, .int .i64 0, .int .i64 0] 37)) (w.heap.size + 1) b1 b2 b3 from (ThreeBox.new (w := w.alloc (.cells #[.int .i64 a1, .int .i64 a2, .int .i64 a3] 37)) (b := w.heap.size + 1) (by simp) 37 b1 b2 b3).step (by (repeat' (first | (with_reducible exact Below.refl _ _) | (with_reducible assumption) | (with_reducible apply Below.setCell) | (with_reducible apply Below.alloc) | (with_reducible apply Below.drew) | (with_reducible apply below_drewN) | (with_reducible refine Below.trans ?_ (Below.mono (by assumption) ?_)) | omega | (simp; done) | (simp; omega)))))
  have HO := hidd (show ThreeOut (((w.alloc (.cells #[.int .i64 a1, .int .i64 a2, .int .i64 a3] 37)).alloc (.cells #[.int .i64 b1, .int .i64 b2, .int .i64 b3] 37)).alloc (.cells #[.int .i64 0, .int .i64 0, .int .i64 0] 37)) (w.heap.size + 1 + 1) from ThreeOut.new (w := ((w.alloc (.cells #[.int .i64 a1, .int .i64 a2, .int .i64 a3] 37)).alloc (.cells #[.int .i64 b1, .int .i64 b2, .int .i64 b3] 37))) (by simp) _)
  have HW := hidd (show Below w.heap.size w (((w.alloc (.cells #[.int .i64 a1, .int .i64 a2, .int .i64 a3] 37)).alloc (.cells #[.int .i64 b1, .int .i64 b2, .int .i64 b3] 37)).alloc (.cells #[.int .i64 0, .int .i64 0, .int .i64 0] 37)) by (repeat' (first | (with_reducible exact Below.refl _ _) | (with_reducible assumption) | (with_reducible apply Below.setCell) | (with_reducible apply Below.alloc) | (with_reducible apply Below.drew) | (with_reducible apply below_drewN) | (with_reducible refine Below.trans ?_ (Below.mono (by assumption) ?_)) | omega | (simp; done) | (simp; omega))))
  by_cases he : ¬ a3 = 0 ∨ ¬ b3 = 0
  · have cf := hidd (fun W => refFirst_any a1 a2 a3 b1 b2 b3 a1 a2 0 W)
    rw [firstR4_err RM.plusR he] at cf
    obtain ⟨⟨N, D, k⟩, hr⟩ : ∃ r, opR RM.plusR a1 a2 a3 b1 b2 b3 = r := ⟨_, rfl⟩
    rw [hr] at cf ⊢
    unfold numV at cf ⊢
    clear ha hb hr
    have hsp : (a3 == 0) = false ∨ ((a3 == 0) = true ∧ a3 = 0 ∧ (b3 == 0) = false) := by
      by_cases h : a3 = 0
      · exact .inr ⟨beq_iff_eq.2 h, h, beq_eq_false_iff_ne.2 (by rcases he with g | g; exact absurd h g; exact g)⟩
      · exact .inl (beq_eq_false_iff_ne.2 h)
    rcases hsp with h1 | ⟨h1, h2, h3⟩
    · go_enter Tryz.func28, Tryz.ntmps28
      go_wp2_with fail
      refine (cf.out _).mono ?_
      rintro E w1 ⟨rfl, hb1⟩
      obtain ⟨⟨g5, g0, g1, g2⟩, g3, g4, g6⟩ := HO.out.step hb1
      have HB1 := hidd (below_step HW.out hb1)
      have hs := HB1.out.size
      clear hb1
      go_wp2_with fail
      exact bodyPost_ret (v := .agg #[.int .i64 N, .int .i64 D, .int .i64 k]) (by simp [results, Tryz.results28, go_sem, *]) rfl ⟨rfl, by have q := HB1.out; (repeat' (first | (with_reducible exact Below.refl _ _) | (with_reducible assumption) | (with_reducible apply Below.setCell) | (with_reducible apply Below.alloc) | (with_reducible apply Below.drew) | (with_reducible apply below_drewN) | (with_reducible refine Below.trans ?_ (Below.mono (by assumption) ?_)) | omega | (simp; done) | (simp; omega)))⟩
    · subst h2
      go_enter Tryz.func28, Tryz.ntmps28
      go_wp2_with fail
      refine (cf.out _).mono ?_
      rintro E w1 ⟨rfl, hb1⟩
      obtain ⟨⟨g5, g0, g1, g2⟩, g3, g4, g6⟩ := HO.out.step hb1
      have HB1 := hidd (below_step HW.out hb1)
      have hs := HB1.out.size
      clear hb1
      go_wp2_with fail
      exact bodyPost_ret (v := .agg #[.int .i64 N, .int .i64 D, .int .i64 k]) (by simp [results, Tryz.results28, go_sem, *]) rfl ⟨rfl, by have q := HB1.out; (repeat' (first | (with_reducible exact Below.refl _ _) | (with_reducible assumption) | (with_reducible apply Below.setCell) | (with_reducible apply Below.alloc) | (with_reducible apply Below.drew) | (with_reducible apply below_drewN) | (with_reducible refine Below.trans ?_ (Below.mono (by assumption) ?_)) | omega | (simp; done) | (simp; omega)))⟩
  · obtain ⟨rfl, rfl⟩ : a3 = 0 ∧ b3 = 0 := by
      by_cases h : a3 = 0
      · by_cases g : b3 = 0
        · exact ⟨h, g⟩
        · exact absurd (.inr g) he
      · exact absurd (.inl h) he
    have hra : RM.Right a1 a2 := by rcases ha with ⟨_, h⟩ | ⟨h, _⟩; exact h; exact absurd rfl h
    have hrb : RM.Right b1 b2 := by rcases hb with ⟨_, h⟩ | ⟨h, _⟩; exact h; exact absurd rfl h
    have cp := hidd (fun W => refPlus_any a1 a2 b1 b2 hra.2.2.1 hra.2.2.2.1 hra.1 hra.2.1 hrb.2.2.1 hrb.2.2.2.1 hrb.1 hrb.2.1 W)
    have ht := tells_plus a1 a2 b1 b2 hra.1 hrb.1
    have ho := firstR4_ok (f := RM.plusR) ht
    obtain ⟨⟨N, D, k⟩, hr⟩ : ∃ r, RM.plusR a1 a2 b1 b2 = r := ⟨_, rfl⟩
    rw [hr] at cp ho
    have cf := hidd (fun W => refFirst_any a1 a2 0 b1 b2 0 N D k W)
    simp only at ho
    rw [ho] at cf
    obtain ⟨⟨N2, D2, k2⟩, hr2⟩ : ∃ r, opR RM.plusR a1 a2 0 b1 b2 0 = r := ⟨_, rfl⟩
    rw [hr2] at cf ⊢
    unfold numV at cf ⊢
    unfold pairOf at cp
    simp only at cp
    clear ha hb hr he hra hrb ht ho hr2
    go_enter Tryz.func28, Tryz.ntmps28
    go_wp2_with fail
    refine (cp.out _).mono ?_
    rintro E w1 ⟨rfl, hb1⟩
    have HA1 := hidd (((HA.out.step hb1).step (below_new (Below.refl _ _) (.cells #[.int .i64 N, .int .i64 D] 25))))
    have HB2 := hidd (((HB.out.step hb1).step (below_new (Below.refl _ _) (.cells #[.int .i64 N, .int .i64 D] 25))))
    have HO1 := hidd (((HO.out.step hb1).step (below_new (Below.refl _ _) (.cells #[.int .i64 N, .int .i64 D] 25))))
    have HB1 := hidd (below_new (below_step HW.out hb1) (.cells #[.int .i64 N, .int .i64 D] 25))
    clear hb1
    obtain ⟨u5, u0, u1, u2⟩ := HA1.out
    obtain ⟨t5, t0, t1, t2⟩ := HB2.out
    go_wp2_with fail
    refine (cf.out _).mono ?_
    rintro E w2 ⟨rfl, hb2⟩
    obtain ⟨⟨g5, g0, g1, g2⟩, g3, g4, g6⟩ := HO1.out.step hb2
    have HB3 := hidd (below_step HB1.out hb2)
    have hs := HB3.out.size
    clear hb2
    go_wp2_with fail
    exact bodyPost_ret (v := .agg #[.int .i64 N2, .int .i64 D2, .int .i64 k2]) (by simp [results, Tryz.results28, go_sem, *]) rfl ⟨rfl, by have q := HB3.out; (repeat' (first | (with_reducible exact Below.refl _ _) | (with_reducible assumption) | (with_reducible apply Below.setCell) | (with_reducible apply Below.alloc) | (with_reducible apply Below.drew) | (with_reducible apply below_drewN) | (with_reducible refine Below.trans ?_ (Below.mono (by assumption) ?_)) | omega | (simp; done) | (simp; omega)))⟩
set_option maxRecDepth 100000 in
set_option maxHeartbeats 4000000 in
theorem refTimes4 (a1 a2 a3 b1 b2 b3 : Int) (ha : NumOk a1 a2 a3) (hb : NumOk b1 b2 b3) (w : World) : Calls Tryz.prog 50 #[.agg #[.int .i64 a1, .int .i64 a2, .int .i64 a3], .agg #[.int .i64 b1, .int .i64 b2, .int .i64 b3]] w fun E w' => E = .returned (numV (opR RM.timesR a1 a2 a3 b1 b2 b3)) ∧ Below w.heap.size w w' := by
  have HA := hidd (show ThreeBox (((w.alloc (.cells #[.int .i64 a1, .int .i64 a2, .int .i64 a3] 37)).alloc (.cells #[.int .i64 b1, .int .i64 b2, .int .i64 b3] 37)).alloc (.cells #[.int .i64 0, .int .i64 0, .int .i64 0] 37)) w.heap.size a1 a2 a3 from (ThreeBox.new (w := w) rfl 37 a1 a2 a3).step (by (repeat' (first | (with_reducible exact Below.refl _ _) | (with_reducible assumption) | (with_reducible apply Below.setCell) | (with_reducible apply Below.alloc) | (with_reducible apply Below.drew) | (with_reducible apply below_drewN) | (with_reducible refine Below.trans ?_ (Below.mono (by assumption) ?_)) | omega | (simp; done) | (simp; omega)))))
  have HB := hidd (show ThreeBox (((w.alloc (.cells #[.int .i64 a1, .int .i64 a2, .int .i64 a3] 37)).alloc (.cells #[.int .i64 b1, .int .i64 b2, .int .i64 b3] 37)).alloc (.cells #[.int .i64 0, .int .i64 0, .int .i64 0] 37)) (w.heap.size + 1) b1 b2 b3 from (ThreeBox.new (w := w.alloc (.cells #[.int .i64 a1, .int .i64 a2, .int .i64 a3] 37)) (b := w.heap.size + 1) (by simp) 37 b1 b2 b3).step (by (repeat' (first | (with_reducible exact Below.refl _ _) | (with_reducible assumption) | (with_reducible apply Below.setCell) | (with_reducible apply Below.alloc) | (with_reducible apply Below.drew) | (with_reducible apply below_drewN) | (with_reducible refine Below.trans ?_ (Below.mono (by assumption) ?_)) | omega | (simp; done) | (simp; omega)))))
  have HO := hidd (show ThreeOut (((w.alloc (.cells #[.int .i64 a1, .int .i64 a2, .int .i64 a3] 37)).alloc (.cells #[.int .i64 b1, .int .i64 b2, .int .i64 b3] 37)).alloc (.cells #[.int .i64 0, .int .i64 0, .int .i64 0] 37)) (w.heap.size + 1 + 1) from ThreeOut.new (w := ((w.alloc (.cells #[.int .i64 a1, .int .i64 a2, .int .i64 a3] 37)).alloc (.cells #[.int .i64 b1, .int .i64 b2, .int .i64 b3] 37))) (by simp) _)
  have HW := hidd (show Below w.heap.size w (((w.alloc (.cells #[.int .i64 a1, .int .i64 a2, .int .i64 a3] 37)).alloc (.cells #[.int .i64 b1, .int .i64 b2, .int .i64 b3] 37)).alloc (.cells #[.int .i64 0, .int .i64 0, .int .i64 0] 37)) by (repeat' (first | (with_reducible exact Below.refl _ _) | (with_reducible assumption) | (with_reducible apply Below.setCell) | (with_reducible apply Below.alloc) | (with_reducible apply Below.drew) | (with_reducible apply below_drewN) | (with_reducible refine Below.trans ?_ (Below.mono (by assumption) ?_)) | omega | (simp; done) | (simp; omega))))
  by_cases he : ¬ a3 = 0 ∨ ¬ b3 = 0
  · have cf := hidd (fun W => refFirst_any a1 a2 a3 b1 b2 b3 a1 a2 0 W)
    rw [firstR4_err RM.timesR he] at cf
    obtain ⟨⟨N, D, k⟩, hr⟩ : ∃ r, opR RM.timesR a1 a2 a3 b1 b2 b3 = r := ⟨_, rfl⟩
    rw [hr] at cf ⊢
    unfold numV at cf ⊢
    clear ha hb hr
    have hsp : (a3 == 0) = false ∨ ((a3 == 0) = true ∧ a3 = 0 ∧ (b3 == 0) = false) := by
      by_cases h : a3 = 0
      · exact .inr ⟨beq_iff_eq.2 h, h, beq_eq_false_iff_ne.2 (by rcases he with g | g; exact absurd h g; exact g)⟩
      · exact .inl (beq_eq_false_iff_ne.2 h)
    rcases hsp with h1 | ⟨h1, h2, h3⟩
    · go_enter Tryz.func50, Tryz.ntmps50
      go_wp2_with fail
      refine (cf.out _).mono ?_
      rintro E w1 ⟨rfl, hb1⟩
      obtain ⟨⟨g5, g0, g1, g2⟩, g3, g4, g6⟩ := HO.out.step hb1
      have HB1 := hidd (below_step HW.out hb1)
      have hs := HB1.out.size
      clear hb1
      go_wp2_with fail
      exact bodyPost_ret (v := .agg #[.int .i64 N, .int .i64 D, .int .i64 k]) (by simp [results, Tryz.results50, go_sem, *]) rfl ⟨rfl, by have q := HB1.out; (repeat' (first | (with_reducible exact Below.refl _ _) | (with_reducible assumption) | (with_reducible apply Below.setCell) | (with_reducible apply Below.alloc) | (with_reducible apply Below.drew) | (with_reducible apply below_drewN) | (with_reducible refine Below.trans ?_ (Below.mono (by assumption) ?_)) | omega | (simp; done) | (simp; omega)))⟩
    · subst h2
      go_enter Tryz.func50, Tryz.ntmps50
      go_wp2_with fail
      refine (cf.out _).mono ?_
      rintro E w1 ⟨rfl, hb1⟩
      obtain ⟨⟨g5, g0, g1, g2⟩, g3, g4, g6⟩ := HO.out.step hb1
      have HB1 := hidd (below_step HW.out hb1)
      have hs := HB1.out.size
      clear hb1
      go_wp2_with fail
      exact bodyPost_ret (v := .agg #[.int .i64 N, .int .i64 D, .int .i64 k]) (by simp [results, Tryz.results50, go_sem, *]) rfl ⟨rfl, by have q := HB1.out; (repeat' (first | (with_reducible exact Below.refl _ _) | (with_reducible assumption) | (with_reducible apply Below.setCell) | (with_reducible apply Below.alloc) | (with_reducible apply Below.drew) | (with_reducible apply below_drewN) | (with_reducible refine Below.trans ?_ (Below.mono (by assumption) ?_)) | omega | (simp; done) | (simp; omega)))⟩
  · obtain ⟨rfl, rfl⟩ : a3 = 0 ∧ b3 = 0 := by
      by_cases h : a3 = 0
      · by_cases g : b3 = 0
        · exact ⟨h, g⟩
        · exact absurd (.inr g) he
      · exact absurd (.inl h) he
    have hra : RM.Right a1 a2 := by rcases ha with ⟨_, h⟩ | ⟨h, _⟩; exact h; exact absurd rfl h
    have hrb : RM.Right b1 b2 := by rcases hb with ⟨_, h⟩ | ⟨h, _⟩; exact h; exact absurd rfl h
    have cp := hidd (fun W => refTimes_any a1 a2 b1 b2 hra.2.2.1 hra.2.2.2.1 hra.1 hra.2.1 hrb.2.2.1 hrb.2.2.2.1 hrb.1 hrb.2.1 W)
    have ht := tells_times a1 a2 b1 b2 hra.1 hrb.1
    have ho := firstR4_ok (f := RM.timesR) ht
    obtain ⟨⟨N, D, k⟩, hr⟩ : ∃ r, RM.timesR a1 a2 b1 b2 = r := ⟨_, rfl⟩
    rw [hr] at cp ho
    have cf := hidd (fun W => refFirst_any a1 a2 0 b1 b2 0 N D k W)
    simp only at ho
    rw [ho] at cf
    obtain ⟨⟨N2, D2, k2⟩, hr2⟩ : ∃ r, opR RM.timesR a1 a2 0 b1 b2 0 = r := ⟨_, rfl⟩
    rw [hr2] at cf ⊢
    unfold numV at cf ⊢
    unfold pairOf at cp
    simp only at cp
    clear ha hb hr he hra hrb ht ho hr2
    go_enter Tryz.func50, Tryz.ntmps50
    go_wp2_with fail
    refine (cp.out _).mono ?_
    rintro E w1 ⟨rfl, hb1⟩
    have HA1 := hidd (((HA.out.step hb1).step (below_new (Below.refl _ _) (.cells #[.int .i64 N, .int .i64 D] 25))))
    have HB2 := hidd (((HB.out.step hb1).step (below_new (Below.refl _ _) (.cells #[.int .i64 N, .int .i64 D] 25))))
    have HO1 := hidd (((HO.out.step hb1).step (below_new (Below.refl _ _) (.cells #[.int .i64 N, .int .i64 D] 25))))
    have HB1 := hidd (below_new (below_step HW.out hb1) (.cells #[.int .i64 N, .int .i64 D] 25))
    clear hb1
    obtain ⟨u5, u0, u1, u2⟩ := HA1.out
    obtain ⟨t5, t0, t1, t2⟩ := HB2.out
    go_wp2_with fail
    refine (cf.out _).mono ?_
    rintro E w2 ⟨rfl, hb2⟩
    obtain ⟨⟨g5, g0, g1, g2⟩, g3, g4, g6⟩ := HO1.out.step hb2
    have HB3 := hidd (below_step HB1.out hb2)
    have hs := HB3.out.size
    clear hb2
    go_wp2_with fail
    exact bodyPost_ret (v := .agg #[.int .i64 N2, .int .i64 D2, .int .i64 k2]) (by simp [results, Tryz.results50, go_sem, *]) rfl ⟨rfl, by have q := HB3.out; (repeat' (first | (with_reducible exact Below.refl _ _) | (with_reducible assumption) | (with_reducible apply Below.setCell) | (with_reducible apply Below.alloc) | (with_reducible apply Below.drew) | (with_reducible apply below_drewN) | (with_reducible refine Below.trans ?_ (Below.mono (by assumption) ?_)) | omega | (simp; done) | (simp; omega)))⟩
set_option maxRecDepth 100000 in
set_option maxHeartbeats 4000000 in
theorem refBy4 (a1 a2 a3 b1 b2 b3 : Int) (ha : NumOk a1 a2 a3) (hb : NumOk b1 b2 b3) (w : World) : Calls Tryz.prog 49 #[.agg #[.int .i64 a1, .int .i64 a2, .int .i64 a3], .agg #[.int .i64 b1, .int .i64 b2, .int .i64 b3]] w fun E w' => E = .returned (numV (opR divT a1 a2 a3 b1 b2 b3)) ∧ Below w.heap.size w w' := by
  have HA := hidd (show ThreeBox (((w.alloc (.cells #[.int .i64 a1, .int .i64 a2, .int .i64 a3] 37)).alloc (.cells #[.int .i64 b1, .int .i64 b2, .int .i64 b3] 37)).alloc (.cells #[.int .i64 0, .int .i64 0, .int .i64 0] 37)) w.heap.size a1 a2 a3 from (ThreeBox.new (w := w) rfl 37 a1 a2 a3).step (by (repeat' (first | (with_reducible exact Below.refl _ _) | (with_reducible assumption) | (with_reducible apply Below.setCell) | (with_reducible apply Below.alloc) | (with_reducible apply Below.drew) | (with_reducible apply below_drewN) | (with_reducible refine Below.trans ?_ (Below.mono (by assumption) ?_)) | omega | (simp; done) | (simp; omega)))))
  have HB := hidd (show ThreeBox (((w.alloc (.cells #[.int .i64 a1, .int .i64 a2, .int .i64 a3] 37)).alloc (.cells #[.int .i64 b1, .int .i64 b2, .int .i64 b3] 37)).alloc (.cells #[.int .i64 0, .int .i64 0, .int .i64 0] 37)) (w.heap.size + 1) b1 b2 b3 from (ThreeBox.new (w := w.alloc (.cells #[.int .i64 a1, .int .i64 a2, .int .i64 a3] 37)) (b := w.heap.size + 1) (by simp) 37 b1 b2 b3).step (by (repeat' (first | (with_reducible exact Below.refl _ _) | (with_reducible assumption) | (with_reducible apply Below.setCell) | (with_reducible apply Below.alloc) | (with_reducible apply Below.drew) | (with_reducible apply below_drewN) | (with_reducible refine Below.trans ?_ (Below.mono (by assumption) ?_)) | omega | (simp; done) | (simp; omega)))))
  have HO := hidd (show ThreeOut (((w.alloc (.cells #[.int .i64 a1, .int .i64 a2, .int .i64 a3] 37)).alloc (.cells #[.int .i64 b1, .int .i64 b2, .int .i64 b3] 37)).alloc (.cells #[.int .i64 0, .int .i64 0, .int .i64 0] 37)) (w.heap.size + 1 + 1) from ThreeOut.new (w := ((w.alloc (.cells #[.int .i64 a1, .int .i64 a2, .int .i64 a3] 37)).alloc (.cells #[.int .i64 b1, .int .i64 b2, .int .i64 b3] 37))) (by simp) _)
  have HW := hidd (show Below w.heap.size w (((w.alloc (.cells #[.int .i64 a1, .int .i64 a2, .int .i64 a3] 37)).alloc (.cells #[.int .i64 b1, .int .i64 b2, .int .i64 b3] 37)).alloc (.cells #[.int .i64 0, .int .i64 0, .int .i64 0] 37)) by (repeat' (first | (with_reducible exact Below.refl _ _) | (with_reducible assumption) | (with_reducible apply Below.setCell) | (with_reducible apply Below.alloc) | (with_reducible apply Below.drew) | (with_reducible apply below_drewN) | (with_reducible refine Below.trans ?_ (Below.mono (by assumption) ?_)) | omega | (simp; done) | (simp; omega))))
  by_cases he : ¬ a3 = 0 ∨ ¬ b3 = 0
  · have cf := hidd (fun W => refFirst_any a1 a2 a3 b1 b2 b3 a1 a2 0 W)
    rw [firstR4_err divT he] at cf
    obtain ⟨⟨N, D, k⟩, hr⟩ : ∃ r, opR divT a1 a2 a3 b1 b2 b3 = r := ⟨_, rfl⟩
    rw [hr] at cf ⊢
    unfold numV at cf ⊢
    clear ha hb hr
    have hsp : (a3 == 0) = false ∨ ((a3 == 0) = true ∧ a3 = 0 ∧ (b3 == 0) = false) := by
      by_cases h : a3 = 0
      · exact .inr ⟨beq_iff_eq.2 h, h, beq_eq_false_iff_ne.2 (by rcases he with g | g; exact absurd h g; exact g)⟩
      · exact .inl (beq_eq_false_iff_ne.2 h)
    rcases hsp with h1 | ⟨h1, h2, h3⟩
    · go_enter Tryz.func49, Tryz.ntmps49
      go_wp2_with fail
      refine (cf.out _).mono ?_
      rintro E w1 ⟨rfl, hb1⟩
      obtain ⟨⟨g5, g0, g1, g2⟩, g3, g4, g6⟩ := HO.out.step hb1
      have HB1 := hidd (below_step HW.out hb1)
      have hs := HB1.out.size
      clear hb1
      go_wp2_with fail
      exact bodyPost_ret (v := .agg #[.int .i64 N, .int .i64 D, .int .i64 k]) (by simp [results, Tryz.results49, go_sem, *]) rfl ⟨rfl, by have q := HB1.out; (repeat' (first | (with_reducible exact Below.refl _ _) | (with_reducible assumption) | (with_reducible apply Below.setCell) | (with_reducible apply Below.alloc) | (with_reducible apply Below.drew) | (with_reducible apply below_drewN) | (with_reducible refine Below.trans ?_ (Below.mono (by assumption) ?_)) | omega | (simp; done) | (simp; omega)))⟩
    · subst h2
      go_enter Tryz.func49, Tryz.ntmps49
      go_wp2_with fail
      refine (cf.out _).mono ?_
      rintro E w1 ⟨rfl, hb1⟩
      obtain ⟨⟨g5, g0, g1, g2⟩, g3, g4, g6⟩ := HO.out.step hb1
      have HB1 := hidd (below_step HW.out hb1)
      have hs := HB1.out.size
      clear hb1
      go_wp2_with fail
      exact bodyPost_ret (v := .agg #[.int .i64 N, .int .i64 D, .int .i64 k]) (by simp [results, Tryz.results49, go_sem, *]) rfl ⟨rfl, by have q := HB1.out; (repeat' (first | (with_reducible exact Below.refl _ _) | (with_reducible assumption) | (with_reducible apply Below.setCell) | (with_reducible apply Below.alloc) | (with_reducible apply Below.drew) | (with_reducible apply below_drewN) | (with_reducible refine Below.trans ?_ (Below.mono (by assumption) ?_)) | omega | (simp; done) | (simp; omega)))⟩
  · obtain ⟨rfl, rfl⟩ : a3 = 0 ∧ b3 = 0 := by
      by_cases h : a3 = 0
      · by_cases g : b3 = 0
        · exact ⟨h, g⟩
        · exact absurd (.inr g) he
      · exact absurd (.inl h) he
    have hra : RM.Right a1 a2 := by rcases ha with ⟨_, h⟩ | ⟨h, _⟩; exact h; exact absurd rfl h
    have hrb : RM.Right b1 b2 := by rcases hb with ⟨_, h⟩ | ⟨h, _⟩; exact h; exact absurd rfl h
    have cp := hidd (fun W => refBy_any a1 a2 b1 b2 hra.2.2.1 hra.2.2.2.1 hra.1 hra.2.1 hrb.2.2.1 hrb.2.2.2.1 hrb.1 hrb.2.1 W)
    have ht := tells_by a1 a2 b1 b2 hra.1 hrb.1
    have ho := firstR4_ok (f := divT) ht
    obtain ⟨⟨N, D, k⟩, hr⟩ : ∃ r, divT a1 a2 b1 b2 = r := ⟨_, rfl⟩
    rw [hr] at cp ho
    have cf := hidd (fun W => refFirst_any a1 a2 0 b1 b2 0 N D k W)
    simp only at ho
    rw [ho] at cf
    obtain ⟨⟨N2, D2, k2⟩, hr2⟩ : ∃ r, opR divT a1 a2 0 b1 b2 0 = r := ⟨_, rfl⟩
    rw [hr2] at cf ⊢
    unfold numV at cf ⊢
    unfold pairOf at cp
    simp only at cp
    clear ha hb hr he hra hrb ht ho hr2
    go_enter Tryz.func49, Tryz.ntmps49
    go_wp2_with fail
    refine (cp.out _).mono ?_
    rintro E w1 ⟨rfl, hb1⟩
    have HA1 := hidd (((HA.out.step hb1).step (below_new (Below.refl _ _) (.cells #[.int .i64 N, .int .i64 D] 25))))
    have HB2 := hidd (((HB.out.step hb1).step (below_new (Below.refl _ _) (.cells #[.int .i64 N, .int .i64 D] 25))))
    have HO1 := hidd (((HO.out.step hb1).step (below_new (Below.refl _ _) (.cells #[.int .i64 N, .int .i64 D] 25))))
    have HB1 := hidd (below_new (below_step HW.out hb1) (.cells #[.int .i64 N, .int .i64 D] 25))
    clear hb1
    obtain ⟨u5, u0, u1, u2⟩ := HA1.out
    obtain ⟨t5, t0, t1, t2⟩ := HB2.out
    go_wp2_with fail
    refine (cf.out _).mono ?_
    rintro E w2 ⟨rfl, hb2⟩
    obtain ⟨⟨g5, g0, g1, g2⟩, g3, g4, g6⟩ := HO1.out.step hb2
    have HB3 := hidd (below_step HB1.out hb2)
    have hs := HB3.out.size
    clear hb2
    go_wp2_with fail
    exact bodyPost_ret (v := .agg #[.int .i64 N2, .int .i64 D2, .int .i64 k2]) (by simp [results, Tryz.results49, go_sem, *]) rfl ⟨rfl, by have q := HB3.out; (repeat' (first | (with_reducible exact Below.refl _ _) | (with_reducible assumption) | (with_reducible apply Below.setCell) | (with_reducible apply Below.alloc) | (with_reducible apply Below.drew) | (with_reducible apply below_drewN) | (with_reducible refine Below.trans ?_ (Below.mono (by assumption) ?_)) | omega | (simp; done) | (simp; omega)))⟩
end Go.Proofs.YtokcalmmmfakcaaGreat

/- The document's Minus, Less, Between, Right, At of layer 4. -/
namespace Go.Proofs.YtokcalmmmfakcaaGreat
set_option linter.unusedVariables false
open Go.RowKit

theorem right_neg {n d : Int} (h : RM.Right n d) : RM.Right (-n) d := by
  obtain ⟨h1, h2, h3, h4, h5⟩ := h
  exact ⟨h1, h2, by omega, by omega, by rwa [Int.natAbs_neg]⟩
theorem NumOk.neg {a1 a2 a3 : Int} (h : NumOk a1 a2 a3) : NumOk (-a1) a2 a3 := by
  rcases h with ⟨h, g⟩ | ⟨h, g, k⟩
  · exact .inl ⟨h, right_neg g⟩
  · exact .inr ⟨h, by omega, k⟩
theorem NumOk.bound {a1 a2 a3 : Int} (h : NumOk a1 a2 a3) : -9223372036854775807 ≤ a1 ∧ a1 ≤ 9223372036854775807 := by
  rcases h with ⟨_, g⟩ | ⟨_, g, k⟩
  · exact ⟨g.2.2.1, g.2.2.2.1⟩
  · omega
theorem op_sub {a1 a2 a3 b1 b2 b3 : Int} (hb : NumOk b1 b2 b3) : opR RM.plusR a1 a2 a3 (-b1) b2 b3 = opR subT a1 a2 a3 b1 b2 b3 := by
  unfold opR subT
  by_cases h : b3 = 0
  · simp [h]
  · rcases hb with ⟨g, _⟩ | ⟨_, rfl, rfl⟩
    · exact absurd g h
    · simp
set_option maxRecDepth 100000 in
set_option maxHeartbeats 4000000 in
theorem refMinus4 (a1 a2 a3 b1 b2 b3 : Int) (ha : NumOk a1 a2 a3) (hb : NumOk b1 b2 b3) (w : World) : Calls Tryz.prog 30 #[.agg #[.int .i64 a1, .int .i64 a2, .int .i64 a3], .agg #[.int .i64 b1, .int .i64 b2, .int .i64 b3]] w fun E w' => E = .returned (numV (opR subT a1 a2 a3 b1 b2 b3)) ∧ Below w.heap.size w w' := by
  have cm := hidd (fun W => refMinus_any b1 b2 hb.bound.1 hb.bound.2 W)
  have cp := hidd (fun W => refPlus4 a1 a2 a3 (-b1) b2 b3 ha hb.neg W)
  rw [op_sub hb] at cp
  obtain ⟨⟨N, D, k⟩, hr⟩ : ∃ r, opR subT a1 a2 a3 b1 b2 b3 = r := ⟨_, rfl⟩
  rw [hr] at cp ⊢
  unfold numV at cp ⊢
  have q0 : (((w.alloc (.cells #[.int .i64 a1, .int .i64 a2, .int .i64 a3] 37)).alloc (.cells #[.int .i64 b1, .int .i64 b2, .int .i64 b3] 37)).alloc (.cells #[.int .i64 0, .int .i64 0, .int .i64 0] 37)).cell? ⟨w.heap.size, 0, none⟩ = some (.int .i64 a1) := by simp [go_sem]
  have d0 : w.heap.size < (((w.alloc (.cells #[.int .i64 a1, .int .i64 a2, .int .i64 a3] 37)).alloc (.cells #[.int .i64 b1, .int .i64 b2, .int .i64 b3] 37)).alloc (.cells #[.int .i64 0, .int .i64 0, .int .i64 0] 37)).heap.size := by first | (simp; done) | (simp; omega)
  have q1 : (((w.alloc (.cells #[.int .i64 a1, .int .i64 a2, .int .i64 a3] 37)).alloc (.cells #[.int .i64 b1, .int .i64 b2, .int .i64 b3] 37)).alloc (.cells #[.int .i64 0, .int .i64 0, .int .i64 0] 37)).cell? ⟨w.heap.size, 1, none⟩ = some (.int .i64 a2) := by simp [go_sem]
  have d1 : w.heap.size < (((w.alloc (.cells #[.int .i64 a1, .int .i64 a2, .int .i64 a3] 37)).alloc (.cells #[.int .i64 b1, .int .i64 b2, .int .i64 b3] 37)).alloc (.cells #[.int .i64 0, .int .i64 0, .int .i64 0] 37)).heap.size := by first | (simp; done) | (simp; omega)
  have q2 : (((w.alloc (.cells #[.int .i64 a1, .int .i64 a2, .int .i64 a3] 37)).alloc (.cells #[.int .i64 b1, .int .i64 b2, .int .i64 b3] 37)).alloc (.cells #[.int .i64 0, .int .i64 0, .int .i64 0] 37)).cell? ⟨w.heap.size, 2, none⟩ = some (.int .i64 a3) := by simp [go_sem]
  have d2 : w.heap.size < (((w.alloc (.cells #[.int .i64 a1, .int .i64 a2, .int .i64 a3] 37)).alloc (.cells #[.int .i64 b1, .int .i64 b2, .int .i64 b3] 37)).alloc (.cells #[.int .i64 0, .int .i64 0, .int .i64 0] 37)).heap.size := by first | (simp; done) | (simp; omega)
  have q3 : (((w.alloc (.cells #[.int .i64 a1, .int .i64 a2, .int .i64 a3] 37)).alloc (.cells #[.int .i64 b1, .int .i64 b2, .int .i64 b3] 37)).alloc (.cells #[.int .i64 0, .int .i64 0, .int .i64 0] 37)).cell? ⟨w.heap.size + 1, 0, none⟩ = some (.int .i64 b1) := by simp [go_sem]
  have d3 : w.heap.size + 1 < (((w.alloc (.cells #[.int .i64 a1, .int .i64 a2, .int .i64 a3] 37)).alloc (.cells #[.int .i64 b1, .int .i64 b2, .int .i64 b3] 37)).alloc (.cells #[.int .i64 0, .int .i64 0, .int .i64 0] 37)).heap.size := by first | (simp; done) | (simp; omega)
  have q4 : (((w.alloc (.cells #[.int .i64 a1, .int .i64 a2, .int .i64 a3] 37)).alloc (.cells #[.int .i64 b1, .int .i64 b2, .int .i64 b3] 37)).alloc (.cells #[.int .i64 0, .int .i64 0, .int .i64 0] 37)).cell? ⟨w.heap.size + 1, 1, none⟩ = some (.int .i64 b2) := by simp [go_sem]
  have d4 : w.heap.size + 1 < (((w.alloc (.cells #[.int .i64 a1, .int .i64 a2, .int .i64 a3] 37)).alloc (.cells #[.int .i64 b1, .int .i64 b2, .int .i64 b3] 37)).alloc (.cells #[.int .i64 0, .int .i64 0, .int .i64 0] 37)).heap.size := by first | (simp; done) | (simp; omega)
  have q5 : (((w.alloc (.cells #[.int .i64 a1, .int .i64 a2, .int .i64 a3] 37)).alloc (.cells #[.int .i64 b1, .int .i64 b2, .int .i64 b3] 37)).alloc (.cells #[.int .i64 0, .int .i64 0, .int .i64 0] 37)).cell? ⟨w.heap.size + 1, 2, none⟩ = some (.int .i64 b3) := by simp [go_sem]
  have d5 : w.heap.size + 1 < (((w.alloc (.cells #[.int .i64 a1, .int .i64 a2, .int .i64 a3] 37)).alloc (.cells #[.int .i64 b1, .int .i64 b2, .int .i64 b3] 37)).alloc (.cells #[.int .i64 0, .int .i64 0, .int .i64 0] 37)).heap.size := by first | (simp; done) | (simp; omega)
  have p0 : (((w.alloc (.cells #[.int .i64 a1, .int .i64 a2, .int .i64 a3] 37)).alloc (.cells #[.int .i64 b1, .int .i64 b2, .int .i64 b3] 37)).alloc (.cells #[.int .i64 0, .int .i64 0, .int .i64 0] 37)).cell? ⟨w.heap.size + 1 + 1, 0, none⟩ = some (.int .i64 0) := by simp [go_sem]
  have z0 : (((w.alloc (.cells #[.int .i64 a1, .int .i64 a2, .int .i64 a3] 37)).alloc (.cells #[.int .i64 b1, .int .i64 b2, .int .i64 b3] 37)).alloc (.cells #[.int .i64 0, .int .i64 0, .int .i64 0] 37)).frozen? ⟨w.heap.size + 1 + 1, 0, none⟩ = false := by simp [go_sem]
  have p1 : (((w.alloc (.cells #[.int .i64 a1, .int .i64 a2, .int .i64 a3] 37)).alloc (.cells #[.int .i64 b1, .int .i64 b2, .int .i64 b3] 37)).alloc (.cells #[.int .i64 0, .int .i64 0, .int .i64 0] 37)).cell? ⟨w.heap.size + 1 + 1, 1, none⟩ = some (.int .i64 0) := by simp [go_sem]
  have z1 : (((w.alloc (.cells #[.int .i64 a1, .int .i64 a2, .int .i64 a3] 37)).alloc (.cells #[.int .i64 b1, .int .i64 b2, .int .i64 b3] 37)).alloc (.cells #[.int .i64 0, .int .i64 0, .int .i64 0] 37)).frozen? ⟨w.heap.size + 1 + 1, 1, none⟩ = false := by simp [go_sem]
  have p2 : (((w.alloc (.cells #[.int .i64 a1, .int .i64 a2, .int .i64 a3] 37)).alloc (.cells #[.int .i64 b1, .int .i64 b2, .int .i64 b3] 37)).alloc (.cells #[.int .i64 0, .int .i64 0, .int .i64 0] 37)).cell? ⟨w.heap.size + 1 + 1, 2, none⟩ = some (.int .i64 0) := by simp [go_sem]
  have z2 : (((w.alloc (.cells #[.int .i64 a1, .int .i64 a2, .int .i64 a3] 37)).alloc (.cells #[.int .i64 b1, .int .i64 b2, .int .i64 b3] 37)).alloc (.cells #[.int .i64 0, .int .i64 0, .int .i64 0] 37)).frozen? ⟨w.heap.size + 1 + 1, 2, none⟩ = false := by simp [go_sem]
  have dz : w.heap.size + 1 + 1 < (((w.alloc (.cells #[.int .i64 a1, .int .i64 a2, .int .i64 a3] 37)).alloc (.cells #[.int .i64 b1, .int .i64 b2, .int .i64 b3] 37)).alloc (.cells #[.int .i64 0, .int .i64 0, .int .i64 0] 37)).heap.size := by first | (simp; done) | (simp; omega)
  have hBw : Below w.heap.size w (((w.alloc (.cells #[.int .i64 a1, .int .i64 a2, .int .i64 a3] 37)).alloc (.cells #[.int .i64 b1, .int .i64 b2, .int .i64 b3] 37)).alloc (.cells #[.int .i64 0, .int .i64 0, .int .i64 0] 37)) := by (repeat' (first | (with_reducible exact Below.refl _ _) | (with_reducible assumption) | (with_reducible apply Below.setCell) | (with_reducible apply Below.alloc) | (with_reducible apply Below.drew) | (with_reducible apply below_drewN) | (with_reducible refine Below.trans ?_ (Below.mono (by assumption) ?_)) | omega | (simp; done) | (simp; omega)))
  have KEEP := hidd (fun (w' : World) (hb : Below (((w.alloc (.cells #[.int .i64 a1, .int .i64 a2, .int .i64 a3] 37)).alloc (.cells #[.int .i64 b1, .int .i64 b2, .int .i64 b3] 37)).alloc (.cells #[.int .i64 0, .int .i64 0, .int .i64 0] 37)).heap.size (((w.alloc (.cells #[.int .i64 a1, .int .i64 a2, .int .i64 a3] 37)).alloc (.cells #[.int .i64 b1, .int .i64 b2, .int .i64 b3] 37)).alloc (.cells #[.int .i64 0, .int .i64 0, .int .i64 0] 37)) w') => (show w'.cell? ⟨w.heap.size, 0, none⟩ = some (.int .i64 a1) ∧ w'.cell? ⟨w.heap.size, 1, none⟩ = some (.int .i64 a2) ∧ w'.cell? ⟨w.heap.size, 2, none⟩ = some (.int .i64 a3) ∧ w'.cell? ⟨w.heap.size + 1, 0, none⟩ = some (.int .i64 b1) ∧ w'.cell? ⟨w.heap.size + 1, 1, none⟩ = some (.int .i64 b2) ∧ w'.cell? ⟨w.heap.size + 1, 2, none⟩ = some (.int .i64 b3) from ⟨(hb.cell (p := ⟨w.heap.size, 0, none⟩) d0).trans q0, (hb.cell (p := ⟨w.heap.size, 1, none⟩) d1).trans q1, (hb.cell (p := ⟨w.heap.size, 2, none⟩) d2).trans q2, (hb.cell (p := ⟨w.heap.size + 1, 0, none⟩) d3).trans q3, (hb.cell (p := ⟨w.heap.size + 1, 1, none⟩) d4).trans q4, (hb.cell (p := ⟨w.heap.size + 1, 2, none⟩) d5).trans q5⟩))
  have OUT := hidd (fun (w' : World) (hb : Below (((w.alloc (.cells #[.int .i64 a1, .int .i64 a2, .int .i64 a3] 37)).alloc (.cells #[.int .i64 b1, .int .i64 b2, .int .i64 b3] 37)).alloc (.cells #[.int .i64 0, .int .i64 0, .int .i64 0] 37)).heap.size (((w.alloc (.cells #[.int .i64 a1, .int .i64 a2, .int .i64 a3] 37)).alloc (.cells #[.int .i64 b1, .int .i64 b2, .int .i64 b3] 37)).alloc (.cells #[.int .i64 0, .int .i64 0, .int .i64 0] 37)) w') => (show (w'.cell? ⟨w.heap.size + 1 + 1, 0, none⟩ = some (.int .i64 0) ∧ w'.cell? ⟨w.heap.size + 1 + 1, 1, none⟩ = some (.int .i64 0) ∧ w'.cell? ⟨w.heap.size + 1 + 1, 2, none⟩ = some (.int .i64 0)) ∧ (w'.frozen? ⟨w.heap.size + 1 + 1, 0, none⟩ = false ∧ w'.frozen? ⟨w.heap.size + 1 + 1, 1, none⟩ = false ∧ w'.frozen? ⟨w.heap.size + 1 + 1, 2, none⟩ = false) ∧ w.heap.size + 1 + 1 < w'.heap.size ∧ Below w.heap.size w w' from ⟨⟨(hb.cell (p := ⟨w.heap.size + 1 + 1, 0, none⟩) dz).trans p0, (hb.cell (p := ⟨w.heap.size + 1 + 1, 1, none⟩) dz).trans p1, (hb.cell (p := ⟨w.heap.size + 1 + 1, 2, none⟩) dz).trans p2⟩, ⟨(hb.frozen (p := ⟨w.heap.size + 1 + 1, 0, none⟩) dz).trans z0, (hb.frozen (p := ⟨w.heap.size + 1 + 1, 1, none⟩) dz).trans z1, (hb.frozen (p := ⟨w.heap.size + 1 + 1, 2, none⟩) dz).trans z2⟩, Nat.lt_of_lt_of_le dz hb.size, below_step hBw hb⟩))
  clear ha hb hr hBw d0 d1 d2 d3 d4 d5
  go_enter Tryz.func30, Tryz.ntmps30
  go_wp2_with fail
  go_region_held (fun w' => w'.cell? ⟨w.heap.size, 0, none⟩ = some (.int .i64 a1) ∧ w'.cell? ⟨w.heap.size, 1, none⟩ = some (.int .i64 a2) ∧ w'.cell? ⟨w.heap.size, 2, none⟩ = some (.int .i64 a3) ∧ w'.cell? ⟨w.heap.size + 1, 0, none⟩ = some (.int .i64 b1) ∧ w'.cell? ⟨w.heap.size + 1, 1, none⟩ = some (.int .i64 b2) ∧ w'.cell? ⟨w.heap.size + 1, 2, none⟩ = some (.int .i64 b3))
    ((first | exact KEEP.out _ cum2 | exact KEEP.out _ cum1 | exact KEEP.out _ (Below.refl _ _) | exact KEEP.out _ (Below.drew (Below.refl _ _)) | exact KEEP.out _ (below_new cum2 _) | exact KEEP.out _ (below_new (below_new cum2 _) _) | exact KEEP.out _ (below_new (Below.drew (Below.refl _ _)) _) | (refine KEEP.out _ ?_; have qq := cum2; (repeat' (first | (with_reducible exact Below.refl _ _) | (with_reducible assumption) | (with_reducible apply Below.setCell) | (with_reducible apply Below.alloc) | (with_reducible apply Below.drew) | (with_reducible apply below_drewN) | (with_reducible refine Below.trans ?_ (Below.mono (by assumption) ?_)) | omega | (simp; done) | (simp; omega))); done) | (refine KEEP.out _ ?_; (repeat' (first | (with_reducible exact Below.refl _ _) | (with_reducible assumption) | (with_reducible apply Below.setCell) | (with_reducible apply Below.alloc) | (with_reducible apply Below.drew) | (with_reducible apply below_drewN) | (with_reducible refine Below.trans ?_ (Below.mono (by assumption) ?_)) | omega | (simp; done) | (simp; omega))); done) | (obtain ⟨j0, j1, j2, j3, j4, j5⟩ := KEEP.out _ cum2; refine ⟨?_, ?_, ?_, ?_, ?_, ?_⟩ <;> simp [go_sem, *]; done) | go_keep))
    ((first
      | (go_at_call 67; refine (cm.out _).mono ?_; rintro E1 v1 ⟨rfl, l1⟩; have cum1 : Below (((w.alloc (.cells #[.int .i64 a1, .int .i64 a2, .int .i64 a3] 37)).alloc (.cells #[.int .i64 b1, .int .i64 b2, .int .i64 b3] 37)).alloc (.cells #[.int .i64 0, .int .i64 0, .int .i64 0] 37)).heap.size (((w.alloc (.cells #[.int .i64 a1, .int .i64 a2, .int .i64 a3] 37)).alloc (.cells #[.int .i64 b1, .int .i64 b2, .int .i64 b3] 37)).alloc (.cells #[.int .i64 0, .int .i64 0, .int .i64 0] 37)) v1 := (by first | exact below_step (Below.drew (Below.refl _ _)) l1 | exact below_step (Below.refl _ _) l1 | (refine below_step ?_ l1; (repeat' (first | (with_reducible exact Below.refl _ _) | (with_reducible assumption) | (with_reducible apply Below.setCell) | (with_reducible apply Below.alloc) | (with_reducible apply Below.drew) | (with_reducible apply below_drewN) | (with_reducible refine Below.trans ?_ (Below.mono (by assumption) ?_)) | omega | (simp; done) | (simp; omega))))); have cz1 := Below.size cum1)
      | (go_at_call 28; refine (cp.out _).mono ?_; rintro E2 v2 ⟨rfl, l2⟩; have cum2 : Below (((w.alloc (.cells #[.int .i64 a1, .int .i64 a2, .int .i64 a3] 37)).alloc (.cells #[.int .i64 b1, .int .i64 b2, .int .i64 b3] 37)).alloc (.cells #[.int .i64 0, .int .i64 0, .int .i64 0] 37)).heap.size (((w.alloc (.cells #[.int .i64 a1, .int .i64 a2, .int .i64 a3] 37)).alloc (.cells #[.int .i64 b1, .int .i64 b2, .int .i64 b3] 37)).alloc (.cells #[.int .i64 0, .int .i64 0, .int .i64 0] 37)) v2 := (by first | exact below_step cum1 l2 | (refine below_step ?_ l2; have qq := cum1; (repeat' (first | (with_reducible exact Below.refl _ _) | (with_reducible assumption) | (with_reducible apply Below.setCell) | (with_reducible apply Below.alloc) | (with_reducible apply Below.drew) | (with_reducible apply below_drewN) | (with_reducible refine Below.trans ?_ (Below.mono (by assumption) ?_)) | omega | (simp; done) | (simp; omega))))); have cz2 := Below.size cum2; obtain ⟨⟨o0, o1, o2⟩, ⟨f0, f1, f2⟩, o5, _⟩ := OUT.out _ cum2)))
  all_goals go_wp2_with fail
  all_goals exact bodyPost_ret (v := .agg #[.int .i64 N, .int .i64 D, .int .i64 k]) (by simp [results, Tryz.results30, go_sem, *]) rfl ⟨rfl, by have q := (OUT.out _ cum2).2.2.2; (repeat' (first | (with_reducible exact Below.refl _ _) | (with_reducible assumption) | (with_reducible apply Below.setCell) | (with_reducible apply Below.alloc) | (with_reducible apply Below.drew) | (with_reducible apply below_drewN) | (with_reducible refine Below.trans ?_ (Below.mono (by assumption) ?_)) | omega | (simp; done) | (simp; omega)))⟩
theorem refLess4 (a1 a2 b1 b2 : Int) (ha : RM.Right a1 a2) (hb : RM.Right b1 b2) (w : World) : Calls Tryz.prog 29 #[.agg #[.int .i64 a1, .int .i64 a2, .int .i64 0], .agg #[.int .i64 b1, .int .i64 b2, .int .i64 0]] w fun E w' => E = .returned (.bool (decide (a1 * b2 < b1 * a2))) ∧ Below w.heap.size w w' := by
  have cc := hidd (fun W => refCmp_any a1 a2 b1 b2 ha.2.2.1 ha.2.2.2.1 ha.1 ha.2.1 hb.2.2.1 hb.2.2.2.1 hb.1 hb.2.1 W)
  have e : decide (a1 * b2 < b1 * a2) = decide (ordZ (a1 * b2) (b1 * a2) < 0) := by
    rw [decide_eq_decide]; exact (ordZ_neg _ _).symm
  rw [e]
  clear ha hb e
  generalize ordZ (a1 * b2) (b1 * a2) = Z at *
  go_enter Tryz.func29, Tryz.ntmps29
  go_wp2_with fail
  refine (cc.out _).mono ?_
  rintro E w1 ⟨rfl, hb⟩
  have hs := hb.size
  go_wp2_with fail
  go_ret
  exact ⟨by first | rfl | simp, by have hq : w.heap.size ≤ w1.heap.size := (by simp at hs; omega); (repeat' (first | (with_reducible exact Below.refl _ _) | (with_reducible assumption) | (with_reducible apply Below.setCell) | (with_reducible apply Below.alloc) | (with_reducible apply Below.drew) | (with_reducible apply below_drewN) | (with_reducible refine Below.trans ?_ (Below.mono (by assumption) ?_)) | omega | (simp; done) | (simp; omega)))⟩
set_option maxHeartbeats 2000000 in
theorem between_any (x d m : Int) (h0 : -9223372036854775808 ≤ x) (h1 : x ≤ 9223372036854775807) (h2 : -9223372036854775808 ≤ d) (h3 : d ≤ 9223372036854775807) (m0 : 0 ≤ m) (m1 : m ≤ 9223372036854775807) (w : World) :
    Calls Tryz.prog 22 #[.agg #[.int .i64 x, .int .i64 d], .int .i64 m] w fun E w' => E = .returned (.bool (withB x d m)) ∧ Below w.heap.size w w' := by
  have cc := hidd (fun W => refRight_any x d h0 h1 h2 h3 W)
  have KEEP := hidd (fun W' (hb : Below (w.alloc (.cells #[.int .i64 x, .int .i64 d] 25)).heap.size (w.alloc (.cells #[.int .i64 x, .int .i64 d] 25)) W') => (HasRat.new w x d 25).step hb)
  by_cases hr : rightB x d = true
  · rw [hr] at cc
    by_cases hx : 0 ≤ x
    · have hf : Fit x d := ⟨hr, h0, h1, h2, h3⟩
      have hm := (fit_whole (m := m) (by omega) m1).right
      have hxr := hf.right
      have ca := hidd (fun W => refCmp_any x d m 1 hxr.2.2.1 hxr.2.2.2.1 hxr.1 hxr.2.1 hm.2.2.1 hm.2.2.2.1 hm.1 hm.2.1 W)
      have e1 : withB x d m = decide (ordZ (x * 1) (m * d) ≤ 0) := by
        unfold withB
        rw [hr, Int.mul_one]
        rcases ordZ_cases x (m * d) with ⟨e, h⟩ | ⟨e, h⟩ | ⟨e, h⟩ <;> rw [e] <;> simp [hx] <;> omega
      have hx2 : decide (0 ≤ x) = true := decide_eq_true hx
      rw [e1]
      clear e1 hr hf hm hxr
      generalize ordZ (x * 1) (m * d) = Z at *
      go_enter Tryz.func22, Tryz.ntmps22
      go_wp2_with fail
      refine (cc.out _).mono ?_
      rintro E v1 ⟨rfl, l1⟩
      have HB1 := hidd (below_step (show Below w.heap.size w (w.alloc (.cells #[.int .i64 x, .int .i64 d] 25)) by (repeat' (first | (with_reducible exact Below.refl _ _) | (with_reducible assumption) | (with_reducible apply Below.setCell) | (with_reducible apply Below.alloc) | (with_reducible apply Below.drew) | (with_reducible apply below_drewN) | (with_reducible refine Below.trans ?_ (Below.mono (by assumption) ?_)) | omega | (simp; done) | (simp; omega)))) l1)
      obtain ⟨j0, j1, j2⟩ := KEEP.out _ l1
      clear l1
      go_wp2_with fail
      refine (ca.out _).mono ?_
      rintro E v2 ⟨rfl, l2⟩
      have HB2 := hidd (below_step HB1.out l2)
      clear l2
      go_wp2_with fail
      go_ret
      exact ⟨by first | rfl | simp, HB2.out⟩
    · have e1 : withB x d m = false := by unfold withB; simp [hx]
      have hx2 : decide (0 ≤ x) = false := decide_eq_false hx
      rw [e1]
      clear e1 hr
      go_enter Tryz.func22, Tryz.ntmps22
      go_wp2_with fail
      refine (cc.out _).mono ?_
      rintro E v1 ⟨rfl, l1⟩
      have HB1 := hidd (below_step (show Below w.heap.size w (w.alloc (.cells #[.int .i64 x, .int .i64 d] 25)) by (repeat' (first | (with_reducible exact Below.refl _ _) | (with_reducible assumption) | (with_reducible apply Below.setCell) | (with_reducible apply Below.alloc) | (with_reducible apply Below.drew) | (with_reducible apply below_drewN) | (with_reducible refine Below.trans ?_ (Below.mono (by assumption) ?_)) | omega | (simp; done) | (simp; omega)))) l1)
      obtain ⟨j0, j1, j2⟩ := KEEP.out _ l1
      clear l1
      go_wp2_with fail
      go_ret
      exact ⟨by first | rfl | simp, HB1.out⟩
  · have hr2 : rightB x d = false := by simpa using hr
    rw [hr2] at cc
    have e1 : withB x d m = false := by unfold withB; simp [hr2]
    rw [e1]
    clear e1 hr hr2
    go_enter Tryz.func22, Tryz.ntmps22
    go_wp2_with fail
    refine (cc.out _).mono ?_
    rintro E v1 ⟨rfl, l1⟩
    have HB1 := hidd (below_step (show Below w.heap.size w (w.alloc (.cells #[.int .i64 x, .int .i64 d] 25)) by (repeat' (first | (with_reducible exact Below.refl _ _) | (with_reducible assumption) | (with_reducible apply Below.setCell) | (with_reducible apply Below.alloc) | (with_reducible apply Below.drew) | (with_reducible apply below_drewN) | (with_reducible refine Below.trans ?_ (Below.mono (by assumption) ?_)) | omega | (simp; done) | (simp; omega)))) l1)
    clear l1
    go_wp2_with fail
    go_ret
    exact ⟨by first | rfl | simp, HB1.out⟩
set_option maxRecDepth 100000 in
set_option maxHeartbeats 2000000 in
theorem refRight4 (rn rd ln ld : Int) (hw : Word4 rn rd ln ld) (w : World) :
    Calls Tryz.prog 21 #[.agg #[.int .i64 rn, .int .i64 rd, .int .i64 ln, .int .i64 ld]] w fun E w' => E = .returned (.bool (servB rn rd ln ld)) ∧ Below w.heap.size w w' := by
  have ca := hidd (fun W => between_any rn rd 1000000 hw.1.1.1 hw.1.1.2 hw.1.2.1 hw.1.2.2 (by decide) (by decide) W)
  have ct := hidd (fun W => between_any ln ld 2147483647 hw.2.1.1 hw.2.1.2 hw.2.2.1 hw.2.2.2 (by decide) (by decide) W)
  unfold servB
  obtain ⟨P, hP⟩ : ∃ P, withB rn rd 1000000 = P := ⟨_, rfl⟩
  obtain ⟨Q, hQ⟩ : ∃ Q, withB ln ld 2147483647 = Q := ⟨_, rfl⟩
  rw [hP] at ca ⊢
  rw [hQ] at ct ⊢
  clear hP hQ hw
  have KEEP := hidd (fun W' (hb : Below (w.alloc (.cells #[.int .i64 rn, .int .i64 rd, .int .i64 ln, .int .i64 ld] 27)).heap.size (w.alloc (.cells #[.int .i64 rn, .int .i64 rd, .int .i64 ln, .int .i64 ld] 27)) W') => (HasServ.new w rn rd ln ld 27).step hb)
  obtain ⟨-, ⟨k0, k1⟩, k2, k3⟩ := KEEP.out _ (Below.refl _ _)
  have hsp : (P = false ∨ (P = true ∧ ¬ 0 < rn) ∨ (P = true ∧ 0 < rn ∧ ¬ rd ≤ 1000)) ∨ (P = true ∧ 0 < rn ∧ rd ≤ 1000) := by
    cases P <;> simp <;> omega
  rcases hsp with (rfl | ⟨rfl, h1⟩ | ⟨rfl, h1, h2⟩) | ⟨rfl, h1, h2⟩
  iterate 3
    · go_enter Tryz.func21, Tryz.ntmps21
      go_wp2_with fail
      refine (ca.out _).mono ?_
      rintro E v1 ⟨rfl, l1⟩
      obtain ⟨-, ⟨j0, j1⟩, j2, j3⟩ := KEEP.out _ l1
      go_wp2_with fail
      go_ret
      exact ⟨by first | rfl | (simp; done) | (simp; omega) | (simp [*]; done), (below_new (Below.refl w.heap.size w) (.cells #[.int .i64 rn, .int .i64 rd, .int .i64 ln, .int .i64 ld] 27)).trans (l1.mono (by simp))⟩
  · cases Q
    · go_enter Tryz.func21, Tryz.ntmps21
      go_wp2_with fail
      refine (ca.out _).mono ?_
      rintro E v1 ⟨rfl, l1⟩
      obtain ⟨-, ⟨j0, j1⟩, j2, j3⟩ := KEEP.out _ l1
      go_wp2_with fail
      refine (ct.out _).mono ?_
      rintro E v2 ⟨rfl, l2⟩
      have l3 := below_step l1 l2
      clear j0 j1 j2 j3
      obtain ⟨-, ⟨j0, j1⟩, j2, j3⟩ := KEEP.out _ l3
      go_wp2_with fail
      go_ret
      exact ⟨by first | rfl | (simp; done) | (simp; omega) | (simp [*]; done), (below_new (Below.refl w.heap.size w) (.cells #[.int .i64 rn, .int .i64 rd, .int .i64 ln, .int .i64 ld] 27)).trans (l3.mono (by simp))⟩
    · go_enter Tryz.func21, Tryz.ntmps21
      go_wp2_with fail
      refine (ca.out _).mono ?_
      rintro E v1 ⟨rfl, l1⟩
      obtain ⟨-, ⟨j0, j1⟩, j2, j3⟩ := KEEP.out _ l1
      go_wp2_with fail
      refine (ct.out _).mono ?_
      rintro E v2 ⟨rfl, l2⟩
      have l3 := below_step l1 l2
      clear j0 j1 j2 j3
      obtain ⟨-, ⟨j0, j1⟩, j2, j3⟩ := KEEP.out _ l3
      go_wp2_with fail
      go_ret
      exact ⟨by first | rfl | (simp; done) | (simp; omega) | (simp [*]; done), (below_new (Below.refl w.heap.size w) (.cells #[.int .i64 rn, .int .i64 rd, .int .i64 ln, .int .i64 ld] 27)).trans (l3.mono (by simp))⟩
theorem serv_op {rn rd ln ld n d : Int} (hl : 1 ≤ ld) (hd : 1 ≤ d) : opR RM.timesR rn rd 0 (subT n d ln ld).1 (subT n d ln ld).2.1 (subT n d ln ld).2.2 = thenR (subT n d ln ld) (fun a b => RM.timesR rn rd a b) := by
  rcases tells_plus n d (-ln) ld hd hl with ⟨N, D, h, _⟩ | ⟨k, h, hk⟩
  · have h2 : subT n d ln ld = (N, D, 0) := h
    rw [h2, thenR_ok]; simp [opR]
  · have h2 : subT n d ln ld = (0, 0, k) := h
    rw [h2, thenR_no hk]; simp [opR, hk]
set_option maxRecDepth 100000 in
set_option maxHeartbeats 4000000 in
theorem refAt4 (rn rd ln ld n d : Int) (hr : RM.Right rn rd) (hl : RM.Right ln ld) (hn : RM.Right n d) (w : World) :
    Calls Tryz.prog 23 #[.agg #[.int .i64 rn, .int .i64 rd, .int .i64 ln, .int .i64 ld], .agg #[.int .i64 n, .int .i64 d]] w fun E w' => E = .returned (numV (servR rn rd ln ld n d)) ∧ Below w.heap.size w w' := by
  have cc := hidd (fun W => refCmp_any n d ln ld hn.2.2.1 hn.2.2.2.1 hn.1 hn.2.1 hl.2.2.1 hl.2.2.2.1 hl.1 hl.2.1 W)
  have cmi := hidd (fun W => refMinus4 n d 0 ln ld 0 (.inl ⟨rfl, hn⟩) (.inl ⟨rfl, hl⟩) W)
  have e0 : opR subT n d 0 ln ld 0 = subT n d ln ld := by simp [opR]
  rw [e0] at cmi
  have cti := hidd (fun W => refTimes4 rn rd 0 (subT n d ln ld).1 (subT n d ln ld).2.1 (subT n d ln ld).2.2 (.inl ⟨rfl, hr⟩) (NumOk.of (tells_plus n d (-ln) ld hn.1 hl.1)) W)
  rw [serv_op hl.1 hn.1] at cti
  have cw := hidd (fun W => refWhole_any 0 W)
  have hle : decide (ordZ (n * ld) (ln * d) ≤ 0) = decide (n * ld ≤ ln * d) := by
    rcases ordZ_cases (n * ld) (ln * d) with ⟨e, h⟩ | ⟨e, h⟩ | ⟨e, h⟩ <;> rw [e] <;> simp <;> omega
  have HS := hidd (show servR rn rd ln ld n d = if n * ld ≤ ln * d then (0, 1, 0) else thenR (subT n d ln ld) (fun a b => RM.timesR rn rd a b) from rfl)
  obtain ⟨⟨S1, S2, S3⟩, hS⟩ : ∃ r, subT n d ln ld = r := ⟨_, rfl⟩
  obtain ⟨⟨T1, T2, T3⟩, hT⟩ : ∃ r, thenR (subT n d ln ld) (fun a b => RM.timesR rn rd a b) = r := ⟨_, rfl⟩
  rw [hT] at cti HS
  rw [hS] at cmi cti
  unfold numV at cmi cti ⊢
  simp only at cti
  generalize ordZ (n * ld) (ln * d) = Z at *
  clear e0 hS hT hr hl hn
  by_cases hh : n * ld ≤ ln * d
  · rw [decide_eq_true hh] at hle
    have HE := hidd (HS.out.trans (if_pos hh))
    have hz : Z ≤ 0 := of_decide_eq_true hle
    clear hle hh HS
    rw [HE.out]
    simp only
    go_enter Tryz.func23, Tryz.ntmps23
    go_wp2_with fail
    refine (cc.out _).mono ?_
    rintro E v0 ⟨rfl, hb⟩
    have HB1 := hidd (below_step (show Below w.heap.size w (((w.alloc (.cells #[.int .i64 rn, .int .i64 rd, .int .i64 ln, .int .i64 ld] 27)).alloc (.cells #[.int .i64 n, .int .i64 d] 25)).alloc (.cells #[.int .i64 0, .int .i64 0, .int .i64 0] 37)) by (repeat' (first | (with_reducible exact Below.refl _ _) | (with_reducible assumption) | (with_reducible apply Below.setCell) | (with_reducible apply Below.alloc) | (with_reducible apply Below.drew) | (with_reducible apply below_drewN) | (with_reducible refine Below.trans ?_ (Below.mono (by assumption) ?_)) | omega | (simp; done) | (simp; omega)))) hb)
    have HO := hidd ((ThreeOut.new (w := (w.alloc (.cells #[.int .i64 rn, .int .i64 rd, .int .i64 ln, .int .i64 ld] 27)).alloc (.cells #[.int .i64 n, .int .i64 d] 25)) (b := w.heap.size + 1 + 1) (by simp) 37).step hb)
    clear hb
    go_wp2_with fail
    refine (cw.out _).mono ?_
    rintro E v1 ⟨rfl, hb⟩
    have HB2 := hidd (below_step HB1.out hb)
    obtain ⟨⟨g5, g0, g1, g2⟩, g3, g4, g6⟩ := HO.out.step hb
    have hs := HB2.out.size
    clear hb
    go_wp2_with fail
    exact bodyPost_ret (v := .agg #[.int .i64 0, .int .i64 1, .int .i64 0]) (by simp [results, Tryz.results23, go_sem, *]) rfl ⟨rfl, by have q := HB2.out; (repeat' (first | (with_reducible exact Below.refl _ _) | (with_reducible assumption) | (with_reducible apply Below.setCell) | (with_reducible apply Below.alloc) | (with_reducible apply Below.drew) | (with_reducible apply below_drewN) | (with_reducible refine Below.trans ?_ (Below.mono (by assumption) ?_)) | omega | (simp; done) | (simp; omega)))⟩
  · rw [decide_eq_false hh] at hle
    have HE := hidd (HS.out.trans (if_neg hh))
    have hz : ¬ Z ≤ 0 := of_decide_eq_false hle
    clear hle hh HS
    rw [HE.out]
    simp only
    go_enter Tryz.func23, Tryz.ntmps23
    go_wp2_with fail
    refine (cc.out _).mono ?_
    rintro E v0 ⟨rfl, hb⟩
    obtain ⟨bc, bf⟩ := bcell hb
    have hs := hb.size
    have hBw : Below w.heap.size w v0 := below_step (show Below w.heap.size w (((w.alloc (.cells #[.int .i64 rn, .int .i64 rd, .int .i64 ln, .int .i64 ld] 27)).alloc (.cells #[.int .i64 n, .int .i64 d] 25)).alloc (.cells #[.int .i64 0, .int .i64 0, .int .i64 0] 37)) by (repeat' (first | (with_reducible exact Below.refl _ _) | (with_reducible assumption) | (with_reducible apply Below.setCell) | (with_reducible apply Below.alloc) | (with_reducible apply Below.drew) | (with_reducible apply below_drewN) | (with_reducible refine Below.trans ?_ (Below.mono (by assumption) ?_)) | omega | (simp; done) | (simp; omega)))) hb
    have q0 : v0.cell? ⟨w.heap.size, 0, none⟩ = some (.int .i64 rn) := by rw [bc _ _ (by first | (simp; done) | (simp; omega))]; simp [go_sem]
    have d0 : w.heap.size < v0.heap.size := by simp at hs; omega
    have q1 : v0.cell? ⟨w.heap.size, 1, none⟩ = some (.int .i64 rd) := by rw [bc _ _ (by first | (simp; done) | (simp; omega))]; simp [go_sem]
    have d1 : w.heap.size < v0.heap.size := by simp at hs; omega
    have q2 : v0.cell? ⟨w.heap.size, 2, none⟩ = some (.int .i64 ln) := by rw [bc _ _ (by first | (simp; done) | (simp; omega))]; simp [go_sem]
    have d2 : w.heap.size < v0.heap.size := by simp at hs; omega
    have q3 : v0.cell? ⟨w.heap.size, 3, none⟩ = some (.int .i64 ld) := by rw [bc _ _ (by first | (simp; done) | (simp; omega))]; simp [go_sem]
    have d3 : w.heap.size < v0.heap.size := by simp at hs; omega
    have q4 : v0.cell? ⟨w.heap.size + 1, 0, none⟩ = some (.int .i64 n) := by rw [bc _ _ (by first | (simp; done) | (simp; omega))]; simp [go_sem]
    have d4 : w.heap.size + 1 < v0.heap.size := by simp at hs; omega
    have q5 : v0.cell? ⟨w.heap.size + 1, 1, none⟩ = some (.int .i64 d) := by rw [bc _ _ (by first | (simp; done) | (simp; omega))]; simp [go_sem]
    have d5 : w.heap.size + 1 < v0.heap.size := by simp at hs; omega
    have p0 : v0.cell? ⟨w.heap.size + 1 + 1, 0, none⟩ = some (.int .i64 0) := by rw [bc _ _ (by first | (simp; done) | (simp; omega))]; simp [go_sem]
    have z0 : v0.frozen? ⟨w.heap.size + 1 + 1, 0, none⟩ = false := by rw [bf _ _ (by first | (simp; done) | (simp; omega))]; simp [go_sem]
    have p1 : v0.cell? ⟨w.heap.size + 1 + 1, 1, none⟩ = some (.int .i64 0) := by rw [bc _ _ (by first | (simp; done) | (simp; omega))]; simp [go_sem]
    have z1 : v0.frozen? ⟨w.heap.size + 1 + 1, 1, none⟩ = false := by rw [bf _ _ (by first | (simp; done) | (simp; omega))]; simp [go_sem]
    have p2 : v0.cell? ⟨w.heap.size + 1 + 1, 2, none⟩ = some (.int .i64 0) := by rw [bc _ _ (by first | (simp; done) | (simp; omega))]; simp [go_sem]
    have z2 : v0.frozen? ⟨w.heap.size + 1 + 1, 2, none⟩ = false := by rw [bf _ _ (by first | (simp; done) | (simp; omega))]; simp [go_sem]
    have dz : w.heap.size + 1 + 1 < v0.heap.size := by simp at hs; omega
    have KEEP := hidd (fun (w' : World) (hb : Below v0.heap.size v0 w') => (show w'.cell? ⟨w.heap.size, 0, none⟩ = some (.int .i64 rn) ∧ w'.cell? ⟨w.heap.size, 1, none⟩ = some (.int .i64 rd) ∧ w'.cell? ⟨w.heap.size, 2, none⟩ = some (.int .i64 ln) ∧ w'.cell? ⟨w.heap.size, 3, none⟩ = some (.int .i64 ld) ∧ w'.cell? ⟨w.heap.size + 1, 0, none⟩ = some (.int .i64 n) ∧ w'.cell? ⟨w.heap.size + 1, 1, none⟩ = some (.int .i64 d) from ⟨(hb.cell (p := ⟨w.heap.size, 0, none⟩) d0).trans q0, (hb.cell (p := ⟨w.heap.size, 1, none⟩) d1).trans q1, (hb.cell (p := ⟨w.heap.size, 2, none⟩) d2).trans q2, (hb.cell (p := ⟨w.heap.size, 3, none⟩) d3).trans q3, (hb.cell (p := ⟨w.heap.size + 1, 0, none⟩) d4).trans q4, (hb.cell (p := ⟨w.heap.size + 1, 1, none⟩) d5).trans q5⟩))
    have OUT := hidd (fun (w' : World) (hb : Below v0.heap.size v0 w') => (show (w'.cell? ⟨w.heap.size + 1 + 1, 0, none⟩ = some (.int .i64 0) ∧ w'.cell? ⟨w.heap.size + 1 + 1, 1, none⟩ = some (.int .i64 0) ∧ w'.cell? ⟨w.heap.size + 1 + 1, 2, none⟩ = some (.int .i64 0)) ∧ (w'.frozen? ⟨w.heap.size + 1 + 1, 0, none⟩ = false ∧ w'.frozen? ⟨w.heap.size + 1 + 1, 1, none⟩ = false ∧ w'.frozen? ⟨w.heap.size + 1 + 1, 2, none⟩ = false) ∧ w.heap.size + 1 + 1 < w'.heap.size ∧ Below w.heap.size w w' from ⟨⟨(hb.cell (p := ⟨w.heap.size + 1 + 1, 0, none⟩) dz).trans p0, (hb.cell (p := ⟨w.heap.size + 1 + 1, 1, none⟩) dz).trans p1, (hb.cell (p := ⟨w.heap.size + 1 + 1, 2, none⟩) dz).trans p2⟩, ⟨(hb.frozen (p := ⟨w.heap.size + 1 + 1, 0, none⟩) dz).trans z0, (hb.frozen (p := ⟨w.heap.size + 1 + 1, 1, none⟩) dz).trans z1, (hb.frozen (p := ⟨w.heap.size + 1 + 1, 2, none⟩) dz).trans z2⟩, Nat.lt_of_lt_of_le dz hb.size, below_step hBw hb⟩))
    clear hb bc bf hs hBw d0 d1 d2 d3 d4 d5
    go_wp2_with fail
    go_region_held (fun w' => w'.cell? ⟨w.heap.size, 0, none⟩ = some (.int .i64 rn) ∧ w'.cell? ⟨w.heap.size, 1, none⟩ = some (.int .i64 rd) ∧ w'.cell? ⟨w.heap.size, 2, none⟩ = some (.int .i64 ln) ∧ w'.cell? ⟨w.heap.size, 3, none⟩ = some (.int .i64 ld) ∧ w'.cell? ⟨w.heap.size + 1, 0, none⟩ = some (.int .i64 n) ∧ w'.cell? ⟨w.heap.size + 1, 1, none⟩ = some (.int .i64 d))
      ((first | exact KEEP.out _ cum2 | exact KEEP.out _ cum1 | exact KEEP.out _ (Below.refl _ _) | exact KEEP.out _ (Below.drew (Below.refl _ _)) | exact KEEP.out _ (below_new cum2 _) | exact KEEP.out _ (below_new (below_new cum2 _) _) | exact KEEP.out _ (below_new (Below.drew (Below.refl _ _)) _) | (refine KEEP.out _ ?_; have qq := cum2; (repeat' (first | (with_reducible exact Below.refl _ _) | (with_reducible assumption) | (with_reducible apply Below.setCell) | (with_reducible apply Below.alloc) | (with_reducible apply Below.drew) | (with_reducible apply below_drewN) | (with_reducible refine Below.trans ?_ (Below.mono (by assumption) ?_)) | omega | (simp; done) | (simp; omega))); done) | (refine KEEP.out _ ?_; (repeat' (first | (with_reducible exact Below.refl _ _) | (with_reducible assumption) | (with_reducible apply Below.setCell) | (with_reducible apply Below.alloc) | (with_reducible apply Below.drew) | (with_reducible apply below_drewN) | (with_reducible refine Below.trans ?_ (Below.mono (by assumption) ?_)) | omega | (simp; done) | (simp; omega))); done) | (obtain ⟨j0, j1, j2, j3, j4, j5⟩ := KEEP.out _ cum2; refine ⟨?_, ?_, ?_, ?_, ?_, ?_⟩ <;> simp [go_sem, *]; done) | go_keep))
      ((first
        | (go_at_call 30; refine (cmi.out _).mono ?_; rintro E1 v1 ⟨rfl, l1⟩; have cum1 : Below v0.heap.size v0 v1 := (by first | exact below_step (Below.drew (Below.refl _ _)) l1 | exact below_step (Below.refl _ _) l1 | (refine below_step ?_ l1; (repeat' (first | (with_reducible exact Below.refl _ _) | (with_reducible assumption) | (with_reducible apply Below.setCell) | (with_reducible apply Below.alloc) | (with_reducible apply Below.drew) | (with_reducible apply below_drewN) | (with_reducible refine Below.trans ?_ (Below.mono (by assumption) ?_)) | omega | (simp; done) | (simp; omega))))); have cz1 := Below.size cum1)
        | (go_at_call 50; refine (cti.out _).mono ?_; rintro E2 v2 ⟨rfl, l2⟩; have cum2 : Below v0.heap.size v0 v2 := (by first | exact below_step cum1 l2 | (refine below_step ?_ l2; have qq := cum1; (repeat' (first | (with_reducible exact Below.refl _ _) | (with_reducible assumption) | (with_reducible apply Below.setCell) | (with_reducible apply Below.alloc) | (with_reducible apply Below.drew) | (with_reducible apply below_drewN) | (with_reducible refine Below.trans ?_ (Below.mono (by assumption) ?_)) | omega | (simp; done) | (simp; omega))))); have cz2 := Below.size cum2; obtain ⟨⟨o0, o1, o2⟩, ⟨f0, f1, f2⟩, o5, _⟩ := OUT.out _ cum2)))
    all_goals go_wp2_with fail
    all_goals exact bodyPost_ret (v := .agg #[.int .i64 T1, .int .i64 T2, .int .i64 T3]) (by simp [results, Tryz.results23, go_sem, *]) rfl ⟨rfl, by have q := (OUT.out _ cum2).2.2.2; (repeat' (first | (with_reducible exact Below.refl _ _) | (with_reducible assumption) | (with_reducible apply Below.setCell) | (with_reducible apply Below.alloc) | (with_reducible apply Below.drew) | (with_reducible apply below_drewN) | (with_reducible refine Below.trans ?_ (Below.mono (by assumption) ?_)) | omega | (simp; done) | (simp; omega)))⟩
end Go.Proofs.YtokcalmmmfakcaaGreat

/- How high lines are, as the document says; what a law compares. -/
namespace Go.Proofs.YtokcalmmmfakcaaGreat
set_option linter.unusedVariables false
open Go.RowKit

def ThreeG (w : World) (b : Nat) (x y z : Int) : Prop := ThreeBox w b x y z ∧ w.frozen? ⟨b, 0, none⟩ = false ∧ w.frozen? ⟨b, 1, none⟩ = false ∧ w.frozen? ⟨b, 2, none⟩ = false
theorem ThreeG.step {w w' : World} {b : Nat} {x y z : Int} (h : ThreeG w b x y z) (hb : Below w.heap.size w w') : ThreeG w' b x y z :=
  ⟨h.1.step hb, (hb.frozen (p := ⟨b, 0, none⟩) h.1.1).trans h.2.1, (hb.frozen (p := ⟨b, 1, none⟩) h.1.1).trans h.2.2.1, (hb.frozen (p := ⟨b, 2, none⟩) h.1.1).trans h.2.2.2⟩
theorem ThreeG.new {w : World} {b : Nat} (hb : w.heap.size = b) (t : TypeId) (x y z : Int) : ThreeG (w.alloc (.cells #[.int .i64 x, .int .i64 y, .int .i64 z] t)) b x y z := by
  refine ⟨ThreeBox.new hb t x y z, ?_⟩
  subst hb
  exact ⟨by simp [go_sem], by simp [go_sem], by simp [go_sem]⟩
theorem ThreeG.put {W : World} {b : Nat} {u v s : Int} (h : ThreeG W b u v s) (x y z : Int) : ThreeG (((W.setCell ⟨b, 0, none⟩ (.int .i64 x)).setCell ⟨b, 1, none⟩ (.int .i64 y)).setCell ⟨b, 2, none⟩ (.int .i64 z)) b x y z := by
  obtain ⟨⟨h0, h1, h2, h3⟩, h4, h5, h6⟩ := h
  exact ⟨⟨by simpa using h0, by simp [go_sem, *], by simp [go_sem, *], by simp [go_sem, *]⟩, by simp [go_sem, *], by simp [go_sem, *], by simp [go_sem, *]⟩
theorem below_put3 {B : Nat} {w W : World} {b : Nat} (h : Below B w W) (hb : B ≤ b) (x y z : Int) : Below B w (((W.setCell ⟨b, 0, none⟩ (.int .i64 x)).setCell ⟨b, 1, none⟩ (.int .i64 y)).setCell ⟨b, 2, none⟩ (.int .i64 z)) := ((h.setCell (by simpa using hb) _).setCell (by simpa using hb) _).setCell (by simpa using hb) _
theorem high_op {b r n d : Int} (hd : 1 ≤ d) : opR RM.plusR (RM.timesR r 1 n d).1 (RM.timesR r 1 n d).2.1 (RM.timesR r 1 n d).2.2 b 1 0 = hgtR b r n d := by
  unfold hgtR
  rcases tells_times r 1 n d (by decide) hd with ⟨N, D, h, hr⟩ | ⟨k, h, hk⟩
  · rw [h, thenR_ok]; simp [opR]; exact RM.plusR_comm N D b 1 hr.1 (by decide)
  · rw [h, thenR_no hk]; simp [opR, hk]
def HighSt (f : Int × Int → Num3) (l : List (Int × Int)) (RES : Num3) (i : Nat) (N D : Int) : Prop := (i = 0 ∧ RES = lowR f l) ∨ (0 < i ∧ RM.Right N D ∧ RES = lowK f N D (l.drop i))
theorem highSt_next {f : Int × Int → Num3} {l : List (Int × Int)} {RES : Num3} {i : Nat} {N D : Int} (hi : i < l.length) (h : HighSt f l RES i N D) : RES = thenR (f l[i]) (fun P Q => if i = 0 ∨ P * D < N * Q then lowK f P Q (l.drop (i + 1)) else lowK f N D (l.drop (i + 1))) := by
  rcases h with ⟨rfl, h⟩ | ⟨h0, hr, h⟩
  · rw [h, lowR_first hi]
    have e : l.drop (0 + 1) = l.tail := by cases l <;> simp
    rw [e]
    simp
  · rw [h, lowK_next hi]
    congr 1
    funext P Q
    have e : (i = 0 ∨ P * D < N * Q) ↔ P * D < N * Q := ⟨fun h => by rcases h with h | h; omega; exact h, .inr⟩
    by_cases g : P * D < N * Q
    · rw [if_pos g, if_pos (e.2 g)]
    · rw [if_neg g, if_neg (fun h => g (e.1 h))]
set_option maxRecDepth 100000 in
set_option maxHeartbeats 16000000 in
theorem refHigh4 (A : Option Addr) (l : List (Int × Int)) (c : Nat) (h0 : 0 < l.length) (hm : l.length ≤ 1000000) (hl1 : MayL l) (n d : Int) (hn : RM.Right n d) (w : World) (hl : LiesO w A l) :
    Calls Tryz.prog 25 #[.slice A l.length c, .agg #[.int .i64 n, .int .i64 d, .int .i64 0]] w fun E w' => E = .returned (numV (highR l n d)) ∧ Below w.heap.size w w' := by
  have HL := hidd hl
  have HM := hidd hl1
  have HNR := hidd hn
  have HT0 := hidd (show ThreeBox ((w.alloc (.cells #[.int .i64 n, .int .i64 d, .int .i64 0] 37)).alloc (.cells #[.int .i64 0, .int .i64 0, .int .i64 0] 37)) w.heap.size n d 0 from (ThreeBox.new (w := w) rfl 37 n d 0).step (by (repeat' (first | (with_reducible exact Below.refl _ _) | (with_reducible assumption) | (with_reducible apply Below.setCell) | (with_reducible apply Below.alloc) | (with_reducible apply Below.drew) | (with_reducible apply below_drewN) | (with_reducible refine Below.trans ?_ (Below.mono (by assumption) ?_)) | omega | (simp; done) | (simp; omega)))))
  have HO0 := hidd (show ThreeOut ((w.alloc (.cells #[.int .i64 n, .int .i64 d, .int .i64 0] 37)).alloc (.cells #[.int .i64 0, .int .i64 0, .int .i64 0] 37)) (w.heap.size + 1) from ThreeOut.new (w := w.alloc (.cells #[.int .i64 n, .int .i64 d, .int .i64 0] 37)) (by simp) 37)
  have HW0 := hidd (show Below w.heap.size w ((w.alloc (.cells #[.int .i64 n, .int .i64 d, .int .i64 0] 37)).alloc (.cells #[.int .i64 0, .int .i64 0, .int .i64 0] 37)) by (repeat' (first | (with_reducible exact Below.refl _ _) | (with_reducible assumption) | (with_reducible apply Below.setCell) | (with_reducible apply Below.alloc) | (with_reducible apply Below.drew) | (with_reducible apply below_drewN) | (with_reducible refine Below.trans ?_ (Below.mono (by assumption) ?_)) | omega | (simp; done) | (simp; omega))))
  have HVS := hidd (show ((w.alloc (.cells #[.int .i64 n, .int .i64 d, .int .i64 0] 37)).alloc (.cells #[.int .i64 0, .int .i64 0, .int .i64 0] 37)).heap.size = w.heap.size + 1 + 1 by simp)
  obtain ⟨f, hf⟩ : ∃ f : Int × Int → Num3, f = fun x => hgtR x.1 x.2 n d := ⟨_, rfl⟩
  have HF := hidd hf
  have hh : highR l n d = lowR f l := by rw [hf]; rfl
  rw [hh]
  obtain ⟨⟨R1, R2, R3⟩, hR⟩ : ∃ r, lowR f l = r := ⟨_, rfl⟩
  rw [hR]
  have HST := hidd (show HighSt f l (R1, R2, R3) 0 0 0 from .inl ⟨rfl, hR.symm⟩)
  have HNX := hidd (fun i (hi : i < l.length) N D (h : HighSt f l (R1, R2, R3) i N D) => highSt_next hi h)
  unfold numV
  have hn0 : ¬ l.length = 0 := by omega
  clear hl hl1 hn hf hh hR
  go_enter Tryz.func25, Tryz.ntmps25
  go_wp2_with fail
  go_loopg [6] (l.length + 2) (fun g s6 wr => ∃ (i : Nat) (N D : Int), i ≤ l.length ∧ i + g = l.length + 2 ∧ s6 = .int .i64 (i : Int) ∧ HighSt f l (R1, R2, R3) i N D ∧ ThreeG wr (w.heap.size + 1 + 1) N D 0 ∧ Below ((w.alloc (.cells #[.int .i64 n, .int .i64 d, .int .i64 0] 37)).alloc (.cells #[.int .i64 0, .int .i64 0, .int .i64 0] 37)).heap.size ((w.alloc (.cells #[.int .i64 n, .int .i64 d, .int .i64 0] 37)).alloc (.cells #[.int .i64 0, .int .i64 0, .int .i64 0] 37)) wr)
  case atStart => exact ⟨0, 0, 0, by omega, by omega, by first | rfl | simp, HST.out, ThreeG.new (by simp) _ 0 0 0, by (repeat' (first | (with_reducible exact Below.refl _ _) | (with_reducible assumption) | (with_reducible apply Below.setCell) | (with_reducible apply Below.alloc) | (with_reducible apply Below.drew) | (with_reducible apply below_drewN) | (with_reducible refine Below.trans ?_ (Below.mono (by assumption) ?_)) | omega | (simp; done) | (simp; omega)))⟩
  case round =>
    obtain ⟨i, N, D, hi1, hg, rfl, hS, hG, hB⟩ := hrel
    have HG := hidd hg
    have HS := hidd hS
    have HB5 := hidd hG
    have HB := hidd hB
    have HBw := hidd (below_step HW0.out hB)
    have HTr := hidd (HT0.out.step hB)
    have HOr := hidd (HO0.out.step hB)
    have hin0 : (0 : Int) ≤ (i : Int) := by omega
    clear hg hS hG hB
    by_cases hin : i < l.length
    · have hin2 : (i : Int) < (l.length : Int) := by omega
      obtain ⟨ad, rfl, hab, hcells⟩ := (HL.out.below HBw.out) (by omega)
      obtain ⟨x0, x1⟩ := hcells i hin
      have hmay := HM.out _ (List.getElem_mem hin)
      have hnx := HNX.out i hin N D HS.out
      obtain ⟨x, hx⟩ : ∃ x, l[i]'hin = x := ⟨_, rfl⟩
      rw [hx] at x0 x1 hmay hnx
      obtain ⟨b, r⟩ := x
      simp only at hmay x0 x1
      have e1 : f (b, r) = hgtR b r n d := by rw [HF.out]
      rw [e1] at hnx
      have HNXX := hidd hnx
      have cwr := hidd (fun W => refWhole_any r W)
      have cwb := hidd (fun W => refWhole_any b W)
      have hrr : RM.Right r 1 := (fit_whole (by omega) (by omega)).right
      have hbr : RM.Right b 1 := (fit_whole (by omega) (by omega)).right
      have cti := hidd (fun W => refTimes4 r 1 0 n d 0 (.inl ⟨rfl, hrr⟩) (.inl ⟨rfl, HNR.out⟩) W)
      have e2 : opR RM.timesR r 1 0 n d 0 = RM.timesR r 1 n d := by simp [opR]
      rw [e2] at cti
      have cpl := hidd (fun W => refPlus4 (RM.timesR r 1 n d).1 (RM.timesR r 1 n d).2.1 (RM.timesR r 1 n d).2.2 b 1 0 (NumOk.of (tells_times r 1 n d (by decide) HNR.out.1)) (.inl ⟨rfl, hbr⟩) W)
      rw [high_op HNR.out.1] at cpl
      have htl := tells_hgt b r n d HNR.out.1
      obtain ⟨⟨T1, T2, T3⟩, hT⟩ : ∃ q, RM.timesR r 1 n d = q := ⟨_, rfl⟩
      obtain ⟨⟨H1, H2, H3⟩, hH⟩ : ∃ q, hgtR b r n d = q := ⟨_, rfl⟩
      rw [hT] at cti cpl
      rw [hH] at cpl htl HNXX
      unfold numV at cti cpl
      simp only at cpl
      have HTL := hidd htl
      have q0 := x0
      have q1 := x1
      obtain ⟨d2, q2, q3, q4⟩ := HTr.out
      have d0 : (ad.add (i * 2)).block < wr.heap.size := by rw [block_of_add]; exact hab
      have d1 : (⟨(ad.add (i * 2)).block, (ad.add (i * 2)).off + 1, none⟩ : Addr).block < wr.heap.size := d0
      have d3 := d2
      have d4 := d2
      have hBw := HBw.out
      have hsz5 : w.heap.size + 1 + 1 < wr.heap.size := HB5.out.1.1
      have KEEP := hidd (fun (w' : World) (hb : Below wr.heap.size wr w') => (show w'.cell? (ad.add (i * 2)) = some (.int .i64 b) ∧ w'.cell? ⟨(ad.add (i * 2)).block, (ad.add (i * 2)).off + 1, none⟩ = some (.int .i64 r) ∧ w'.cell? ⟨w.heap.size, 0, none⟩ = some (.int .i64 n) ∧ w'.cell? ⟨w.heap.size, 1, none⟩ = some (.int .i64 d) ∧ w'.cell? ⟨w.heap.size, 2, none⟩ = some (.int .i64 0) from ⟨(hb.cell (p := (ad.add (i * 2))) d0).trans q0, (hb.cell (p := ⟨(ad.add (i * 2)).block, (ad.add (i * 2)).off + 1, none⟩) d1).trans q1, (hb.cell (p := ⟨w.heap.size, 0, none⟩) d2).trans q2, (hb.cell (p := ⟨w.heap.size, 1, none⟩) d3).trans q3, (hb.cell (p := ⟨w.heap.size, 2, none⟩) d4).trans q4⟩))
      have OUT := hidd (fun (w' : World) (hb : Below wr.heap.size wr w') => (show True ∧ True ∧ True ∧ Below w.heap.size w w' from ⟨trivial, trivial, trivial, below_step hBw hb⟩))
      clear q0 q1 q2 q3 q4 d1 d2 d3 d4 hBw hmay hnx hrr hbr e1 e2 htl hT hH hcells hx
      go_wp2_with fail
      go_cut [7] (fun s7 wx => ∃ q : Nat, s7 = .pointer (some ⟨q, 0, none⟩) ∧ wr.heap.size ≤ q ∧ ThreeBox wx q H1 H2 H3 ∧ Below wr.heap.size wr wx)
      case first =>
        go_region_held (fun w' => w'.cell? (ad.add (i * 2)) = some (.int .i64 b) ∧ w'.cell? ⟨(ad.add (i * 2)).block, (ad.add (i * 2)).off + 1, none⟩ = some (.int .i64 r) ∧ w'.cell? ⟨w.heap.size, 0, none⟩ = some (.int .i64 n) ∧ w'.cell? ⟨w.heap.size, 1, none⟩ = some (.int .i64 d) ∧ w'.cell? ⟨w.heap.size, 2, none⟩ = some (.int .i64 0))
          ((first | exact KEEP.out _ cum4 | exact KEEP.out _ cum3 | exact KEEP.out _ cum2 | exact KEEP.out _ cum1 | exact KEEP.out _ (Below.refl _ _) | exact KEEP.out _ (Below.drew (Below.refl _ _)) | exact KEEP.out _ (below_new cum4 _) | exact KEEP.out _ (below_new (below_new cum4 _) _) | exact KEEP.out _ (below_new (Below.drew (Below.refl _ _)) _) | (refine KEEP.out _ ?_; have qq := cum4; (repeat' (first | (with_reducible exact Below.refl _ _) | (with_reducible assumption) | (with_reducible apply Below.setCell) | (with_reducible apply Below.alloc) | (with_reducible apply Below.drew) | (with_reducible apply below_drewN) | (with_reducible refine Below.trans ?_ (Below.mono (by assumption) ?_)) | omega | (simp; done) | (simp; omega))); done) | (refine KEEP.out _ ?_; (repeat' (first | (with_reducible exact Below.refl _ _) | (with_reducible assumption) | (with_reducible apply Below.setCell) | (with_reducible apply Below.alloc) | (with_reducible apply Below.drew) | (with_reducible apply below_drewN) | (with_reducible refine Below.trans ?_ (Below.mono (by assumption) ?_)) | omega | (simp; done) | (simp; omega))); done) | (obtain ⟨j0, j1, j2, j3, j4⟩ := KEEP.out _ cum4; refine ⟨?_, ?_, ?_, ?_, ?_⟩ <;> simp [go_sem, *]; done) | go_keep))
          ((first
            | (go_at_call_of 32 (Value.int IntKind.i64 r); refine (cwr.out _).mono ?_; rintro E1 v1 ⟨rfl, l1⟩; have cum1 : Below wr.heap.size wr v1 := (by first | exact below_step (Below.drew (Below.refl _ _)) l1 | exact below_step (Below.refl _ _) l1 | (refine below_step ?_ l1; (repeat' (first | (with_reducible exact Below.refl _ _) | (with_reducible assumption) | (with_reducible apply Below.setCell) | (with_reducible apply Below.alloc) | (with_reducible apply Below.drew) | (with_reducible apply below_drewN) | (with_reducible refine Below.trans ?_ (Below.mono (by assumption) ?_)) | omega | (simp; done) | (simp; omega))))); have cz1 := Below.size cum1; obtain ⟨bc1, bf1⟩ := bcell l1; (try (have ec1p0 : v1.cell? ⟨wr.heap.size, 0, none⟩ = some (.int .i64 0) := ?_; rotate_left; focus (refine (bc1 _ _ ?_).trans ?_; all_goals (first | (simp [go_sem]; done) | (simp; omega) | (simp [go_sem, *]; done))))); (try (have ef1p0 : v1.frozen? ⟨wr.heap.size, 0, none⟩ = false := ?_; rotate_left; focus (refine (bf1 _ _ ?_).trans ?_; all_goals (first | (simp [go_sem]; done) | (simp; omega) | (simp [go_sem, *]; done))))); (try (have ec1p1 : v1.cell? ⟨wr.heap.size, 1, none⟩ = some (.int .i64 0) := ?_; rotate_left; focus (refine (bc1 _ _ ?_).trans ?_; all_goals (first | (simp [go_sem]; done) | (simp; omega) | (simp [go_sem, *]; done))))); (try (have ef1p1 : v1.frozen? ⟨wr.heap.size, 1, none⟩ = false := ?_; rotate_left; focus (refine (bf1 _ _ ?_).trans ?_; all_goals (first | (simp [go_sem]; done) | (simp; omega) | (simp [go_sem, *]; done))))); (try (have ec1p2 : v1.cell? ⟨wr.heap.size, 2, none⟩ = some (.int .i64 0) := ?_; rotate_left; focus (refine (bc1 _ _ ?_).trans ?_; all_goals (first | (simp [go_sem]; done) | (simp; omega) | (simp [go_sem, *]; done))))); (try (have ef1p2 : v1.frozen? ⟨wr.heap.size, 2, none⟩ = false := ?_; rotate_left; focus (refine (bf1 _ _ ?_).trans ?_; all_goals (first | (simp [go_sem]; done) | (simp; omega) | (simp [go_sem, *]; done))))); (try (have en1p : ¬ wr.heap.size = v1.heap.size := ?_; rotate_left; focus (have this := Below.size l1; (try simp at this); omega))); (try (have es1p : wr.heap.size < v1.heap.size := ?_; rotate_left; focus (have this := Below.size l1; (try simp at this); omega))); clear bc1 bf1)
            | (go_at_call 50; refine (cti.out _).mono ?_; rintro E2 v2 ⟨rfl, l2⟩; have cum2 : Below wr.heap.size wr v2 := (by first | exact below_step cum1 l2 | (refine below_step ?_ l2; have qq := cum1; (repeat' (first | (with_reducible exact Below.refl _ _) | (with_reducible assumption) | (with_reducible apply Below.setCell) | (with_reducible apply Below.alloc) | (with_reducible apply Below.drew) | (with_reducible apply below_drewN) | (with_reducible refine Below.trans ?_ (Below.mono (by assumption) ?_)) | omega | (simp; done) | (simp; omega))))); have cz2 := Below.size cum2; obtain ⟨bc2, bf2⟩ := bcell l2; (try (have ec2p0 : v2.cell? ⟨wr.heap.size, 0, none⟩ = some (.int .i64 0) := ?_; rotate_left; focus (refine (bc2 _ _ ?_).trans ?_; all_goals (first | (simp [go_sem]; done) | (simp; omega) | (simp [go_sem, *]; done))))); (try (have ef2p0 : v2.frozen? ⟨wr.heap.size, 0, none⟩ = false := ?_; rotate_left; focus (refine (bf2 _ _ ?_).trans ?_; all_goals (first | (simp [go_sem]; done) | (simp; omega) | (simp [go_sem, *]; done))))); (try (have ec2p1 : v2.cell? ⟨wr.heap.size, 1, none⟩ = some (.int .i64 0) := ?_; rotate_left; focus (refine (bc2 _ _ ?_).trans ?_; all_goals (first | (simp [go_sem]; done) | (simp; omega) | (simp [go_sem, *]; done))))); (try (have ef2p1 : v2.frozen? ⟨wr.heap.size, 1, none⟩ = false := ?_; rotate_left; focus (refine (bf2 _ _ ?_).trans ?_; all_goals (first | (simp [go_sem]; done) | (simp; omega) | (simp [go_sem, *]; done))))); (try (have ec2p2 : v2.cell? ⟨wr.heap.size, 2, none⟩ = some (.int .i64 0) := ?_; rotate_left; focus (refine (bc2 _ _ ?_).trans ?_; all_goals (first | (simp [go_sem]; done) | (simp; omega) | (simp [go_sem, *]; done))))); (try (have ef2p2 : v2.frozen? ⟨wr.heap.size, 2, none⟩ = false := ?_; rotate_left; focus (refine (bf2 _ _ ?_).trans ?_; all_goals (first | (simp [go_sem]; done) | (simp; omega) | (simp [go_sem, *]; done))))); (try (have en2p : ¬ wr.heap.size = v2.heap.size := ?_; rotate_left; focus (have this := Below.size l2; (try simp at this); omega))); (try (have es2p : wr.heap.size < v2.heap.size := ?_; rotate_left; focus (have this := Below.size l2; (try simp at this); omega))); (try (have ec2u0 : v2.cell? ⟨v1.heap.size, 0, none⟩ = some (.int .i64 0) := ?_; rotate_left; focus (refine (bc2 _ _ ?_).trans ?_; all_goals (first | (simp [go_sem]; done) | (simp; omega) | (simp [go_sem, *]; done))))); (try (have ef2u0 : v2.frozen? ⟨v1.heap.size, 0, none⟩ = false := ?_; rotate_left; focus (refine (bf2 _ _ ?_).trans ?_; all_goals (first | (simp [go_sem]; done) | (simp; omega) | (simp [go_sem, *]; done))))); (try (have ec2u1 : v2.cell? ⟨v1.heap.size, 1, none⟩ = some (.int .i64 0) := ?_; rotate_left; focus (refine (bc2 _ _ ?_).trans ?_; all_goals (first | (simp [go_sem]; done) | (simp; omega) | (simp [go_sem, *]; done))))); (try (have ef2u1 : v2.frozen? ⟨v1.heap.size, 1, none⟩ = false := ?_; rotate_left; focus (refine (bf2 _ _ ?_).trans ?_; all_goals (first | (simp [go_sem]; done) | (simp; omega) | (simp [go_sem, *]; done))))); (try (have ec2u2 : v2.cell? ⟨v1.heap.size, 2, none⟩ = some (.int .i64 0) := ?_; rotate_left; focus (refine (bc2 _ _ ?_).trans ?_; all_goals (first | (simp [go_sem]; done) | (simp; omega) | (simp [go_sem, *]; done))))); (try (have ef2u2 : v2.frozen? ⟨v1.heap.size, 2, none⟩ = false := ?_; rotate_left; focus (refine (bf2 _ _ ?_).trans ?_; all_goals (first | (simp [go_sem]; done) | (simp; omega) | (simp [go_sem, *]; done))))); (try (have en2u : ¬ v1.heap.size = v2.heap.size := ?_; rotate_left; focus (have this := Below.size l2; (try simp at this); omega))); (try (have es2u : v1.heap.size < v2.heap.size := ?_; rotate_left; focus (have this := Below.size l2; (try simp at this); omega))); clear bc2 bf2)
            | (go_at_call_of 32 (Value.int IntKind.i64 b); refine (cwb.out _).mono ?_; rintro E3 v3 ⟨rfl, l3⟩; have cum3 : Below wr.heap.size wr v3 := (by first | exact below_step cum2 l3 | (refine below_step ?_ l3; have qq := cum2; (repeat' (first | (with_reducible exact Below.refl _ _) | (with_reducible assumption) | (with_reducible apply Below.setCell) | (with_reducible apply Below.alloc) | (with_reducible apply Below.drew) | (with_reducible apply below_drewN) | (with_reducible refine Below.trans ?_ (Below.mono (by assumption) ?_)) | omega | (simp; done) | (simp; omega))))); have cz3 := Below.size cum3; obtain ⟨bc3, bf3⟩ := bcell l3; (try (have ec3p0 : v3.cell? ⟨wr.heap.size, 0, none⟩ = some (.int .i64 0) := ?_; rotate_left; focus (refine (bc3 _ _ ?_).trans ?_; all_goals (first | (simp [go_sem]; done) | (simp; omega) | (simp [go_sem, *]; done))))); (try (have ef3p0 : v3.frozen? ⟨wr.heap.size, 0, none⟩ = false := ?_; rotate_left; focus (refine (bf3 _ _ ?_).trans ?_; all_goals (first | (simp [go_sem]; done) | (simp; omega) | (simp [go_sem, *]; done))))); (try (have ec3p1 : v3.cell? ⟨wr.heap.size, 1, none⟩ = some (.int .i64 0) := ?_; rotate_left; focus (refine (bc3 _ _ ?_).trans ?_; all_goals (first | (simp [go_sem]; done) | (simp; omega) | (simp [go_sem, *]; done))))); (try (have ef3p1 : v3.frozen? ⟨wr.heap.size, 1, none⟩ = false := ?_; rotate_left; focus (refine (bf3 _ _ ?_).trans ?_; all_goals (first | (simp [go_sem]; done) | (simp; omega) | (simp [go_sem, *]; done))))); (try (have ec3p2 : v3.cell? ⟨wr.heap.size, 2, none⟩ = some (.int .i64 0) := ?_; rotate_left; focus (refine (bc3 _ _ ?_).trans ?_; all_goals (first | (simp [go_sem]; done) | (simp; omega) | (simp [go_sem, *]; done))))); (try (have ef3p2 : v3.frozen? ⟨wr.heap.size, 2, none⟩ = false := ?_; rotate_left; focus (refine (bf3 _ _ ?_).trans ?_; all_goals (first | (simp [go_sem]; done) | (simp; omega) | (simp [go_sem, *]; done))))); (try (have en3p : ¬ wr.heap.size = v3.heap.size := ?_; rotate_left; focus (have this := Below.size l3; (try simp at this); omega))); (try (have es3p : wr.heap.size < v3.heap.size := ?_; rotate_left; focus (have this := Below.size l3; (try simp at this); omega))); (try (have ec3u0 : v3.cell? ⟨v1.heap.size, 0, none⟩ = some (.int .i64 0) := ?_; rotate_left; focus (refine (bc3 _ _ ?_).trans ?_; all_goals (first | (simp [go_sem]; done) | (simp; omega) | (simp [go_sem, *]; done))))); (try (have ef3u0 : v3.frozen? ⟨v1.heap.size, 0, none⟩ = false := ?_; rotate_left; focus (refine (bf3 _ _ ?_).trans ?_; all_goals (first | (simp [go_sem]; done) | (simp; omega) | (simp [go_sem, *]; done))))); (try (have ec3u1 : v3.cell? ⟨v1.heap.size, 1, none⟩ = some (.int .i64 0) := ?_; rotate_left; focus (refine (bc3 _ _ ?_).trans ?_; all_goals (first | (simp [go_sem]; done) | (simp; omega) | (simp [go_sem, *]; done))))); (try (have ef3u1 : v3.frozen? ⟨v1.heap.size, 1, none⟩ = false := ?_; rotate_left; focus (refine (bf3 _ _ ?_).trans ?_; all_goals (first | (simp [go_sem]; done) | (simp; omega) | (simp [go_sem, *]; done))))); (try (have ec3u2 : v3.cell? ⟨v1.heap.size, 2, none⟩ = some (.int .i64 0) := ?_; rotate_left; focus (refine (bc3 _ _ ?_).trans ?_; all_goals (first | (simp [go_sem]; done) | (simp; omega) | (simp [go_sem, *]; done))))); (try (have ef3u2 : v3.frozen? ⟨v1.heap.size, 2, none⟩ = false := ?_; rotate_left; focus (refine (bf3 _ _ ?_).trans ?_; all_goals (first | (simp [go_sem]; done) | (simp; omega) | (simp [go_sem, *]; done))))); (try (have en3u : ¬ v1.heap.size = v3.heap.size := ?_; rotate_left; focus (have this := Below.size l3; (try simp at this); omega))); (try (have es3u : v1.heap.size < v3.heap.size := ?_; rotate_left; focus (have this := Below.size l3; (try simp at this); omega))); (try (have ec3v0 : v3.cell? ⟨v2.heap.size, 0, none⟩ = some (.int .i64 0) := ?_; rotate_left; focus (refine (bc3 _ _ ?_).trans ?_; all_goals (first | (simp [go_sem]; done) | (simp; omega) | (simp [go_sem, *]; done))))); (try (have ef3v0 : v3.frozen? ⟨v2.heap.size, 0, none⟩ = false := ?_; rotate_left; focus (refine (bf3 _ _ ?_).trans ?_; all_goals (first | (simp [go_sem]; done) | (simp; omega) | (simp [go_sem, *]; done))))); (try (have ec3v1 : v3.cell? ⟨v2.heap.size, 1, none⟩ = some (.int .i64 0) := ?_; rotate_left; focus (refine (bc3 _ _ ?_).trans ?_; all_goals (first | (simp [go_sem]; done) | (simp; omega) | (simp [go_sem, *]; done))))); (try (have ef3v1 : v3.frozen? ⟨v2.heap.size, 1, none⟩ = false := ?_; rotate_left; focus (refine (bf3 _ _ ?_).trans ?_; all_goals (first | (simp [go_sem]; done) | (simp; omega) | (simp [go_sem, *]; done))))); (try (have ec3v2 : v3.cell? ⟨v2.heap.size, 2, none⟩ = some (.int .i64 0) := ?_; rotate_left; focus (refine (bc3 _ _ ?_).trans ?_; all_goals (first | (simp [go_sem]; done) | (simp; omega) | (simp [go_sem, *]; done))))); (try (have ef3v2 : v3.frozen? ⟨v2.heap.size, 2, none⟩ = false := ?_; rotate_left; focus (refine (bf3 _ _ ?_).trans ?_; all_goals (first | (simp [go_sem]; done) | (simp; omega) | (simp [go_sem, *]; done))))); (try (have en3v : ¬ v2.heap.size = v3.heap.size := ?_; rotate_left; focus (have this := Below.size l3; (try simp at this); omega))); (try (have es3v : v2.heap.size < v3.heap.size := ?_; rotate_left; focus (have this := Below.size l3; (try simp at this); omega))); clear bc3 bf3)
            | (go_at_call 28; refine (cpl.out _).mono ?_; rintro E4 v4 ⟨rfl, l4⟩; have cum4 : Below wr.heap.size wr v4 := (by first | exact below_step cum3 l4 | (refine below_step ?_ l4; have qq := cum3; (repeat' (first | (with_reducible exact Below.refl _ _) | (with_reducible assumption) | (with_reducible apply Below.setCell) | (with_reducible apply Below.alloc) | (with_reducible apply Below.drew) | (with_reducible apply below_drewN) | (with_reducible refine Below.trans ?_ (Below.mono (by assumption) ?_)) | omega | (simp; done) | (simp; omega))))); have cz4 := Below.size cum4; obtain ⟨bc4, bf4⟩ := bcell l4; (try (have ec4p0 : v4.cell? ⟨wr.heap.size, 0, none⟩ = some (.int .i64 0) := ?_; rotate_left; focus (refine (bc4 _ _ ?_).trans ?_; all_goals (first | (simp [go_sem]; done) | (simp; omega) | (simp [go_sem, *]; done))))); (try (have ef4p0 : v4.frozen? ⟨wr.heap.size, 0, none⟩ = false := ?_; rotate_left; focus (refine (bf4 _ _ ?_).trans ?_; all_goals (first | (simp [go_sem]; done) | (simp; omega) | (simp [go_sem, *]; done))))); (try (have ec4p1 : v4.cell? ⟨wr.heap.size, 1, none⟩ = some (.int .i64 0) := ?_; rotate_left; focus (refine (bc4 _ _ ?_).trans ?_; all_goals (first | (simp [go_sem]; done) | (simp; omega) | (simp [go_sem, *]; done))))); (try (have ef4p1 : v4.frozen? ⟨wr.heap.size, 1, none⟩ = false := ?_; rotate_left; focus (refine (bf4 _ _ ?_).trans ?_; all_goals (first | (simp [go_sem]; done) | (simp; omega) | (simp [go_sem, *]; done))))); (try (have ec4p2 : v4.cell? ⟨wr.heap.size, 2, none⟩ = some (.int .i64 0) := ?_; rotate_left; focus (refine (bc4 _ _ ?_).trans ?_; all_goals (first | (simp [go_sem]; done) | (simp; omega) | (simp [go_sem, *]; done))))); (try (have ef4p2 : v4.frozen? ⟨wr.heap.size, 2, none⟩ = false := ?_; rotate_left; focus (refine (bf4 _ _ ?_).trans ?_; all_goals (first | (simp [go_sem]; done) | (simp; omega) | (simp [go_sem, *]; done))))); (try (have en4p : ¬ wr.heap.size = v4.heap.size := ?_; rotate_left; focus (have this := Below.size l4; (try simp at this); omega))); (try (have es4p : wr.heap.size < v4.heap.size := ?_; rotate_left; focus (have this := Below.size l4; (try simp at this); omega))); (try (have ec4u0 : v4.cell? ⟨v1.heap.size, 0, none⟩ = some (.int .i64 0) := ?_; rotate_left; focus (refine (bc4 _ _ ?_).trans ?_; all_goals (first | (simp [go_sem]; done) | (simp; omega) | (simp [go_sem, *]; done))))); (try (have ef4u0 : v4.frozen? ⟨v1.heap.size, 0, none⟩ = false := ?_; rotate_left; focus (refine (bf4 _ _ ?_).trans ?_; all_goals (first | (simp [go_sem]; done) | (simp; omega) | (simp [go_sem, *]; done))))); (try (have ec4u1 : v4.cell? ⟨v1.heap.size, 1, none⟩ = some (.int .i64 0) := ?_; rotate_left; focus (refine (bc4 _ _ ?_).trans ?_; all_goals (first | (simp [go_sem]; done) | (simp; omega) | (simp [go_sem, *]; done))))); (try (have ef4u1 : v4.frozen? ⟨v1.heap.size, 1, none⟩ = false := ?_; rotate_left; focus (refine (bf4 _ _ ?_).trans ?_; all_goals (first | (simp [go_sem]; done) | (simp; omega) | (simp [go_sem, *]; done))))); (try (have ec4u2 : v4.cell? ⟨v1.heap.size, 2, none⟩ = some (.int .i64 0) := ?_; rotate_left; focus (refine (bc4 _ _ ?_).trans ?_; all_goals (first | (simp [go_sem]; done) | (simp; omega) | (simp [go_sem, *]; done))))); (try (have ef4u2 : v4.frozen? ⟨v1.heap.size, 2, none⟩ = false := ?_; rotate_left; focus (refine (bf4 _ _ ?_).trans ?_; all_goals (first | (simp [go_sem]; done) | (simp; omega) | (simp [go_sem, *]; done))))); (try (have en4u : ¬ v1.heap.size = v4.heap.size := ?_; rotate_left; focus (have this := Below.size l4; (try simp at this); omega))); (try (have es4u : v1.heap.size < v4.heap.size := ?_; rotate_left; focus (have this := Below.size l4; (try simp at this); omega))); (try (have ec4v0 : v4.cell? ⟨v2.heap.size, 0, none⟩ = some (.int .i64 0) := ?_; rotate_left; focus (refine (bc4 _ _ ?_).trans ?_; all_goals (first | (simp [go_sem]; done) | (simp; omega) | (simp [go_sem, *]; done))))); (try (have ef4v0 : v4.frozen? ⟨v2.heap.size, 0, none⟩ = false := ?_; rotate_left; focus (refine (bf4 _ _ ?_).trans ?_; all_goals (first | (simp [go_sem]; done) | (simp; omega) | (simp [go_sem, *]; done))))); (try (have ec4v1 : v4.cell? ⟨v2.heap.size, 1, none⟩ = some (.int .i64 0) := ?_; rotate_left; focus (refine (bc4 _ _ ?_).trans ?_; all_goals (first | (simp [go_sem]; done) | (simp; omega) | (simp [go_sem, *]; done))))); (try (have ef4v1 : v4.frozen? ⟨v2.heap.size, 1, none⟩ = false := ?_; rotate_left; focus (refine (bf4 _ _ ?_).trans ?_; all_goals (first | (simp [go_sem]; done) | (simp; omega) | (simp [go_sem, *]; done))))); (try (have ec4v2 : v4.cell? ⟨v2.heap.size, 2, none⟩ = some (.int .i64 0) := ?_; rotate_left; focus (refine (bc4 _ _ ?_).trans ?_; all_goals (first | (simp [go_sem]; done) | (simp; omega) | (simp [go_sem, *]; done))))); (try (have ef4v2 : v4.frozen? ⟨v2.heap.size, 2, none⟩ = false := ?_; rotate_left; focus (refine (bf4 _ _ ?_).trans ?_; all_goals (first | (simp [go_sem]; done) | (simp; omega) | (simp [go_sem, *]; done))))); (try (have en4v : ¬ v2.heap.size = v4.heap.size := ?_; rotate_left; focus (have this := Below.size l4; (try simp at this); omega))); (try (have es4v : v2.heap.size < v4.heap.size := ?_; rotate_left; focus (have this := Below.size l4; (try simp at this); omega))); (try (have ec4x0 : v4.cell? ⟨v3.heap.size, 0, none⟩ = some (.int .i64 0) := ?_; rotate_left; focus (refine (bc4 _ _ ?_).trans ?_; all_goals (first | (simp [go_sem]; done) | (simp; omega) | (simp [go_sem, *]; done))))); (try (have ef4x0 : v4.frozen? ⟨v3.heap.size, 0, none⟩ = false := ?_; rotate_left; focus (refine (bf4 _ _ ?_).trans ?_; all_goals (first | (simp [go_sem]; done) | (simp; omega) | (simp [go_sem, *]; done))))); (try (have ec4x1 : v4.cell? ⟨v3.heap.size, 1, none⟩ = some (.int .i64 0) := ?_; rotate_left; focus (refine (bc4 _ _ ?_).trans ?_; all_goals (first | (simp [go_sem]; done) | (simp; omega) | (simp [go_sem, *]; done))))); (try (have ef4x1 : v4.frozen? ⟨v3.heap.size, 1, none⟩ = false := ?_; rotate_left; focus (refine (bf4 _ _ ?_).trans ?_; all_goals (first | (simp [go_sem]; done) | (simp; omega) | (simp [go_sem, *]; done))))); (try (have ec4x2 : v4.cell? ⟨v3.heap.size, 2, none⟩ = some (.int .i64 0) := ?_; rotate_left; focus (refine (bc4 _ _ ?_).trans ?_; all_goals (first | (simp [go_sem]; done) | (simp; omega) | (simp [go_sem, *]; done))))); (try (have ef4x2 : v4.frozen? ⟨v3.heap.size, 2, none⟩ = false := ?_; rotate_left; focus (refine (bf4 _ _ ?_).trans ?_; all_goals (first | (simp [go_sem]; done) | (simp; omega) | (simp [go_sem, *]; done))))); (try (have en4x : ¬ v3.heap.size = v4.heap.size := ?_; rotate_left; focus (have this := Below.size l4; (try simp at this); omega))); (try (have es4x : v3.heap.size < v4.heap.size := ?_; rotate_left; focus (have this := Below.size l4; (try simp at this); omega))); clear bc4 bf4)))
        all_goals go_wp2_with fail
        all_goals go_meet
        all_goals exact ⟨_, rfl, by first | omega | (simp; omega) | (simp; done), ⟨by first | (simp; omega) | (simp; done) | omega, by simp [go_sem, *], by simp [go_sem, *], by simp [go_sem, *]⟩, by have qq := cum4; (repeat' (first | (with_reducible exact Below.refl _ _) | (with_reducible assumption) | (with_reducible apply Below.setCell) | (with_reducible apply Below.alloc) | (with_reducible apply Below.drew) | (with_reducible apply below_drewN) | (with_reducible refine Below.trans ?_ (Below.mono (by assumption) ?_)) | omega | (simp; done) | (simp; omega)))⟩
      case rest =>
        obtain ⟨q, rfl, hq, hQ, hBc⟩ := hcut
        have HQ := hidd hQ
        have HC := hidd (HB.out.trans (hBc.mono HB.out.size))
        have HGc := hidd (HB5.out.step hBc)
        have HOc := hidd (HOr.out.step hBc)
        have HCw := hidd (below_step HBw.out hBc)
        have hnq1 : ¬ q = w.heap.size + 1 := by omega
        have hnq2 : ¬ q = w.heap.size + 1 + 1 := by omega
        clear hBc hQ KEEP OUT x0 x1
        obtain ⟨u5, u0, u1, u2⟩ := HQ.out
        obtain ⟨⟨g5, g0, g1, g2⟩, g3, g4, g6⟩ := HGc.out
        obtain ⟨⟨o5, o0, o1, o2⟩, o3, o4, o6⟩ := HOc.out
        by_cases hz : H3 = 0
        · subst hz
          have hHr : RM.Right H1 H2 := by
            rcases HTL.out with ⟨a, b', e, hr⟩ | ⟨k, e, hk⟩
            · injection e with e1 e2; injection e2 with e2 e3; subst e1 e2; exact hr
            · injection e with e1 e2; injection e2 with e2 e3; exact absurd e3.symm hk
          have HR2 := hidd (HNXX.out.trans (thenR_ok H1 H2 _))
          by_cases hi0 : i = 0
          · subst hi0
            have HR3 := hidd (HR2.out.trans (if_pos (.inl rfl)))
            have HZ := hidd HG.out
            go_wp2_with fail
            have hg := HZ.out
            go_roundg (gk - 1)
            case measure => omega
            case rel => exact ⟨0 + 1, H1, H2, by omega, by omega, by go_num, .inr ⟨by omega, hHr, HR3.out⟩, HGc.out.put H1 H2 0, below_put3 HC.out (by have := HVS.out; omega) H1 H2 0⟩
          · have hib : ((i : Int) == 0) = false := beq_eq_false_iff_ne.2 (by omega)
            have hir : RM.Right N D := by
              rcases HS.out with ⟨h, _⟩ | ⟨_, h, _⟩
              · exact absurd h hi0
              · exact h
            have cl := hidd (fun W => refLess4 H1 H2 N D hHr hir W)
            by_cases hlt : H1 * D < N * H2
            · rw [decide_eq_true hlt] at cl
              have HR3 := hidd (HR2.out.trans (if_pos (.inr hlt)))
              clear hlt
              go_wp2_with fail
              refine (cl.out _).mono ?_
              rintro E w2 ⟨rfl, hb2⟩
              have HC2 := hidd (HC.out.trans (hb2.mono HC.out.size))
              have HG2 := hidd (HGc.out.step hb2)
              have HQ2 := hidd (HQ.out.step hb2)
              clear hb2 u5 u0 u1 u2 g5 g0 g1 g2 g3 g4 g6 o5 o0 o1 o2 o3 o4 o6
              obtain ⟨u5, u0, u1, u2⟩ := HQ2.out
              obtain ⟨⟨g5, g0, g1, g2⟩, g3, g4, g6⟩ := HG2.out
              go_wp2_with fail
              have hg := HG.out
              go_roundg (gk - 1)
              case measure => omega
              case rel => exact ⟨i + 1, H1, H2, by omega, by omega, by go_num, .inr ⟨by omega, hHr, HR3.out⟩, HG2.out.put H1 H2 0, below_put3 HC2.out (by have := HVS.out; omega) H1 H2 0⟩
            · rw [decide_eq_false hlt] at cl
              have HR3 := hidd (HR2.out.trans (if_neg (fun h => by rcases h with h | h; exact hi0 h; exact hlt h)))
              clear hlt
              go_wp2_with fail
              refine (cl.out _).mono ?_
              rintro E w2 ⟨rfl, hb2⟩
              have HC2 := hidd (HC.out.trans (hb2.mono HC.out.size))
              have HG2 := hidd (HGc.out.step hb2)
              clear hb2 u5 u0 u1 u2 g5 g0 g1 g2 g3 g4 g6 o5 o0 o1 o2 o3 o4 o6
              go_wp2_with fail
              have hg := HG.out
              go_roundg (gk - 1)
              case measure => omega
              case rel => exact ⟨i + 1, N, D, by omega, by omega, by go_num, .inr ⟨by omega, hir, HR3.out⟩, HG2.out, HC2.out⟩
        · have hzb : (H3 == 0) = false := beq_eq_false_iff_ne.2 hz
          obtain ⟨rfl, rfl⟩ : H1 = 0 ∧ H2 = 0 := by
            rcases HTL.out with ⟨a, b', e, hr⟩ | ⟨k, e, hk⟩
            · injection e with e1 e2; injection e2 with e2 e3; exact absurd e3 hz
            · injection e with e1 e2; injection e2 with e2 e3; exact ⟨e1, e2⟩
          obtain ⟨rfl, rfl, rfl⟩ : R1 = 0 ∧ R2 = 0 ∧ R3 = H3 := by
            have e := HNXX.out.trans (thenR_no hz _)
            injection e with e1 e2
            injection e2 with e2 e3
            exact ⟨e1, e2, e3⟩
          have hs := HCw.out.size
          go_wp2_with fail
          exact bodyPost_ret (v := .agg #[.int .i64 0, .int .i64 0, .int .i64 R3]) (by simp [results, Tryz.results25, go_sem, *]) rfl ⟨rfl, by have q := HCw.out; (repeat' (first | (with_reducible exact Below.refl _ _) | (with_reducible assumption) | (with_reducible apply Below.setCell) | (with_reducible apply Below.alloc) | (with_reducible apply Below.drew) | (with_reducible apply below_drewN) | (with_reducible refine Below.trans ?_ (Below.mono (by assumption) ?_)) | omega | (simp; done) | (simp; omega)))⟩
    · obtain rfl : i = l.length := by omega
      obtain ⟨rfl, rfl, rfl⟩ : R1 = N ∧ R2 = D ∧ R3 = 0 := by
        rcases HS.out with ⟨h, _⟩ | ⟨_, _, h⟩
        · exact absurd h hn0
        · rw [List.drop_of_length_le (Nat.le_refl _)] at h
          injection h with e1 e2
          injection e2 with e2 e3
          exact ⟨e1, e2, e3⟩
      obtain ⟨⟨g5, g0, g1, g2⟩, g3, g4, g6⟩ := HB5.out
      obtain ⟨⟨o5, o0, o1, o2⟩, o3, o4, o6⟩ := HOr.out
      have hs := HBw.out.size
      go_wp2_with fail
      exact bodyPost_ret (v := .agg #[.int .i64 R1, .int .i64 R2, .int .i64 0]) (by simp [results, Tryz.results25, go_sem, *]) rfl ⟨rfl, by have q := HBw.out; (repeat' (first | (with_reducible exact Below.refl _ _) | (with_reducible assumption) | (with_reducible apply Below.setCell) | (with_reducible apply Below.alloc) | (with_reducible apply Below.drew) | (with_reducible apply below_drewN) | (with_reducible refine Below.trans ?_ (Below.mono (by assumption) ?_)) | omega | (simp; done) | (simp; omega)))⟩
end Go.Proofs.YtokcalmmmfakcaaGreat

