/- The document's fraction of any two numbers. -/
import Derived.Test.YtgeankdimknmiaaBgE
import Derived.Test.YtgeankdimknmiaaRatPn
namespace Go.Proofs.Ytgeankdimknmiaa
set_option linter.unusedVariables false
open Go.RowKit

/-- a fraction in a box that may be written. -/
def RatBox (w : World) (b : Nat) (x y : Int) : Prop :=
  b < w.heap.size ∧ w.cell? ⟨b, 0, none⟩ = some (.int .i64 x) ∧ w.cell? ⟨b, 1, none⟩ = some (.int .i64 y) ∧ w.frozen? ⟨b, 0, none⟩ = false ∧ w.frozen? ⟨b, 1, none⟩ = false
theorem RatBox.step {w w' : World} {b : Nat} {x y : Int} (h : RatBox w b x y) (hb : Below w.heap.size w w') : RatBox w' b x y :=
  ⟨Nat.lt_of_lt_of_le h.1 hb.size, (hb.cell (p := ⟨b, 0, none⟩) h.1).trans h.2.1, (hb.cell (p := ⟨b, 1, none⟩) h.1).trans h.2.2.1, (hb.frozen (p := ⟨b, 0, none⟩) h.1).trans h.2.2.2.1, (hb.frozen (p := ⟨b, 1, none⟩) h.1).trans h.2.2.2.2⟩
theorem RatBox.new (w : World) (t : TypeId) (x y : Int) : RatBox (w.alloc (.cells #[.int .i64 x, .int .i64 y] t)) w.heap.size x y := ⟨by simp, by simp [go_sem], by simp [go_sem], by simp [go_sem], by simp [go_sem]⟩
theorem BigAt.len {x : Nat} {w : World} {v : Value} (h : BigAt x w v) : ∃ A c, v = .slice A (BM.digs x).length c := by
  obtain ⟨A, c, e, _⟩ := h; exact ⟨A, c, e⟩
theorem div_two (x y : Nat) (hx : x < 65536 ^ 15) (hy : y < 65536 ^ 15) (hy0 : 0 < y) (u v : Value) (w : World) (hu : BigAt x w u) (hv : BigAt y w v) : Calls Try.prog 40 #[u, v] w (DivEnd x y w) := by
  obtain ⟨A, c, rfl, _, _, l1⟩ := hu
  obtain ⟨B, d, rfl, _, _, l2⟩ := hv
  exact div_big x y hx hy hy0 A B c d _ _ rfl rfl w l1 l2
set_option maxRecDepth 100000 in
set_option maxHeartbeats 4000000 in
theorem frac_big (b : Bool) (x y : Nat) (hx : x < 65536 ^ 15) (hy : y < 65536 ^ 15) (u v : Value) (w : World) (hu : BigAt x w u) (hv : BigAt y w v) :
    Calls Try.prog 24 #[u, .bool b, v] w fun e w' => e = .returned (pairOf (RM.fracN b x y)) ∧ Below w.heap.size w w' := by
  have hbox := RatBox.new w 35 0 0
  have hb0 := below_new (Below.refl w.heap.size w) (.cells #[.int .i64 0, .int .i64 0] 35)
  have HBX := hidd hbox
  have HB0 := hidd hb0
  unfold pairOf
  by_cases hz : y = 0
  · subst hz
    have e : RM.fracN b x 0 = (0, 0, 2) := by unfold RM.fracN; rw [if_pos rfl]
    rw [e]
    obtain ⟨B, d, rfl⟩ := hv.len
    have hl0 : (BM.digs 0).length = 0 := by rw [BM.digs_zero]; rfl
    rw [hl0]
    clear hv hu hbox hb0 HBX HB0 hl0 e
    go_enter Try.func24, Try.ntmps24
    go_wp2_with fail
    exact bodyPost_ret (v := .tuple #[.agg #[.int .i64 0, .int .i64 0], .int .i64 2]) (by simp [results, Try.results24, go_sem]) rfl ⟨rfl, by (repeat' (first | (with_reducible exact Below.refl _ _) | (with_reducible assumption) | (with_reducible apply Below.setCell) | (with_reducible apply Below.alloc) | (with_reducible apply Below.drew) | (with_reducible apply below_drewN) | (with_reducible refine Below.trans ?_ (Below.mono (by assumption) ?_)) | omega | (simp; done) | (simp; omega)))⟩
  · have hg0 : 0 < Nat.gcd x y := Nat.gcd_pos_of_pos_right _ (by omega)
    have hgy : Nat.gcd x y ≤ y := Nat.le_of_dvd (by omega) (Nat.gcd_dvd_right _ _)
    have e : RM.fracN b x y = RM.fracP b (x / Nat.gcd x y) (y / Nat.gcd x y) := by unfold RM.fracN; rw [if_neg hz]
    have eP : ∀ p q, RM.fracP b p q = if p < 9223372036854775808 ∧ q < 9223372036854775808 then (RM.sgn b p, (q : Int), 0) else (0, 0, 110) := fun p q => rfl
    rw [e]
    have q1 : x / Nat.gcd x y ≤ x := Nat.div_le_self _ _
    have q2 : y / Nat.gcd x y ≤ y := Nat.div_le_self _ _
    have cg := hidd (fun W h h' => gcd_big x y hx hy u v W h h')
    have c1 := hidd (fun g W h h' => div_two x (Nat.gcd x y) hx (by omega) hg0 u g W h h')
    have c2 := hidd (fun g W h h' => div_two y (Nat.gcd x y) hy (by omega) hg0 v g W h h')
    have n1 := hidd (fun g W h => number_big (x / Nat.gcd x y) (by omega) g W h)
    have n2 := hidd (fun g W h => number_big (y / Nat.gcd x y) (by omega) g W h)
    have hlen : (BM.digs y).length ≠ 0 := fun h => hz (BM.digs_nil.1 (List.eq_nil_of_length_eq_zero h))
    have HP := hidd (eP (x / Nat.gcd x y) (y / Nat.gcd x y))
    have HU := hidd hu
    have HV := hidd hv
    obtain ⟨B, d, rfl⟩ := hv.len
    generalize hpe : x / Nat.gcd x y = p at *
    generalize hqe : y / Nat.gcd x y = q at *
    have HPE := hidd hpe
    have HQE := hidd hqe
    clear hpe hqe
    generalize Nat.gcd x y = g at *
    have hl0 : (((BM.digs y).length : Int) == 0) = false := beq_eq_false_iff_ne.2 (by omega)
    obtain ⟨p1, hp1⟩ : ∃ p1, decide (p < 9223372036854775808) = p1 := ⟨_, rfl⟩
    obtain ⟨p2, hp2⟩ : ∃ p2, decide (q < 9223372036854775808) = p2 := ⟨_, rfl⟩
    rw [hp1] at n1
    rw [hp2] at n2
    have HP1 := hidd hp1
    have HP2 := hidd hp2
    obtain ⟨r, hr⟩ : ∃ r, RM.fracP b p q = r := ⟨_, rfl⟩
    rw [hr] at HP
    rw [hr]
    clear hu hv hbox hb0 e eP q1 q2 hx hy hz hg0 hgy hlen hp1 hp2 hr
    go_enter Try.func24, Try.ntmps24
    go_wp2_with fail
    refine (cg.out _ (HU.out.below HB0.out) (HV.out.below HB0.out)).mono ?_
    rintro e w1 ⟨vg, rfl, hvg, hb1⟩
    have HG := hidd hvg
    have HB1 := hidd (below_step HB0.out hb1)
    have HX1 := hidd (HBX.out.step hb1)
    clear hvg hb1
    go_wp2_with fail
    refine (c1.out _ _ (HU.out.below HB1.out) HG.out).mono ?_
    rintro e w2 ⟨vq, vr, rfl, hq, _, hb2⟩
    rw [HPE.out] at hq
    have HQ := hidd hq
    have HB2 := hidd (below_step HB1.out hb2)
    have HX2 := hidd (HX1.out.step hb2)
    have HG2 := hidd (HG.out.below hb2)
    clear hq hb2
    go_wp2_with fail
    refine (c2.out _ _ (HV.out.below HB2.out) HG2.out).mono ?_
    rintro e w3 ⟨vq2, vr2, rfl, hq2, _, hb3⟩
    rw [HQE.out] at hq2
    have HQ2 := hidd hq2
    have HQ1 := hidd (HQ.out.below hb3)
    have HB3 := hidd (below_step HB2.out hb3)
    have HX3 := hidd (HX2.out.step hb3)
    clear hq2 hb3
    go_wp2_with fail
    refine (n1.out _ _ HQ1.out).mono ?_
    rintro e w4 ⟨⟨k1, rfl, hk1⟩, rfl⟩
    have HK1 := hidd hk1
    clear hk1
    go_wp2_with fail
    refine (n2.out _ _ HQ2.out).mono ?_
    rintro e w5 ⟨⟨k2, rfl, hk2⟩, rfl⟩
    have HK2 := hidd hk2
    clear hk2
    obtain ⟨bz, b0, b1, b2, b3⟩ := HX3.out
    cases p1
    · have hr : r = (0, 0, 110) := by
        rw [HP.out, if_neg (fun h => by have := HP1.out; simp at this; omega)]
      subst hr
      go_wp2_with fail
      exact bodyPost_ret (v := .tuple #[.agg #[.int .i64 0, .int .i64 0], .int .i64 110]) (by simp [results, Try.results24, go_sem, *]) rfl ⟨rfl, by have := HB3.out; (repeat' (first | (with_reducible exact Below.refl _ _) | (with_reducible assumption) | (with_reducible apply Below.setCell) | (with_reducible apply Below.alloc) | (with_reducible apply Below.drew) | (with_reducible apply below_drewN) | (with_reducible refine Below.trans ?_ (Below.mono (by assumption) ?_)) | omega | (simp; done) | (simp; omega)))⟩
    · cases p2
      · have hr : r = (0, 0, 110) := by
          rw [HP.out, if_neg (fun h => by have := HP2.out; simp at this; omega)]
        subst hr
        go_wp2_with fail
        exact bodyPost_ret (v := .tuple #[.agg #[.int .i64 0, .int .i64 0], .int .i64 110]) (by simp [results, Try.results24, go_sem, *]) rfl ⟨rfl, by have := HB3.out; (repeat' (first | (with_reducible exact Below.refl _ _) | (with_reducible assumption) | (with_reducible apply Below.setCell) | (with_reducible apply Below.alloc) | (with_reducible apply Below.drew) | (with_reducible apply below_drewN) | (with_reducible refine Below.trans ?_ (Below.mono (by assumption) ?_)) | omega | (simp; done) | (simp; omega)))⟩
      · have l1 : p < 9223372036854775808 := of_decide_eq_true HP1.out
        have l2 : q < 9223372036854775808 := of_decide_eq_true HP2.out
        obtain rfl : k1 = (p : Int) := HK1.out l1
        obtain rfl : k2 = (q : Int) := HK2.out l2
        have hr : r = (RM.sgn b p, (q : Int), 0) := by rw [HP.out, if_pos ⟨l1, l2⟩]
        subst hr
        cases b
        · go_wp2_with fail
          exact bodyPost_ret (v := .tuple #[.agg #[.int .i64 (p : Int), .int .i64 (q : Int)], .int .i64 0]) (by simp [results, Try.results24, go_sem, *]) rfl ⟨rfl, by have := HB3.out; (repeat' (first | (with_reducible exact Below.refl _ _) | (with_reducible assumption) | (with_reducible apply Below.setCell) | (with_reducible apply Below.alloc) | (with_reducible apply Below.drew) | (with_reducible apply below_drewN) | (with_reducible refine Below.trans ?_ (Below.mono (by assumption) ?_)) | omega | (simp; done) | (simp; omega)))⟩
        · go_wp2_with fail
          exact bodyPost_ret (v := .tuple #[.agg #[.int .i64 (-(p : Int)), .int .i64 (q : Int)], .int .i64 0]) (by simp [results, Try.results24, go_sem, *]) rfl ⟨rfl, by have := HB3.out; (repeat' (first | (with_reducible exact Below.refl _ _) | (with_reducible assumption) | (with_reducible apply Below.setCell) | (with_reducible apply Below.alloc) | (with_reducible apply Below.drew) | (with_reducible apply below_drewN) | (with_reducible refine Below.trans ?_ (Below.mono (by assumption) ?_)) | omega | (simp; done) | (simp; omega)))⟩
end Go.Proofs.Ytgeankdimknmiaa
