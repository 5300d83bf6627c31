/- Which of two fractions is less. -/
import Derived.Test.YtgeankdimknmiaaRatPm
import Derived.Test.YtgeankdimknmiaaRatPl
import Derived.Deep.DeepCutAuto
import Derived.Deep.RegionHeld3
namespace Go.Proofs.Ytgeankdimknmiaa
open Go.RowKit

/-- less, the same, greater, of what the cross products tell. -/
def ordZ (p q : Int) : Int := if p < q then -1 else if p = q then 0 else 1
theorem ord_signs (x y : Int) (d e : Nat) (hd : 0 < d) (he : 0 < e) (h : decide (x < 0) ≠ decide (y < 0)) :
    ordZ (x * e) (y * d) = sgnOf (decide (x < 0)) := by
  by_cases hx : x < 0
  · have hy : ¬ y < 0 := fun hh => h (by simp [hx, hh])
    have h1 : x * (e : Int) < 0 := Int.mul_neg_of_neg_of_pos hx (by omega)
    have h2 : 0 ≤ y * (d : Int) := Int.mul_nonneg (by omega) (by omega)
    unfold ordZ sgnOf
    rw [if_pos (by omega)]; simp [hx]
  · have hy : y < 0 := by
      by_cases hh : y < 0
      · exact hh
      · exact absurd (by simp [hx, hh]) h
    have h1 : y * (d : Int) < 0 := Int.mul_neg_of_neg_of_pos hy (by omega)
    have h2 : 0 ≤ x * (e : Int) := Int.mul_nonneg (by omega) (by omega)
    unfold ordZ sgnOf
    rw [if_neg (by omega), if_neg (by omega)]; simp [hx]
theorem ord_same (x y : Int) (d e : Nat) (h : decide (x < 0) = decide (y < 0)) (P Q : Nat) (hP : P = x.natAbs * e) (hQ : Q = y.natAbs * d) :
    ordZ (x * e) (y * d) = if P = Q then 0 else sgnOf (decide (P < Q) != decide (x < 0)) := by
  have e1 : x * (e : Int) = RM.sgn (decide (x < 0)) P := by rw [hP, RM.sgn_mul, RM.sgn_self]
  have e2 : y * (d : Int) = RM.sgn (decide (x < 0)) Q := by rw [hQ, RM.sgn_mul, h, RM.sgn_self]
  rw [e1, e2]
  clear hP hQ e1 e2 h
  unfold ordZ sgnOf RM.sgn
  by_cases hx : x < 0 <;> by_cases h1 : P = Q <;> by_cases h2 : P < Q <;> simp [hx, h1, h2] <;> omega
theorem wide_run (a b c d : Int) (w : World) :
    (Op.equalIn 10000 124 (.agg #[.int .u64 a, .int .u64 b]) (.agg #[.int .u64 c, .int .u64 d])).run Try.prog w = .ok (decide (a = c ∧ b = d)) w := by
  have u3 := Try.underlying78
  have a3 := Try.isAgg78
  have z3 := Try.sizeOf78
  rw [show (10000 : Nat) = 9999 + 1 from rfl, Op.equalIn]
  simp only [Sem.run_bind, run_underlying Try.underlying124, Result.andThen_ok]
  simp only [Std.Legacy.Range.forIn_eq_forIn_range', Std.Legacy.Range.size, Nat.sub_zero, Nat.add_sub_cancel, Nat.div_one, List.range'_succ, List.range'_zero, List.forIn_cons, List.forIn_nil]
  go_simp
  by_cases h1 : a = c <;> by_cases h2 : b = d <;> simp [h1, h2]
theorem wide_bin (a b c d : Int) (w : World) :
    (binOp .eql 124 (.agg #[.int .u64 a, .int .u64 b]) (.agg #[.int .u64 c, .int .u64 d])).run Try.prog w = .ok (.bool (decide (a = c ∧ b = d))) w := by
  rw [run_eql_struct, wide_run]; rfl
theorem two_unique {n h l h2 l2 : Nat} (a : Two n h l) (b : Two n h2 l2) : h = h2 ∧ l = l2 := by
  obtain ⟨a1, a2, a3⟩ := a
  obtain ⟨b1, b2, b3⟩ := b
  omega
theorem two_ne {n m h l h2 l2 : Nat} (a : Two n h l) (b : Two m h2 l2) (hne : ¬ n = m) : ¬ (h = h2 ∧ l = l2) := by
  rintro ⟨rfl, rfl⟩
  exact hne (a.1.symm.trans b.1)

set_option maxHeartbeats 8000000 in
theorem order_parts (x y : Int) (X d Y e : Nat) (hx : Parts2 x X d) (hy : Parts2 y Y e) (w : World) :
    Calls Try.prog 51 #[.agg #[.int .i64 x, .int .i64 d], .agg #[.int .i64 y, .int .i64 e]] w fun E w' =>
      E = .returned (.int .i64 (ordZ (x * e) (y * d))) ∧ Below w.heap.size w w' := by
  obtain ⟨hx1, hx3, hx4, hx5, _⟩ := hx
  obtain ⟨hy1, hy3, hy4, hy5, _⟩ := hy
  by_cases hs : decide (x < 0) = decide (y < 0)
  · have ho := ord_same x y d e hs (X * e) (Y * d) (by rw [hx1]) (by rw [hy1])
    have hsb : (!decide (x < 0) == decide (y < 0)) = false := by rw [hs]; cases decide (y < 0) <;> rfl
    have cd := hidd (fun w => size_nat d hx5 w)
    have ce := hidd (fun w => size_nat e hy5 w)
    have cX := hidd (fun w => size_any x (by omega) (by omega) w)
    have cY := hidd (fun w => size_any y (by omega) (by omega) w)
    rw [hx1] at cX
    rw [hy1] at cY
    have cP := hidd (fun w => product_any X e (by omega) (by omega) w)
    have cQ := hidd (fun w => product_any Y d (by omega) (by omega) w)
    rw [ho]
    clear ho hx1 hy1 hs
    generalize X * e = P at *
    generalize Y * d = Q at *
    obtain ⟨r, hr⟩ : ∃ r, (if P = Q then 0 else sgnOf (decide (P < Q) != decide (x < 0))) = r := ⟨_, rfl⟩
    rw [hr]
    have HR := hidd hr
    clear hr
    clear hx3 hx4 hx5 hy3 hy4 hy5
    go_enter Try.func51, Try.ntmps51
    go_wp2_with fail
    clear hsb
    go_cut [5, 6] (fun s t wx => Below w.heap.size w wx ∧ w.heap.size < wx.heap.size ∧ wx.cell? ⟨w.heap.size, 0, none⟩ = some (.int .i64 x) ∧ ∃ h l k h2 l2 k2 : Nat, Two P h l ∧ Two Q h2 l2 ∧ s = .pointer (some ⟨k, 0, none⟩) ∧ t = .pointer (some ⟨k2, 0, none⟩) ∧ k < wx.heap.size ∧ k2 < wx.heap.size ∧ wx.cell? ⟨k, 0, none⟩ = some (.int .u64 (h : Int)) ∧ wx.cell? ⟨k, 1, none⟩ = some (.int .u64 (l : Int)) ∧ wx.cell? ⟨k2, 0, none⟩ = some (.int .u64 (h2 : Int)) ∧ wx.cell? ⟨k2, 1, none⟩ = some (.int .u64 (l2 : Int)))
    case first =>
      go_region_held3 (fun w' => w'.cell? ⟨w.heap.size, 0, none⟩ = some (.int .i64 x) ∧ w'.cell? ⟨w.heap.size + 1, 0, none⟩ = some (.int .i64 y) ∧ w'.cell? ⟨w.heap.size, 1, none⟩ = some (.int .i64 (d : Int)) ∧ w'.cell? ⟨w.heap.size + 1, 1, none⟩ = some (.int .i64 (e : Int))) ((simp [*, go_sem]; done)) (first | (go_at_call_of 74 (Value.int IntKind.i64 x); refine (cX.out _).mono ?_; rintro e w1 ⟨rfl, rfl⟩) | (go_at_call_of 74 (Value.int IntKind.i64 y); refine (cY.out _).mono ?_; rintro e w1 ⟨rfl, rfl⟩) | (go_at_call_of 74 (Value.int IntKind.i64 (d:Int)); refine (cd.out _).mono ?_; rintro e w1 ⟨rfl, rfl⟩) | (go_at_call_of 74 (Value.int IntKind.i64 (e:Int)); refine (ce.out _).mono ?_; rintro e w1 ⟨rfl, rfl⟩) | (go_at_call_of 73 (Value.int IntKind.u64 (X : Int)); refine (cP.out _).mono ?_; rintro E wp ⟨h1, l1, k1, rfl, hbp⟩; (first | (have bcwp : ∀ b o, b < (wq).heap.size → (wp).cell? ⟨b, o, none⟩ = (wq).cell? ⟨b, o, none⟩ := fun b o h => (by have q := Below.cell (p := ⟨b, o, none⟩) hbp h; exact q); have bfwp : ∀ b o, b < (wq).heap.size → (wp).frozen? ⟨b, o, none⟩ = (wq).frozen? ⟨b, o, none⟩ := fun b o h => (by have q := Below.frozen (p := ⟨b, o, none⟩) hbp h; exact q); have bswp : (wq).heap.size ≤ (wp).heap.size := (by have q := Below.size hbp; exact q)) | (obtain ⟨bcwp, bfwp⟩ := bcell hbp)); have qp := Below.size hbp; (try simp at qp); (try have u0wp : w.heap.size < (wp).heap.size := (by omega)); (try have u1wp : w.heap.size + 1 < (wp).heap.size := (by omega)); (try have u2wp : w.heap.size + 1 + 1 < (wp).heap.size := (by omega)); (try have u3wp : w.heap.size + 1 + 1 + 1 < (wp).heap.size := (by omega)); (try have u4wp : ¬ (wp).heap.size = w.heap.size := (by omega)); (try have u5wp : ¬ (wp).heap.size = w.heap.size + 1 := (by omega)); (try have u6wp : w.heap.size < (wp).heap.size + 1 := (by omega)); (try have u7wp : w.heap.size < (wp).heap.size + 1 + 1 := (by omega)); (try have u8wp : w.heap.size + 1 < (wp).heap.size + 1 + 1 := (by omega)); (try have ux1 : wq.heap.size < wp.heap.size := (by omega)); (try have ux5 : ¬ wq.heap.size = wp.heap.size := (by omega)); (try have ux6 : ¬ wp.heap.size = wq.heap.size := (by omega)); (try have ux7 : ¬ wq.heap.size + 1 = wp.heap.size := (by omega)); (try have ux8 : ¬ wp.heap.size = wq.heap.size + 1 := (by omega)); (try have ux9 : ¬ w.heap.size + 1 + 1 = wp.heap.size := (by omega)); (try have ux10 : ¬ wp.heap.size = w.heap.size + 1 + 1 := (by omega)); (try have ux11 : ¬ w.heap.size + 1 + 1 + 1 = wp.heap.size := (by omega)); (try have ux2 : wq.heap.size + 1 < wp.heap.size := (by omega)); (try have uc0wp : wp.cell? ⟨wq.heap.size, 0, none⟩ = some (.int .u64 0) := (by rw [bcwp _ _ (by first | omega | (simp; done) | (simp; omega))]; simp [go_sem])); (try have uc1wp : wp.cell? ⟨wq.heap.size, 1, none⟩ = some (.int .u64 0) := (by rw [bcwp _ _ (by first | omega | (simp; done) | (simp; omega))]; simp [go_sem])); (try have uc2wp : wp.cell? ⟨wq.heap.size + 1, 0, none⟩ = some (.int .u64 0) := (by rw [bcwp _ _ (by first | omega | (simp; done) | (simp; omega))]; simp [go_sem])); (try have uc3wp : wp.cell? ⟨wq.heap.size + 1, 1, none⟩ = some (.int .u64 0) := (by rw [bcwp _ _ (by first | omega | (simp; done) | (simp; omega))]; simp [go_sem]))) | (go_at_call_of 73 (Value.int IntKind.u64 (Y : Int)); refine (cQ.out _).mono ?_; rintro E wq ⟨h2, l2, k2, rfl, hbq⟩; (first | (have bcwq : ∀ b o, b < (wp).heap.size → (wq).cell? ⟨b, o, none⟩ = (wp).cell? ⟨b, o, none⟩ := fun b o h => (by have q := Below.cell (p := ⟨b, o, none⟩) hbq h; exact q); have bfwq : ∀ b o, b < (wp).heap.size → (wq).frozen? ⟨b, o, none⟩ = (wp).frozen? ⟨b, o, none⟩ := fun b o h => (by have q := Below.frozen (p := ⟨b, o, none⟩) hbq h; exact q); have bswq : (wp).heap.size ≤ (wq).heap.size := (by have q := Below.size hbq; exact q)) | (obtain ⟨bcwq, bfwq⟩ := bcell hbq)); have qq := Below.size hbq; (try simp at qq); (try have u0wq : w.heap.size < (wq).heap.size := (by omega)); (try have u1wq : w.heap.size + 1 < (wq).heap.size := (by omega)); (try have u2wq : w.heap.size + 1 + 1 < (wq).heap.size := (by omega)); (try have u3wq : w.heap.size + 1 + 1 + 1 < (wq).heap.size := (by omega)); (try have u4wq : ¬ (wq).heap.size = w.heap.size := (by omega)); (try have u5wq : ¬ (wq).heap.size = w.heap.size + 1 := (by omega)); (try have u6wq : w.heap.size < (wq).heap.size + 1 := (by omega)); (try have u7wq : w.heap.size < (wq).heap.size + 1 + 1 := (by omega)); (try have u8wq : w.heap.size + 1 < (wq).heap.size + 1 + 1 := (by omega)); (try have ux3 : wp.heap.size < wq.heap.size := (by omega)); (try have uy5 : ¬ wp.heap.size = wq.heap.size := (by omega)); (try have uy6 : ¬ wq.heap.size = wp.heap.size := (by omega)); (try have uy7 : ¬ wp.heap.size + 1 = wq.heap.size := (by omega)); (try have uy8 : ¬ wq.heap.size = wp.heap.size + 1 := (by omega)); (try have uy9 : ¬ w.heap.size + 1 + 1 = wq.heap.size := (by omega)); (try have uy10 : ¬ wq.heap.size = w.heap.size + 1 + 1 := (by omega)); (try have uy11 : ¬ w.heap.size + 1 + 1 + 1 = wq.heap.size := (by omega)); (try have ux4 : wp.heap.size + 1 < wq.heap.size := (by omega)); (try have uc0wq : wq.cell? ⟨wp.heap.size, 0, none⟩ = some (.int .u64 0) := (by rw [bcwq _ _ (by first | omega | (simp; done) | (simp; omega))]; simp [go_sem])); (try have uc1wq : wq.cell? ⟨wp.heap.size, 1, none⟩ = some (.int .u64 0) := (by rw [bcwq _ _ (by first | omega | (simp; done) | (simp; omega))]; simp [go_sem])); (try have uc2wq : wq.cell? ⟨wp.heap.size + 1, 0, none⟩ = some (.int .u64 0) := (by rw [bcwq _ _ (by first | omega | (simp; done) | (simp; omega))]; simp [go_sem])); (try have uc3wq : wq.cell? ⟨wp.heap.size + 1, 1, none⟩ = some (.int .u64 0) := (by rw [bcwq _ _ (by first | omega | (simp; done) | (simp; omega))]; simp [go_sem]))))
      all_goals go_wp2_with fail
      all_goals go_meet
      all_goals (refine ⟨?_, ?_, ?_, h1, l1, _, h2, l2, _, k1, k2, rfl, rfl, ?_, ?_, ?_, ?_, ?_, ?_⟩)
      all_goals (first | ((repeat' (first | (with_reducible exact Below.refl _ _) | (with_reducible assumption) | (with_reducible apply Below.setCell) | (with_reducible apply Below.alloc) | (with_reducible apply Below.drew) | (with_reducible apply below_drewN) | (with_reducible refine Below.trans ?_ (Below.mono (by assumption) ?_)) | omega | (simp; done) | (simp; omega))); done) | (simp [*, go_sem]; done) | (simp [*, go_sem]; omega))
    case rest =>
      obtain ⟨hB, hsz, c0, h, l, k, h2, l2, k2, T1, T2, rfl, rfl, kz, k2z, q0, q1, p0, p1⟩ := hcut
      have HB := hidd hB
      clear hB
      by_cases hPQ : P = Q
      · subst hPQ
        obtain ⟨rfl, rfl⟩ := two_unique T1 T2
        have HE := hidd (show r = 0 by rw [← HR.out, if_pos rfl])
        have wr1 := fun w => wide_run h l h l w
        have wr2 := fun w => wide_bin h l h l w
        simp only [and_self, decide_true] at wr1 wr2
        clear T1 T2
        go_wp2_with fail
        go_ret
        exact ⟨by rw [HE.out]; first | rfl | simp, HB.out⟩
      · have hne := two_ne T1 T2 hPQ
        have hne2 : decide ((h : Int) = h2 ∧ (l : Int) = l2) = false := decide_eq_false (fun g => hne ⟨by omega, by omega⟩)
        have wr1 := fun w => wide_run h l h2 l2 w
        have wr2 := fun w => wide_bin h l h2 l2 w
        rw [hne2] at wr1 wr2
        clear hne2
        have hlt : P < Q ↔ ((h : Int) < h2 ∨ (h : Int) = h2 ∧ (l : Int) < l2) := by
          obtain ⟨a1, a2, a3⟩ := T1
          obtain ⟨b1, b2, b3⟩ := T2
          omega
        by_cases hPlt : P < Q
        · have cl := hidd (fun W => less_yes h l h2 l2 (hlt.1 hPlt) W)
          by_cases hx : x < 0
          · have HE := hidd (show r = sgnOf false by rw [← HR.out, if_neg hPQ]; simp [hPlt, hx])
            have cs := hidd (fun W => sign_any false W)
            try have hxd : decide (x < 0) = false := decide_eq_false hx
            have KEEP := hidd (fun W' (hb : Below wc.heap.size wc W') => (⟨(hb.cell (p := ⟨k, 0, none⟩) kz).trans q0, (hb.cell (p := ⟨k, 1, none⟩) kz).trans q1, (hb.cell (p := ⟨k2, 0, none⟩) k2z).trans p0, (hb.cell (p := ⟨k2, 1, none⟩) k2z).trans p1, (hb.cell (p := ⟨w.heap.size, 0, none⟩) hsz).trans c0⟩ : W'.cell? ⟨k, 0, none⟩ = some (.int .u64 (h : Int)) ∧ W'.cell? ⟨k, 1, none⟩ = some (.int .u64 (l : Int)) ∧ W'.cell? ⟨k2, 0, none⟩ = some (.int .u64 (h2 : Int)) ∧ W'.cell? ⟨k2, 1, none⟩ = some (.int .u64 (l2 : Int)) ∧ W'.cell? ⟨w.heap.size, 0, none⟩ = some (.int .i64 x)))
            clear hne hlt T1 T2 hPlt hPQ
            go_wp2_with fail
            go_region_held3 (fun w' => w'.cell? ⟨k, 0, none⟩ = some (.int .u64 (h : Int)) ∧ w'.cell? ⟨k, 1, none⟩ = some (.int .u64 (l : Int)) ∧ w'.cell? ⟨k2, 0, none⟩ = some (.int .u64 (h2 : Int)) ∧ w'.cell? ⟨k2, 1, none⟩ = some (.int .u64 (l2 : Int)) ∧ w'.cell? ⟨w.heap.size, 0, none⟩ = some (.int .i64 x)) ((first | exact KEEP.out _ hb1 | exact KEEP.out _ (by (repeat' (first | (with_reducible exact Below.refl _ _) | (with_reducible assumption) | (with_reducible apply Below.setCell) | (with_reducible apply Below.alloc) | (with_reducible apply Below.drew) | (with_reducible apply below_drewN) | (with_reducible refine Below.trans ?_ (Below.mono (by assumption) ?_)) | omega | (simp; done) | (simp; omega)))))) ((first | (go_at_call 75; refine (cl.out _).mono ?_; rintro E w1 ⟨rfl, hb1⟩; obtain ⟨bc1, bf1⟩ := bcell hb1) | (go_at_call 72; refine (cs.out _).mono ?_; rintro E w3 ⟨rfl, rfl⟩)))
            all_goals go_wp2_with fail
            all_goals go_ret
            all_goals exact ⟨by rw [HE.out]; first | rfl | simp, by have := HB.out; (repeat' (first | (with_reducible exact Below.refl _ _) | (with_reducible assumption) | (with_reducible apply Below.setCell) | (with_reducible apply Below.alloc) | (with_reducible apply Below.drew) | (with_reducible apply below_drewN) | (with_reducible refine Below.trans ?_ (Below.mono (by assumption) ?_)) | omega | (simp; done) | (simp; omega)))⟩
          · have HE := hidd (show r = sgnOf true by rw [← HR.out, if_neg hPQ]; simp [hPlt, hx])
            have cs := hidd (fun W => sign_any true W)
            try have hxd : decide (x < 0) = false := decide_eq_false hx
            have KEEP := hidd (fun W' (hb : Below wc.heap.size wc W') => (⟨(hb.cell (p := ⟨k, 0, none⟩) kz).trans q0, (hb.cell (p := ⟨k, 1, none⟩) kz).trans q1, (hb.cell (p := ⟨k2, 0, none⟩) k2z).trans p0, (hb.cell (p := ⟨k2, 1, none⟩) k2z).trans p1, (hb.cell (p := ⟨w.heap.size, 0, none⟩) hsz).trans c0⟩ : W'.cell? ⟨k, 0, none⟩ = some (.int .u64 (h : Int)) ∧ W'.cell? ⟨k, 1, none⟩ = some (.int .u64 (l : Int)) ∧ W'.cell? ⟨k2, 0, none⟩ = some (.int .u64 (h2 : Int)) ∧ W'.cell? ⟨k2, 1, none⟩ = some (.int .u64 (l2 : Int)) ∧ W'.cell? ⟨w.heap.size, 0, none⟩ = some (.int .i64 x)))
            clear hne hlt T1 T2 hPlt hPQ
            go_wp2_with fail
            go_region_held3 (fun w' => w'.cell? ⟨k, 0, none⟩ = some (.int .u64 (h : Int)) ∧ w'.cell? ⟨k, 1, none⟩ = some (.int .u64 (l : Int)) ∧ w'.cell? ⟨k2, 0, none⟩ = some (.int .u64 (h2 : Int)) ∧ w'.cell? ⟨k2, 1, none⟩ = some (.int .u64 (l2 : Int)) ∧ w'.cell? ⟨w.heap.size, 0, none⟩ = some (.int .i64 x)) ((first | exact KEEP.out _ hb1 | exact KEEP.out _ (by (repeat' (first | (with_reducible exact Below.refl _ _) | (with_reducible assumption) | (with_reducible apply Below.setCell) | (with_reducible apply Below.alloc) | (with_reducible apply Below.drew) | (with_reducible apply below_drewN) | (with_reducible refine Below.trans ?_ (Below.mono (by assumption) ?_)) | omega | (simp; done) | (simp; omega)))))) ((first | (go_at_call 75; refine (cl.out _).mono ?_; rintro E w1 ⟨rfl, hb1⟩; obtain ⟨bc1, bf1⟩ := bcell hb1) | (go_at_call 72; refine (cs.out _).mono ?_; rintro E w3 ⟨rfl, rfl⟩)))
            all_goals go_wp2_with fail
            all_goals go_ret
            all_goals exact ⟨by rw [HE.out]; first | rfl | simp, by have := HB.out; (repeat' (first | (with_reducible exact Below.refl _ _) | (with_reducible assumption) | (with_reducible apply Below.setCell) | (with_reducible apply Below.alloc) | (with_reducible apply Below.drew) | (with_reducible apply below_drewN) | (with_reducible refine Below.trans ?_ (Below.mono (by assumption) ?_)) | omega | (simp; done) | (simp; omega)))⟩
        · have cl := hidd (fun W => less_no h l h2 l2 (fun g => hPlt (hlt.2 g)) W)
          by_cases hx : x < 0
          · have HE := hidd (show r = sgnOf true by rw [← HR.out, if_neg hPQ]; simp [hPlt, hx])
            have cs := hidd (fun W => sign_any true W)
            try have hxd : decide (x < 0) = false := decide_eq_false hx
            have KEEP := hidd (fun W' (hb : Below wc.heap.size wc W') => (⟨(hb.cell (p := ⟨k, 0, none⟩) kz).trans q0, (hb.cell (p := ⟨k, 1, none⟩) kz).trans q1, (hb.cell (p := ⟨k2, 0, none⟩) k2z).trans p0, (hb.cell (p := ⟨k2, 1, none⟩) k2z).trans p1, (hb.cell (p := ⟨w.heap.size, 0, none⟩) hsz).trans c0⟩ : W'.cell? ⟨k, 0, none⟩ = some (.int .u64 (h : Int)) ∧ W'.cell? ⟨k, 1, none⟩ = some (.int .u64 (l : Int)) ∧ W'.cell? ⟨k2, 0, none⟩ = some (.int .u64 (h2 : Int)) ∧ W'.cell? ⟨k2, 1, none⟩ = some (.int .u64 (l2 : Int)) ∧ W'.cell? ⟨w.heap.size, 0, none⟩ = some (.int .i64 x)))
            clear hne hlt T1 T2 hPlt hPQ
            go_wp2_with fail
            go_region_held3 (fun w' => w'.cell? ⟨k, 0, none⟩ = some (.int .u64 (h : Int)) ∧ w'.cell? ⟨k, 1, none⟩ = some (.int .u64 (l : Int)) ∧ w'.cell? ⟨k2, 0, none⟩ = some (.int .u64 (h2 : Int)) ∧ w'.cell? ⟨k2, 1, none⟩ = some (.int .u64 (l2 : Int)) ∧ w'.cell? ⟨w.heap.size, 0, none⟩ = some (.int .i64 x)) ((first | exact KEEP.out _ hb1 | exact KEEP.out _ (by (repeat' (first | (with_reducible exact Below.refl _ _) | (with_reducible assumption) | (with_reducible apply Below.setCell) | (with_reducible apply Below.alloc) | (with_reducible apply Below.drew) | (with_reducible apply below_drewN) | (with_reducible refine Below.trans ?_ (Below.mono (by assumption) ?_)) | omega | (simp; done) | (simp; omega)))))) ((first | (go_at_call 75; refine (cl.out _).mono ?_; rintro E w1 ⟨rfl, hb1⟩; obtain ⟨bc1, bf1⟩ := bcell hb1) | (go_at_call 72; refine (cs.out _).mono ?_; rintro E w3 ⟨rfl, rfl⟩)))
            all_goals go_wp2_with fail
            all_goals go_ret
            all_goals exact ⟨by rw [HE.out]; first | rfl | simp, by have := HB.out; (repeat' (first | (with_reducible exact Below.refl _ _) | (with_reducible assumption) | (with_reducible apply Below.setCell) | (with_reducible apply Below.alloc) | (with_reducible apply Below.drew) | (with_reducible apply below_drewN) | (with_reducible refine Below.trans ?_ (Below.mono (by assumption) ?_)) | omega | (simp; done) | (simp; omega)))⟩
          · have HE := hidd (show r = sgnOf false by rw [← HR.out, if_neg hPQ]; simp [hPlt, hx])
            have cs := hidd (fun W => sign_any false W)
            try have hxd : decide (x < 0) = false := decide_eq_false hx
            have KEEP := hidd (fun W' (hb : Below wc.heap.size wc W') => (⟨(hb.cell (p := ⟨k, 0, none⟩) kz).trans q0, (hb.cell (p := ⟨k, 1, none⟩) kz).trans q1, (hb.cell (p := ⟨k2, 0, none⟩) k2z).trans p0, (hb.cell (p := ⟨k2, 1, none⟩) k2z).trans p1, (hb.cell (p := ⟨w.heap.size, 0, none⟩) hsz).trans c0⟩ : W'.cell? ⟨k, 0, none⟩ = some (.int .u64 (h : Int)) ∧ W'.cell? ⟨k, 1, none⟩ = some (.int .u64 (l : Int)) ∧ W'.cell? ⟨k2, 0, none⟩ = some (.int .u64 (h2 : Int)) ∧ W'.cell? ⟨k2, 1, none⟩ = some (.int .u64 (l2 : Int)) ∧ W'.cell? ⟨w.heap.size, 0, none⟩ = some (.int .i64 x)))
            clear hne hlt T1 T2 hPlt hPQ
            go_wp2_with fail
            go_region_held3 (fun w' => w'.cell? ⟨k, 0, none⟩ = some (.int .u64 (h : Int)) ∧ w'.cell? ⟨k, 1, none⟩ = some (.int .u64 (l : Int)) ∧ w'.cell? ⟨k2, 0, none⟩ = some (.int .u64 (h2 : Int)) ∧ w'.cell? ⟨k2, 1, none⟩ = some (.int .u64 (l2 : Int)) ∧ w'.cell? ⟨w.heap.size, 0, none⟩ = some (.int .i64 x)) ((first | exact KEEP.out _ hb1 | exact KEEP.out _ (by (repeat' (first | (with_reducible exact Below.refl _ _) | (with_reducible assumption) | (with_reducible apply Below.setCell) | (with_reducible apply Below.alloc) | (with_reducible apply Below.drew) | (with_reducible apply below_drewN) | (with_reducible refine Below.trans ?_ (Below.mono (by assumption) ?_)) | omega | (simp; done) | (simp; omega)))))) ((first | (go_at_call 75; refine (cl.out _).mono ?_; rintro E w1 ⟨rfl, hb1⟩; obtain ⟨bc1, bf1⟩ := bcell hb1) | (go_at_call 72; refine (cs.out _).mono ?_; rintro E w3 ⟨rfl, rfl⟩)))
            all_goals go_wp2_with fail
            all_goals go_ret
            all_goals exact ⟨by rw [HE.out]; first | rfl | simp, by have := HB.out; (repeat' (first | (with_reducible exact Below.refl _ _) | (with_reducible assumption) | (with_reducible apply Below.setCell) | (with_reducible apply Below.alloc) | (with_reducible apply Below.drew) | (with_reducible apply below_drewN) | (with_reducible refine Below.trans ?_ (Below.mono (by assumption) ?_)) | omega | (simp; done) | (simp; omega)))⟩
  · have ho := ord_signs x y d e hx4 hy4 hs
    by_cases hx0 : x < 0
    · have hy0 : ¬ y < 0 := fun hh => hs (by simp [hx0, hh])
      have hdx : decide (x < 0) = true := by simp [hx0]
      rw [ho, hdx]
      have cs := hidd (fun W => sign_any true W)
      clear ho hdx hs
      go_enter Try.func51, Try.ntmps51
      go_wp2_with fail
      refine (cs.out _).mono ?_
      rintro E w1 ⟨rfl, rfl⟩
      go_wp2_with fail
      go_ret
      exact ⟨rfl, by (repeat' (first | (with_reducible exact Below.refl _ _) | (with_reducible assumption) | (with_reducible apply Below.setCell) | (with_reducible apply Below.alloc) | (with_reducible apply Below.drew) | (with_reducible apply below_drewN) | (with_reducible refine Below.trans ?_ (Below.mono (by assumption) ?_)) | omega | (simp; done) | (simp; omega)))⟩
    · have hy0 : y < 0 := by
        by_cases hh : y < 0
        · exact hh
        · exact absurd (by simp [hx0, hh]) hs
      have hdx : decide (x < 0) = false := by simp [hx0]
      rw [ho, hdx]
      have cs := hidd (fun W => sign_any false W)
      clear ho hdx hs
      go_enter Try.func51, Try.ntmps51
      go_wp2_with fail
      refine (cs.out _).mono ?_
      rintro E w1 ⟨rfl, rfl⟩
      go_wp2_with fail
      go_ret
      exact ⟨rfl, by (repeat' (first | (with_reducible exact Below.refl _ _) | (with_reducible assumption) | (with_reducible apply Below.setCell) | (with_reducible apply Below.alloc) | (with_reducible apply Below.drew) | (with_reducible apply below_drewN) | (with_reducible refine Below.trans ?_ (Below.mono (by assumption) ?_)) | omega | (simp; done) | (simp; omega)))⟩
end Go.Proofs.Ytgeankdimknmiaa
