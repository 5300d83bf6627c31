/- The program's product of two fractions. -/
import Derived.Test.YtokcalmmmfakcaaGreatRatPk
import Derived.Deep.DeepCutAuto
import Derived.Deep.RegionHeld3
namespace Go.Proofs.YtokcalmmmfakcaaGreat
open Go.RowKit

theorem endOf_fits (b : Bool) (n d : Nat) (h : n < 9223372036854775808 ∧ d < 9223372036854775808) :
    endOf (RM.fracP b n d) = .returned (.agg #[.int .i64 (RM.sgn b n), .int .i64 d]) := by
  simp [endOf, RM.fracP, h]
theorem endOf_not (b : Bool) (n d : Nat) (h : ¬ (n < 9223372036854775808 ∧ d < 9223372036854775808)) :
    endOf (RM.fracP b n d) = errPanic 110 := by
  simp only [endOf, RM.fracP, if_neg h]; rfl
/-- what a fraction's parts are, as numbers without a sign. -/
def Parts2 (n : Int) (N D : Nat) : Prop :=
  n.natAbs = N ∧ N < 9223372036854775808 ∧ 0 < D ∧ D < 9223372036854775808 ∧ Nat.gcd N D = 1

set_option maxHeartbeats 8000000 in
theorem times_parts (x y : Int) (X d Y e : Nat) (hx : Parts2 x X d) (hy : Parts2 y Y e) (w : World) :
    Calls Tryz.prog 104 #[.agg #[.int .i64 x, .int .i64 d], .agg #[.int .i64 y, .int .i64 e]] w fun E w' =>
      E = endOf (RM.fracP (decide (x < 0) != decide (y < 0)) (X / Nat.gcd X e * (Y / Nat.gcd Y d)) (d / Nat.gcd Y d * (e / Nat.gcd X e))) ∧ Below w.heap.size w w' := by
  obtain ⟨hx1, hx3, hx4, hx5, _⟩ := hx
  obtain ⟨hy1, hy3, hy4, hy5, _⟩ := hy
  have hg : 0 < Nat.gcd X e := Nat.gcd_pos_of_pos_right _ hy4
  have hh : 0 < Nat.gcd Y d := Nat.gcd_pos_of_pos_right _ hx4
  have l1 : X / Nat.gcd X e < 9223372036854775808 := Nat.lt_of_le_of_lt (Nat.div_le_self _ _) hx3
  have l2 : Y / Nat.gcd Y d < 9223372036854775808 := Nat.lt_of_le_of_lt (Nat.div_le_self _ _) hy3
  have l3 : d / Nat.gcd Y d < 9223372036854775808 := Nat.lt_of_le_of_lt (Nat.div_le_self _ _) hx5
  have l4 : e / Nat.gcd X e < 9223372036854775808 := Nat.lt_of_le_of_lt (Nat.div_le_self _ _) hy5
  have cd := hidd (fun w => size_nat d hx5 w)
  have ce := hidd (fun w => size_nat e hy5 w)
  have cX := hidd (fun w => size_any x (by omega) (by omega) w)
  have cY := hidd (fun w => size_any y (by omega) (by omega) w)
  rw [hx1] at cX
  rw [hy1] at cY
  have cG := hidd (fun w => divisor_any X e (by omega) (by omega) w)
  have cH := hidd (fun w => divisor_any Y d (by omega) (by omega) w)
  have cP := hidd (fun w => product_any (X / Nat.gcd X e) (Y / Nat.gcd Y d) (by omega) (by omega) w)
  have cQ := hidd (fun w => product_any (d / Nat.gcd Y d) (e / Nat.gcd X e) (by omega) (by omega) w)
  have e1 : (X : Int) / (Nat.gcd X e : Int) = ((X / Nat.gcd X e : Nat) : Int) := rfl
  have e2 : (Y : Int) / (Nat.gcd Y d : Int) = ((Y / Nat.gcd Y d : Nat) : Int) := rfl
  have e3 : (d : Int) / (Nat.gcd Y d : Int) = ((d / Nat.gcd Y d : Nat) : Int) := rfl
  have e4 : (e : Int) / (Nat.gcd X e : Int) = ((e / Nat.gcd X e : Nat) : Int) := rfl
  clear hx1 hy1
  generalize Nat.gcd X e = G at *
  generalize Nat.gcd Y d = H at *
  generalize X / G = a1 at *
  generalize Y / H = a2 at *
  generalize d / H = a3 at *
  generalize e / G = a4 at *
  generalize a1 * a2 = P at *
  generalize a3 * a4 = Q at *
  have w1 : IntKind.u64.wrap (a1 : Int) = (a1 : Int) := wrap_lt _ (by omega)
  have w2 : IntKind.u64.wrap (a2 : Int) = (a2 : Int) := wrap_lt _ (by omega)
  have w3 : IntKind.u64.wrap (a3 : Int) = (a3 : Int) := wrap_lt _ (by omega)
  have w4 : IntKind.u64.wrap (a4 : Int) = (a4 : Int) := wrap_lt _ (by omega)
  have hG1 : (1 : Int) ≤ (G : Int) := by omega
  have hH1 : (1 : Int) ≤ (H : Int) := by omega
  have hG2 : ¬ G = 0 := by omega
  have hH2 : ¬ H = 0 := by omega
  clear hx3 hx4 hx5 hy3 hy4 hy5 hg hh l1 l2 l3 l4
  go_enter Tryz.func104, Tryz.ntmps104
  go_wp2_with fail
  go_quiet (first | (go_at_call_of 117 (Value.int IntKind.i64 (d:Int)); first | exact still_quiet (cd.out _) | exact still_quiet2 (cd.out _)) | (go_at_call_of 117 (Value.int IntKind.i64 (e:Int)); first | exact still_quiet (ce.out _) | exact still_quiet2 (ce.out _)) | (go_at_call_of 117 (Value.int IntKind.i64 x); first | exact still_quiet (cX.out _) | exact still_quiet2 (cX.out _)) | (go_at_call_of 117 (Value.int IntKind.i64 y); first | exact still_quiet (cY.out _) | exact still_quiet2 (cY.out _)) | (go_at_call_of 129 (Value.int IntKind.u64 (X : Int)); exact Calls.quiet_of (cG.out _)) | (go_at_call_of 129 (Value.int IntKind.u64 (Y : Int)); exact Calls.quiet_of (cH.out _)))
  go_wp2_with fail
  go_cut [7] (fun t wx => Below w.heap.size w wx ∧ w.heap.size + 2 < wx.heap.size ∧ wx.frozen? ⟨w.heap.size + 1 + 1, 0, none⟩ = false ∧ wx.frozen? ⟨w.heap.size + 1 + 1, 1, none⟩ = false ∧ wx.cell? ⟨w.heap.size + 1 + 1, 0, none⟩ = some (.int .i64 0) ∧ wx.cell? ⟨w.heap.size + 1 + 1, 1, none⟩ = some (.int .i64 0) ∧ wx.cell? ⟨w.heap.size, 0, none⟩ = some (.int .i64 x) ∧ wx.cell? ⟨w.heap.size + 1, 0, none⟩ = some (.int .i64 y) ∧ wx.cell? ⟨w.heap.size, 1, none⟩ = some (.int .i64 (d : Int)) ∧ wx.cell? ⟨w.heap.size + 1, 1, none⟩ = some (.int .i64 (e : Int)) ∧ ∃ h l k : Nat, Two P h l ∧ t = .pointer (some ⟨k, 0, none⟩) ∧ w.heap.size + 2 < k ∧ k < wx.heap.size ∧ wx.cell? ⟨k, 0, none⟩ = some (.int .u64 (h : Int)) ∧ wx.cell? ⟨k, 1, none⟩ = some (.int .u64 (l : Int)))
  case first =>
    go_region_held3 (fun w' => w'.cell? ⟨w.heap.size, 0, none⟩ = some (.int .i64 x) ∧ w'.cell? ⟨w.heap.size + 1, 0, none⟩ = some (.int .i64 y)) ((first | (simp [*, go_sem]; done) | (simp [*, go_sem, World.cell?_alloc_some, World.cell?_setCell_far]; done))) (first | (go_at_call_of 117 (Value.int IntKind.i64 x); refine (cX.out _).mono ?_; rintro e w1 ⟨rfl, rfl⟩) | (go_at_call_of 117 (Value.int IntKind.i64 y); refine (cY.out _).mono ?_; rintro e w1 ⟨rfl, rfl⟩) | (go_at_call 116; refine (cP.out _).mono ?_; rintro E wp ⟨h1, l1, k1, rfl, hbp⟩; (obtain ⟨bcwp, bfwp⟩ := bcell hbp); have qp := Below.size hbp; (try simp at qp); (try have u0wp : w.heap.size < (wp).heap.size := (by omega)); (try have u1wp : w.heap.size + 1 < (wp).heap.size := (by omega)); (try have u2wp : w.heap.size + 1 + 1 < (wp).heap.size := (by omega)); (try have u3wp : w.heap.size + 1 + 1 + 1 < (wp).heap.size := (by omega)); (try have u4wp : ¬ (wp).heap.size = w.heap.size := (by omega)); (try have u5wp : ¬ (wp).heap.size = w.heap.size + 1 := (by omega))))
    all_goals go_wp2_with fail
    all_goals go_meet
    all_goals (refine ⟨?_, ?_, ?_, ?_, ?_, ?_, ?_, ?_, ?_, ?_, h1, l1, _, k1, rfl, ?_, ?_, ?_, ?_⟩)
    all_goals (first | ((repeat' (first | (with_reducible exact Below.refl _ _) | (with_reducible assumption) | (with_reducible apply Below.setCell) | (with_reducible apply Below.alloc) | (with_reducible apply Below.drew) | (with_reducible apply below_drewN) | (with_reducible refine Below.trans ?_ (Below.mono (by assumption) ?_)) | omega | (simp; done) | (simp; omega))); done) | (simp [*, go_sem]; done) | (simp [*, go_sem]; omega))
  case rest =>
    obtain ⟨hb0, hz0, hf0, hf1, hc0, hc1, hc2, hc3, hc4, hc5, h, l, k, hT, rfl, hk1, hk2, hk3, hk4⟩ := hcut
    have HT := hidd hT
    clear hT
    have y0 : w.heap.size < wc.heap.size := by omega
    have y1 : w.heap.size + 1 < wc.heap.size := by omega
    have y2 : w.heap.size + 1 + 1 < wc.heap.size := by omega
    go_wp2_with fail
    go_cut [8] (fun t wx => Below w.heap.size w wx ∧ k < wx.heap.size ∧ wx.frozen? ⟨w.heap.size + 1 + 1, 0, none⟩ = false ∧ wx.frozen? ⟨w.heap.size + 1 + 1, 1, none⟩ = false ∧ wx.cell? ⟨w.heap.size + 1 + 1, 0, none⟩ = some (.int .i64 0) ∧ wx.cell? ⟨w.heap.size + 1 + 1, 1, none⟩ = some (.int .i64 0) ∧ wx.cell? ⟨w.heap.size, 0, none⟩ = some (.int .i64 x) ∧ wx.cell? ⟨w.heap.size + 1, 0, none⟩ = some (.int .i64 y) ∧ wx.cell? ⟨k, 0, none⟩ = some (.int .u64 (h : Int)) ∧ wx.cell? ⟨k, 1, none⟩ = some (.int .u64 (l : Int)) ∧ ∃ h' l' k' : Nat, Two Q h' l' ∧ t = .pointer (some ⟨k', 0, none⟩) ∧ k < k' ∧ k' < wx.heap.size ∧ wx.cell? ⟨k', 0, none⟩ = some (.int .u64 (h' : Int)) ∧ wx.cell? ⟨k', 1, none⟩ = some (.int .u64 (l' : Int)))
    case first =>
      have m1 : ¬ wc.heap.size = k := by omega
      have p0 : w.heap.size < wc.heap.size + 1 := by omega
      have p1 : w.heap.size + 1 < wc.heap.size + 1 := by omega
      have p2 : w.heap.size + 1 + 1 < wc.heap.size + 1 := by omega
      have p3 : k < wc.heap.size + 1 := by omega
      have m2 : ¬ wc.heap.size = w.heap.size := by omega
      have m3 : ¬ wc.heap.size = w.heap.size + 1 := by omega
      have m4 : ¬ wc.heap.size = w.heap.size + 1 + 1 := by omega
      go_region_held3 (fun w' => w'.cell? ⟨w.heap.size, 1, none⟩ = some (.int .i64 (d : Int)) ∧ w'.cell? ⟨w.heap.size + 1, 1, none⟩ = some (.int .i64 (e : Int))) ((first | (simp [*, go_sem]; done) | (simp [*, go_sem, World.cell?_alloc_some, World.cell?_setCell_far]; done))) (first | (go_at_call_of 117 (Value.int IntKind.i64 (d:Int)); refine (cd.out _).mono ?_; rintro e w1 ⟨rfl, rfl⟩) | (go_at_call_of 117 (Value.int IntKind.i64 (e:Int)); refine (ce.out _).mono ?_; rintro e w1 ⟨rfl, rfl⟩) | (go_at_call 116; refine (cQ.out _).mono ?_; rintro E wq ⟨h2, l2, k2, rfl, hbq⟩; (first | (have bcwq : ∀ b o, b < (wc).heap.size → (wq).cell? ⟨b, o, none⟩ = (wc).cell? ⟨b, o, none⟩ := fun b o h => (by have q := Below.cell (p := ⟨b, o, none⟩) hbq h; exact q); have bfwq : ∀ b o, b < (wc).heap.size → (wq).frozen? ⟨b, o, none⟩ = (wc).frozen? ⟨b, o, none⟩ := fun b o h => (by have q := Below.frozen (p := ⟨b, o, none⟩) hbq h; exact q); have bswq : (wc).heap.size ≤ (wq).heap.size := (by have q := Below.size hbq; exact q)) | (obtain ⟨bcwq, bfwq⟩ := bcell hbq)); have qq := Below.size hbq; (try simp at qq); (try have u0wq : w.heap.size < (wq).heap.size := (by omega)); (try have u1wq : w.heap.size + 1 < (wq).heap.size := (by omega)); (try have u2wq : w.heap.size + 1 + 1 < (wq).heap.size := (by omega)); (try have u3wq : w.heap.size + 1 + 1 + 1 < (wq).heap.size := (by omega)); (try have u4wq : ¬ (wq).heap.size = w.heap.size := (by omega)); (try have u5wq : ¬ (wq).heap.size = w.heap.size + 1 := (by omega)); (try have uk1 : k < wq.heap.size := (by omega)); (try have uk2 : ¬ wq.heap.size = k := (by omega)); (try have uk3 : wc.heap.size < wq.heap.size := (by omega)); (try have uk4 : ¬ wq.heap.size = w.heap.size + 1 + 1 := (by omega))))
      all_goals go_wp2_with fail
      all_goals go_meet
      all_goals (refine ⟨?_, ?_, ?_, ?_, ?_, ?_, ?_, ?_, ?_, ?_, h2, l2, _, k2, rfl, ?_, ?_, ?_, ?_⟩)
      all_goals (first | ((repeat' (first | (with_reducible exact Below.refl _ _) | (with_reducible assumption) | (with_reducible apply Below.setCell) | (with_reducible apply Below.alloc) | (with_reducible apply Below.drew) | (with_reducible apply below_drewN) | (with_reducible refine Below.trans ?_ (Below.mono (by assumption) ?_)) | omega | (simp; done) | (simp; omega))); done) | (simp [*, go_sem]; done) | (simp [*, go_sem]; omega))
    case rest =>
      obtain ⟨gb0, gz0, gf0, gf1, gc0, gc1, gc2, gc3, gc4, gc5, h', l', k', hT', rfl, gk1, gk2, gk3, gk4⟩ := hcut
      have HT' := hidd hT'
      clear hT'
      have y0 : w.heap.size < wc.heap.size := by omega
      have y1 : w.heap.size + 1 < wc.heap.size := by omega
      have y2 : w.heap.size + 1 + 1 < wc.heap.size := by omega
      go_wp2_with fail
      by_cases hfit : P < 9223372036854775808 ∧ Q < 9223372036854775808
      · have RE := hidd (endOf_fits (decide (x < 0) != decide (y < 0)) P Q hfit)
        refine (fraction_ok (decide (x < 0) != decide (y < 0)) _ _ _ _ _ _ HT.out HT'.out hfit.1 hfit.2 _).mono ?_
        rintro E wf ⟨rfl, hbf⟩
        obtain ⟨bcf, bff⟩ := bcell hbf
        clear hfit
        go_wp2_with fail
        exact bodyPost_ret (v := .agg #[.int .i64 (RM.sgn (decide (x < 0) != decide (y < 0)) P), .int .i64 Q]) (by simp [results, Tryz.results104, go_sem, *]) rfl ⟨RE.out.symm, by (repeat' (first | (with_reducible exact Below.refl _ _) | (with_reducible assumption) | (with_reducible apply Below.setCell) | (with_reducible apply Below.alloc) | (with_reducible apply Below.drew) | (with_reducible apply below_drewN) | (with_reducible refine Below.trans ?_ (Below.mono (by assumption) ?_)) | omega | (simp; done) | (simp; omega)))⟩
      · have RE := hidd (endOf_not (decide (x < 0) != decide (y < 0)) P Q hfit)
        refine (fraction_no (decide (x < 0) != decide (y < 0)) _ _ _ _ _ _ HT.out HT'.out hfit _).mono ?_
        rintro E wf ⟨rfl, hbf⟩
        go_wp2_with fail
        exact ⟨rfl, RE.out.symm, by (repeat' (first | (with_reducible exact Below.refl _ _) | (with_reducible assumption) | (with_reducible apply Below.setCell) | (with_reducible apply Below.alloc) | (with_reducible apply Below.drew) | (with_reducible apply below_drewN) | (with_reducible refine Below.trans ?_ (Below.mono (by assumption) ?_)) | omega | (simp; done) | (simp; omega)))⟩
end Go.Proofs.YtokcalmmmfakcaaGreat
