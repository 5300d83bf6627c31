/- The program's sum of two fractions. -/
import Derived.Test.YtgeankdimknmiaaRatPe
import Derived.Deep.DeepCutAuto
import Derived.Deep.RegionHeld3
namespace Go.Proofs.Ytgeankdimknmiaa
open Go.RowKit

/-- what a fraction's parts are, as numbers without a sign. -/
def Parts (n d : Int) (N D : Nat) : Prop :=
  n.natAbs = N ∧ d = (D : Int) ∧ N < 9223372036854775808 ∧ 0 < D ∧ D < 9223372036854775808 ∧ Nat.gcd N D = 1
theorem small_mul {a b : Nat} (ha : a < 9223372036854775808) (hb : b < 9223372036854775808) : a * b < 85070591730234615865843651857942052864 := by
  have h1 : a * b ≤ 9223372036854775807 * 9223372036854775807 := Nat.mul_le_mul (by omega) (by omega)
  have h2 : 9223372036854775807 * 9223372036854775807 < 85070591730234615865843651857942052864 := by decide
  omega

/-- how a call ends that tells (N, D) where nothing was wrong, and gives up by a number elsewhere. -/
def ratEnd (r : Int × Int × Int) : Ending :=
  if r.2.2 = 0 then .returned (.agg #[.int .i64 r.1, .int .i64 r.2.1]) else errPanic r.2.2
theorem ratEnd_fits (b : Bool) (n d : Nat) (h : n < 9223372036854775808 ∧ d < 9223372036854775808) :
    ratEnd (RM.fracP b n d) = .returned (.agg #[.int .i64 (RM.sgn b n), .int .i64 d]) := by
  simp [ratEnd, RM.fracP, h]
theorem ratEnd_not (b : Bool) (n d : Nat) (h : ¬ (n < 9223372036854775808 ∧ d < 9223372036854775808)) :
    ratEnd (RM.fracP b n d) = errPanic 110 := by
  simp only [ratEnd, RM.fracP, if_neg h]; rfl

set_option maxHeartbeats 8000000 in
theorem plus_parts (x y : Int) (X d Y e : Nat) (hx : Parts x d X d) (hy : Parts y e Y e) (b : Bool) (n : Nat)
    (ht : tog (decide (x < 0)) (X * (e / Nat.gcd d e)) (decide (y < 0)) (Y * (d / Nat.gcd d e)) = (b, n)) (w : World) :
    Calls Try.prog 55 #[.agg #[.int .i64 x, .int .i64 d], .agg #[.int .i64 y, .int .i64 e]] w fun E w' =>
      E = ratEnd (RM.fracP b (n / Nat.gcd (Nat.gcd d e) n) (d / Nat.gcd d e * (e / Nat.gcd (Nat.gcd d e) n))) ∧ Below w.heap.size w w' := by
  obtain ⟨hx1, _, hx3, hx4, hx5, hx6⟩ := hx
  obtain ⟨hy1, _, hy3, hy4, hy5, hy6⟩ := hy
  have hg : 0 < Nat.gcd d e := Nat.gcd_pos_of_pos_left _ hx4
  have hgd : Nat.gcd d e ≤ d := Nat.gcd_le_left _ hx4
  have hh : 0 < Nat.gcd (Nat.gcd d e) n := Nat.gcd_pos_of_pos_left _ hg
  have hhg : Nat.gcd (Nat.gcd d e) n ≤ Nat.gcd d e := Nat.gcd_le_left _ hg
  have hl : d / Nat.gcd d e < 9223372036854775808 := Nat.lt_of_le_of_lt (Nat.div_le_self _ _) hx5
  have hr : e / Nat.gcd d e < 9223372036854775808 := Nat.lt_of_le_of_lt (Nat.div_le_self _ _) hy5
  have he2 : e / Nat.gcd (Nat.gcd d e) n < 9223372036854775808 := Nat.lt_of_le_of_lt (Nat.div_le_self _ _) hy5
  have m1 := small_mul hx3 hr
  have m2 := small_mul hy3 hl
  have ch : Nat.gcd (Nat.gcd d e) (n % Nat.gcd d e) = Nat.gcd (Nat.gcd d e) n := by rw [Nat.gcd_comm, ← Nat.gcd_rec]
  have cd := hidd (fun w => size_nat d hx5 w)
  have ce := hidd (fun w => size_nat e hy5 w)
  have cX := hidd (fun w => size_any x (by omega) (by omega) w)
  have cY := hidd (fun w => size_any y (by omega) (by omega) w)
  rw [hx1] at cX
  rw [hy1] at cY
  have cG := hidd (fun w => divisor_any d e (by omega) (by omega) w)
  have cP := hidd (fun w => product_any X (e / Nat.gcd d e) (by omega) (by omega) w)
  have cQ := hidd (fun w => product_any Y (d / Nat.gcd d e) (by omega) (by omega) w)
  have cT := hidd (fun h1 l1 h2 l2 (k1 : Two (X * (e / Nat.gcd d e)) h1 l1) (k2 : Two (Y * (d / Nat.gcd d e)) h2 l2) w => together_any (decide (x < 0)) (decide (y < 0)) _ _ h1 l1 h2 l2 k1 k2 (by omega) w)
  rw [ht] at cT
  have cR := hidd (fun h l (k : Two n h l) w => rest_any n h l (Nat.gcd d e) k (by omega) hg w)
  have cH := hidd (fun w => divisor_any (Nat.gcd d e) (n % Nat.gcd d e) (by omega) (by have := Nat.mod_lt n hg; omega) w)
  rw [ch] at cH
  have cA := hidd (fun h l (k : Two n h l) w => part_any n h l (Nat.gcd (Nat.gcd d e) n) k (by omega) hh w)
  have cL := hidd (fun w => product_any (d / Nat.gcd d e) (e / Nat.gcd (Nat.gcd d e) n) (by omega) (by omega) w)
  have e1 : (d : Int) / (Nat.gcd d e : Int) = ((d / Nat.gcd d e : Nat) : Int) := rfl
  have e2 : (e : Int) / (Nat.gcd d e : Int) = ((e / Nat.gcd d e : Nat) : Int) := rfl
  have e3 : (e : Int) / (Nat.gcd (Nat.gcd d e) n : Int) = ((e / Nat.gcd (Nat.gcd d e) n : Nat) : Int) := rfl
  clear ht ch m1 m2 hx1 hy1 hx6 hy6 hgd hhg
  generalize Nat.gcd (Nat.gcd d e) n = H at *
  generalize n % Nat.gcd d e = R at *
  generalize Nat.gcd d e = G at *
  generalize d / G = l at *
  generalize e / G = r at *
  generalize e / H = E2 at *
  generalize l * E2 = L at *
  generalize n / H = A at *
  generalize X * r = P at *
  generalize Y * l = Q at *
  have w1 : IntKind.u64.wrap (l : Int) = (l : Int) := wrap_lt _ (by omega)
  have w2 : IntKind.u64.wrap (r : Int) = (r : Int) := wrap_lt _ (by omega)
  have w3 : IntKind.u64.wrap (E2 : Int) = (E2 : Int) := wrap_lt _ (by omega)
  have hG1 : (1 : Int) ≤ (G : Int) := by omega
  have hH1 : (1 : Int) ≤ (H : Int) := by omega
  have hG2 : ¬ G = 0 := by omega
  have hH2 : ¬ H = 0 := by omega
  have E3 := hidd e3
  have W3 := hidd w3
  have HH1 := hidd hH1
  have HH2 := hidd hH2
  clear hx3 hx4 hx5 hy3 hy4 hy5 hl hr he2 hg hh e3 w3 hH1 hH2
  go_enter Try.func55, Try.ntmps55
  go_wp2_with fail
  go_quiet (first | (go_at_call_of 74 (Value.int IntKind.i64 (d:Int)); first | exact still_quiet (cd.out _) | exact still_quiet2 (cd.out _)) | (go_at_call_of 74 (Value.int IntKind.i64 (e:Int)); first | exact still_quiet (ce.out _) | exact still_quiet2 (ce.out _)) | (go_at_call 76; exact Calls.quiet_of (cG.out _)))
  go_wp2_with fail
  go_quiet (first | (go_at_call_of 74 (Value.int IntKind.i64 (d:Int)); first | exact still_quiet (cd.out _) | exact still_quiet2 (cd.out _)) | (go_at_call_of 74 (Value.int IntKind.i64 (e:Int)); first | exact still_quiet (ce.out _) | exact still_quiet2 (ce.out _)))
  go_wp2_with fail
  clear e1 e2 w1 w2 hG1 hG2 cd cG
  go_cut [8, 9] (fun s t wx => s = .bool b ∧ Below w.heap.size w wx ∧ w.heap.size + 2 < wx.heap.size ∧ wx.frozen? ⟨w.heap.size + 1 + 1, 0, none⟩ = false ∧ wx.frozen? ⟨w.heap.size + 1 + 1, 1, none⟩ = false ∧ wx.cell? ⟨w.heap.size + 1 + 1, 0, none⟩ = some (.int .i64 0) ∧ wx.cell? ⟨w.heap.size + 1 + 1, 1, none⟩ = some (.int .i64 0) ∧ wx.cell? ⟨w.heap.size + 1, 1, none⟩ = some (.int .i64 (e : Int)) ∧ ∃ h l k : Nat, Two n h l ∧ t = .pointer (some ⟨k, 0, none⟩) ∧ w.heap.size + 2 < k ∧ k < wx.heap.size ∧ wx.cell? ⟨k, 0, none⟩ = some (.int .u64 (h : Int)) ∧ wx.cell? ⟨k, 1, none⟩ = some (.int .u64 (l : Int)))
  case first =>
    go_region_held3 (fun w' => w'.cell? ⟨w.heap.size, 0, none⟩ = some (.int .i64 x) ∧ w'.cell? ⟨w.heap.size + 1, 0, none⟩ = some (.int .i64 y)) ((first | (simp [*, go_sem]; done) | (simp [*, go_sem, World.cell?_alloc_some, World.cell?_setCell_far]; done))) (first | (go_at_call_of 74 (Value.int IntKind.i64 x); refine (cX.out _).mono ?_; rintro e w1 ⟨rfl, rfl⟩) | (go_at_call_of 74 (Value.int IntKind.i64 y); refine (cY.out _).mono ?_; rintro e w1 ⟨rfl, rfl⟩) | (go_at_call_of 73 (Value.int IntKind.u64 (X : Int)); refine (cP.out _).mono ?_; rintro E wp ⟨h1, l1, k1, rfl, hbp⟩; (first | (have bcwp : ∀ b o, b < (wq).heap.size → (wp).cell? ⟨b, o, none⟩ = (wq).cell? ⟨b, o, none⟩ := fun b o h => (by have q := Below.cell (p := ⟨b, o, none⟩) hbp h; exact q); have bfwp : ∀ b o, b < (wq).heap.size → (wp).frozen? ⟨b, o, none⟩ = (wq).frozen? ⟨b, o, none⟩ := fun b o h => (by have q := Below.frozen (p := ⟨b, o, none⟩) hbp h; exact q); have bswp : (wq).heap.size ≤ (wp).heap.size := (by have q := Below.size hbp; exact q)) | (obtain ⟨bcwp, bfwp⟩ := bcell hbp)); have qp := Below.size hbp; (try simp at qp); (try have u0wp : w.heap.size < wp.heap.size := (by omega)); (try have u1wp : w.heap.size + 1 < wp.heap.size := (by omega)); (try have u2wp : w.heap.size + 1 + 1 < wp.heap.size := (by omega)); (try have u3wp : w.heap.size + 1 + 1 + 1 < wp.heap.size := (by omega)); (try have u4wp : wq.heap.size < wp.heap.size := (by omega)); (try have u5wp : ¬ wp.heap.size = w.heap.size := (by omega)); (try have u6wp : ¬ wp.heap.size = w.heap.size + 1 := (by omega))) | (go_at_call_of 73 (Value.int IntKind.u64 (Y : Int)); refine (cQ.out _).mono ?_; rintro E wq ⟨h2, l2, k2, rfl, hbq⟩; (first | (have bcwq : ∀ b o, b < (wp).heap.size → (wq).cell? ⟨b, o, none⟩ = (wp).cell? ⟨b, o, none⟩ := fun b o h => (by have q := Below.cell (p := ⟨b, o, none⟩) hbq h; exact q); have bfwq : ∀ b o, b < (wp).heap.size → (wq).frozen? ⟨b, o, none⟩ = (wp).frozen? ⟨b, o, none⟩ := fun b o h => (by have q := Below.frozen (p := ⟨b, o, none⟩) hbq h; exact q); have bswq : (wp).heap.size ≤ (wq).heap.size := (by have q := Below.size hbq; exact q)) | (obtain ⟨bcwq, bfwq⟩ := bcell hbq)); have qq := Below.size hbq; (try simp at qq); (try have u0wq : w.heap.size < wq.heap.size := (by omega)); (try have u1wq : w.heap.size + 1 < wq.heap.size := (by omega)); (try have u2wq : w.heap.size + 1 + 1 < wq.heap.size := (by omega)); (try have u3wq : w.heap.size + 1 + 1 + 1 < wq.heap.size := (by omega)); (try have u4wq : wp.heap.size < wq.heap.size := (by omega)); (try have u5wq : ¬ wq.heap.size = w.heap.size := (by omega)); (try have u6wq : ¬ wq.heap.size = w.heap.size + 1 := (by omega))) | (go_at_call 78; refine (cT.out _ _ _ _ k1 k2 _).mono ?_; rintro E wt ⟨h3, l3, k3, rfl, hbt⟩; (first | (have bcwt : ∀ b o, b < (wq).heap.size → (wt).cell? ⟨b, o, none⟩ = (wq).cell? ⟨b, o, none⟩ := fun b o h => (by have q := Below.cell (p := ⟨b, o, none⟩) hbt h; exact q); have bfwt : ∀ b o, b < (wq).heap.size → (wt).frozen? ⟨b, o, none⟩ = (wq).frozen? ⟨b, o, none⟩ := fun b o h => (by have q := Below.frozen (p := ⟨b, o, none⟩) hbt h; exact q); have bswt : (wq).heap.size ≤ (wt).heap.size := (by have q := Below.size hbt; exact q)) | (have bcwt : ∀ b o, b < (wp).heap.size → (wt).cell? ⟨b, o, none⟩ = (wp).cell? ⟨b, o, none⟩ := fun b o h => (by have q := Below.cell (p := ⟨b, o, none⟩) hbt h; exact q); have bfwt : ∀ b o, b < (wp).heap.size → (wt).frozen? ⟨b, o, none⟩ = (wp).frozen? ⟨b, o, none⟩ := fun b o h => (by have q := Below.frozen (p := ⟨b, o, none⟩) hbt h; exact q); have bswt : (wp).heap.size ≤ (wt).heap.size := (by have q := Below.size hbt; exact q)) | (obtain ⟨bcwt, bfwt⟩ := bcell hbt)); have qt := Below.size hbt; (try simp at qt); (try have u0wt : w.heap.size < wt.heap.size := (by omega)); (try have u1wt : w.heap.size + 1 < wt.heap.size := (by omega)); (try have u2wt : w.heap.size + 1 + 1 < wt.heap.size := (by omega)); (try have u3wt : w.heap.size + 1 + 1 + 1 < wt.heap.size := (by omega)); (try have u4wt : wp.heap.size < wt.heap.size := (by omega)); (try have u5wt : wq.heap.size < wt.heap.size := (by omega)); (try have u6wt : ¬ wt.heap.size = w.heap.size := (by omega)); (try have u7wt : ¬ wt.heap.size = w.heap.size + 1 := (by omega))))
    all_goals go_wp2_with fail
    all_goals go_meet
    all_goals (refine ⟨rfl, ?_, ?_, ?_, ?_, ?_, ?_, ?_, h3, l3, _, k3, rfl, ?_, ?_, ?_, ?_⟩)
    all_goals (first | ((repeat' (first | (with_reducible exact Below.refl _ _) | (with_reducible assumption) | (with_reducible apply Below.setCell) | (with_reducible apply Below.alloc) | (with_reducible apply Below.drew) | (with_reducible apply below_drewN) | (with_reducible refine Below.trans ?_ (Below.mono (by assumption) ?_)) | omega | (simp; done) | (simp; omega))); done) | (simp [*, go_sem]; done) | (simp [*, go_sem]; omega))
  case rest =>
    obtain ⟨rfl, hb0, hz0, hf0, hf1, hc0, hc1, hc2, h, l', k, hT, rfl, hk1, hk2, hk3, hk4⟩ := hcut
    have HT := hidd hT
    clear hT
    have y1 : w.heap.size + 1 < wc.heap.size := by omega
    have y2 : w.heap.size + 1 + 1 < wc.heap.size := by omega
    have n1 : ¬ w.heap.size + 1 + 1 = k := by omega
    have n2 : ¬ k = w.heap.size + 1 + 1 := by omega
    go_wp2_with fail
    refine (cR.out _ _ HT.out _).mono ?_
    rintro E w4 ⟨rfl, hb4⟩
    obtain ⟨bc4, bf4⟩ := bcell hb4
    have x1 : w.heap.size + 1 < w4.heap.size := Nat.lt_of_lt_of_le y1 hb4.size
    have x2 : w.heap.size + 1 + 1 < w4.heap.size := Nat.lt_of_lt_of_le y2 hb4.size
    have x3 : k < w4.heap.size := Nat.lt_of_lt_of_le hk2 hb4.size
    go_wp2_with fail
    refine (cH.out _).mono ?_
    rintro E w5 ⟨rfl, nq, rfl⟩
    have e3 := E3.out
    have w3 := W3.out
    have hH1 := HH1.out
    have hH2 := HH2.out
    go_wp2_with fail
    by_cases hfit : A < 9223372036854775808 ∧ L < 9223372036854775808
    · have RE := hidd (ratEnd_fits b A L hfit)
      have cF := hidd (fun h1 l1 h2 l2 (k1 : Two A h1 l1) (k2 : Two L h2 l2) w => fraction_ok b _ _ h1 l1 h2 l2 k1 k2 hfit.1 hfit.2 w)
      clear hfit
      go_region_with (first | (go_at_call_of 74 (Value.int IntKind.i64 (e:Int)); refine (ce.out _).mono ?_; rintro e w1 ⟨rfl, rfl⟩) | (go_at_call 73; refine (cL.out _).mono ?_; rintro E wl ⟨g1, g2, k2, rfl, hbl⟩; (first | (have bcwl : ∀ b o, b < (w4).heap.size → (wl).cell? ⟨b, o, none⟩ = (w4).cell? ⟨b, o, none⟩ := fun b o h => (by have q := Below.cell (p := ⟨b, o, none⟩) hbl h; exact q); have bfwl : ∀ b o, b < (w4).heap.size → (wl).frozen? ⟨b, o, none⟩ = (w4).frozen? ⟨b, o, none⟩ := fun b o h => (by have q := Below.frozen (p := ⟨b, o, none⟩) hbl h; exact q); have bswl : (w4).heap.size ≤ (wl).heap.size := (by have q := Below.size hbl; exact q)) | (have bcwl : ∀ b o, b < (wa).heap.size → (wl).cell? ⟨b, o, none⟩ = (wa).cell? ⟨b, o, none⟩ := fun b o h => (by have q := Below.cell (p := ⟨b, o, none⟩) hbl h; exact q); have bfwl : ∀ b o, b < (wa).heap.size → (wl).frozen? ⟨b, o, none⟩ = (wa).frozen? ⟨b, o, none⟩ := fun b o h => (by have q := Below.frozen (p := ⟨b, o, none⟩) hbl h; exact q); have bswl : (wa).heap.size ≤ (wl).heap.size := (by have q := Below.size hbl; exact q))); have u1 : w.heap.size + 1 < wl.heap.size := (by omega); have u2 : w.heap.size + 1 + 1 < wl.heap.size := (by omega); have u3 : k < wl.heap.size := (by omega)) | (go_at_call 80; refine (cA.out _ _ HT.out _).mono ?_; rintro E wa ⟨g3, g4, k1, rfl, hba⟩; (first | (have bcwa : ∀ b o, b < (w4).heap.size → (wa).cell? ⟨b, o, none⟩ = (w4).cell? ⟨b, o, none⟩ := fun b o h => (by have q := Below.cell (p := ⟨b, o, none⟩) hba h; exact q); have bfwa : ∀ b o, b < (w4).heap.size → (wa).frozen? ⟨b, o, none⟩ = (w4).frozen? ⟨b, o, none⟩ := fun b o h => (by have q := Below.frozen (p := ⟨b, o, none⟩) hba h; exact q); have bswa : (w4).heap.size ≤ (wa).heap.size := (by have q := Below.size hba; exact q)) | (have bcwa : ∀ b o, b < (wl).heap.size → (wa).cell? ⟨b, o, none⟩ = (wl).cell? ⟨b, o, none⟩ := fun b o h => (by have q := Below.cell (p := ⟨b, o, none⟩) hba h; exact q); have bfwa : ∀ b o, b < (wl).heap.size → (wa).frozen? ⟨b, o, none⟩ = (wl).frozen? ⟨b, o, none⟩ := fun b o h => (by have q := Below.frozen (p := ⟨b, o, none⟩) hba h; exact q); have bswa : (wl).heap.size ≤ (wa).heap.size := (by have q := Below.size hba; exact q))); have v1 : w.heap.size + 1 < wa.heap.size := (by omega); have v2 : w.heap.size + 1 + 1 < wa.heap.size := (by omega); have v3 : k < wa.heap.size := (by omega)) | (go_at_call 77; refine (cF.out _ _ _ _ k1 k2 _).mono ?_; rintro E wf ⟨rfl, hbf⟩; (first | (have bcwf : ∀ b o, b < (wl).heap.size → (wf).cell? ⟨b, o, none⟩ = (wl).cell? ⟨b, o, none⟩ := fun b o h => (by have q := Below.cell (p := ⟨b, o, none⟩) hbf h; exact q); have bfwf : ∀ b o, b < (wl).heap.size → (wf).frozen? ⟨b, o, none⟩ = (wl).frozen? ⟨b, o, none⟩ := fun b o h => (by have q := Below.frozen (p := ⟨b, o, none⟩) hbf h; exact q); have bswf : (wl).heap.size ≤ (wf).heap.size := (by have q := Below.size hbf; exact q)) | (have bcwf : ∀ b o, b < (wa).heap.size → (wf).cell? ⟨b, o, none⟩ = (wa).cell? ⟨b, o, none⟩ := fun b o h => (by have q := Below.cell (p := ⟨b, o, none⟩) hbf h; exact q); have bfwf : ∀ b o, b < (wa).heap.size → (wf).frozen? ⟨b, o, none⟩ = (wa).frozen? ⟨b, o, none⟩ := fun b o h => (by have q := Below.frozen (p := ⟨b, o, none⟩) hbf h; exact q); have bswf : (wa).heap.size ≤ (wf).heap.size := (by have q := Below.size hbf; exact q))); have t2 : w.heap.size + 1 + 1 < wf.heap.size := (by omega)))
      all_goals go_wp2_with fail
      all_goals exact bodyPost_ret (v := .agg #[.int .i64 (RM.sgn b A), .int .i64 L]) (by simp [results, Try.results55, go_sem, *]) rfl ⟨RE.out.symm, by (repeat' (first | (with_reducible exact Below.refl _ _) | (with_reducible assumption) | (with_reducible apply Below.setCell) | (with_reducible apply Below.alloc) | (with_reducible apply Below.drew) | (with_reducible apply below_drewN) | (with_reducible refine Below.trans ?_ (Below.mono (by assumption) ?_)) | omega | (simp; done) | (simp; omega)))⟩
    · have RE := hidd (ratEnd_not b A L hfit)
      have cF := hidd (fun h1 l1 h2 l2 (k1 : Two A h1 l1) (k2 : Two L h2 l2) w => fraction_no b _ _ h1 l1 h2 l2 k1 k2 hfit w)
      clear hfit
      go_region_with (first | (go_at_call_of 74 (Value.int IntKind.i64 (e:Int)); refine (ce.out _).mono ?_; rintro e w1 ⟨rfl, rfl⟩) | (go_at_call 73; refine (cL.out _).mono ?_; rintro E wl ⟨g1, g2, k2, rfl, hbl⟩; (first | (have bcwl : ∀ b o, b < (w4).heap.size → (wl).cell? ⟨b, o, none⟩ = (w4).cell? ⟨b, o, none⟩ := fun b o h => (by have q := Below.cell (p := ⟨b, o, none⟩) hbl h; exact q); have bfwl : ∀ b o, b < (w4).heap.size → (wl).frozen? ⟨b, o, none⟩ = (w4).frozen? ⟨b, o, none⟩ := fun b o h => (by have q := Below.frozen (p := ⟨b, o, none⟩) hbl h; exact q); have bswl : (w4).heap.size ≤ (wl).heap.size := (by have q := Below.size hbl; exact q)) | (have bcwl : ∀ b o, b < (wa).heap.size → (wl).cell? ⟨b, o, none⟩ = (wa).cell? ⟨b, o, none⟩ := fun b o h => (by have q := Below.cell (p := ⟨b, o, none⟩) hbl h; exact q); have bfwl : ∀ b o, b < (wa).heap.size → (wl).frozen? ⟨b, o, none⟩ = (wa).frozen? ⟨b, o, none⟩ := fun b o h => (by have q := Below.frozen (p := ⟨b, o, none⟩) hbl h; exact q); have bswl : (wa).heap.size ≤ (wl).heap.size := (by have q := Below.size hbl; exact q))); have u1 : w.heap.size + 1 < wl.heap.size := (by omega); have u2 : w.heap.size + 1 + 1 < wl.heap.size := (by omega); have u3 : k < wl.heap.size := (by omega)) | (go_at_call 80; refine (cA.out _ _ HT.out _).mono ?_; rintro E wa ⟨g3, g4, k1, rfl, hba⟩; (first | (have bcwa : ∀ b o, b < (w4).heap.size → (wa).cell? ⟨b, o, none⟩ = (w4).cell? ⟨b, o, none⟩ := fun b o h => (by have q := Below.cell (p := ⟨b, o, none⟩) hba h; exact q); have bfwa : ∀ b o, b < (w4).heap.size → (wa).frozen? ⟨b, o, none⟩ = (w4).frozen? ⟨b, o, none⟩ := fun b o h => (by have q := Below.frozen (p := ⟨b, o, none⟩) hba h; exact q); have bswa : (w4).heap.size ≤ (wa).heap.size := (by have q := Below.size hba; exact q)) | (have bcwa : ∀ b o, b < (wl).heap.size → (wa).cell? ⟨b, o, none⟩ = (wl).cell? ⟨b, o, none⟩ := fun b o h => (by have q := Below.cell (p := ⟨b, o, none⟩) hba h; exact q); have bfwa : ∀ b o, b < (wl).heap.size → (wa).frozen? ⟨b, o, none⟩ = (wl).frozen? ⟨b, o, none⟩ := fun b o h => (by have q := Below.frozen (p := ⟨b, o, none⟩) hba h; exact q); have bswa : (wl).heap.size ≤ (wa).heap.size := (by have q := Below.size hba; exact q))); have v1 : w.heap.size + 1 < wa.heap.size := (by omega); have v2 : w.heap.size + 1 + 1 < wa.heap.size := (by omega); have v3 : k < wa.heap.size := (by omega)) | (go_at_call 77; suffices _hdm : wpAny Try.prog .any #[] (fun _ _ _ => True) 0 #[] { tmps := #[], defers := [] } w by (refine (cF.out _ _ _ _ k1 k2 _).mono ?_; rintro E wf ⟨rfl, hbf⟩; exact ⟨rfl, RE.out.symm, by (repeat' (first | (with_reducible exact Below.refl _ _) | (with_reducible assumption) | (with_reducible apply Below.setCell) | (with_reducible apply Below.alloc) | (with_reducible apply Below.drew) | (with_reducible apply below_drewN) | (with_reducible refine Below.trans ?_ (Below.mono (by assumption) ?_)) | omega | (simp; done) | (simp; omega)))⟩)))
      all_goals trivial
end Go.Proofs.Ytgeankdimknmiaa
