/- The program's difference and quotient. -/
import Derived.Test.YtokcalmmmfakcaaGreatRatPm
import Derived.Test.YtokcalmmmfakcaaGreatRatSh
namespace Go.Proofs.YtokcalmmmfakcaaGreat
open Go.RowKit

def subT (x d y e : Int) : Int × Int × Int := RM.plusR x d (-y) e
def divT (x d y e : Int) : Int × Int × Int := if y = 0 then (0, 0, 2) else if y < 0 then RM.timesR x d (-e) (-y) else RM.timesR x d e y
theorem subT_clean (x d y e : Int) : Clean (subT x d y e) := fracN_clean _ _ _
theorem divT_clean (x d y e : Int) : Clean (divT x d y e) := by
  unfold divT
  split
  · simp [Clean]
  · split <;> exact fracN_clean _ _ _
def subR (x d y e : Int) : Int × Int × Int := if rightB x d && rightB y e then subT x d y e else (0, 0, 2)
def divR (x d y e : Int) : Int × Int × Int := if rightB x d && rightB y e then divT x d y e else (0, 0, 2)
theorem entersSub : ∀ args w, (callFunc 106 args).run Tryz.prog w = .ok (.enter 106 args) w := fun args w => by simp [callFunc, Tryz.func106, Tryz.f106, mark]
theorem entersDiv : ∀ args w, (callFunc 103 args).run Tryz.prog w = .ok (.enter 103 args) w := fun args w => by simp [callFunc, Tryz.func103, Tryz.f103, mark]

set_option maxHeartbeats 2000000 in
theorem subStep (x d y e : Int) (h0 : -9223372036854775808 ≤ x) (h1 : x ≤ 9223372036854775807) (h3 : d ≤ 9223372036854775807) (k0 : -9223372036854775808 ≤ y) (k1 : y ≤ 9223372036854775807) (k3 : e ≤ 9223372036854775807)
    (hx : rightB x d = true) (hy : rightB y e = true)
    (p q : Nat) (w : World) (hc : w.cell? ⟨p, 0, none⟩ = some (.int .i64 x)) (hc' : w.cell? ⟨p, 1, none⟩ = some (.int .i64 d)) (hd : w.cell? ⟨q, 0, none⟩ = some (.int .i64 y)) (hd' : w.cell? ⟨q, 1, none⟩ = some (.int .i64 e)) (hp : p < w.heap.size) (hq : q < w.heap.size) :
    StepsTo 106 #[.pointer (some ⟨p, 0, none⟩), .pointer (some ⟨q, 0, none⟩)] (endOf (subT x d y e)) w := by
  intro W hW
  have c1 : W.cell? ⟨p, 0, none⟩ = some (.int .i64 x) := (hW.cell (p := ⟨p, 0, none⟩) hp).trans hc
  have c2 : W.cell? ⟨p, 1, none⟩ = some (.int .i64 d) := (hW.cell (p := ⟨p, 1, none⟩) hp).trans hc'
  have c3 : W.cell? ⟨q, 0, none⟩ = some (.int .i64 y) := (hW.cell (p := ⟨q, 0, none⟩) hq).trans hd
  have c4 : W.cell? ⟨q, 1, none⟩ = some (.int .i64 e) := (hW.cell (p := ⟨q, 1, none⟩) hq).trans hd'
  have hp1 : p < W.heap.size := Nat.lt_of_lt_of_le hp hW.size
  have hq1 : q < W.heap.size := Nat.lt_of_lt_of_le hq hW.size
  have hp2 : p < W.heap.size + 1 := by omega
  have hq2 : q < W.heap.size + 1 := by omega
  clear hW hc hc' hd hd' hp hq
  obtain ⟨g1, g2⟩ := right_bounds y e k0 hy
  have ci := hidd (fun W => minus_any y e g2 k1 W)
  have cb := fun W => plus_any x d (-y) e h0 h1 h3 (by omega) (by omega) k3 hx (rightB_neg y e g2 k1 hy) W
  have hT : subT x d y e = RM.plusR x d (-y) e := rfl
  rw [hT]
  clear hT hx hy
  generalize RM.plusR x d (-y) e = r at *
  by_cases h : r.2.2 = 0
  · have RE := hidd (endOf_ok r h)
    rw [endOf_ok r h] at cb
    have co := hidd cb
    clear h cb
    go_enter Tryz.func106, Tryz.ntmps106
    go_wp2_with fail
    go_region_with (first | (go_at_call 108; refine (ci.out _).mono ?_; rintro E w1 ⟨rfl, hb1⟩; (obtain ⟨bc1, bf1⟩ := bcell hb1); have u1 : p < w1.heap.size := (by have q := Below.size hb1; simp at q; omega); have u2 : W.heap.size < w1.heap.size := (by have q := Below.size hb1; simp at q; omega)) | (go_at_call 107; refine (co.out _).mono ?_; rintro E w2 ⟨rfl, hb2⟩; (have bcw2 : ∀ b o, b < (w1).heap.size → (w2).cell? ⟨b, o, none⟩ = (w1).cell? ⟨b, o, none⟩ := fun b o h => (by have q := Below.cell (p := ⟨b, o, none⟩) hb2 h; exact q); have bfw2 : ∀ b o, b < (w1).heap.size → (w2).frozen? ⟨b, o, none⟩ = (w1).frozen? ⟨b, o, none⟩ := fun b o h => (by have q := Below.frozen (p := ⟨b, o, none⟩) hb2 h; exact q); have bsw2 : (w1).heap.size ≤ (w2).heap.size := (by have q := Below.size hb2; exact q)); have u3 : W.heap.size < w2.heap.size := (by omega)))
    all_goals go_wp2_with fail
    all_goals exact bodyPost_ret (v := .agg #[.int .i64 r.1, .int .i64 r.2.1]) (by simp [results, Tryz.results106, go_sem, *]) rfl ⟨RE.out.symm, by (repeat' (first | (with_reducible exact Below.refl _ _) | (with_reducible assumption) | (with_reducible apply Below.setCell) | (with_reducible apply Below.alloc) | (with_reducible apply Below.drew) | (with_reducible apply below_drewN) | (with_reducible refine Below.trans ?_ (Below.mono (by assumption) ?_)) | omega | (simp; done) | (simp; omega)))⟩
  · have RE := hidd (endOf_no r h)
    rw [endOf_no r h] at cb
    have co := hidd cb
    clear h cb
    go_enter Tryz.func106, Tryz.ntmps106
    go_wp2_with fail
    go_region_with (first | (go_at_call 108; refine (ci.out _).mono ?_; rintro E w1 ⟨rfl, hb1⟩; (obtain ⟨bc1, bf1⟩ := bcell hb1); have u1 : p < w1.heap.size := (by have q := Below.size hb1; simp at q; omega); have u2 : W.heap.size < w1.heap.size := (by have q := Below.size hb1; simp at q; omega)) | (go_at_call 107; suffices _hdm : wpAny Tryz.prog .any #[] (fun _ _ _ => True) 0 #[] { tmps := #[], defers := [] } w1 by (refine (co.out _).mono ?_; rintro E w2 ⟨rfl, hb2⟩; exact ⟨rfl, RE.out.symm, by (repeat' (first | (with_reducible exact Below.refl _ _) | (with_reducible assumption) | (with_reducible apply Below.setCell) | (with_reducible apply Below.alloc) | (with_reducible apply Below.drew) | (with_reducible apply below_drewN) | (with_reducible refine Below.trans ?_ (Below.mono (by assumption) ?_)) | omega | (simp; done) | (simp; omega)))⟩)))
    all_goals trivial

set_option maxHeartbeats 1000000 in
theorem sub_any (x d y e : Int) (h0 : -9223372036854775808 ≤ x) (h1 : x ≤ 9223372036854775807) (h2 : -9223372036854775808 ≤ d) (h3 : d ≤ 9223372036854775807)
    (k0 : -9223372036854775808 ≤ y) (k1 : y ≤ 9223372036854775807) (k2 : -9223372036854775808 ≤ e) (k3 : e ≤ 9223372036854775807) (w : World) :
    Calls Tryz.prog 79 #[.agg #[.int .i64 x, .int .i64 d], .agg #[.int .i64 y, .int .i64 e]] w fun E w' => E = .returned (pairOf (subR x d y e)) ∧ Below w.heap.size w w' := by
  have hmf : ∀ (fn : Fn) (first cap : Array Value) (w : World), (Instr.makeFunc fn first cap).run Tryz.prog w = .ok (.func fn first cap) w := fun _ _ _ _ => rfl
  have cl := hidd (fun b w hb hc hd hm he c => looks_two x d y e h0 h1 h2 h3 k0 k1 k2 k3 b w hb hc hd hm he c)
  by_cases hr : (rightB x d && rightB y e) = true
  · obtain ⟨hx, hy⟩ : rightB x d = true ∧ rightB y e = true := by simpa using hr
    have cs := hidd (fun p q W => subStep x d y e h0 h1 h3 k0 k1 k3 hx hy p q W)
    have e1 : subR x d y e = subT x d y e := by simp [subR, hx, hy]
    have hcl := hidd (subT_clean x d y e)
    rw [hr] at cl
    rw [e1]
    clear hr hx hy e1
    generalize subT x d y e = r at *
    go_enter Tryz.func79, Tryz.ntmps79
    go_wp2_with fail
    refine (toldR_any _ entersSub _ _ _ r hcl.out (cl.out _ _ (by (first | omega | (simp; done) | (simp; omega))) (by simp [go_sem]) (by simp [go_sem]) (by simp [go_sem]) (by simp [go_sem]) _) (cs.out _ _ _ (by simp [go_sem]) (by simp [go_sem]) (by simp [go_sem]) (by simp [go_sem]) (by (first | omega | (simp; done) | (simp; omega))) (by (first | omega | (simp; done) | (simp; omega))))).mono ?_
    rintro E w1 ⟨rfl, hb⟩
    unfold pairOf
    obtain ⟨bc, bf⟩ := bcell hb
    have z : w.heap.size + 1 + 1 < w1.heap.size := by have := hb.size; simp at this; omega
    go_wp2_with fail
    exact bodyPost_ret (v := .tuple #[.agg #[.int .i64 r.1, .int .i64 r.2.1], .int .i64 r.2.2]) (by simp [results, Tryz.results79, go_sem, *]) rfl ⟨rfl, by (repeat' (first | (with_reducible exact Below.refl _ _) | (with_reducible assumption) | (with_reducible apply Below.setCell) | (with_reducible apply Below.alloc) | (with_reducible apply Below.drew) | (with_reducible apply below_drewN) | (with_reducible refine Below.trans ?_ (Below.mono (by assumption) ?_)) | omega | (simp; done) | (simp; omega)))⟩
  · have hr' : (rightB x d && rightB y e) = false := by simpa using hr
    have e1 : subR x d y e = (0, 0, 2) := by unfold subR; rw [if_neg hr]
    rw [hr'] at cl
    rw [e1]
    clear hr hr' e1
    go_enter Tryz.func79, Tryz.ntmps79
    go_wp2_with fail
    refine (toldR_bad _ _ _ _ (cl.out _ _ (by (first | omega | (simp; done) | (simp; omega))) (by simp [go_sem]) (by simp [go_sem]) (by simp [go_sem]) (by simp [go_sem]) _)).mono ?_
    rintro E w1 ⟨rfl, hb⟩
    obtain ⟨bc, bf⟩ := bcell hb
    have z : w.heap.size + 1 + 1 < w1.heap.size := by have := hb.size; simp at this; omega
    go_wp2_with fail
    exact bodyPost_ret (v := .tuple #[.agg #[.int .i64 0, .int .i64 0], .int .i64 2]) (by simp [results, Tryz.results79, go_sem, *]) rfl ⟨rfl, by (repeat' (first | (with_reducible exact Below.refl _ _) | (with_reducible assumption) | (with_reducible apply Below.setCell) | (with_reducible apply Below.alloc) | (with_reducible apply Below.drew) | (with_reducible apply below_drewN) | (with_reducible refine Below.trans ?_ (Below.mono (by assumption) ?_)) | omega | (simp; done) | (simp; omega)))⟩


set_option maxHeartbeats 2000000 in
theorem divStep (x d y e : Int) (h0 : -9223372036854775808 ≤ x) (h1 : x ≤ 9223372036854775807) (h3 : d ≤ 9223372036854775807) (k0 : -9223372036854775808 ≤ y) (k1 : y ≤ 9223372036854775807) (k3 : e ≤ 9223372036854775807)
    (hx : rightB x d = true) (hy : rightB y e = true)
    (p q : Nat) (w : World) (hc : w.cell? ⟨p, 0, none⟩ = some (.int .i64 x)) (hc' : w.cell? ⟨p, 1, none⟩ = some (.int .i64 d)) (hd : w.cell? ⟨q, 0, none⟩ = some (.int .i64 y)) (hd' : w.cell? ⟨q, 1, none⟩ = some (.int .i64 e)) (hp : p < w.heap.size) (hq : q < w.heap.size) :
    StepsTo 103 #[.pointer (some ⟨p, 0, none⟩), .pointer (some ⟨q, 0, none⟩)] (endOf (divT x d y e)) w := by
  intro W hW
  have c1 : W.cell? ⟨p, 0, none⟩ = some (.int .i64 x) := (hW.cell (p := ⟨p, 0, none⟩) hp).trans hc
  have c2 : W.cell? ⟨p, 1, none⟩ = some (.int .i64 d) := (hW.cell (p := ⟨p, 1, none⟩) hp).trans hc'
  have c3 : W.cell? ⟨q, 0, none⟩ = some (.int .i64 y) := (hW.cell (p := ⟨q, 0, none⟩) hq).trans hd
  have c4 : W.cell? ⟨q, 1, none⟩ = some (.int .i64 e) := (hW.cell (p := ⟨q, 1, none⟩) hq).trans hd'
  have hp1 : p < W.heap.size := Nat.lt_of_lt_of_le hp hW.size
  have hq1 : q < W.heap.size := Nat.lt_of_lt_of_le hq hW.size
  have hp2 : p < W.heap.size + 1 := by omega
  have hq2 : q < W.heap.size + 1 := by omega
  clear hW hc hc' hd hd' hp hq
  obtain ⟨g1, g2⟩ := right_bounds y e k0 hy
  have hgcd := (of_decide_eq_true hy : 1 ≤ e ∧ y ≠ -9223372036854775808 ∧ Nat.gcd y.natAbs e.natAbs = 1).2.2
  by_cases hz : y = 0
  · have hT : divT x d y e = (0, 0, 2) := by simp [divT, hz]
    rw [hT]
    have ci := hidd (fun W => over_zero y e hz W)
    have RE : Hid (endOf (0, 0, 2) = errPanic 2) := rfl
    clear hT hz hx hy
    go_enter Tryz.func103, Tryz.ntmps103
    go_wp2_with fail
    go_region_with (first | (go_at_call 105; suffices _hdm : wpAny Tryz.prog .any #[] (fun _ _ _ => True) 0 #[] { tmps := #[], defers := [] } W by (refine (ci.out _).mono ?_; rintro E w2 ⟨rfl, hb2⟩; exact ⟨rfl, RE.out.symm, by (repeat' (first | (with_reducible exact Below.refl _ _) | (with_reducible assumption) | (with_reducible apply Below.setCell) | (with_reducible apply Below.alloc) | (with_reducible apply Below.drew) | (with_reducible apply below_drewN) | (with_reducible refine Below.trans ?_ (Below.mono (by assumption) ?_)) | omega | (simp; done) | (simp; omega)))⟩)))
    all_goals trivial
  by_cases hn : y < 0
  · have hT : divT x d y e = RM.timesR x d (-e) (-y) := by simp [divT, hz, hn]
    rw [hT]
    have ci := hidd (fun W => over_neg y e hn g2 g1 k3 W)
    have hy2 : rightB (-e) (-y) = true := decide_eq_true ⟨by omega, by omega, by rw [Int.natAbs_neg, Int.natAbs_neg, Nat.gcd_comm]; exact hgcd⟩
    have cb := fun W => times_any x d (-e) (-y) h0 h1 h3 (by omega) (by omega) (by omega) hx hy2 W
    clear hT hz hn hx hy hy2 hgcd
    generalize RM.timesR x d (-e) (-y) = r at *
    by_cases h : r.2.2 = 0
    · have RE := hidd (endOf_ok r h)
      rw [endOf_ok r h] at cb
      have co := hidd cb
      clear h cb
      go_enter Tryz.func103, Tryz.ntmps103
      go_wp2_with fail
      go_region_with (first | (go_at_call 105; refine (ci.out _).mono ?_; rintro E w1 ⟨rfl, hb1⟩; (obtain ⟨bc1, bf1⟩ := bcell hb1); have u1 : p < w1.heap.size := (by have q := Below.size hb1; simp at q; omega); have u2 : W.heap.size < w1.heap.size := (by have q := Below.size hb1; simp at q; omega)) | (go_at_call 104; refine (co.out _).mono ?_; rintro E w2 ⟨rfl, hb2⟩; (have bcw2 : ∀ b o, b < (w1).heap.size → (w2).cell? ⟨b, o, none⟩ = (w1).cell? ⟨b, o, none⟩ := fun b o h => (by have q := Below.cell (p := ⟨b, o, none⟩) hb2 h; exact q); have bfw2 : ∀ b o, b < (w1).heap.size → (w2).frozen? ⟨b, o, none⟩ = (w1).frozen? ⟨b, o, none⟩ := fun b o h => (by have q := Below.frozen (p := ⟨b, o, none⟩) hb2 h; exact q); have bsw2 : (w1).heap.size ≤ (w2).heap.size := (by have q := Below.size hb2; exact q)); have u3 : W.heap.size < w2.heap.size := (by omega)))
      all_goals go_wp2_with fail
      all_goals exact bodyPost_ret (v := .agg #[.int .i64 r.1, .int .i64 r.2.1]) (by simp [results, Tryz.results103, go_sem, *]) rfl ⟨RE.out.symm, by (repeat' (first | (with_reducible exact Below.refl _ _) | (with_reducible assumption) | (with_reducible apply Below.setCell) | (with_reducible apply Below.alloc) | (with_reducible apply Below.drew) | (with_reducible apply below_drewN) | (with_reducible refine Below.trans ?_ (Below.mono (by assumption) ?_)) | omega | (simp; done) | (simp; omega)))⟩
    · have RE := hidd (endOf_no r h)
      rw [endOf_no r h] at cb
      have co := hidd cb
      clear h cb
      go_enter Tryz.func103, Tryz.ntmps103
      go_wp2_with fail
      go_region_with (first | (go_at_call 105; refine (ci.out _).mono ?_; rintro E w1 ⟨rfl, hb1⟩; (obtain ⟨bc1, bf1⟩ := bcell hb1); have u1 : p < w1.heap.size := (by have q := Below.size hb1; simp at q; omega); have u2 : W.heap.size < w1.heap.size := (by have q := Below.size hb1; simp at q; omega)) | (go_at_call 104; suffices _hdm : wpAny Tryz.prog .any #[] (fun _ _ _ => True) 0 #[] { tmps := #[], defers := [] } w1 by (refine (co.out _).mono ?_; rintro E w2 ⟨rfl, hb2⟩; exact ⟨rfl, RE.out.symm, by (repeat' (first | (with_reducible exact Below.refl _ _) | (with_reducible assumption) | (with_reducible apply Below.setCell) | (with_reducible apply Below.alloc) | (with_reducible apply Below.drew) | (with_reducible apply below_drewN) | (with_reducible refine Below.trans ?_ (Below.mono (by assumption) ?_)) | omega | (simp; done) | (simp; omega)))⟩)))
      all_goals trivial
  · have hT : divT x d y e = RM.timesR x d e y := by simp [divT, hz, hn]
    rw [hT]
    have ci := hidd (fun W => over_pos y e (by omega) W)
    have hy2 : rightB e y = true := decide_eq_true ⟨by omega, by omega, by rw [Nat.gcd_comm]; exact hgcd⟩
    have cb := fun W => times_any x d e y h0 h1 h3 (by omega) k3 k1 hx hy2 W
    clear hT hz hn hx hy hy2 hgcd
    generalize RM.timesR x d e y = r at *
    by_cases h : r.2.2 = 0
    · have RE := hidd (endOf_ok r h)
      rw [endOf_ok r h] at cb
      have co := hidd cb
      clear h cb
      go_enter Tryz.func103, Tryz.ntmps103
      go_wp2_with fail
      go_region_with (first | (go_at_call 105; refine (ci.out _).mono ?_; rintro E w1 ⟨rfl, hb1⟩; (obtain ⟨bc1, bf1⟩ := bcell hb1); have u1 : p < w1.heap.size := (by have q := Below.size hb1; simp at q; omega); have u2 : W.heap.size < w1.heap.size := (by have q := Below.size hb1; simp at q; omega)) | (go_at_call 104; refine (co.out _).mono ?_; rintro E w2 ⟨rfl, hb2⟩; (have bcw2 : ∀ b o, b < (w1).heap.size → (w2).cell? ⟨b, o, none⟩ = (w1).cell? ⟨b, o, none⟩ := fun b o h => (by have q := Below.cell (p := ⟨b, o, none⟩) hb2 h; exact q); have bfw2 : ∀ b o, b < (w1).heap.size → (w2).frozen? ⟨b, o, none⟩ = (w1).frozen? ⟨b, o, none⟩ := fun b o h => (by have q := Below.frozen (p := ⟨b, o, none⟩) hb2 h; exact q); have bsw2 : (w1).heap.size ≤ (w2).heap.size := (by have q := Below.size hb2; exact q)); have u3 : W.heap.size < w2.heap.size := (by omega)))
      all_goals go_wp2_with fail
      all_goals exact bodyPost_ret (v := .agg #[.int .i64 r.1, .int .i64 r.2.1]) (by simp [results, Tryz.results103, go_sem, *]) rfl ⟨RE.out.symm, by (repeat' (first | (with_reducible exact Below.refl _ _) | (with_reducible assumption) | (with_reducible apply Below.setCell) | (with_reducible apply Below.alloc) | (with_reducible apply Below.drew) | (with_reducible apply below_drewN) | (with_reducible refine Below.trans ?_ (Below.mono (by assumption) ?_)) | omega | (simp; done) | (simp; omega)))⟩
    · have RE := hidd (endOf_no r h)
      rw [endOf_no r h] at cb
      have co := hidd cb
      clear h cb
      go_enter Tryz.func103, Tryz.ntmps103
      go_wp2_with fail
      go_region_with (first | (go_at_call 105; refine (ci.out _).mono ?_; rintro E w1 ⟨rfl, hb1⟩; (obtain ⟨bc1, bf1⟩ := bcell hb1); have u1 : p < w1.heap.size := (by have q := Below.size hb1; simp at q; omega); have u2 : W.heap.size < w1.heap.size := (by have q := Below.size hb1; simp at q; omega)) | (go_at_call 104; suffices _hdm : wpAny Tryz.prog .any #[] (fun _ _ _ => True) 0 #[] { tmps := #[], defers := [] } w1 by (refine (co.out _).mono ?_; rintro E w2 ⟨rfl, hb2⟩; exact ⟨rfl, RE.out.symm, by (repeat' (first | (with_reducible exact Below.refl _ _) | (with_reducible assumption) | (with_reducible apply Below.setCell) | (with_reducible apply Below.alloc) | (with_reducible apply Below.drew) | (with_reducible apply below_drewN) | (with_reducible refine Below.trans ?_ (Below.mono (by assumption) ?_)) | omega | (simp; done) | (simp; omega)))⟩)))
      all_goals trivial

set_option maxHeartbeats 1000000 in
theorem div_any (x d y e : Int) (h0 : -9223372036854775808 ≤ x) (h1 : x ≤ 9223372036854775807) (h2 : -9223372036854775808 ≤ d) (h3 : d ≤ 9223372036854775807)
    (k0 : -9223372036854775808 ≤ y) (k1 : y ≤ 9223372036854775807) (k2 : -9223372036854775808 ≤ e) (k3 : e ≤ 9223372036854775807) (w : World) :
    Calls Tryz.prog 78 #[.agg #[.int .i64 x, .int .i64 d], .agg #[.int .i64 y, .int .i64 e]] w fun E w' => E = .returned (pairOf (divR x d y e)) ∧ Below w.heap.size w w' := by
  have hmf : ∀ (fn : Fn) (first cap : Array Value) (w : World), (Instr.makeFunc fn first cap).run Tryz.prog w = .ok (.func fn first cap) w := fun _ _ _ _ => rfl
  have cl := hidd (fun b w hb hc hd hm he c => looks_two x d y e h0 h1 h2 h3 k0 k1 k2 k3 b w hb hc hd hm he c)
  by_cases hr : (rightB x d && rightB y e) = true
  · obtain ⟨hx, hy⟩ : rightB x d = true ∧ rightB y e = true := by simpa using hr
    have cs := hidd (fun p q W => divStep x d y e h0 h1 h3 k0 k1 k3 hx hy p q W)
    have e1 : divR x d y e = divT x d y e := by simp [divR, hx, hy]
    have hcl := hidd (divT_clean x d y e)
    rw [hr] at cl
    rw [e1]
    clear hr hx hy e1
    generalize divT x d y e = r at *
    go_enter Tryz.func78, Tryz.ntmps78
    go_wp2_with fail
    refine (toldR_any _ entersDiv _ _ _ r hcl.out (cl.out _ _ (by (first | omega | (simp; done) | (simp; omega))) (by simp [go_sem]) (by simp [go_sem]) (by simp [go_sem]) (by simp [go_sem]) _) (cs.out _ _ _ (by simp [go_sem]) (by simp [go_sem]) (by simp [go_sem]) (by simp [go_sem]) (by (first | omega | (simp; done) | (simp; omega))) (by (first | omega | (simp; done) | (simp; omega))))).mono ?_
    rintro E w1 ⟨rfl, hb⟩
    unfold pairOf
    obtain ⟨bc, bf⟩ := bcell hb
    have z : w.heap.size + 1 + 1 < w1.heap.size := by have := hb.size; simp at this; omega
    go_wp2_with fail
    exact bodyPost_ret (v := .tuple #[.agg #[.int .i64 r.1, .int .i64 r.2.1], .int .i64 r.2.2]) (by simp [results, Tryz.results78, go_sem, *]) rfl ⟨rfl, by (repeat' (first | (with_reducible exact Below.refl _ _) | (with_reducible assumption) | (with_reducible apply Below.setCell) | (with_reducible apply Below.alloc) | (with_reducible apply Below.drew) | (with_reducible apply below_drewN) | (with_reducible refine Below.trans ?_ (Below.mono (by assumption) ?_)) | omega | (simp; done) | (simp; omega)))⟩
  · have hr' : (rightB x d && rightB y e) = false := by simpa using hr
    have e1 : divR x d y e = (0, 0, 2) := by unfold divR; rw [if_neg hr]
    rw [hr'] at cl
    rw [e1]
    clear hr hr' e1
    go_enter Tryz.func78, Tryz.ntmps78
    go_wp2_with fail
    refine (toldR_bad _ _ _ _ (cl.out _ _ (by (first | omega | (simp; done) | (simp; omega))) (by simp [go_sem]) (by simp [go_sem]) (by simp [go_sem]) (by simp [go_sem]) _)).mono ?_
    rintro E w1 ⟨rfl, hb⟩
    obtain ⟨bc, bf⟩ := bcell hb
    have z : w.heap.size + 1 + 1 < w1.heap.size := by have := hb.size; simp at this; omega
    go_wp2_with fail
    exact bodyPost_ret (v := .tuple #[.agg #[.int .i64 0, .int .i64 0], .int .i64 2]) (by simp [results, Tryz.results78, go_sem, *]) rfl ⟨rfl, by (repeat' (first | (with_reducible exact Below.refl _ _) | (with_reducible assumption) | (with_reducible apply Below.setCell) | (with_reducible apply Below.alloc) | (with_reducible apply Below.drew) | (with_reducible apply below_drewN) | (with_reducible refine Below.trans ?_ (Below.mono (by assumption) ?_)) | omega | (simp; done) | (simp; omega)))⟩

end Go.Proofs.YtokcalmmmfakcaaGreat
