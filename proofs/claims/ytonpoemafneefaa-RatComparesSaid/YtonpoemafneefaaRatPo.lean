/- The program's difference and quotient. -/
import Derived.Test.YtonpoemafneefaaRatPm
import Derived.Test.YtonpoemafneefaaRatSh
namespace Go.Proofs.Ytonpoemafneefaa
open Go.RowKit

def subT (x d y e : Int) : Int × Int × Int := RM.plusR x d (-y) e
def divT (x d y e : Int) : Int × Int × Int := if y = 0 then (0, 0, 2) else if y < 0 then RM.timesR x d (-e) (-y) else RM.timesR x d e y
theorem subT_clean (x d y e : Int) : Clean (subT x d y e) := fracN_clean _ _ _
theorem divT_clean (x d y e : Int) : Clean (divT x d y e) := by
  unfold divT
  split
  · simp [Clean]
  · split <;> exact fracN_clean _ _ _
def subR (x d y e : Int) : Int × Int × Int := if rightB x d && rightB y e then subT x d y e else (0, 0, 2)
def divR (x d y e : Int) : Int × Int × Int := if rightB x d && rightB y e then divT x d y e else (0, 0, 2)
theorem entersSub : ∀ args w, (callFunc 47 args).run Try.prog w = .ok (.enter 47 args) w := fun args w => by simp [callFunc, Try.func47, Try.f47, mark]
set_option maxHeartbeats 2000000 in
theorem subStep (x d y e : Int) (h0 : -9223372036854775808 ≤ x) (h1 : x ≤ 9223372036854775807) (h3 : d ≤ 9223372036854775807) (k0 : -9223372036854775808 ≤ y) (k1 : y ≤ 9223372036854775807) (k3 : e ≤ 9223372036854775807)
    (hx : rightB x d = true) (hy : rightB y e = true)
    (p q : Nat) (w : World) (hc : w.cell? ⟨p, 0, none⟩ = some (.int .i64 x)) (hc' : w.cell? ⟨p, 1, none⟩ = some (.int .i64 d)) (hd : w.cell? ⟨q, 0, none⟩ = some (.int .i64 y)) (hd' : w.cell? ⟨q, 1, none⟩ = some (.int .i64 e)) (hp : p < w.heap.size) (hq : q < w.heap.size) :
    StepsTo 47 #[.pointer (some ⟨p, 0, none⟩), .pointer (some ⟨q, 0, none⟩)] (endOf (subT x d y e)) w := by
  intro W hW
  have c1 : W.cell? ⟨p, 0, none⟩ = some (.int .i64 x) := (hW.cell (p := ⟨p, 0, none⟩) hp).trans hc
  have c2 : W.cell? ⟨p, 1, none⟩ = some (.int .i64 d) := (hW.cell (p := ⟨p, 1, none⟩) hp).trans hc'
  have c3 : W.cell? ⟨q, 0, none⟩ = some (.int .i64 y) := (hW.cell (p := ⟨q, 0, none⟩) hq).trans hd
  have c4 : W.cell? ⟨q, 1, none⟩ = some (.int .i64 e) := (hW.cell (p := ⟨q, 1, none⟩) hq).trans hd'
  have hp1 : p < W.heap.size := Nat.lt_of_lt_of_le hp hW.size
  have hq1 : q < W.heap.size := Nat.lt_of_lt_of_le hq hW.size
  have hp2 : p < W.heap.size + 1 := by omega
  have hq2 : q < W.heap.size + 1 := by omega
  clear hW hc hc' hd hd' hp hq
  obtain ⟨g1, g2⟩ := right_bounds y e k0 hy
  have ci := hidd (fun W => minus_any y e g2 k1 W)
  have cb := fun W => plus_any x d (-y) e h0 h1 h3 (by omega) (by omega) k3 hx (rightB_neg y e g2 k1 hy) W
  have hT : subT x d y e = RM.plusR x d (-y) e := rfl
  rw [hT]
  clear hT hx hy
  generalize RM.plusR x d (-y) e = r at *
  by_cases h : r.2.2 = 0
  · have RE := hidd (endOf_ok r h)
    rw [endOf_ok r h] at cb
    have co := hidd cb
    clear h cb
    go_enter Try.func47, Try.ntmps47
    go_wp2_with fail
    go_region_with (first | (go_at_call 27; refine (ci.out _).mono ?_; rintro E w1 ⟨rfl, hb1⟩; (obtain ⟨bc1, bf1⟩ := bcell hb1); have u1 : p < w1.heap.size := (by have q := Below.size hb1; simp at q; omega); have u2 : W.heap.size < w1.heap.size := (by have q := Below.size hb1; simp at q; omega)) | (go_at_call 38; refine (co.out _).mono ?_; rintro E w2 ⟨rfl, hb2⟩; (have bcw2 : ∀ b o, b < (w1).heap.size → (w2).cell? ⟨b, o, none⟩ = (w1).cell? ⟨b, o, none⟩ := fun b o h => (by have q := Below.cell (p := ⟨b, o, none⟩) hb2 h; exact q); have bfw2 : ∀ b o, b < (w1).heap.size → (w2).frozen? ⟨b, o, none⟩ = (w1).frozen? ⟨b, o, none⟩ := fun b o h => (by have q := Below.frozen (p := ⟨b, o, none⟩) hb2 h; exact q); have bsw2 : (w1).heap.size ≤ (w2).heap.size := (by have q := Below.size hb2; exact q)); have u3 : W.heap.size < w2.heap.size := (by omega)))
    all_goals go_wp2_with fail
    all_goals exact bodyPost_ret (v := .agg #[.int .i64 r.1, .int .i64 r.2.1]) (by simp [results, Try.results47, go_sem, *]) rfl ⟨RE.out.symm, by (repeat' (first | (with_reducible exact Below.refl _ _) | (with_reducible assumption) | (with_reducible apply Below.setCell) | (with_reducible apply Below.alloc) | (with_reducible apply Below.drew) | (with_reducible apply below_drewN) | (with_reducible refine Below.trans ?_ (Below.mono (by assumption) ?_)) | omega | (simp; done) | (simp; omega)))⟩
  · have RE := hidd (endOf_no r h)
    rw [endOf_no r h] at cb
    have co := hidd cb
    clear h cb
    go_enter Try.func47, Try.ntmps47
    go_wp2_with fail
    go_region_with (first | (go_at_call 27; refine (ci.out _).mono ?_; rintro E w1 ⟨rfl, hb1⟩; (obtain ⟨bc1, bf1⟩ := bcell hb1); have u1 : p < w1.heap.size := (by have q := Below.size hb1; simp at q; omega); have u2 : W.heap.size < w1.heap.size := (by have q := Below.size hb1; simp at q; omega)) | (go_at_call 38; suffices _hdm : wpAny Try.prog .any #[] (fun _ _ _ => True) 0 #[] { tmps := #[], defers := [] } w1 by (refine (co.out _).mono ?_; rintro E w2 ⟨rfl, hb2⟩; exact ⟨rfl, RE.out.symm, by (repeat' (first | (with_reducible exact Below.refl _ _) | (with_reducible assumption) | (with_reducible apply Below.setCell) | (with_reducible apply Below.alloc) | (with_reducible apply Below.drew) | (with_reducible apply below_drewN) | (with_reducible refine Below.trans ?_ (Below.mono (by assumption) ?_)) | omega | (simp; done) | (simp; omega)))⟩)))
    all_goals trivial

set_option maxHeartbeats 1000000 in
theorem sub_any (x d y e : Int) (h0 : -9223372036854775808 ≤ x) (h1 : x ≤ 9223372036854775807) (h2 : -9223372036854775808 ≤ d) (h3 : d ≤ 9223372036854775807)
    (k0 : -9223372036854775808 ≤ y) (k1 : y ≤ 9223372036854775807) (k2 : -9223372036854775808 ≤ e) (k3 : e ≤ 9223372036854775807) (w : World) :
    Calls Try.prog 19 #[.agg #[.int .i64 x, .int .i64 d], .agg #[.int .i64 y, .int .i64 e]] w fun E w' => E = .returned (pairOf (subR x d y e)) ∧ Below w.heap.size w w' := by
  have hmf : ∀ (fn : Fn) (first cap : Array Value) (w : World), (Instr.makeFunc fn first cap).run Try.prog w = .ok (.func fn first cap) w := fun _ _ _ _ => rfl
  have cl := hidd (fun b w hb hc hd hm he c => looks_two x d y e h0 h1 h2 h3 k0 k1 k2 k3 b w hb hc hd hm he c)
  by_cases hr : (rightB x d && rightB y e) = true
  · obtain ⟨hx, hy⟩ : rightB x d = true ∧ rightB y e = true := by simpa using hr
    have cs := hidd (fun p q W => subStep x d y e h0 h1 h3 k0 k1 k3 hx hy p q W)
    have e1 : subR x d y e = subT x d y e := by simp [subR, hx, hy]
    have hcl := hidd (subT_clean x d y e)
    rw [hr] at cl
    rw [e1]
    clear hr hx hy e1
    generalize subT x d y e = r at *
    go_enter Try.func19, Try.ntmps19
    go_wp2_with fail
    refine (toldR_any _ entersSub _ _ _ r hcl.out (cl.out _ _ (by (first | omega | (simp; done) | (simp; omega))) (by simp [go_sem]) (by simp [go_sem]) (by simp [go_sem]) (by simp [go_sem]) _) (cs.out _ _ _ (by simp [go_sem]) (by simp [go_sem]) (by simp [go_sem]) (by simp [go_sem]) (by (first | omega | (simp; done) | (simp; omega))) (by (first | omega | (simp; done) | (simp; omega))))).mono ?_
    rintro E w1 ⟨rfl, hb⟩
    unfold pairOf
    obtain ⟨bc, bf⟩ := bcell hb
    have z : w.heap.size + 1 + 1 < w1.heap.size := by have := hb.size; simp at this; omega
    go_wp2_with fail
    exact bodyPost_ret (v := .tuple #[.agg #[.int .i64 r.1, .int .i64 r.2.1], .int .i64 r.2.2]) (by simp [results, Try.results19, go_sem, *]) rfl ⟨rfl, by (repeat' (first | (with_reducible exact Below.refl _ _) | (with_reducible assumption) | (with_reducible apply Below.setCell) | (with_reducible apply Below.alloc) | (with_reducible apply Below.drew) | (with_reducible apply below_drewN) | (with_reducible refine Below.trans ?_ (Below.mono (by assumption) ?_)) | omega | (simp; done) | (simp; omega)))⟩
  · have hr' : (rightB x d && rightB y e) = false := by simpa using hr
    have e1 : subR x d y e = (0, 0, 2) := by unfold subR; rw [if_neg hr]
    rw [hr'] at cl
    rw [e1]
    clear hr hr' e1
    go_enter Try.func19, Try.ntmps19
    go_wp2_with fail
    refine (toldR_bad _ _ _ _ (cl.out _ _ (by (first | omega | (simp; done) | (simp; omega))) (by simp [go_sem]) (by simp [go_sem]) (by simp [go_sem]) (by simp [go_sem]) _)).mono ?_
    rintro E w1 ⟨rfl, hb⟩
    obtain ⟨bc, bf⟩ := bcell hb
    have z : w.heap.size + 1 + 1 < w1.heap.size := by have := hb.size; simp at this; omega
    go_wp2_with fail
    exact bodyPost_ret (v := .tuple #[.agg #[.int .i64 0, .int .i64 0], .int .i64 2]) (by simp [results, Try.results19, go_sem, *]) rfl ⟨rfl, by (repeat' (first | (with_reducible exact Below.refl _ _) | (with_reducible assumption) | (with_reducible apply Below.setCell) | (with_reducible apply Below.alloc) | (with_reducible apply Below.drew) | (with_reducible apply below_drewN) | (with_reducible refine Below.trans ?_ (Below.mono (by assumption) ?_)) | omega | (simp; done) | (simp; omega)))⟩


end Go.Proofs.Ytonpoemafneefaa
