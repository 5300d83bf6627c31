/- Which of two fractions is less: the face. -/
import Derived.Test.YtgeankdimknmiaaRatPq
namespace Go.Proofs.Ytgeankdimknmiaa
open Go.RowKit

theorem order_any (x d y e : Int) (h0 : -9223372036854775808 ≤ x) (h1 : x ≤ 9223372036854775807) (h3 : d ≤ 9223372036854775807) (k0 : -9223372036854775808 ≤ y) (k1 : y ≤ 9223372036854775807) (k3 : e ≤ 9223372036854775807)
    (hx : rightB x d = true) (hy : rightB y e = true) (w : World) :
    Calls Try.prog 51 #[.agg #[.int .i64 x, .int .i64 d], .agg #[.int .i64 y, .int .i64 e]] w fun E w' => E = .returned (.int .i64 (ordZ (x * e) (y * d))) ∧ Below w.heap.size w w' := by
  obtain ⟨⟨_, a2, a3, a4, a5⟩, ed⟩ := right_parts x d h0 h1 h3 hx
  obtain ⟨⟨_, b2, b3, b4, b5⟩, ee⟩ := right_parts y e k0 k1 k3 hy
  have hp := order_parts x y x.natAbs d.natAbs y.natAbs e.natAbs ⟨rfl, a2, a3, a4, a5⟩ ⟨rfl, b2, b3, b4, b5⟩ w
  rw [← ed, ← ee] at hp
  exact hp
theorem entersCmp : ∀ args w, (callFunc 65 args).run Try.prog w = .ok (.enter 65 args) w := fun args w => by simp [callFunc, Try.func65, Try.f65, mark]
def cmpR (x d y e : Int) : Int × Int := if rightB x d && rightB y e then (ordZ (x * e) (y * d), 0) else (0, 2)
set_option maxHeartbeats 1000000 in
theorem cmpStep (x d y e : Int) (h0 : -9223372036854775808 ≤ x) (h1 : x ≤ 9223372036854775807) (h3 : d ≤ 9223372036854775807) (k0 : -9223372036854775808 ≤ y) (k1 : y ≤ 9223372036854775807) (k3 : e ≤ 9223372036854775807)
    (hx : rightB x d = true) (hy : rightB y e = true)
    (p q : Nat) (w : World) (hc : w.cell? ⟨p, 0, none⟩ = some (.int .i64 x)) (hc' : w.cell? ⟨p, 1, none⟩ = some (.int .i64 d)) (hd : w.cell? ⟨q, 0, none⟩ = some (.int .i64 y)) (hd' : w.cell? ⟨q, 1, none⟩ = some (.int .i64 e)) (hp : p < w.heap.size) (hq : q < w.heap.size) :
    StepsTo 65 #[.pointer (some ⟨p, 0, none⟩), .pointer (some ⟨q, 0, none⟩)] (.returned (.int .i64 (ordZ (x * e) (y * d)))) w := by
  intro W hW
  have c1 : W.cell? ⟨p, 0, none⟩ = some (.int .i64 x) := (hW.cell (p := ⟨p, 0, none⟩) hp).trans hc
  have c2 : W.cell? ⟨p, 1, none⟩ = some (.int .i64 d) := (hW.cell (p := ⟨p, 1, none⟩) hp).trans hc'
  have c3 : W.cell? ⟨q, 0, none⟩ = some (.int .i64 y) := (hW.cell (p := ⟨q, 0, none⟩) hq).trans hd
  have c4 : W.cell? ⟨q, 1, none⟩ = some (.int .i64 e) := (hW.cell (p := ⟨q, 1, none⟩) hq).trans hd'
  have cb := hidd (fun W => order_any x d y e h0 h1 h3 k0 k1 k3 hx hy W)
  clear hW hc hc' hd hd' hp hq hx hy
  generalize ordZ (x * e) (y * d) = r at *
  go_enter Try.func65, Try.ntmps65
  go_wp2_with fail
  refine (cb.out _).mono ?_
  rintro E w1 ⟨rfl, hb⟩
  go_wp2_with fail
  go_ret
  exact ⟨rfl, hb⟩
set_option maxHeartbeats 1000000 in
theorem cmp_any (x d y e : Int) (h0 : -9223372036854775808 ≤ x) (h1 : x ≤ 9223372036854775807) (h2 : -9223372036854775808 ≤ d) (h3 : d ≤ 9223372036854775807)
    (k0 : -9223372036854775808 ≤ y) (k1 : y ≤ 9223372036854775807) (k2 : -9223372036854775808 ≤ e) (k3 : e ≤ 9223372036854775807) (w : World) :
    Calls Try.prog 44 #[.agg #[.int .i64 x, .int .i64 d], .agg #[.int .i64 y, .int .i64 e]] w fun E w' => E = .returned (.tuple #[.int .i64 (cmpR x d y e).1, .int .i64 (cmpR x d y e).2]) ∧ Below w.heap.size w w' := by
  have hmf : ∀ (fn : Fn) (first cap : Array Value) (w : World), (Instr.makeFunc fn first cap).run Try.prog w = .ok (.func fn first cap) w := fun _ _ _ _ => rfl
  have cl := hidd (fun b w hb hc hd hm he c => looks_two x d y e h0 h1 h2 h3 k0 k1 k2 k3 b w hb hc hd hm he c)
  by_cases hr : (rightB x d && rightB y e) = true
  · obtain ⟨hx, hy⟩ : rightB x d = true ∧ rightB y e = true := by simpa using hr
    have cs := hidd (fun p q W => cmpStep x d y e h0 h1 h3 k0 k1 k3 hx hy p q W)
    have e1 : cmpR x d y e = (ordZ (x * e) (y * d), 0) := by simp [cmpR, hx, hy]
    rw [hr] at cl
    rw [e1]
    clear hr hx hy e1
    generalize ordZ (x * e) (y * d) = r at *
    go_enter Try.func44, Try.ntmps44
    go_wp2_with fail
    refine (toldI_ok _ entersCmp _ _ _ r (cl.out _ _ (by (first | omega | (simp; done) | (simp; omega))) (by simp [go_sem]) (by simp [go_sem]) (by simp [go_sem]) (by simp [go_sem]) _) (cs.out _ _ _ (by simp [go_sem]) (by simp [go_sem]) (by simp [go_sem]) (by simp [go_sem]) (by (first | omega | (simp; done) | (simp; omega))) (by (first | omega | (simp; done) | (simp; omega))))).mono ?_
    rintro E w1 ⟨rfl, hb⟩
    go_wp2_with fail
    go_ret2
    exact ⟨rfl, by (repeat' (first | (with_reducible exact Below.refl _ _) | (with_reducible assumption) | (with_reducible apply Below.setCell) | (with_reducible apply Below.alloc) | (with_reducible apply Below.drew) | (with_reducible apply below_drewN) | (with_reducible refine Below.trans ?_ (Below.mono (by assumption) ?_)) | omega | (simp; done) | (simp; omega)))⟩
  · have hr' : (rightB x d && rightB y e) = false := by simpa using hr
    have e1 : cmpR x d y e = (0, 2) := by unfold cmpR; rw [if_neg hr]
    rw [hr'] at cl
    rw [e1]
    clear hr hr' e1
    go_enter Try.func44, Try.ntmps44
    go_wp2_with fail
    refine (toldI_bad _ _ _ _ (cl.out _ _ (by (first | omega | (simp; done) | (simp; omega))) (by simp [go_sem]) (by simp [go_sem]) (by simp [go_sem]) (by simp [go_sem]) _)).mono ?_
    rintro E w1 ⟨rfl, hb⟩
    go_wp2_with fail
    go_ret2
    exact ⟨rfl, by (repeat' (first | (with_reducible exact Below.refl _ _) | (with_reducible assumption) | (with_reducible apply Below.setCell) | (with_reducible apply Below.alloc) | (with_reducible apply Below.drew) | (with_reducible apply below_drewN) | (with_reducible refine Below.trans ?_ (Below.mono (by assumption) ?_)) | omega | (simp; done) | (simp; omega)))⟩
end Go.Proofs.Ytgeankdimknmiaa
