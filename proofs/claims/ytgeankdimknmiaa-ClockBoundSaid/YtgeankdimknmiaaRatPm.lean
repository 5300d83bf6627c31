/- The program's sum and product, of any two fractions. -/
import Derived.Test.YtgeankdimknmiaaRatPf
import Derived.Test.YtgeankdimknmiaaRatPg
import Derived.Test.YtgeankdimknmiaaRatMm
namespace Go.Proofs.Ytgeankdimknmiaa
open Go.RowKit

theorem tog_same (p : Bool) (x : Nat) (q : Bool) (y : Nat) : tog p x q y = RM.tog2 p x q y := rfl
theorem ratEnd_same (r : Int × Int × Int) : ratEnd r = endOf r := rfl
theorem right_parts (n d : Int) (h0 : -9223372036854775808 ≤ n) (h1 : n ≤ 9223372036854775807) (h3 : d ≤ 9223372036854775807) (h : rightB n d = true) :
    Parts2 n n.natAbs d.natAbs ∧ d = (d.natAbs : Int) := by
  have := of_decide_eq_true h
  exact ⟨⟨rfl, by omega, by omega, by omega, this.2.2⟩, by omega⟩

theorem plus_any (x d y e : Int) (h0 : -9223372036854775808 ≤ x) (h1 : x ≤ 9223372036854775807) (h3 : d ≤ 9223372036854775807) (k0 : -9223372036854775808 ≤ y) (k1 : y ≤ 9223372036854775807) (k3 : e ≤ 9223372036854775807)
    (hx : rightB x d = true) (hy : rightB y e = true) (w : World) :
    Calls Try.prog 55 #[.agg #[.int .i64 x, .int .i64 d], .agg #[.int .i64 y, .int .i64 e]] w fun E w' => E = endOf (RM.plusR x d y e) ∧ Below w.heap.size w w' := by
  obtain ⟨⟨_, a2, a3, a4, a5⟩, ed⟩ := right_parts x d h0 h1 h3 hx
  obtain ⟨⟨_, b2, b3, b4, b5⟩, ee⟩ := right_parts y e k0 k1 k3 hy
  obtain ⟨b, n, ht⟩ : ∃ b n, RM.tog2 (decide (x < 0)) (x.natAbs * (e.natAbs / Nat.gcd d.natAbs e.natAbs)) (decide (y < 0)) (y.natAbs * (d.natAbs / Nat.gcd d.natAbs e.natAbs)) = (b, n) := ⟨_, _, rfl⟩
  have hq := RM.plusR_eq x y d.natAbs e.natAbs a3 b3 a5 b5 b n ht
  have hp := plus_parts x y x.natAbs d.natAbs y.natAbs e.natAbs ⟨rfl, rfl, a2, a3, a4, a5⟩ ⟨rfl, rfl, b2, b3, b4, b5⟩ b n ht w
  rw [ratEnd_same, ← hq, ← ed, ← ee] at hp
  exact hp
def addR (x d y e : Int) : Int × Int × Int := if rightB x d && rightB y e then RM.plusR x d y e else (0, 0, 2)
def mulR (x d y e : Int) : Int × Int × Int := if rightB x d && rightB y e then RM.timesR x d y e else (0, 0, 2)
theorem plusR_clean (x d y e : Int) : Clean (RM.plusR x d y e) := fracN_clean _ _ _
theorem timesR_clean (x d y e : Int) : Clean (RM.timesR x d y e) := fracN_clean _ _ _

theorem entersAdd : ∀ args w, (callFunc 54 args).run Try.prog w = .ok (.enter 54 args) w := fun args w => by simp [callFunc, Try.func54, Try.f54, mark]
set_option maxHeartbeats 1000000 in
theorem addStep (x d y e : Int) (h0 : -9223372036854775808 ≤ x) (h1 : x ≤ 9223372036854775807) (h3 : d ≤ 9223372036854775807) (k0 : -9223372036854775808 ≤ y) (k1 : y ≤ 9223372036854775807) (k3 : e ≤ 9223372036854775807)
    (hx : rightB x d = true) (hy : rightB y e = true)
    (p q : Nat) (w : World) (hc : w.cell? ⟨p, 0, none⟩ = some (.int .i64 x)) (hc' : w.cell? ⟨p, 1, none⟩ = some (.int .i64 d)) (hd : w.cell? ⟨q, 0, none⟩ = some (.int .i64 y)) (hd' : w.cell? ⟨q, 1, none⟩ = some (.int .i64 e)) (hp : p < w.heap.size) (hq : q < w.heap.size) :
    StepsTo 54 #[.pointer (some ⟨p, 0, none⟩), .pointer (some ⟨q, 0, none⟩)] (endOf (RM.plusR x d y e)) w := by
  intro W hW
  have c1 : W.cell? ⟨p, 0, none⟩ = some (.int .i64 x) := (hW.cell (p := ⟨p, 0, none⟩) hp).trans hc
  have c2 : W.cell? ⟨p, 1, none⟩ = some (.int .i64 d) := (hW.cell (p := ⟨p, 1, none⟩) hp).trans hc'
  have c3 : W.cell? ⟨q, 0, none⟩ = some (.int .i64 y) := (hW.cell (p := ⟨q, 0, none⟩) hq).trans hd
  have c4 : W.cell? ⟨q, 1, none⟩ = some (.int .i64 e) := (hW.cell (p := ⟨q, 1, none⟩) hq).trans hd'
  have hp' : p < W.heap.size := Nat.lt_of_lt_of_le hp hW.size
  have hq' : q < W.heap.size := Nat.lt_of_lt_of_le hq hW.size
  have cb := fun W => plus_any x d y e h0 h1 h3 k0 k1 k3 hx hy W
  clear hW hc hc' hd hd' hp hq hx hy
  generalize RM.plusR x d y e = r at *
  by_cases h : r.2.2 = 0
  · have RE := hidd (endOf_ok r h)
    rw [endOf_ok r h] at cb
    clear h
    go_enter Try.func54, Try.ntmps54
    go_wp2_with fail
    refine (cb _).mono ?_
    rintro E w1 ⟨rfl, hb⟩
    obtain ⟨bc, bf⟩ := bcell hb
    have z : W.heap.size < w1.heap.size := by have := hb.size; simp at this; omega
    go_wp2_with fail
    exact bodyPost_ret (v := .agg #[.int .i64 r.1, .int .i64 r.2.1]) (by simp [results, Try.results54, go_sem, *]) rfl ⟨RE.out.symm, by (repeat' (first | (with_reducible exact Below.refl _ _) | (with_reducible assumption) | (with_reducible apply Below.setCell) | (with_reducible apply Below.alloc) | (with_reducible apply Below.drew) | (with_reducible apply below_drewN) | (with_reducible refine Below.trans ?_ (Below.mono (by assumption) ?_)) | omega | (simp; done) | (simp; omega)))⟩
  · have RE := hidd (endOf_no r h)
    rw [endOf_no r h] at cb
    clear h
    go_enter Try.func54, Try.ntmps54
    go_wp2_with fail
    refine (cb _).mono ?_
    rintro E w1 ⟨rfl, hb⟩
    go_wp2_with fail
    exact ⟨rfl, RE.out.symm, by (repeat' (first | (with_reducible exact Below.refl _ _) | (with_reducible assumption) | (with_reducible apply Below.setCell) | (with_reducible apply Below.alloc) | (with_reducible apply Below.drew) | (with_reducible apply below_drewN) | (with_reducible refine Below.trans ?_ (Below.mono (by assumption) ?_)) | omega | (simp; done) | (simp; omega)))⟩

set_option maxHeartbeats 1000000 in
theorem add_any (x d y e : Int) (h0 : -9223372036854775808 ≤ x) (h1 : x ≤ 9223372036854775807) (h2 : -9223372036854775808 ≤ d) (h3 : d ≤ 9223372036854775807)
    (k0 : -9223372036854775808 ≤ y) (k1 : y ≤ 9223372036854775807) (k2 : -9223372036854775808 ≤ e) (k3 : e ≤ 9223372036854775807) (w : World) :
    Calls Try.prog 33 #[.agg #[.int .i64 x, .int .i64 d], .agg #[.int .i64 y, .int .i64 e]] w fun E w' => E = .returned (pairOf (addR x d y e)) ∧ Below w.heap.size w w' := by
  have hmf : ∀ (fn : Fn) (first cap : Array Value) (w : World), (Instr.makeFunc fn first cap).run Try.prog w = .ok (.func fn first cap) w := fun _ _ _ _ => rfl
  have cl := hidd (fun b w hb hc hd hm he c => looks_two x d y e h0 h1 h2 h3 k0 k1 k2 k3 b w hb hc hd hm he c)
  by_cases hr : (rightB x d && rightB y e) = true
  · obtain ⟨hx, hy⟩ : rightB x d = true ∧ rightB y e = true := by simpa using hr
    have cs := hidd (fun p q W => addStep x d y e h0 h1 h3 k0 k1 k3 hx hy p q W)
    have e1 : addR x d y e = RM.plusR x d y e := by simp [addR, hx, hy]
    have hcl := hidd (plusR_clean x d y e)
    rw [hr] at cl
    rw [e1]
    clear hr hx hy e1
    generalize RM.plusR x d y e = r at *
    go_enter Try.func33, Try.ntmps33
    go_wp2_with fail
    refine (toldR_any _ entersAdd _ _ _ r hcl.out (cl.out _ _ (by (first | omega | (simp; done) | (simp; omega))) (by simp [go_sem]) (by simp [go_sem]) (by simp [go_sem]) (by simp [go_sem]) _) (cs.out _ _ _ (by simp [go_sem]) (by simp [go_sem]) (by simp [go_sem]) (by simp [go_sem]) (by (first | omega | (simp; done) | (simp; omega))) (by (first | omega | (simp; done) | (simp; omega))))).mono ?_
    rintro E w1 ⟨rfl, hb⟩
    unfold pairOf
    obtain ⟨bc, bf⟩ := bcell hb
    have z : w.heap.size + 1 + 1 < w1.heap.size := by have := hb.size; simp at this; omega
    go_wp2_with fail
    exact bodyPost_ret (v := .tuple #[.agg #[.int .i64 r.1, .int .i64 r.2.1], .int .i64 r.2.2]) (by simp [results, Try.results33, go_sem, *]) rfl ⟨rfl, by (repeat' (first | (with_reducible exact Below.refl _ _) | (with_reducible assumption) | (with_reducible apply Below.setCell) | (with_reducible apply Below.alloc) | (with_reducible apply Below.drew) | (with_reducible apply below_drewN) | (with_reducible refine Below.trans ?_ (Below.mono (by assumption) ?_)) | omega | (simp; done) | (simp; omega)))⟩
  · have hr' : (rightB x d && rightB y e) = false := by simpa using hr
    have e1 : addR x d y e = (0, 0, 2) := by unfold addR; rw [if_neg hr]
    rw [hr'] at cl
    rw [e1]
    clear hr hr' e1
    go_enter Try.func33, Try.ntmps33
    go_wp2_with fail
    refine (toldR_bad _ _ _ _ (cl.out _ _ (by (first | omega | (simp; done) | (simp; omega))) (by simp [go_sem]) (by simp [go_sem]) (by simp [go_sem]) (by simp [go_sem]) _)).mono ?_
    rintro E w1 ⟨rfl, hb⟩
    obtain ⟨bc, bf⟩ := bcell hb
    have z : w.heap.size + 1 + 1 < w1.heap.size := by have := hb.size; simp at this; omega
    go_wp2_with fail
    exact bodyPost_ret (v := .tuple #[.agg #[.int .i64 0, .int .i64 0], .int .i64 2]) (by simp [results, Try.results33, go_sem, *]) rfl ⟨rfl, by (repeat' (first | (with_reducible exact Below.refl _ _) | (with_reducible assumption) | (with_reducible apply Below.setCell) | (with_reducible apply Below.alloc) | (with_reducible apply Below.drew) | (with_reducible apply below_drewN) | (with_reducible refine Below.trans ?_ (Below.mono (by assumption) ?_)) | omega | (simp; done) | (simp; omega)))⟩

end Go.Proofs.Ytgeankdimknmiaa
