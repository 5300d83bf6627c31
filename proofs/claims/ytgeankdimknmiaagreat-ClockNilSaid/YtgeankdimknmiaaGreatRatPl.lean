/- The faces of rounding. -/
import Derived.Test.YtgeankdimknmiaaGreatRatPk
namespace Go.Proofs.YtgeankdimknmiaaGreat
open Go.RowKit

theorem right_bounds (n d : Int) (h0 : -9223372036854775808 ≤ n) (h : rightB n d = true) : 1 ≤ d ∧ -9223372036854775807 ≤ n := by
  have := of_decide_eq_true h
  exact ⟨this.1, by omega⟩

def floorR (n d : Int) : Int × Int := if rightB n d then (n / d, 0) else (0, 2)
def ceilR (n d : Int) : Int × Int := if rightB n d then (-(-n / d), 0) else (0, 2)

set_option maxHeartbeats 1000000 in
theorem ceil_any (n d : Int) (h0 : -9223372036854775808 ≤ n) (h1 : n ≤ 9223372036854775807) (h2 : -9223372036854775808 ≤ d) (h3 : d ≤ 9223372036854775807) (w : World) :
    Calls Tryz.prog 43 #[.agg #[.int .i64 n, .int .i64 d]] w fun e w' => e = .returned (.tuple #[.int .i64 (ceilR n d).1, .int .i64 (ceilR n d).2]) ∧ Below w.heap.size w w' := by
  have hmf : ∀ (fn : Fn) (first cap : Array Value) (w : World), (Instr.makeFunc fn first cap).run Tryz.prog w = .ok (.func fn first cap) w := fun _ _ _ _ => rfl
  have cl := hidd (fun b w hb hc hd c => looks_one n d h0 h1 h2 h3 b w hb hc hd c)
  by_cases hr : rightB n d = true
  · obtain ⟨g1, g2⟩ := right_bounds n d h0 hr
    have cs := hidd (fun p W => ceilStep n d g1 g2 h1 p W)
    have e1 : ceilR n d = (-(-n / d), 0) := by simp [ceilR, hr]
    rw [hr] at cl
    rw [e1]
    clear hr e1
    generalize -(-n / d) = r at *
    go_enter Tryz.func43, Tryz.ntmps43
    go_wp2_with fail
    refine (toldL_ok _ enters60 _ _ _ r (cl.out _ _ (by (first | omega | (simp; done) | (simp; omega))) (by simp [go_sem]) (by simp [go_sem]) _) (cs.out _ _ (by simp [go_sem]) (by simp [go_sem]) (by (first | omega | (simp; done) | (simp; omega))))).mono ?_
    rintro e w1 ⟨rfl, hb⟩
    go_wp2_with fail
    go_ret2
    exact ⟨rfl, by (repeat' (first | (with_reducible exact Below.refl _ _) | (with_reducible assumption) | (with_reducible apply Below.setCell) | (with_reducible apply Below.alloc) | (with_reducible apply Below.drew) | (with_reducible apply below_drewN) | (with_reducible refine Below.trans ?_ (Below.mono (by assumption) ?_)) | omega | (simp; done) | (simp; omega)))⟩
  · have hr' : rightB n d = false := by simpa using hr
    have e1 : ceilR n d = (0, 2) := by simp [ceilR, hr']
    rw [hr'] at cl
    rw [e1]
    clear hr hr' e1
    go_enter Tryz.func43, Tryz.ntmps43
    go_wp2_with fail
    refine (toldL_bad _ _ _ _ (cl.out _ _ (by (first | omega | (simp; done) | (simp; omega))) (by simp [go_sem]) (by simp [go_sem]) _)).mono ?_
    rintro e w1 ⟨rfl, hb⟩
    go_wp2_with fail
    go_ret2
    exact ⟨rfl, by (repeat' (first | (with_reducible exact Below.refl _ _) | (with_reducible assumption) | (with_reducible apply Below.setCell) | (with_reducible apply Below.alloc) | (with_reducible apply Below.drew) | (with_reducible apply below_drewN) | (with_reducible refine Below.trans ?_ (Below.mono (by assumption) ?_)) | omega | (simp; done) | (simp; omega)))⟩
end Go.Proofs.YtgeankdimknmiaaGreat
