/- Specs: what is told of how many bytes are allowed. -/
import Derived.Test.YtjmppeofdnikoaaSpC
namespace Go.Proofs.Ytjmppeofdnikoaa
open Go.RowKit

/-- what Allows answers. -/
def allowsR (p r u m l t : Int) : Int × Int := if rightB p r u m l = true ∧ tickB t = true then (allowsV p r u m t, 0) else (0, 2)
set_option maxHeartbeats 2000000 in
theorem allows_any (p r u m l t : Int) (w : World) :
    Calls Try.prog 17 #[.agg #[.int .i64 p, .int .i64 r, .int .i64 u, .int .i64 m, .int .i64 l], .int .i64 t] w fun e w' => e = .returned (.tuple #[.int .i64 (allowsR p r u m l t).1, .int .i64 (allowsR p r u m l t).2]) ∧ Below w.heap.size w w' := by
  have ca : rightB p r u m l = true → tickB t = true → ∀ W, _ := fun h1 h2 W => allowed_any p r u m l t h1 (of_decide_eq_true h2).1 (of_decide_eq_true h2).2 W
  have ci := hidd (fun W => isNone_any p r u m l W)
  have ct := hidd (fun W => isTick_any t W)
  have CA := hidd ca
  have ha : allowsR p r u m l t = if rightB p r u m l = true ∧ tickB t = true then (allowsV p r u m t, 0) else (0, 2) := rfl
  generalize allowsR p r u m l t = A at *
  generalize allowsV p r u m t = V at *
  generalize rightB p r u m l = R at *
  generalize tickB t = T at *
  clear ca
  cases R
  · have ha : A = (0, 2) := ha
    subst ha
    clear CA
    go_enter Try.func17, Try.ntmps17
    go_wp2_with fail
    refine wp_scope_fwd 0 (fun a' w' => Below w.heap.size w w' ∧ ∃ v0 v1 v2 v3 v4 v5 v6 v7 v8 v9 v10 v11 v12 v13 v14 v15 : Value, a' = { tmps := #[v0, v1, v2, v3, v4, v5, v6, v7, v8, v9, v10, v11, v12, v13, v14, v15], defers := [] }) rfl ?_ ?_
    case refine_2 =>
      rintro a' w' ⟨hb, v0, v1, v2, v3, v4, v5, v6, v7, v8, v9, v10, v11, v12, v13, v14, v15, rfl⟩
      go_wp2_with fail
      (try rw [Exit.noGoto_ret])
      go_ret2
      exact ⟨rfl, hb⟩
    go_wp2_with fail
    refine (ci.out _).mono ?_
    rintro e w1 ⟨rfl, hb⟩
    go_wp2_with fail
    go_step3
    exact ⟨rfl, by (repeat' (first | (with_reducible exact Below.refl _ _) | (with_reducible assumption) | (with_reducible apply Below.setCell) | (with_reducible apply Below.alloc) | (with_reducible apply Below.drew) | (with_reducible apply below_drewN) | (with_reducible refine Below.trans ?_ (Below.mono (by assumption) ?_)) | omega | (simp; done) | (simp; omega))), _, _, _, _, _, _, _, _, _, _, _, _, _, _, _, _, rfl⟩
  · cases T
    · have ha : A = (0, 2) := ha
      subst ha
      clear CA
      go_enter Try.func17, Try.ntmps17
      go_wp2_with fail
      refine wp_scope_fwd 0 (fun a' w' => Below w.heap.size w w' ∧ ∃ v0 v1 v2 v3 v4 v5 v6 v7 v8 v9 v10 v11 v12 v13 v14 v15 : Value, a' = { tmps := #[v0, v1, v2, v3, v4, v5, v6, v7, v8, v9, v10, v11, v12, v13, v14, v15], defers := [] }) rfl ?_ ?_
      case refine_2 =>
        rintro a' w' ⟨hb, v0, v1, v2, v3, v4, v5, v6, v7, v8, v9, v10, v11, v12, v13, v14, v15, rfl⟩
        go_wp2_with fail
        (try rw [Exit.noGoto_ret])
        go_ret2
        exact ⟨rfl, hb⟩
      go_wp2_with fail
      refine (ci.out _).mono ?_
      rintro e w1 ⟨rfl, hb⟩
      go_wp2_with fail
      refine (ct.out _).mono ?_
      rintro e w2 ⟨rfl, rfl⟩
      go_wp2_with fail
      go_step3
      exact ⟨rfl, by (repeat' (first | (with_reducible exact Below.refl _ _) | (with_reducible assumption) | (with_reducible apply Below.setCell) | (with_reducible apply Below.alloc) | (with_reducible apply Below.drew) | (with_reducible apply below_drewN) | (with_reducible refine Below.trans ?_ (Below.mono (by assumption) ?_)) | omega | (simp; done) | (simp; omega))), _, _, _, _, _, _, _, _, _, _, _, _, _, _, _, _, rfl⟩
    · have ha : A = (V, 0) := ha
      subst ha
      have CB := hidd (CA.out rfl rfl)
      clear CA
      go_enter Try.func17, Try.ntmps17
      go_wp2_with fail
      refine wp_scope_fwd 0 (fun a' w' => False) rfl ?_ ?_
      case refine_2 => exact fun _ _ h => h.elim
      go_wp2_with fail
      refine (ci.out _).mono ?_
      rintro e w1 ⟨rfl, hb⟩
      obtain ⟨bc, bf⟩ := bcell hb
      have z : w.heap.size < w1.heap.size := by have := hb.size; simp at this; omega
      go_wp2_with fail
      refine (ct.out _).mono ?_
      rintro e w2 ⟨rfl, rfl⟩
      go_wp2_with fail
      refine (CB.out _).mono ?_
      rintro e w2 ⟨rfl, hb2⟩
      go_wp2_with fail
      simp only [Exit.jump]
      go_ret2
      exact ⟨rfl, by (repeat' (first | (with_reducible exact Below.refl _ _) | (with_reducible assumption) | (with_reducible apply Below.setCell) | (with_reducible apply Below.alloc) | (with_reducible apply Below.drew) | (with_reducible apply below_drewN) | (with_reducible refine Below.trans ?_ (Below.mono (by assumption) ?_)) | omega | (simp; done) | (simp; omega)))⟩
end Go.Proofs.Ytjmppeofdnikoaa
