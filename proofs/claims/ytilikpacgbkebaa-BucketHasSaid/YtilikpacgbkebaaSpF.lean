/- Keeps and Breaks: what they answer; what every law of the layer looks at besides. -/
import Derived.Test.YtilikpacgbkebaaSpE
namespace Go.Proofs.Ytilikpacgbkebaa
open Go.RowKit

def fb0 (p r u m l : Int) (L : List (Int × Int)) : Nat := SM.fb p r u m l L 0 0 0 0
def keepsR (p r u m l : Int) (L : List (Int × Int)) : Bool × Int := if rightB p r u m l then (fb0 p r u m l L == L.length, 0) else (false, 2)
def breaksR (p r u m l : Int) (L : List (Int × Int)) : Int × Int := if rightB p r u m l then (((fb0 p r u m l L : Nat) : Int), 0) else (0, 2)
set_option maxHeartbeats 2000000 in
theorem keeps_any (p r u m l : Int) (A : Option Addr) (L : List (Int × Int)) (c : Nat) (hm : L.length ≤ 1000000) (w : World) (hl : Lie sendV 2 w w.heap.size A L) :
    Calls Try.prog 23 #[.agg #[.int .i64 p, .int .i64 r, .int .i64 u, .int .i64 m, .int .i64 l], .slice A L.length c] w fun e w' => e = .returned (.tuple #[.bool (keepsR p r u m l L).1, .int .i64 (keepsR p r u m l L).2]) ∧ Below w.heap.size w w' := by
  have ci := hidd (fun W => isNone_any p r u m l W)
  have cf := hidd (fun hr W hl => firstBreak_any p r u m l hr A L c hm W hl)
  have ha : keepsR p r u m l L = if rightB p r u m l then (fb0 p r u m l L == L.length, 0) else (false, 2) := rfl
  have HL := hidd hl
  unfold fb0 at ha
  generalize keepsR p r u m l L = K at *
  generalize rightB p r u m l = R at *
  generalize SM.fb p r u m l L 0 0 0 0 = F at *
  clear hl
  cases R
  · have ha : K = (false, 2) := ha
    subst ha
    clear cf
    go_enter Try.func23, Try.ntmps23
    go_wp2_with fail
    refine wp_scope_fwd 0 (fun a' w' => Below w.heap.size w w' ∧ ∃ v0 v1 v2 v3 v4 v5 v6 v7 v8 v9 v10 v11 v12 v13 : Value, a' = { tmps := #[v0, v1, v2, v3, v4, v5, v6, v7, v8, v9, v10, v11, v12, v13], defers := [] }) rfl ?_ ?_
    case refine_2 =>
      rintro a' w' ⟨hb, v0, v1, v2, v3, v4, v5, v6, v7, v8, v9, v10, v11, v12, v13, rfl⟩
      go_wp2_with fail
      (try rw [Exit.noGoto_ret])
      go_ret2
      exact ⟨rfl, hb⟩
    go_wp2_with fail
    refine (ci.out _).mono ?_
    rintro e w1 ⟨rfl, hb⟩
    go_wp2_with fail
    go_step3
    exact ⟨rfl, by (repeat' (first | (with_reducible exact Below.refl _ _) | (with_reducible assumption) | (with_reducible apply Below.setCell) | (with_reducible apply Below.alloc) | (with_reducible apply Below.drew) | (with_reducible apply below_drewN) | (with_reducible refine Below.trans ?_ (Below.mono (by assumption) ?_)) | omega | (simp; done) | (simp; omega))), _, _, _, _, _, _, _, _, _, _, _, _, _, _, rfl⟩
  · have ha : K = (F == L.length, 0) := ha
    subst ha
    by_cases hF : F = L.length
    · subst hF
      go_enter Try.func23, Try.ntmps23
      go_wp2_with fail
      refine wp_scope_fwd 0 (fun a' w' => False) rfl ?_ ?_
      case refine_2 => exact fun _ _ h => h.elim
      go_wp2_with fail
      refine (ci.out _).mono ?_
      rintro e w1 ⟨rfl, hb⟩
      obtain ⟨bc, bf⟩ := bcell hb
      have hb0 := below_step (below_new (Below.refl w.heap.size w) _) hb
      have z : w.heap.size < w1.heap.size := by have := hb.size; simp at this; omega
      go_wp2_with fail
      refine (cf.out (by trivial) _ (HL.out.below hb0)).mono ?_
      rintro e w2 ⟨rfl, hb2⟩
      go_wp2_with fail
      simp only [Exit.jump]
      go_ret2
      exact ⟨by simp, by (repeat' (first | (with_reducible exact Below.refl _ _) | (with_reducible assumption) | (with_reducible apply Below.setCell) | (with_reducible apply Below.alloc) | (with_reducible apply Below.drew) | (with_reducible apply below_drewN) | (with_reducible refine Below.trans ?_ (Below.mono (by assumption) ?_)) | omega | (simp; done) | (simp; omega)))⟩
    · have g1 : ((F : Int) == (L.length : Int)) = false := beq_eq_false_iff_ne.2 (by omega)
      have g2 : (F == L.length) = false := beq_eq_false_iff_ne.2 hF
      rw [g2]
      clear g2 hF
      go_enter Try.func23, Try.ntmps23
      go_wp2_with fail
      refine wp_scope_fwd 0 (fun a' w' => False) rfl ?_ ?_
      case refine_2 => exact fun _ _ h => h.elim
      go_wp2_with fail
      refine (ci.out _).mono ?_
      rintro e w1 ⟨rfl, hb⟩
      obtain ⟨bc, bf⟩ := bcell hb
      have hb0 := below_step (below_new (Below.refl w.heap.size w) _) hb
      have z : w.heap.size < w1.heap.size := by have := hb.size; simp at this; omega
      go_wp2_with fail
      refine (cf.out (by trivial) _ (HL.out.below hb0)).mono ?_
      rintro e w2 ⟨rfl, hb2⟩
      go_wp2_with fail
      simp only [Exit.jump]
      go_ret2
      exact ⟨by simp, by (repeat' (first | (with_reducible exact Below.refl _ _) | (with_reducible assumption) | (with_reducible apply Below.setCell) | (with_reducible apply Below.alloc) | (with_reducible apply Below.drew) | (with_reducible apply below_drewN) | (with_reducible refine Below.trans ?_ (Below.mono (by assumption) ?_)) | omega | (simp; done) | (simp; omega)))⟩
theorem lie_two {w : World} {b : Nat} {x0 x1 y0 y1 : Int} (hb : b < w.heap.size) (h0 : w.cell? ⟨b, 0, none⟩ = some (.int .i64 x0)) (h1 : w.cell? ⟨b, 1, none⟩ = some (.int .i64 x1)) (h2 : w.cell? ⟨b, 2, none⟩ = some (.int .i64 y0)) (h3 : w.cell? ⟨b, 3, none⟩ = some (.int .i64 y1)) :
    Lie sendV 2 w w.heap.size (some ⟨b, 0, none⟩) [(x0, x1), (y0, y1)] := fun _ => by
  refine ⟨_, rfl, hb, fun i x hx j v hv => ?_⟩
  match i, j with
  | 0, 0 => simp at hx; subst hx; simp [sendV] at hv; subst hv; exact h0
  | 0, 1 => simp at hx; subst hx; simp [sendV] at hv; subst hv; exact h1
  | 1, 0 => simp at hx; subst hx; simp [sendV] at hv; subst hv; exact h2
  | 1, 1 => simp at hx; subst hx; simp [sendV] at hv; subst hv; exact h3
  | 0, j + 2 => simp at hx; subst hx; simp [sendV] at hv
  | 1, j + 2 => simp at hx; subst hx; simp [sendV] at hv
  | i + 2, _ => simp at hx
end Go.Proofs.Ytilikpacgbkebaa
