/- The walk of CurveSpecs: the curve of any spec allows what the spec does. -/
import Derived.Test.YtpgaklfgbioocaaCvV
import Derived.Test.YtpgaklfgbioocaaSpB
import Derived.Test.YtpgaklfgbioocaaSpG
namespace Go.Proofs.Ytpgaklfgbioocaa
set_option linter.unusedVariables false
open Go.RowKit Go.Proofs.Ytpgaklfgbioocaa.RowK

theorem told3_any (A B : Option Addr) (L M : List (Int × Int)) (c d : Nat) (k : Int) (hL : L.length ≤ 1000000) (hM : M.length ≤ 1000000) (w : World) (hA : Lie sendV 2 w w.heap.size A L) (hB : Lie sendV 2 w w.heap.size B M) :
    Calls Try.prog 9 #[.slice A L.length c, .int .i64 k, .slice B M.length d, .int .i64 k] w fun e w' => e = .returned (.bool (decide (L = M))) ∧ ∃ q, w' = w.drewN q := by
  have cs := hidd (same_any A B L M c d hL hM w hA hB)
  clear hA hB
  obtain ⟨T, hT⟩ : ∃ T, decide (L = M) = T := ⟨_, rfl⟩
  rw [hT] at cs
  rw [hT]
  clear hT
  go_enter Try.func9, Try.ntmps9
  go_wp2_with fail
  refine cs.out.mono ?_
  rintro e w1 ⟨rfl, q, rfl⟩
  go_wp2_with fail
  go_ret
  exact ⟨by simp, q, rfl⟩
theorem rgt_of_low {L : List (Int × Int)} (hm : MayAll L) (h0 : 0 < L.length) (h32 : (CM.low L).length ≤ 32) : RgtC (CM.low L) :=
  ⟨⟨low_pos h0, h32⟩, may_low hm, CM.low_nrm (fun e => by rw [e] at h0; simp at h0)⟩
theorem min_spec {p r u m t x : Int} (h : CM.IsMin [(m, p), (u, r)] t 1 x) : x = allowsV p r u m t := by
  have g : CM.IsMin [(m, p), (u, r)] t 1 (allowsV p r u m t) := by
    have e1 : CM.val (m, p) t 1 = m + p * t := by unfold CM.val; simp
    have e2 : CM.val (u, r) t 1 = u + r * t := by unfold CM.val; simp
    unfold allowsV
    by_cases h : u + r * t < m + p * t
    · rw [if_pos h]
      refine ⟨⟨(u, r), by simp, e2⟩, fun y hy => ?_⟩
      rcases List.mem_cons.1 hy with rfl | hy
      · rw [e1]; omega
      · have : y = (u, r) := by simpa using hy
        rw [this, e2]; omega
    · rw [if_neg h]
      refine ⟨⟨(m, p), by simp, e1⟩, fun y hy => ?_⟩
      rcases List.mem_cons.1 hy with rfl | hy
      · rw [e1]; omega
      · have : y = (u, r) := by simpa using hy
        rw [this, e2]; omega
  exact h.same g
theorem may_spec {p r u m l : Int} (hr : rightB p r u m l = true) : MayAll [(m, p), (u, r)] := by
  have h := rightB_iff hr
  intro i hi
  have : i = 0 ∨ i = 1 := by simp at hi; omega
  rcases this with rfl | rfl
  · exact decide_eq_true (by simp [SM.av, SM.sv]; omega)
  · exact decide_eq_true (by simp [SM.av, SM.sv]; omega)
theorem lie_spec (w : World) (b : Nat) (hb : w.heap.size = b) (m p u r : Int) (T : TypeId) : Lie sendV 2 (w.alloc (.cells #[.int .i64 m, .int .i64 p, .int .i64 u, .int .i64 r] T)) (w.alloc (.cells #[.int .i64 m, .int .i64 p, .int .i64 u, .int .i64 r] T)).heap.size (some ⟨b, 0, none⟩) [(m, p), (u, r)] :=
  lie_lit2 w b hb [(m, p), (u, r)] T _ rfl
theorem low1_any (A : Option Addr) (L : List (Int × Int)) (c n b : Nat) (hn : L.length = n) (W : World) (hb : W.heap.size = b) (hW : Lie sendV 2 W W.heap.size A L) (h0 : 0 < n) (hL : n ≤ 1000000) (hm : MayAll L) :
    Calls Try.prog 23 #[.slice (some ⟨b, 0, none⟩) 1 1] (W.alloc (.cells #[.slice A n c] 25)) fun e w' => ∃ v, e = .returned v ∧ OwnL sendV 2 w' b 44 v (CM.low L) ∧ Below W.heap.size W w' := by
  subst hn hb
  have h := lowest_any (some ⟨W.heap.size, 0, none⟩) 1 [(.slice A L.length c, L)] (by simp) (by simp; omega) (by rw [allLines_one]; omega) (by rw [allLines_one]; exact fun e => by rw [e] at h0; simp at h0) (by rw [allLines_one]; exact hm.ok) _ (curves_one hW 25)
  rw [allLines_one] at h
  refine h.mono ?_
  rintro e w' ⟨v, rfl, hO, hb⟩
  exact ⟨v, rfl, hO.base (by simp), below_step (below_new (Below.refl _ _) _) hb⟩
def OfEnd (p r u m : Int) (w : World) (e : Ending) (w' : World) : Prop := ∃ v, e = .returned (.tuple #[v, .int .i64 0]) ∧ OwnL sendV 2 w' w.heap.size 44 v (CM.low [(m, p), (u, r)]) ∧ Below w.heap.size w w'
end Go.Proofs.Ytpgaklfgbioocaa
