/- Objects: Parse. -/
import Derived.Test.YtnneolkedekfbaaObS
namespace Go.Proofs.Ytnneolkedekfbaa
set_option linter.unusedVariables false
open Go.RowKit

def ParseOut (L : List Int) (w : World) (e : Ending) (w' : World) : Prop :=
  Below w.heap.size w w' ∧ ((∃ k os A c, Good L k ∧ os.map keyO = keysTo L k ∧ e = .returned (.tuple #[.slice A os.length c, .int .i64 0]) ∧ Obs w' (fun q => w.heap.size ≤ q ∧ q < w'.heap.size) A os) ∨ ((∀ k, ¬ Good L k) ∧ e = .returned (.tuple #[.slice none 0 0, .int .i64 170])))
theorem enters_Parse1 : ∀ args w, (callFunc 25 args).run Try.prog w = .ok (.enter 25 args) w := fun args w => by simp [callFunc, Try.func25, Try.f25, mark]
set_option maxHeartbeats 2000000 in
theorem Parse_any (A : Option Addr) (L : List Int) (c : Nat) (hL : L.length ≤ 65536) (hc : L.length ≤ c) (hc2 : c ≤ maxLen) (hb : Bytes L) (w : World) (hl : LieQ byV 1 w (· < w.heap.size) A L) :
    Calls Try.prog 11 #[.slice A L.length c] w (ParseOut L w) := by
  have hmf : ∀ (fn : Fn) (first cap : Array Value) (w : World), (Instr.makeFunc fn first cap).run Try.prog w = .ok (.func fn first cap) w := fun _ _ _ _ => rfl
  obtain ⟨w0, hw0⟩ : ∃ w0, w.alloc (.cells #[.slice A L.length c] 25) = w0 := ⟨_, rfl⟩
  have hs0 : w0.heap.size = w.heap.size + 1 := by rw [← hw0]; simp
  have hb0 : Below w.heap.size w w0 := by rw [← hw0]; (repeat' (first | (with_reducible exact Below.refl _ _) | (with_reducible assumption) | (with_reducible apply Below.setCell) | (with_reducible apply Below.alloc) | (with_reducible apply Below.drew) | (with_reducible apply below_drewN) | (with_reducible refine Below.trans ?_ (Below.mono (by assumption) ?_)) | omega | (simp; done) | (simp; omega)))
  have hc0 : w0.cell? ⟨w.heap.size, 0, none⟩ = some (.slice A L.length c) := by rw [← hw0]; simp [go_sem]
  have ct := hidd (toldL_any 25 enters_Parse1 #[.pointer (some ⟨w.heap.size, 0, none⟩)] w0 (fun v X => ∃ k os A2 c2, Good L k ∧ os.map keyO = keysTo L k ∧ v = .slice A2 os.length c2 ∧ Obs X (fun q => w.heap.size + 2 ≤ q ∧ q < X.heap.size) A2 os) (fun k => (∀ k, ¬ Good L k) ∧ k = 170)
    (fun v X p u h1 h2 h3 => by
      obtain ⟨k, os, A2, c2, g1, g2, g3, g4⟩ := h3
      exact ⟨k, os, A2, c2, g1, g2, g3, g4.to (fun q hq => ⟨⟨hq.1, by simpa using hq.2⟩, Below.heap_setCell _ _ _ _ (by omega)⟩)⟩)
    (fun W hW hsz => (Parse1_any A L c w.heap.size hL hc hc2 hb W ((hW.cell (p := ⟨w.heap.size, 0, none⟩) (by rw [hs0]; exact Nat.lt_succ_self _)).trans hc0) (by omega) ((hl.below hb0).below hW)).mono fun e w' ⟨h1, h2⟩ => ⟨h1, by
      rcases h2 with ⟨k, os, A2, c2, g1, g2, g3, g4⟩ | ⟨h3, h4⟩
      · exact .inl ⟨_, g3, k, os, A2, c2, g1, g2, rfl, by rw [show w.heap.size + 2 = W.heap.size by omega]; exact g4⟩
      · exact .inr ⟨170, h4, h3, rfl⟩⟩))
  have HB0 := hidd hb0
  have HW0 := hidd hw0
  clear hl hc hc2 hb hs0 hb0 hc0 hw0
  go_enter Try.func11, Try.ntmps11
  go_wp2_with fail
  rw [HW0.out]
  refine ct.out.mono ?_
  rintro e w1 ⟨hb1, h⟩
  have HB1 := hidd (below_step HB0.out hb1)
  clear hb1
  rcases h with ⟨v, rfl, k, os, A2, c2, g1, g2, rfl, g4⟩ | ⟨k, rfl, hk⟩
  · have H := hidd (And.intro g1 (And.intro g2 g4))
    clear g1 g2 g4
    go_wp2_with fail
    go_ret2
    exact ⟨HB1.out, .inl ⟨k, os, A2, c2, H.out.1, H.out.2.1, rfl, H.out.2.2.to (fun q hq => ⟨⟨by omega, hq.2⟩, rfl⟩)⟩⟩
  · have H := hidd hk
    clear hk
    go_wp2_with fail
    go_ret2
    obtain ⟨h1, rfl⟩ := H.out
    exact ⟨HB1.out, .inr ⟨h1, rfl⟩⟩
end Go.Proofs.Ytnneolkedekfbaa
