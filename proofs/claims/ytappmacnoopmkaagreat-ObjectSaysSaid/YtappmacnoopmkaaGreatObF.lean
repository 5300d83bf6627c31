/- Objects: the bytes of any objects, or why there are none. -/
import Derived.Test.YtappmacnoopmkaaGreatObE
namespace Go.Proofs.YtappmacnoopmkaaGreat
set_option linter.unusedVariables false
open Go.RowKit

theorem OwnL.base {α : Type} {f : α → List Value} {sz : Nat} {w : World} {base base' : Nat} {e : TypeId} {v : Value} {L : List α} (h : OwnL f sz w base e v L) (hb : base' ≤ base) : OwnL f sz w base' e v L := by
  refine ⟨h.1, ?_⟩
  rcases h.2 with h0 | ⟨g, cap, cur, rfl, hbs, hh, hr⟩
  · exact .inl h0
  · exact .inr ⟨g, cap, cur, rfl, Nat.le_trans hb hbs, hh, hr⟩
theorem OwnL.low {α : Type} {f : α → List Value} {sz : Nat} {w : World} {base : Nat} {e : TypeId} {v : Value} {L : List α} (h : OwnL f sz w base e v L) {p : Addr} (hp : p.block < base) (u : Value) : OwnL f sz (w.setCell p u) base e v L := by
  refine ⟨h.1, ?_⟩
  rcases h.2 with h0 | ⟨g, cap, cur, rfl, hbs, hh, hr⟩
  · exact .inl h0
  · exact .inr ⟨g, cap, cur, rfl, hbs, (Below.heap_setCell _ _ _ _ (by omega)).trans hh, hr⟩
theorem LieQ.low {α : Type} {f : α → List Value} {sz : Nat} {w : World} {B : Nat} {A : Option Addr} {l : List α} (h : LieQ f sz w (fun q => B ≤ q ∧ q < w.heap.size) A l) {p : Addr} (hp : p.block < B) (u : Value) : LieQ f sz (w.setCell p u) (fun q => B ≤ q ∧ q < (w.setCell p u).heap.size) A l :=
  h.to fun k hk => ⟨⟨hk.1, by simpa using hk.2⟩, Below.heap_setCell _ _ _ _ (by omega)⟩
def RawOut (l : List Ob) (w : World) (e : Ending) (w' : World) : Prop :=
  Below w.heap.size w w' ∧ ((allR l ∧ l.length ≤ 40 ∧ ∃ v, e = .returned (.tuple #[v, .int .i64 0]) ∧ OwnL byV 1 w' w.heap.size 5 v (rawAll l)) ∨ (¬ allR l ∧ e = .returned (.tuple #[.slice none 0 0, .int .i64 2])) ∨ (allR l ∧ ¬ l.length ≤ 40 ∧ e = .returned (.tuple #[.slice none 0 0, .int .i64 3])))
theorem enters_Raw1 : ∀ args w, (callFunc 87 args).run Tryz.prog w = .ok (.enter 87 args) w := fun args w => by simp [callFunc, Tryz.func87, Tryz.f87, mark]
set_option maxHeartbeats 2000000 in
theorem Raw_any (A : Option Addr) (l : List Ob) (c : Nat) (hm : l.length ≤ 9223372036854775807) (hw : ∀ o ∈ l, o.ws.length ≤ 9223372036854775807) (w : World) (hl : Obs w (· < w.heap.size) A l) :
    Calls Tryz.prog 53 #[.slice A l.length c] w (RawOut l w) := by
  have hmf : ∀ (fn : Fn) (first cap : Array Value) (w : World), (Instr.makeFunc fn first cap).run Tryz.prog w = .ok (.func fn first cap) w := fun _ _ _ _ => rfl
  obtain ⟨w0, hw0⟩ : ∃ w0, w.alloc (.cells #[.slice A l.length c] 135) = w0 := ⟨_, rfl⟩
  have hs0 : w0.heap.size = w.heap.size + 1 := by rw [← hw0]; simp
  have hb0 : Below w.heap.size w w0 := by rw [← hw0]; (repeat' (first | (with_reducible exact Below.refl _ _) | (with_reducible assumption) | (with_reducible apply Below.setCell) | (with_reducible apply Below.alloc) | (with_reducible apply Below.drew) | (with_reducible apply below_drewN) | (with_reducible refine Below.trans ?_ (Below.mono (by assumption) ?_)) | omega | (simp; done) | (simp; omega)))
  have hc0 : w0.cell? ⟨w.heap.size, 0, none⟩ = some (.slice A l.length c) := by rw [← hw0]; simp [go_sem]
  have ct := hidd (toldB_any 87 enters_Raw1 #[.pointer (some ⟨w.heap.size, 0, none⟩)] w0 (fun v X => allR l ∧ l.length ≤ 40 ∧ OwnL byV 1 X (w.heap.size + 2) 5 v (rawAll l)) (fun k => (¬ allR l ∧ k = 2) ∨ (allR l ∧ ¬ l.length ≤ 40 ∧ k = 3))
    (fun v X p u h1 h2 h3 => ⟨h3.1, h3.2.1, h3.2.2.low (by omega) u⟩)
    (fun W hW hsz => (Raw1_any A l c w.heap.size hm hw W ((hW.cell (p := ⟨w.heap.size, 0, none⟩) (by rw [hs0]; exact Nat.lt_succ_self _)).trans hc0) (by omega) ((hl.below hb0).below hW)).mono fun e w' ⟨h1, h2⟩ => ⟨h1, by
      rcases h2 with ⟨h3, h4, v, h5, h6⟩ | ⟨h3, h4⟩ | ⟨h3, h4, h5⟩
      · exact .inl ⟨v, h5, h3, h4, by rw [show w.heap.size + 2 = W.heap.size by omega]; exact h6⟩
      · exact .inr ⟨2, h4, .inl ⟨h3, rfl⟩⟩
      · exact .inr ⟨3, h5, .inr ⟨h3, h4, rfl⟩⟩⟩))
  have HB0 := hidd hb0
  have HW0 := hidd hw0
  clear hl hw hs0 hb0 hc0 hw0
  go_enter Tryz.func53, Tryz.ntmps53
  go_wp2_with fail
  rw [HW0.out]
  refine ct.out.mono ?_
  rintro e w1 ⟨hb1, h⟩
  have HB1 := hidd (below_step HB0.out hb1)
  clear hb1
  rcases h with ⟨v, rfl, h1, h2, h3⟩ | ⟨k, rfl, hk⟩
  · have H := hidd (show allR l ∧ l.length ≤ 40 ∧ _ from ⟨h1, h2, h3⟩)
    clear h1 h2 h3
    go_wp2_with fail
    go_ret2
    exact ⟨HB1.out, .inl ⟨H.out.1, H.out.2.1, _, rfl, H.out.2.2.base (by omega)⟩⟩
  · have H := hidd hk
    clear hk
    go_wp2_with fail
    go_ret2
    refine ⟨HB1.out, .inr ?_⟩
    rcases H.out with ⟨h1, rfl⟩ | ⟨h1, h2, rfl⟩
    · exact .inl ⟨h1, rfl⟩
    · exact .inr ⟨h1, h2, rfl⟩
end Go.Proofs.YtappmacnoopmkaaGreat
