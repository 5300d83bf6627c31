/- Buckets: what they hold, as numbers and in memory; small functions. -/
import Derived.Test.YthaiphkmkchhoaaSpC
namespace Go.Proofs.Ythaiphkmkchhoaa
open Go.RowKit
set_option linter.unusedVariables false
namespace BM
/-- the number from one to another one that is nearest. -/
def bnd (n lo hi : Int) : Int := max lo (min n hi)
/-- what there is of a kind so many ticks later. -/
def later (there most more d : Int) : Int := bnd (there + more * d) 0 most
theorem later_eq {there most more d : Int} (h0 : 0 ≤ there) (h1 : there ≤ most) (h2 : 0 ≤ more) (h3 : 0 ≤ d) : later there most more d = min (there + more * d) most := by
  have := Int.mul_nonneg h2 h3
  unfold later bnd
  omega
theorem later_zero {there most more : Int} (h0 : 0 ≤ there) (h1 : there ≤ most) : later there most more 0 = there := by
  unfold later bnd
  rw [Int.mul_zero]
  omega
theorem later_bd {there most more d : Int} (h1 : 0 ≤ most) : 0 ≤ later there most more d ∧ later there most more d ≤ most := by
  unfold later bnd
  omega
/-- a bucket's tick, and what is left of both kinds. -/
abbrev St := Int × Int × Int
def Ok (u m : Int) (s : St) : Prop := 0 ≤ s.1 ∧ s.1 ≤ 2147483647 ∧ 0 ≤ s.2.1 ∧ s.2.1 ≤ u ∧ 0 ≤ s.2.2 ∧ s.2.2 ≤ m
/-- may it be asked of a tick. -/
def askB (s : St) (at_ : Int) : Bool := decide (s.1 ≤ at_ ∧ at_ ≤ 2147483647)
def sizeB (m l size : Int) : Bool := decide (l ≤ size ∧ size ≤ m)
def lev0 (r u : Int) (s : St) (at_ : Int) : Int := later s.2.1 u r (at_ - s.1)
def lev1 (p m : Int) (s : St) (at_ : Int) : Int := later s.2.2 m p (at_ - s.1)
/-- does a packet keep to it. -/
def fitB (p r u m l : Int) (s : St) (at_ size : Int) : Bool := sizeB m l size && decide (size ≤ lev0 r u s at_ ∧ size ≤ lev1 p m s at_)
def step (p r u m l : Int) (s : St) (at_ size : Int) : St × Bool × Int :=
  if askB s at_ then
    (if fitB p r u m l s at_ size then ((at_, lev0 r u s at_ - size, lev1 p m s at_ - size), true, 0) else ((at_, lev0 r u s at_, lev1 p m s at_), false, 0))
  else (s, false, 2)
theorem step_ok {p r u m l : Int} {s : St} (h : Ok u m s) (hl : 1 ≤ l) (a z : Int) : Ok u m (step p r u m l s a z).1 := by
  obtain ⟨h0, h1, h2, h3, h4, h5⟩ := h
  have a0 := later_bd (there := s.2.1) (more := r) (d := a - s.1) (show 0 ≤ u by omega)
  have a1 := later_bd (there := s.2.2) (more := p) (d := a - s.1) (show 0 ≤ m by omega)
  unfold step
  split
  · rename_i hq
    have hq := of_decide_eq_true hq
    split
    · rename_i hf
      unfold fitB at hf
      simp only [Bool.and_eq_true] at hf
      have f0 := of_decide_eq_true hf.1
      have f1 := of_decide_eq_true hf.2
      unfold lev0 lev1 at *
      refine ⟨?_, ?_, ?_, ?_, ?_, ?_⟩ <;> dsimp only <;> omega
    · unfold lev0 lev1 at *
      refine ⟨?_, ?_, ?_, ?_, ?_, ?_⟩ <;> dsimp only <;> omega
  · exact ⟨h0, h1, h2, h3, h4, h5⟩
theorem step_same {p r u m l : Int} {s : St} (h : Ok u m s) {a z : Int} (h1 : (step p r u m l s a z).2.1 = false) (h2 : (step p r u m l s a z).1.1 = s.1) : (step p r u m l s a z).1 = s := by
  obtain ⟨g0, g1, g2, g3, g4, g5⟩ := h
  unfold step at *
  split at h1
  · rename_i hq
    rw [if_pos hq] at h2 ⊢
    split at h1
    · cases h1
    · rename_i hf
      rw [if_neg hf] at h2 ⊢
      have e : a = s.1 := h2
      subst e
      unfold lev0 lev1
      rw [show s.1 - s.1 = 0 by omega, later_zero g2 g3, later_zero g4 g5]
  · rename_i hq
    rw [if_neg hq]
end BM
/-- a bucket lies in block b. -/
structure BktAt (w : World) (b : Nat) (p r u m l : Int) (s : BM.St) : Prop where
  lt : b < w.heap.size
  c0 : w.cell? ⟨b, 0, none⟩ = some (.int .i64 p)
  c1 : w.cell? ⟨b, 1, none⟩ = some (.int .i64 r)
  c2 : w.cell? ⟨b, 2, none⟩ = some (.int .i64 u)
  c3 : w.cell? ⟨b, 3, none⟩ = some (.int .i64 m)
  c4 : w.cell? ⟨b, 4, none⟩ = some (.int .i64 l)
  c5 : w.cell? ⟨b, 5, none⟩ = some (.int .i64 s.1)
  c6 : w.cell? ⟨b, 6, none⟩ = some (.int .i64 s.2.1)
  c7 : w.cell? ⟨b, 7, none⟩ = some (.int .i64 s.2.2)
  f5 : w.frozen? ⟨b, 5, none⟩ = false
  f6 : w.frozen? ⟨b, 6, none⟩ = false
  f7 : w.frozen? ⟨b, 7, none⟩ = false
/-- all that lay there but block b lies as it lay. -/
structure But (b : Nat) (w w' : World) : Prop where
  os : w'.os = w.os
  tape : w'.tape = w.tape
  output : w'.output = w.output
  size : w.heap.size ≤ w'.heap.size
  block : ∀ k, k < w.heap.size → k ≠ b → w'.heap[k]? = w.heap[k]?
theorem But.refl (b : Nat) (w : World) : But b w w := ⟨rfl, rfl, rfl, Nat.le_refl _, fun _ _ _ => rfl⟩
theorem But.trans {b : Nat} {x y z : World} (h : But b x y) (k : But b y z) : But b x z :=
  ⟨k.os.trans h.os, k.tape.trans h.tape, k.output.trans h.output, Nat.le_trans h.size k.size, fun i hi hn => (k.block i (Nat.lt_of_lt_of_le hi h.size) hn).trans (h.block i hi hn)⟩
theorem below_but {w w' : World} (h : Below w.heap.size w w') (b : Nat) : But b w w' := ⟨h.os, h.tape, h.output, h.size, fun k hk _ => h.block k hk⟩
theorem But.set {b : Nat} (w : World) (o : Nat) (v : Value) : But b w (w.setCell ⟨b, o, none⟩ v) :=
  ⟨rfl, rfl, rfl, by simp [World.setCell], fun k hk hn => Below.heap_setCell _ _ _ _ hn⟩
theorem But.below {b B : Nat} {w w' : World} (h : But b w w') (hb : B ≤ b) (hB : B ≤ w.heap.size) : Below B w w' := ⟨h.os, h.tape, h.output, h.size, fun k hk => h.block k (by omega) (by omega)⟩
theorem But.drew {b : Nat} {w W : World} (h : But b w W) : But b w W.drew := ⟨h.os, h.tape, h.output, h.size, h.block⟩
theorem But.cell {b : Nat} {w w' : World} (h : But b w w') {k : Nat} (hk : k < w.heap.size) (hn : k ≠ b) (o : Nat) : w'.cell? ⟨k, o, none⟩ = w.cell? ⟨k, o, none⟩ := World.cell?_of_block (h.block k hk hn)
section
variable {w w' : World} {b : Nat} {p r u m l : Int} {s : BM.St}
theorem BktAt.of (h : BktAt w b p r u m l s) (e : w'.heap[b]? = w.heap[b]?) (hs : w.heap.size ≤ w'.heap.size) : BktAt w' b p r u m l s := by
  have c := fun o => World.cell?_of_block (w := w) (w' := w') (a := ⟨b, o, none⟩) e
  have f := fun o => World.frozen?_of_block (w := w) (w' := w') (a := ⟨b, o, none⟩) e
  exact ⟨Nat.lt_of_lt_of_le h.lt hs, (c 0).trans h.c0, (c 1).trans h.c1, (c 2).trans h.c2, (c 3).trans h.c3, (c 4).trans h.c4, (c 5).trans h.c5, (c 6).trans h.c6, (c 7).trans h.c7, (f 5).trans h.f5, (f 6).trans h.f6, (f 7).trans h.f7⟩
theorem BktAt.below (h : BktAt w b p r u m l s) (hb : Below w.heap.size w w') : BktAt w' b p r u m l s := h.of (hb.block b h.lt) hb.size
theorem BktAt.low (h : BktAt w b p r u m l s) {B : Nat} (hb : Below B w w') (hB : b < B) : BktAt w' b p r u m l s := h.of (hb.block b hB) hb.size
theorem BktAt.but (h : BktAt w b p r u m l s) {k : Nat} (hb : But k w w') (hn : b ≠ k) : BktAt w' b p r u m l s := h.of (hb.block b h.lt hn) hb.size
theorem BktAt.drew (h : BktAt w b p r u m l s) : BktAt w.drew b p r u m l s := ⟨h.lt, h.c0, h.c1, h.c2, h.c3, h.c4, h.c5, h.c6, h.c7, h.f5, h.f6, h.f7⟩
theorem BktAt.set (h : BktAt w b p r u m l s) (t x y : Int) : BktAt (((w.setCell ⟨b, 6, none⟩ (.int .i64 x)).setCell ⟨b, 7, none⟩ (.int .i64 y)).setCell ⟨b, 5, none⟩ (.int .i64 t)) b p r u m l (t, x, y) := by
  obtain ⟨lt, c0, c1, c2, c3, c4, c5, c6, c7, f5, f6, f7⟩ := h
  exact ⟨by simpa [World.setCell] using lt, by simp [go_sem, *], by simp [go_sem, *], by simp [go_sem, *], by simp [go_sem, *], by simp [go_sem, *], by simp [go_sem, *], by simp [go_sem, *], by simp [go_sem, *], by simp [go_sem, *], by simp [go_sem, *], by simp [go_sem, *]⟩
theorem BktAt.put (h : BktAt w b p r u m l s) (x y : Int) : BktAt ((w.setCell ⟨b, 6, none⟩ (.int .i64 x)).setCell ⟨b, 7, none⟩ (.int .i64 y)) b p r u m l (s.1, x, y) := by
  obtain ⟨lt, c0, c1, c2, c3, c4, c5, c6, c7, f5, f6, f7⟩ := h
  exact ⟨by simpa [World.setCell] using lt, by simp [go_sem, *], by simp [go_sem, *], by simp [go_sem, *], by simp [go_sem, *], by simp [go_sem, *], by simp [go_sem, *], by simp [go_sem, *], by simp [go_sem, *], by simp [go_sem, *], by simp [go_sem, *], by simp [go_sem, *]⟩
end
theorem bounded_any (n lo hi : Int) (w : World) : Calls Try.prog 55 #[.int .i64 n, .int .i64 lo, .int .i64 hi] w fun e w' => e = .returned (.int .i64 (BM.bnd n lo hi)) ∧ w = w' := by
  have hM : Hid (BM.bnd n lo hi = max lo (min n hi)) := hidd rfl
  generalize BM.bnd n lo hi = M at *
  go_enter Try.func55, Try.ntmps55
  go_wp2_with fail
  all_goals go_ret
  all_goals exact ⟨ret_int (by rw [hM.out]; (repeat' split) <;> omega), rfl⟩
end Go.Proofs.Ythaiphkmkchhoaa
