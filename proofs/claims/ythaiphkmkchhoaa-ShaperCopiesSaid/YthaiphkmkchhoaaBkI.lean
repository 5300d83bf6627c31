/- Buckets: how many ticks later there are so many bytes. -/
import Derived.Test.YthaiphkmkchhoaaBkH
namespace Go.Proofs.Ythaiphkmkchhoaa
open Go.RowKit Go.Shelf
set_option linter.unusedVariables false
namespace BM
theorem later_mono {there most more a b : Int} (h : 0 ≤ more) (hab : a ≤ b) : later there most more a ≤ later there most more b := by
  have : more * a ≤ more * b := Int.mul_le_mul_of_nonneg_left hab h
  unfold later bnd
  omega
/-- so many ticks, and no fewer, bring so many bytes. -/
def IsTill (size there most more t : Int) : Prop := 0 ≤ t ∧ t ≤ size ∧ (∀ i : Int, 0 ≤ i → i < t → later there most more i < size) ∧ size ≤ later there most more t
theorem later_enough {size there most more : Int} (h0 : 0 ≤ there) (h1 : 1 ≤ more) (h2 : 0 ≤ size) (h3 : size ≤ most) : size ≤ later there most more size := by
  have : 1 * size ≤ more * size := Int.mul_le_mul_of_nonneg_right h1 h2
  unfold later bnd
  omega
end BM
theorem ends_till {size there most more : Int} (h0 : 0 ≤ there) (h1 : 1 ≤ more) (h2 : 0 ≤ size) (h3 : size ≤ most) {t : Nat} (h : Ends size.toNat (fun i => decide (size ≤ BM.later there most more (i : Int))) t) : BM.IsTill size there most more (t : Int) := by
  obtain ⟨a, b, c⟩ := h
  refine ⟨by omega, by omega, fun i hi0 hit => ?_, ?_⟩
  · have := b i.toNat (by omega)
    have := of_decide_eq_false this
    rw [show ((i.toNat : Nat) : Int) = i by omega] at this
    omega
  · by_cases ht : t < size.toNat
    · exact of_decide_eq_true (c ht)
    · have e : (t : Int) = size := by omega
      rw [e]
      exact BM.later_enough h0 h1 h2 h3
set_option maxHeartbeats 2000000 in
theorem till1_any (bf bs : Nat) (size there most more d : Int) (a0 : 0 ≤ there) (a1 : there ≤ 10000000) (r0 : 0 ≤ more) (r1 : more ≤ 1000000) (d0 : 0 ≤ d) (d1 : d ≤ 2147483647) (w : World)
    (hf : w.cell? ⟨bf, 0, none⟩ = some (.func (.func 57) #[.agg #[.int .i64 there, .int .i64 most, .int .i64 more]] #[])) (hs : w.cell? ⟨bs, 0, none⟩ = some (.int .i64 size)) :
    Calls Try.prog 59 #[.int .i64 d, .pointer (some ⟨bf, 0, none⟩), .pointer (some ⟨bs, 0, none⟩)] w fun e w' => e = .returned (.bool (decide (size ≤ BM.later there most more d))) ∧ Below w.heap.size w w' := by
  have cl := hidd (fun W => later_any there most more d a0 a1 r0 r1 d0 d1 W)
  have lf := World.block_lt_of_cell? w _ hf
  have ls := World.block_lt_of_cell? w _ hs
  dsimp only at lf ls
  have KEEP := hidd (fun W' (hb : Below w.heap.size w W') => (show W'.cell? ⟨bf, 0, none⟩ = some (.func (.func 57) #[.agg #[.int .i64 there, .int .i64 most, .int .i64 more]] #[]) ∧ W'.cell? ⟨bs, 0, none⟩ = some (.int .i64 size) from
    ⟨(hb.cell (p := ⟨bf, 0, none⟩) lf).trans hf, (hb.cell (p := ⟨bs, 0, none⟩) ls).trans hs⟩))
  generalize BM.later there most more d = v at *
  clear a0 a1 r0 r1 d0 d1
  go_enter Try.func59, Try.ntmps59
  go_wp2_with fail
  go_region_held3 (fun w' => w'.cell? ⟨bf, 0, none⟩ = some (.func (.func 57) #[.agg #[.int .i64 there, .int .i64 most, .int .i64 more]] #[]) ∧ w'.cell? ⟨bs, 0, none⟩ = some (.int .i64 size))
    ((first | exact KEEP.out _ cum1 | exact ⟨hf, hs⟩ | go_keep))
    ((go_at_call 57; refine (cl.out _).mono ?_; rintro E1 x1' ⟨rfl, q1, l1⟩; have cum1 : Below w.heap.size w x1' := (by rw [l1]; exact below_drewN (by first | exact below_new (Below.drew (Below.refl _ _)) _ | exact below_new (Below.refl _ _) _) _); clear l1))
  all_goals go_wp2_with fail
  all_goals go_ret
  all_goals exact ⟨by simp, cum1⟩
def TillEnd (size there most more : Int) (w : World) (e : Ending) (w' : World) : Prop := ∃ t : Int, e = .returned (.int .i64 t) ∧ BM.IsTill size there most more t ∧ Below w.heap.size w w'
set_option maxHeartbeats 2000000 in
theorem till_any (size there most more : Int) (a0 : 0 ≤ there) (a1 : there ≤ 10000000) (r0 : 1 ≤ more) (r1 : more ≤ 1000000) (s0 : 0 ≤ size) (s1 : size ≤ 2000) (s2 : size ≤ most) (w : World) :
    Calls Try.prog 50 #[.int .i64 size, .func (.func 57) #[.agg #[.int .i64 there, .int .i64 most, .int .i64 more]] #[]] w (TillEnd size there most more w) := by
  have hmf : ∀ (fn : Fn) (first cap : Array Value) (w : World), (Instr.makeFunc fn first cap).run Try.prog w = .ok (.func fn first cap) w := fun _ _ _ _ => rfl
  have hE := hidd (fun t h => ends_till (size := size) (there := there) (most := most) (more := more) (t := t) a0 r0 s0 s2 h)
  have cS := hidd (fun bf bs W hf hs => search_any 59 #[.pointer (some ⟨bf, 0, none⟩), .pointer (some ⟨bs, 0, none⟩)] (enters_of Try.func59 (by kernel_rfl) rfl) size.toNat (by omega) (fun i => decide (size ≤ BM.later there most more (i : Int)))
    (fun a b hab _ ha => decide_eq_true (Int.le_trans (of_decide_eq_true ha) (BM.later_mono (by omega) (by omega)))) W
    (fun W2 hb i hi => till1_any bf bs size there most more (i : Int) a0 a1 (by omega) r1 (by omega) (by omega) W2 ((hb.cell (p := ⟨bf, 0, none⟩) (World.block_lt_of_cell? W _ hf)).trans hf) ((hb.cell (p := ⟨bs, 0, none⟩) (World.block_lt_of_cell? W _ hs)).trans hs)))
  rw [show ((size.toNat : Nat) : Int) = size by omega] at cS
  unfold SearchEnd at cS
  unfold TillEnd
  clear a0 a1 r0 r1 s2
  go_enter Try.func50, Try.ntmps50
  go_wp2_with fail
  refine (cS.out (w.heap.size + 1) w.heap.size _ (by simp [go_sem]) (by simp [go_sem])).mono ?_
  rintro e w1 ⟨t, rfl, hT, hb⟩
  have ht := hE.out t hT
  have HT := hidd ht
  have tb : (t : Int) ≤ 2000 := by have := ht.2.1; omega
  clear ht hT
  go_wp2_with fail
  go_ret
  exact ⟨_, rfl, HT.out, by (repeat' (first | (with_reducible exact Below.refl _ _) | (with_reducible assumption) | (with_reducible apply Below.setCell) | (with_reducible apply Below.alloc) | (with_reducible apply Below.drew) | (with_reducible apply below_drewN) | (with_reducible refine Below.trans ?_ (Below.mono (by assumption) ?_)) | omega | (simp; done) | (simp; omega)))⟩
end Go.Proofs.Ythaiphkmkchhoaa
