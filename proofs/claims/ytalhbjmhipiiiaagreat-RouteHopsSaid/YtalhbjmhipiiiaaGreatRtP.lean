/- Routes: made. -/
import Derived.Test.YtalhbjmhipiiiaaGreatRtN
namespace Go.Proofs.YtalhbjmhipiiiaaGreat.Tp
set_option linter.unusedVariables false
open Go.RowKit Go.Maps

theorem NewR_no (v : Value) (w : World) (h : NoneV w v) : Calls Tryz.prog 10 #[v] w fun e w' => e = .returned (.tuple #[.pointer none, .int .i64 1]) ∧ w = w' := by
  have c := hidd (Copy_no v w h)
  clear h
  go_enter Tryz.func10, Tryz.ntmps10
  go_wp2_with fail
  refine c.out.mono ?_
  rintro e w1 ⟨rfl, rfl⟩
  go_wp2_with fail
  exact ⟨rfl, .tuple #[.pointer none, .int .i64 1], by simp [results, Tryz.results10, go_sem], rfl, rfl⟩
def isI0 : Value → Bool
  | .int .i64 z => decide (z = 0)
  | _ => false
def isS0 : Value → Bool
  | .slice none 0 0 => true
  | _ => false
theorem isI0_eq {v : Value} (h : isI0 v = true) : v = .int .i64 0 := by
  unfold isI0 at h
  split at h
  · rw [of_decide_eq_true h]
  · cases h
theorem isS0_eq {v : Value} (h : isS0 v = true) : v = .slice none 0 0 := by
  unfold isS0 at h
  split at h
  · rfl
  · cases h
theorem zc_size : (Tryz.zeroCells88).size = 513 := by kernel_rfl
theorem zc_far : ((List.range 256).all fun j => isI0 ((Tryz.zeroCells88).getD (1 + j) (.bool false))) = true := by kernel_rfl
theorem zc_links : ((List.range 256).all fun j => isS0 ((Tryz.zeroCells88).getD (257 + j) (.bool false))) = true := by kernel_rfl
theorem newWays (p : Option Addr) : ∃ cs : Array Value, (Tryz.zeroCells88).setIfInBounds 0 (.pointer p) = cs ∧ cs[0]? = some (.pointer p) ∧ (∀ j, j < 256 → cs[1 + j]? = some (.int .i64 0)) ∧ (∀ j, j < 256 → cs[257 + j]? = some (.slice none 0 0)) := by
  have hs := zc_size
  have h1 := zc_far
  have h2 := zc_links
  generalize Tryz.zeroCells88 = Z at *
  refine ⟨_, rfl, ?_, fun j hj => ?_, fun j hj => ?_⟩
  · rw [Array.getElem?_setIfInBounds_self_of_lt (by omega)]
  · rw [Array.getElem?_setIfInBounds_ne (by omega)]
    have := isI0_eq (List.all_eq_true.1 h1 j (List.mem_range.2 hj))
    rw [Array.getD_eq_getD_getElem?] at this
    rw [Array.getElem?_eq_getElem (by omega)] at this ⊢
    simpa using this
  · rw [Array.getElem?_setIfInBounds_ne (by omega)]
    have := isS0_eq (List.all_eq_true.1 h2 j (List.mem_range.2 hj))
    rw [Array.getD_eq_getD_getElem?] at this
    rw [Array.getElem?_eq_getElem (by omega)] at this ⊢
    simpa using this
set_option maxRecDepth 100000 in
set_option maxHeartbeats 4000000 in
theorem NewR_yes (m0 : Nat) (n : Int) (L : List Lk) (hV : Valid n L) (hI : WideL L) (w : World) (h : MapAt w m0 n L) : Calls Tryz.prog 10 #[.pointer (some ⟨m0, 0, none⟩)] w fun e w' => ∃ r bw m, e = .returned (.tuple #[.pointer (some ⟨r, 0, none⟩), .int .i64 0]) ∧ RoutesAt w' w.heap.size r bw m n L false ∧ Below w.heap.size w w' := by
  have cc := hidd (Copy_yes m0 n hV.lo L (by have := hV.len; omega) hI w h)
  clear h hV
  go_enter Tryz.func10, Tryz.ntmps10
  go_wp2_with fail
  refine cc.out.mono ?_
  rintro e w1 ⟨m, rfl, hm, hmb, hb⟩
  have HM := hidd hm
  have HBB := hidd hb
  have HMB := hidd hmb
  clear hm hb hmb
  obtain ⟨cs, hcs, hc0, hc1, hc2⟩ := newWays (some ⟨m, 0, none⟩)
  have HC0 := hidd hc0
  have HC1 := hidd hc1
  have HC2 := hidd hc2
  clear hc0 hc1 hc2
  go_wp2_with fail
  obtain ⟨W1, hW1⟩ : ∃ W1, w1.alloc (.cells cs 88) = W1 := ⟨_, rfl⟩
  have hk : W1.heap[w1.heap.size]? = some (.cells cs 88 (0, 0)) := by rw [← hW1]; exact World.alloc_heap_new w1 _
  have hb1 : Below w1.heap.size w1 W1 := by rw [← hW1]; (repeat' (first | (with_reducible exact Below.refl _ _) | (with_reducible assumption) | (with_reducible apply Below.setCell) | (with_reducible apply Below.alloc) | (with_reducible apply Below.drew) | (with_reducible apply below_drewN) | (with_reducible refine Below.trans ?_ (Below.mono (by assumption) ?_)) | omega | (simp; done) | (simp; omega)))
  have hs1 : W1.heap.size = w1.heap.size + 1 := by rw [← hW1]; simp
  have hbs := HBB.out.size
  have hWA : WaysAt W1 W1.heap.size w1.heap.size m n L (farOf n L false) (lksOf n L false) :=
    ⟨⟨w1, HM.out, Nat.le_refl _, hb1⟩, by omega, Nat.le_refl _, ⟨cs, hk⟩, by simp [World.cell?, hk, HC0.out], fun x t hx ht => by
      have := HC1.out (x * 16 + t) (by omega)
      rw [show 1 + x * 16 + t = 1 + (x * 16 + t) from by omega]
      simp [World.cell?, hk, this, farOf], fun x t hx ht => ⟨none, 0, by
      have := HC2.out (x * 16 + t) (by omega)
      rw [show 257 + x * 16 + t = 257 + (x * 16 + t) from by omega]
      simp [World.cell?, hk, this, lksOf], by simp [lksOf], by decide, by simp [lksOf]; exact Lie.nil, fun ad e => by cases e⟩⟩
  rw [hW1]
  have hb2 : Below W1.heap.size W1 (W1.alloc (.cells #[.int .u32 0, .int .i32 0, .int .u32 0, .pointer (some ⟨w1.heap.size, 0, none⟩)] 72)) := by (repeat' (first | (with_reducible exact Below.refl _ _) | (with_reducible assumption) | (with_reducible apply Below.setCell) | (with_reducible apply Below.alloc) | (with_reducible apply Below.drew) | (with_reducible apply below_drewN) | (with_reducible refine Below.trans ?_ (Below.mono (by assumption) ?_)) | omega | (simp; done) | (simp; omega)))
  refine ⟨rfl, .tuple #[.pointer (some ⟨w1.heap.size + 1, 0, none⟩), .int .i64 0], by simp [results, Tryz.results10, go_sem], w1.heap.size + 1, w1.heap.size, m, rfl, ⟨hWA.below hb2, ?_, hbs, by omega⟩, (HBB.out.trans (hb1.mono hbs)).trans (hb2.mono (by omega))⟩
  rw [← hs1]
  exact World.alloc_heap_new W1 _
end Go.Proofs.YtalhbjmhipiiiaaGreat.Tp
