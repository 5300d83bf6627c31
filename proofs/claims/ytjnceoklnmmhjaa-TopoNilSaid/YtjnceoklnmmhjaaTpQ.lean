/- Maps: TopoNil. -/
import Derived.Test.YtjnceoklnmmhjaaTpT
import Derived.Test.YtjnceoklnmmhjaaTpO
namespace Go.Proofs.Ytjnceoklnmmhjaa.Tp
set_option linter.unusedVariables false
open Go.RowKit Go.Shelf
attribute [local go_sem] Oper.semAt_some

set_option maxRecDepth 100000 in
set_option maxHeartbeats 8000000 in
theorem topoNil_walk (i node : Int) (hi : I64 i) (hn : I64 node) (w : World) : Calls Try.prog 5 #[.int .i64 i, .int .i64 node] w fun e w' => e = .returned (.bool true) ∧ Below w.heap.size w w' := by
  clear hi hn
  have hq := fun f fs cs w => eq_nilFunc f fs cs w
  have hmf : ∀ (fn : Fn) (first cap : Array Value) (w : World), (Instr.makeFunc fn first cap).run Try.prog w = .ok (.func fn first cap) w := fun _ _ _ _ => rfl
  obtain ⟨W1, hW1⟩ : ∃ W1, (w.alloc (.cells #[.bool false] 4)).alloc (.cells #[.int .i64 0, .slice none 0 0, .map none] 46) = W1 := ⟨_, rfl⟩
  have hz1 : W1.heap.size = w.heap.size + 2 := by rw [← hW1]; simp
  have hB1 : Below w.heap.size w W1 := by rw [← hW1]; (repeat' (first | (with_reducible exact Below.refl _ _) | (with_reducible assumption) | (with_reducible apply Below.setCell) | (with_reducible apply Below.alloc) | (with_reducible apply Below.drew) | (with_reducible apply below_drewN) | (with_reducible refine Below.trans ?_ (Below.mono (by assumption) ?_)) | omega | (simp; done) | (simp; omega)))
  have r0 : W1.cell? ⟨w.heap.size, 0, none⟩ = some (.bool false) := by rw [← hW1]; simp [go_sem]
  have r1 : W1.frozen? ⟨w.heap.size, 0, none⟩ = false := by rw [← hW1]; simp [go_sem]
  have z0 : W1.cell? ⟨w.heap.size + 1, 0, none⟩ = some (.int .i64 0) := by rw [← hW1]; simp [go_sem]
  have NZ := hidd (fun W (h : Below W1.heap.size W1 W) => show NoneV W (.pointer (some ⟨w.heap.size + 1, 0, none⟩)) from .inr ⟨_, rfl, by have := h.size; omega, (h.cell (p := ⟨w.heap.size + 1, 0, none⟩) (show w.heap.size + 1 < W1.heap.size by omega)).trans z0⟩)
  have RC := hidd (fun W (h : Below W1.heap.size W1 W) => show W.cell? ⟨w.heap.size, 0, none⟩ = some (.bool false) ∧ W.frozen? ⟨w.heap.size, 0, none⟩ = false from ⟨(h.cell (p := ⟨w.heap.size, 0, none⟩) (show w.heap.size < W1.heap.size by omega)).trans r0, (h.frozen (p := ⟨w.heap.size, 0, none⟩) (show w.heap.size < W1.heap.size by omega)).trans r1⟩)
  have cL := hidd (fun W => Link_no (.pointer none) i W (.inl rfl))
  have cB := hidd (fun W h => Back_no (.pointer (some ⟨w.heap.size + 1, 0, none⟩)) i W (NZ.out W h))
  have cT := hidd (fun W => Terms_no (.pointer none) i W (.inl rfl))
  have cW := hidd (fun W h => Between_no (.pointer (some ⟨w.heap.size + 1, 0, none⟩)) i node W (NZ.out W h))
  have cO := hidd (fun W => Out_any none node W)
  have cN := hidd (fun W => Nodes_no (.pointer none) W (.inl rfl))
  have cE := hidd (fun W h => Len_no (.pointer (some ⟨w.heap.size + 1, 0, none⟩)) W (NZ.out W h))
  have cC := hidd (fun W h => Copy_no (.pointer (some ⟨w.heap.size + 1, 0, none⟩)) W (NZ.out W h))
  have cS := hidd (fun W h => Same_nn (.pointer none) (.pointer (some ⟨w.heap.size + 1, 0, none⟩)) W (.inl rfl) (NZ.out W h))
  have cK := hidd (fun W => known_any W)
  have HW := hidd hW1
  have HB1 := hidd hB1
  have HZ := hidd hz1
  clear hW1 hz1 hB1 r0 r1 z0
  refine (callsIn_wide (n := 6)).1 ?_
  refine callsIn_of_wp_marks Try.func5 rfl trivial ?_ rfl
  simp only [Try.ntmps5, List.size_toArray, List.length_cons, List.length_nil, Nat.reduceAdd, Nat.reduceSub, Array.replicate_succ, Array.replicate_zero, List.push_toArray, List.append_toArray, List.nil_append, List.cons_append]
  gi_wp2_with fail
  rw [HW.out]
  refine ⟨trivial, ?_⟩; gi_at_call 15; refine (callsIn_wide.2 (cL.out _)).mono ?_; rintro e w2 ⟨rfl, hb2⟩
  have HB2 := hidd (below_new hb2 (.cells #[.int .i64 0, .int .i64 0, .int .i64 0, .int .i64 0, .int .i64 0, .int .i64 0, .int .i64 0, .int .i64 0] 23))
  clear hb2
  gi_wp2_with fail
  refine ⟨trivial, ?_⟩; gi_at_call 16; refine (callsIn_wide.2 (cB.out _ HB2.out)).mono ?_; rintro e w3 ⟨rfl, hb3⟩
  have HB3 := hidd (below_step HB2.out hb3)
  clear hb3
  gi_wp2_with fail
  refine ⟨trivial, ?_⟩; gi_at_call 17; refine (callsIn_wide.2 (cT.out _)).mono ?_; rintro e w4 ⟨rfl, hb4⟩
  have HB4 := hidd (below_new (below_step HB3.out hb4) (.cells #[.int .i64 0, .int .i64 0] 52))
  clear hb4
  gi_wp2_with fail
  refine ⟨trivial, ?_⟩; gi_at_call 18; refine (callsIn_wide.2 (cW.out _ HB4.out)).mono ?_; rintro e w' ⟨rfl, rfl⟩
  gi_wp2_with fail
  refine ⟨trivial, ?_⟩; gi_at_call 14; refine (callsIn_wide.2 (cO.out _)).mono ?_; rintro e w5 ⟨rfl, hw5⟩
  obtain ⟨W7, hW7⟩ : ∃ W7, ((w4.alloc (.cells #[.int .i64 0, .int .i64 0] 52)).alloc (.cells #[.pointer none] 29)).alloc (.cells #[.int .i64 node] 3) = W7 := ⟨_, rfl⟩
  rw [hW7] at hw5
  subst hw5
  have hB7 : Below W1.heap.size W1 w5 := by rw [← hW7]; exact below_new (below_new HB4.out _) _
  have hs7 : w5.heap.size = w4.heap.size + 3 := by rw [← hW7]; simp
  have c7 : w5.cell? ⟨w4.heap.size + 1, 0, none⟩ = some (.pointer none) := by rw [← hW7]; simp [go_sem]
  have HB7 := hidd hB7
  have HS7 := hidd hs7
  clear hW7 hB7 hs7
  gi_wp2_with fail
  refine wpIn_rangeFunc_ownF rfl (by omega) (gf := 29) (lb := #[.pointer (some ⟨w4.heap.size + 1, 0, none⟩), .pointer (some ⟨w4.heap.size + 1 + 1, 0, none⟩)]) rfl trivial (enters_of Try.func29 (by kernel_rfl) rfl)
    (Out1_none (6 - 1) 0 0 (by omega) (w4.heap.size + 1) (w4.heap.size + 1 + 1) (.pointer none) w5 (.inl rfl) (by have := HS7.out; omega) c7) belowK_t (belowK_b (by omega)) (Below.refl _ _) (fun _ => rfl)
    (fun pre W => Below w5.heap.size w5 W) (fun _ _ _ => False) (ownFrom_below (Nat.le_refl _) (Nat.le_refl _)) (fun _ _ _ _ _ hs _ _ => hs)
    (Below.refl _ _)
    ?a1 ?assign ?body ?done ?stop
  case assign =>
    intro l x W K hK
    gi_wp2
    exact hK
  case body =>
    intro l pre x W _ hlt
    exact absurd hlt (Nat.not_lt_zero _)
  case stop =>
    intro D c pre W _ _ h _
    exact h.elim
  case done =>
    rintro D xs W hD rfl hI hK
    have hDl : D < W.heap.size := (Array.getElem?_eq_some_iff.1 hK).1
    have HBW := hidd (HB7.out.trans (hI.mono HB7.out.size))
    have HK := hidd hK
    clear hI hK
    gi_wp2_with fail
    refine ⟨trivial, ?_⟩; gi_at_call 19; refine (callsIn_wide.2 (cN.out _)).mono ?_; rintro e w' ⟨rfl, rfl⟩
    gi_wp2_with fail
    refine ⟨trivial, ?_⟩; gi_at_call 20; refine (callsIn_wide.2 (cE.out _ HBW.out)).mono ?_; rintro e w' ⟨rfl, rfl⟩
    gi_wp2_with fail
    refine ⟨trivial, ?_⟩; gi_at_call 12; refine (callsIn_wide.2 (cC.out _ HBW.out)).mono ?_; rintro e w' ⟨rfl, rfl⟩
    gi_wp2_with fail
    refine ⟨trivial, ?_⟩; gi_at_call 11; refine (callsIn_wide.2 (cS.out _ HBW.out)).mono ?_; rintro e w' ⟨rfl, rfl⟩
    gi_wp2_with fail
    refine ⟨trivial, ?_⟩; gi_at_call 9; refine (callsIn_wide.2 (cK.out _)).mono ?_; rintro e w8 ⟨rfl, hb8⟩
    have HB8 := hidd (below_step HBW.out hb8)
    have HK8 : Hid (w8.heap[D]? = some (.deferred (some []))) := hidd ((hb8.block D hDl).trans HK.out)
    obtain ⟨rc, rf⟩ := RC.out _ HB8.out
    have hs8 := hb8.size
    clear hb8
    gi_wp2_with fail
    have hne : D ≠ w.heap.size := by have := HS7.out; have := HZ.out; have := HB7.out.size; omega
    have HKS : (w8.setCell ⟨w.heap.size, 0, none⟩ (.bool true)).heap[D]? = some (.deferred (some [])) := (Below.heap_setCell _ _ _ _ hne).trans HK8.out
    have hrc := World.cell?_setCell_same' w8 ⟨w.heap.size, 0, none⟩ (.bool true) (by rw [rc]; rfl)
    have hgp := grownBy_putObj' (w8.setCell ⟨w.heap.size, 0, none⟩ (.bool true)) D (.deferred none)
    have hrp := cell_kept hrc hgp (fun r e => by cases e; exact ⟨_, HKS, rfl⟩)
    refine ⟨by simp, .inl ⟨_, _, rfl, run_takeDeferred HKS, ?_⟩⟩
    refine ⟨.bool true, ?_, rfl, ?_⟩
    · simp [results, Try.results5, go_sem, hrp]
    · have q1 := (HB1.out.trans (HB8.out.mono HB1.out.size)).setCell (p := ⟨w.heap.size, 0, none⟩) (Nat.le_refl _) (.bool true)
      exact q1.grown hgp q1.size (fun k e => by cases e; have := HB1.out.size; have := HB7.out.size; omega)
end Go.Proofs.Ytjnceoklnmmhjaa.Tp
