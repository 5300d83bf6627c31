/- Heaps: HeapNil. -/
import Derived.Test.YtnjkfpjccedkjaaHpX
namespace Go.Proofs.Ytnjkfpjccedkjaa.Hp
set_option linter.unusedVariables false
open Go.RowKit Go.Maps Go.Sort Go.Shelf Go.Proofs.Ytnjkfpjccedkjaa.Tp
attribute [local go_sem] Oper.semAt_some

theorem eqIn_nilFunc (f : Fn) (fs cs : Array Value) (d : Nat) (w : World) : (Op.equalIn (d + 1) 47 (.func f fs cs) .nilFunc).run Try.prog w = .ok false w := by
  simp [Op.equalIn, run_underlying Try.underlying47]
theorem eq_nilFunc (f : Fn) (fs cs : Array Value) (w : World) : (binOp .eql 47 (.func f fs cs) .nilFunc).run Try.prog w = .ok (.bool false) w := by
  simp only [binOp]
  simp [Op.equal, Op.maxDepth, eqIn_nilFunc]
set_option maxRecDepth 100000 in
set_option maxHeartbeats 4000000 in
theorem same_no (p : Value) (isn : Bool) (w : World) (hp : ∃ a, p = .pointer a) (hn : ∀ W, Below w.heap.size w W → Calls Try.prog 30 #[p] W fun e w' => e = .returned (.bool isn) ∧ W = w') :
    Calls Try.prog 20 #[.pointer none, p] w fun e w' => e = .returned (.bool isn) ∧ Below w.heap.size w w' := by
  obtain ⟨a, rfl⟩ := hp
  have c1 := hidd (fun W => isNone_no W)
  have c2 := hidd hn
  clear hn
  obtain ⟨W1, hW1⟩ : ∃ W1, (w.alloc (.cells #[.pointer a] 24)).alloc (.cells #[.bool false] 4) = W1 := ⟨_, rfl⟩
  have B1 := hidd (hW1 ▸ below_new (below_new (Below.refl _ _) _) _ : Below w.heap.size w W1)
  have r0 : W1.cell? ⟨w.heap.size, 0, none⟩ = some (.pointer a) := by rw [← hW1]; simp [go_sem]
  have r1 : W1.cell? ⟨w.heap.size + 1, 0, none⟩ = some (.bool false) := by rw [← hW1]; simp [go_sem]
  have r2 : W1.frozen? ⟨w.heap.size + 1, 0, none⟩ = false := by rw [← hW1]; simp [go_sem]
  have HW := hidd hW1
  clear hW1
  refine (callsIn_wide (n := 6)).1 ?_
  refine callsIn_of_wp_marks Try.func20 rfl trivial ?_ rfl
  simp only [Try.ntmps20, List.size_toArray, List.length_cons, List.length_nil, Nat.reduceAdd, Nat.reduceSub, Array.replicate_succ, Array.replicate_zero, List.push_toArray, List.append_toArray, List.nil_append, List.cons_append]
  gi_wp2_with fail
  rw [HW.out]
  refine ⟨trivial, ?_⟩; gi_at_call 30; refine (callsIn_wide.2 (c1.out _)).mono ?_; rintro e w' ⟨rfl, rfl⟩
  gi_wp2_with fail
  refine ⟨trivial, ?_⟩
  gi_wp2_with fail
  refine ⟨trivial, ?_⟩; gi_at_call 30; refine (callsIn_wide.2 (c1.out _)).mono ?_; rintro e w' ⟨rfl, rfl⟩
  gi_wp2_with fail
  refine ⟨trivial, ?_⟩; gi_at_call 30; refine (callsIn_wide.2 (c2.out _ B1.out)).mono ?_; rintro e w' ⟨rfl, rfl⟩
  gi_wp2_with fail
  have hrc := World.cell?_setCell_same' W1 ⟨w.heap.size + 1, 0, none⟩ (.bool isn) (by rw [r1]; rfl)
  refine ⟨.bool isn, ?_, rfl, ?_⟩
  · simp [results, Try.results20, go_sem, hrc]
  · exact B1.out.setCell (p := ⟨w.heap.size + 1, 0, none⟩) (by simp) (.bool isn)
set_option maxRecDepth 100000 in
set_option maxHeartbeats 8000000 in
theorem heapNil_walk (id : Int) (hid : -9223372036854775808 ≤ id ∧ id ≤ 9223372036854775807) (w : World) : Calls Try.prog 6 #[.int .i64 id] w fun e w' => e = .returned (.bool true) ∧ Below w.heap.size w w' := by
  have hq := fun f fs cs w => eq_nilFunc f fs cs w
  obtain ⟨W1, hW1⟩ : ∃ W1, (w.alloc (.cells #[.bool false] 4)).alloc (.cells #[.map none, .slice none 0 0, .nilFunc, .int .i64 0] 56) = W1 := ⟨_, rfl⟩
  have hz1 : W1.heap.size = w.heap.size + 2 := by rw [← hW1]; simp
  have hB1 : Below w.heap.size w W1 := by rw [← hW1]; (repeat' (first | (with_reducible exact Below.refl _ _) | (with_reducible assumption) | (with_reducible apply Below.setCell) | (with_reducible apply Below.alloc) | (with_reducible apply Below.drew) | (with_reducible apply below_drewN) | (with_reducible refine Below.trans ?_ (Below.mono (by assumption) ?_)) | omega | (simp; done) | (simp; omega)))
  have r0 : W1.cell? ⟨w.heap.size, 0, none⟩ = some (.bool false) := by rw [← hW1]; simp [go_sem]
  have r1 : W1.frozen? ⟨w.heap.size, 0, none⟩ = false := by rw [← hW1]; simp [go_sem]
  have z0 : W1.cell? ⟨w.heap.size + 1, 0, none⟩ = some (.map none) := by rw [← hW1]; simp [go_sem]
  have NZ := hidd (fun W (h : Below W1.heap.size W1 W) => show W.cell? ⟨w.heap.size + 1, 0, none⟩ = some (.map none) ∧ w.heap.size + 1 < W.heap.size from ⟨(h.cell (p := ⟨w.heap.size + 1, 0, none⟩) (show w.heap.size + 1 < W1.heap.size by omega)).trans z0, by have := h.size; omega⟩)
  have RC := hidd (fun W (h : Below W1.heap.size W1 W) => show W.cell? ⟨w.heap.size, 0, none⟩ = some (.bool false) ∧ W.frozen? ⟨w.heap.size, 0, none⟩ = false from ⟨(h.cell (p := ⟨w.heap.size, 0, none⟩) (show w.heap.size < W1.heap.size by omega)).trans r0, (h.frozen (p := ⟨w.heap.size, 0, none⟩) (show w.heap.size < W1.heap.size by omega)).trans r1⟩)
  have cT := hidd (fun W => take_none (.pointer none) W (fun W' _ => least_no W'))
  have cL := hidd (fun W (h : Below W1.heap.size W1 W) => least_zero (w.heap.size + 1) W (NZ.out W h).1)
  have cG := hidd (fun W => get_no id W)
  unfold agI zI iD kN kD tN at cT cL cG
  have cA := hidd (fun W (h : Below W1.heap.size W1 W) => all_zero (w.heap.size + 1) W (NZ.out W h).2 (NZ.out W h).1)
  have cP := hidd (fun W => put_no id 0 1 W)
  have cS := hidd (fun W (h : Below W1.heap.size W1 W) => set_zero (w.heap.size + 1) id 0 1 W (NZ.out W h).1)
  have cD := hidd (fun W => drop_no id W)
  have cE := hidd (fun W => len_no W)
  have cZ := hidd (fun W (h : Below W1.heap.size W1 W) => len_zero (w.heap.size + 1) W (NZ.out W h).1)
  have cC := hidd (fun W (h : Below W1.heap.size W1 W) => copy_zero (w.heap.size + 1) W (NZ.out W h).1)
  have cQ := hidd (fun W (h : Below W1.heap.size W1 W) => same_no (.pointer (some ⟨w.heap.size + 1, 0, none⟩)) true W ⟨_, rfl⟩ (fun W' hb => isNone_at (w.heap.size + 1) none W' (NZ.out W' (h.trans (hb.mono h.size))).1))
  have cN := hidd (fun W => newR W)
  have cR := hidd (fun h W (hl : h < W.heap.size) mb (hc : W.cell? ⟨h, 0, none⟩ = some (.map (some mb))) => same_no (.pointer (some ⟨h, 0, none⟩)) false W ⟨_, rfl⟩ (fun W' hb => isNone_at h (some mb) W' ((hb.cell (p := ⟨h, 0, none⟩) hl).trans hc)))
  have cK := hidd (fun W => known11_any W)
  have HW := hidd hW1
  have HB1 := hidd hB1
  have HZ := hidd hz1
  clear hW1 hz1 hB1 r0 r1 z0 hid
  refine (callsIn_wide (n := 6)).1 ?_
  refine callsIn_of_wp_marks Try.func6 rfl trivial ?_ rfl
  simp only [Try.ntmps6, List.size_toArray, List.length_cons, List.length_nil, Nat.reduceAdd, Nat.reduceSub, Array.replicate_succ, Array.replicate_zero, List.push_toArray, List.append_toArray, List.nil_append, List.cons_append]
  gi_wp2_with fail
  rw [HW.out]
  refine ⟨trivial, ?_⟩; gi_at_call 16; refine (callsIn_wide.2 (cT.out _)).mono ?_; rintro e w2 ⟨rfl, hb2⟩
  have HB2 := hidd (below_new hb2 (.cells #[.int .i64 0, .int .i64 0, .int .i64 0, .int .i64 0] 37))
  clear hb2
  gi_wp2_with fail
  refine ⟨trivial, ?_⟩; gi_at_call 15; refine (callsIn_wide.2 (cL.out _ HB2.out)).mono ?_; rintro e w3 ⟨rfl, hb3⟩
  have HB3 := hidd (below_new (below_step HB2.out hb3) (.cells #[.int .i64 0, .int .i64 0, .int .i64 0, .int .i64 0] 37))
  clear hb3
  gi_wp2_with fail
  refine ⟨trivial, ?_⟩; gi_at_call 12; refine (callsIn_wide.2 (cG.out _)).mono ?_; rintro e w4 ⟨rfl, hb4⟩
  have HB4 := hidd (below_new (below_step HB3.out hb4) (.cells #[.int .i64 0, .int .i64 0, .int .i64 0, .int .i64 0] 37))
  clear hb4
  gi_wp2_with fail
  refine ⟨trivial, ?_⟩; gi_at_call 19; refine (callsIn_wide.2 (cA.out _ HB4.out)).mono ?_; rintro e w5 ⟨q, rfl, hb5, hq5, hc5⟩
  have HB5 := hidd (below_step HB4.out hb5)
  have HS5 := hidd hb5.size
  clear hb5
  gi_wp2_with fail

  refine wpIn_rangeFunc_ownF rfl (by omega) (gf := 54) (lb := #[.pointer (some ⟨q, 0, none⟩)]) rfl trivial (enters_of Try.func54 (by kernel_rfl) rfl)
    (values1_none (α := Empty) (fun x => x.elim) (6 - 1) 0 0 (by omega) q w5 hq5 hc5) belowK_t (belowK_b (by omega)) (Below.refl _ _) (fun x => x.elim)
    (fun pre W => Below w5.heap.size w5 W) (fun _ _ _ => False) (ownFrom_below (Nat.le_refl _) (Nat.le_refl _)) (fun _ _ _ _ _ hs _ _ => hs)
    (Below.refl _ _)
    ?a1 ?assign ?body ?done ?stop
  case a1 => exact fun x => x.elim
  case assign => exact fun l x => x.elim
  case body => exact fun l pre x => x.elim
  case stop =>
    intro D c pre W _ _ h _
    exact h.elim
  case done =>
    rintro D xs W hD rfl hI hK
    have hDl : D < W.heap.size := (Array.getElem?_eq_some_iff.1 hK).1
    have HBW := hidd (HB5.out.trans (hI.mono HB5.out.size))
    have HK := hidd hK
    clear hI hK hq5 hc5
    gi_wp2_with fail
    refine ⟨trivial, ?_⟩; gi_at_call 22; refine (callsIn_wide.2 (cP.out _)).mono ?_; rintro e w6 ⟨rfl, hb6⟩
    have HB6 := hidd (below_step HBW.out hb6)
    have HK6 : Hid (w6.heap[D]? = some (.deferred (some [])) ∧ D < w6.heap.size) := hidd ⟨(hb6.block D hDl).trans HK.out, Nat.lt_of_lt_of_le hDl hb6.size⟩
    clear hb6
    gi_wp2_with fail
    refine ⟨trivial, ?_⟩; gi_at_call 23; refine (callsIn_wide.2 (cS.out _ HB6.out)).mono ?_; rintro e w7 ⟨rfl, hb7⟩
    have HB7 := hidd (below_step HB6.out hb7)
    have HK7 : Hid (w7.heap[D]? = some (.deferred (some [])) ∧ D < w7.heap.size) := hidd ⟨(hb7.block D HK6.out.2).trans HK6.out.1, Nat.lt_of_lt_of_le HK6.out.2 hb7.size⟩
    clear hb7
    gi_wp2_with fail
    refine ⟨trivial, ?_⟩; gi_at_call 24; refine (callsIn_wide.2 (cD.out _)).mono ?_; rintro e w' ⟨rfl, rfl⟩
    gi_wp2_with fail
    refine ⟨trivial, ?_⟩; gi_at_call 14; refine (callsIn_wide.2 (cE.out _)).mono ?_; rintro e w' ⟨rfl, rfl⟩
    gi_wp2_with fail
    refine ⟨trivial, ?_⟩; gi_at_call 14; refine (callsIn_wide.2 (cZ.out _ HB7.out)).mono ?_; rintro e w' ⟨rfl, rfl⟩
    gi_wp2_with fail
    refine ⟨trivial, ?_⟩; gi_at_call 18; refine (callsIn_wide.2 (cC.out _ HB7.out)).mono ?_; rintro e w' ⟨rfl, rfl⟩
    gi_wp2_with fail
    refine ⟨trivial, ?_⟩; gi_at_call 20; refine (callsIn_wide.2 (cQ.out _ HB7.out)).mono ?_; rintro e w8 ⟨rfl, hb8⟩
    have HB8 := hidd (below_step HB7.out hb8)
    have HK8 : Hid (w8.heap[D]? = some (.deferred (some [])) ∧ D < w8.heap.size) := hidd ⟨(hb8.block D HK7.out.2).trans HK7.out.1, Nat.lt_of_lt_of_le HK7.out.2 hb8.size⟩
    clear hb8
    gi_wp2_with fail
    refine ⟨trivial, ?_⟩; gi_at_call 9; refine (callsIn_wide.2 (cN.out _)).mono ?_; rintro e w9 ⟨rfl, ⟨R, hR, _⟩, hb9⟩
    have HB9 := hidd (below_step HB8.out hb9)
    have HK9 : Hid (w9.heap[D]? = some (.deferred (some [])) ∧ D < w9.heap.size) := hidd ⟨(hb9.block D HK8.out.2).trans HK8.out.1, Nat.lt_of_lt_of_le HK8.out.2 hb9.size⟩
    have CR := hidd (show _ from by
      obtain ⟨_, mb, v, L, DD, _, hH, _⟩ := hR
      exact cR.out (w8.heap.size + 1) w9 hH.at_.lt mb hH.at_.c0)
    clear hb9 hR
    gi_wp2_with fail
    refine ⟨trivial, ?_⟩; gi_at_call 20; refine (callsIn_wide.2 (CR.out)).mono ?_; rintro e w10 ⟨rfl, hb10⟩
    have HB10 := hidd (below_step HB9.out hb10)
    have HK10 : Hid (w10.heap[D]? = some (.deferred (some [])) ∧ D < w10.heap.size) := hidd ⟨(hb10.block D HK9.out.2).trans HK9.out.1, Nat.lt_of_lt_of_le HK9.out.2 hb10.size⟩
    clear hb10
    gi_wp2_with fail
    refine ⟨trivial, ?_⟩; gi_at_call 8; refine (callsIn_wide.2 (cK.out _)).mono ?_; rintro e w11 ⟨rfl, hb11⟩
    have HB11 := hidd (below_step HB10.out hb11)
    have HK11 : Hid (w11.heap[D]? = some (.deferred (some [])) ∧ D < w11.heap.size) := hidd ⟨(hb11.block D HK10.out.2).trans HK10.out.1, Nat.lt_of_lt_of_le HK10.out.2 hb11.size⟩
    clear hb11
    obtain ⟨rc, rf⟩ := RC.out _ HB11.out
    gi_wp2_with fail
    have hne : D ≠ w.heap.size := by have := HS5.out; have := HZ.out; have := HB5.out.size; omega
    have HKS : (w11.setCell ⟨w.heap.size, 0, none⟩ (.bool true)).heap[D]? = some (.deferred (some [])) := (Below.heap_setCell _ _ _ _ hne).trans HK11.out.1
    have hrc := World.cell?_setCell_same' w11 ⟨w.heap.size, 0, none⟩ (.bool true) (by rw [rc]; rfl)
    have hgp := grownBy_putObj' (w11.setCell ⟨w.heap.size, 0, none⟩ (.bool true)) D (.deferred none)
    have hrp := cell_kept hrc hgp (fun r e => by cases e; exact ⟨_, HKS, rfl⟩)
    refine ⟨by simp, .inl ⟨_, _, rfl, run_takeDeferred HKS, ?_⟩⟩
    refine ⟨.bool true, ?_, rfl, ?_⟩
    · simp [results, Try.results6, go_sem, hrp]
    · have q1 := (HB1.out.trans (HB11.out.mono HB1.out.size)).setCell (p := ⟨w.heap.size, 0, none⟩) (Nat.le_refl _) (.bool true)
      exact q1.grown hgp q1.size (fun k e => by cases e; have := HB1.out.size; have := HB5.out.size; omega)
end Go.Proofs.Ytnjkfpjccedkjaa.Hp
