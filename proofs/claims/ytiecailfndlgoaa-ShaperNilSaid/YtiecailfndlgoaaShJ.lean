/- Shapers: ShaperNil's walk. -/
import Derived.Test.YtiecailfndlgoaaShI
namespace Go.Proofs.Ytiecailfndlgoaa
open Go.RowKit Go.Sort
set_option linter.unusedVariables false
attribute [local go_sem] Oper.semAt_some
theorem eqIn_nilFunc13 (f : Fn) (fs cs : Array Value) (d : Nat) (w : World) : (Op.equalIn (d + 1) 66 (.func f fs cs) .nilFunc).run Try.prog w = .ok false w := by
  simp [Op.equalIn, run_underlying Try.underlying66]
theorem eq_nilFunc13 (f : Fn) (fs cs : Array Value) (w : World) : (binOp .eql 66 (.func f fs cs) .nilFunc).run Try.prog w = .ok (.bool false) w := by
  simp only [binOp]
  simp [Op.equal, Op.maxDepth, eqIn_nilFunc13 f fs cs 9999 w]
theorem SeqV.empty {α : Type} {F : Fence} {n : Nat} {P : Program} {g : Nat} {lb : Array Value} {encs : α → Array Value} {encs' : Empty → Array Value} {Rd : World → Prop} (h : SeqV F n P g lb encs ([] : List α) Rd) : SeqV F n P g lb encs' ([] : List Empty) Rd := fun l J Jx W h1 h2 _ h4 => h l J Jx W h1 h2 (fun k X hk => absurd hk (by simp)) h4
/-- the law's own boxes: the packet, what is answered, a shaper of nothing. -/
structure NilK (w : World) (Z : Nat) (i z : Int) (W : World) : Prop where
  x0 : W.cell? ⟨w.heap.size, 0, none⟩ = some (.int .i64 i)
  x1 : W.cell? ⟨w.heap.size, 1, none⟩ = some (.int .i64 z)
  r0 : W.cell? ⟨w.heap.size + 1, 0, none⟩ = some (.bool false)
  r1 : W.frozen? ⟨w.heap.size + 1, 0, none⟩ = false
  z0 : PtrAt W Z none
  bel : Below w.heap.size w W
theorem NilK.below {w W W' : World} {Z : Nat} {i z : Int} (h : NilK w Z i z W) (hb : Below W.heap.size W W') : NilK w Z i z W' :=
  ⟨(hb.cell (p := ⟨w.heap.size, 0, none⟩) (World.block_lt_of_cell? W _ h.x0)).trans h.x0, (hb.cell (p := ⟨w.heap.size, 1, none⟩) (World.block_lt_of_cell? W _ h.x1)).trans h.x1, (hb.cell (p := ⟨w.heap.size + 1, 0, none⟩) (World.block_lt_of_cell? W _ h.r0)).trans h.r0, (hb.frozen (p := ⟨w.heap.size + 1, 0, none⟩) (World.block_lt_of_cell? W _ h.r0)).trans h.r1, (hb.cell (p := ⟨Z, 0, none⟩) (World.block_lt_of_cell? W _ h.z0)).trans h.z0, below_step h.bel hb⟩
set_option maxRecDepth 100000 in
set_option maxHeartbeats 8000000 in
set_option pp.deepTerms true in
set_option pp.maxSteps 100000 in
theorem nil13_walk (i z n : Int) (w : World) :
    Calls Try.prog 7 #[.agg #[.int .i64 i, .int .i64 z], .int .i64 n] w fun e w' => e = .returned (.bool true) ∧ Below w.heap.size w w' := by
  have hqn := fun f fs cs w => eq_nilFunc13 f fs cs w
  have he := fun w => spec_eq 0 0 0 0 0 w
  have cK := hidd (fun W => known13_any W)
  have cG := hidd (fun W => go_nil n W)
  have cX := hidd (fun W h (hz : PtrAt W h none) => next_zero hz)
  have cA := hidd (fun W h (hz : PtrAt W h none) => all_zero hz)
  have cP := hidd (fun W => put_nil i z W)
  have cQ := hidd (fun W h (hz : PtrAt W h none) => put_zero (h := h) i z W hz)
  have cB := hidd (fun W => bytes_nil W)
  have cC := hidd (fun W h (hz : PtrAt W h none) => bytes_zero hz)
  have cS := hidd (fun W h (hz : PtrAt W h none) => spec_zero hz)
  have cY := hidd (fun W => copy_nil W)
  have cE := hidd (fun W h (hz : PtrAt W h none) => same_none hz)
  obtain ⟨W1, hW1⟩ : ∃ W1, ((w.alloc (.cells #[.int .i64 i, .int .i64 z] 41)).alloc (.cells #[.bool false] 4)).alloc (.cells #[.pointer none] 64) = W1 := ⟨_, rfl⟩
  have K1 : Hid (NilK w (w.heap.size + 2) i z W1) := hidd (by rw [← hW1]; exact ⟨by simp [go_sem], by simp [go_sem], by simp [go_sem], by simp [go_sem], by unfold PtrAt; simp [go_sem], by (repeat' (first | (with_reducible exact Below.refl _ _) | (with_reducible assumption) | (with_reducible apply Below.setCell) | (with_reducible apply Below.alloc) | (with_reducible apply Below.drew) | (with_reducible apply below_drewN) | (with_reducible refine Below.trans ?_ (Below.mono (by assumption) ?_)) | omega | (simp; done) | (simp; omega)))⟩)
  have HW := hidd hW1
  clear hW1
  refine (callsIn_wide (n := 6)).1 ?_
  refine callsIn_of_wp_marks Try.func7 rfl trivial ?_ rfl
  simp only [Try.ntmps7, List.size_toArray, List.length_cons, List.length_nil, Nat.reduceAdd, Nat.reduceSub, Array.replicate_succ, Array.replicate_zero, List.push_toArray, List.append_toArray, List.nil_append, List.cons_append]
  refine wpIn_wide.2 ?_
  go_wp2_with fail
  rw [HW.out]
  refine (cG.out _).mono ?_
  rintro e w2 ⟨rfl, hb⟩
  have K2 := hidd (K1.out.below hb)
  clear hb
  go_wp2_with fail
  refine (cX.out _ _ K2.out.z0).mono ?_
  rintro e w3 ⟨rfl, rfl⟩
  go_wp2_with fail
  refine (cA.out _ _ K2.out.z0).mono ?_
  rintro e w3 ⟨rfl, hw3⟩
  have K3 := hidd (K2.out.below (show Below w2.heap.size w2 w3 from by rw [hw3]; exact below_new (Below.refl _ _) _))
  have QC := hidd (show w3.cell? ⟨w2.heap.size, 0, none⟩ = some (.slice none 0 0) ∧ w2.heap.size < w3.heap.size from by rw [hw3]; exact ⟨by simp [go_sem], by simp⟩)
  clear hw3
  generalize w2.heap.size = Q at *
  go_wp2_with fail
  refine (wpIn_wide (n := 6)).1 ?_
  refine wpIn_rangeFunc_V (L := ([] : List Empty)) (encs := fun _ : Empty => #[]) rfl (by omega) (gf := 57) (lb := #[.pointer (some ⟨Q, 0, none⟩)]) rfl trivial (enters_of Try.func57 (by kernel_rfl) rfl)
    (vals1_in (6 - 1) (by omega) Q none 0 [] (by simp)).empty (fun x => x.elim)
    (fun _ W => Below w3.heap.size w3 W) (fun _ _ _ => False)
    ?read ?own ?ownx ?start (fun x => x.elim)
    ?af ?assign ?body ?done ?stop
  case read => exact fun k W hb => ⟨(hb.cell (p := ⟨Q, 0, none⟩) QC.out.2).trans QC.out.1, Lie.nil⟩
  case own => exact fun k W Y hb hr => ⟨hr.os.trans hb.os, hr.tape.trans hb.tape, hr.output.trans hb.output, Nat.le_trans hb.size hr.size, fun j hj => (hr.block j (Nat.lt_of_lt_of_le hj hb.size) (by omega) (by omega)).trans (hb.block j hj)⟩
  case ownx => exact fun _ _ _ _ h _ => h
  case start => exact Below.refl _ _
  case af => exact fun x _ => x.elim
  case assign => exact fun l k x => x.elim
  case body => exact fun l k q W hk => absurd hk (by simp)
  case stop => exact fun D c k W _ hk => absurd hk (by simp)
  case done =>
    rintro D W hD hb hK
    subst hD
    have K4 := hidd (K3.out.below hb)
    have HK := hidd hK
    clear hb hK
    have x0 := K4.out.x0
    have x1 := K4.out.x1
    go_wp2_with fail
    refine (cP.out _).mono ?_
    rintro e w5 ⟨rfl, hb⟩
    have K5 := hidd (K4.out.below hb)
    have HK5 := hidd ((hb.block _ (Array.getElem?_eq_some_iff.1 HK.out).1).trans HK.out)
    have x0 := K5.out.x0
    have x1 := K5.out.x1
    clear hb
    go_wp2_with fail
    refine (cQ.out _ _ K5.out.z0).mono ?_
    rintro e w6 ⟨rfl, hb⟩
    have K6 := hidd (K5.out.below hb)
    have HK6 := hidd ((hb.block _ (Array.getElem?_eq_some_iff.1 HK5.out).1).trans HK5.out)
    clear hb
    go_wp2_with fail
    refine (cB.out _).mono ?_
    rintro e w7 ⟨rfl, rfl⟩
    go_wp2_with fail
    refine (cC.out _ _ K6.out.z0).mono ?_
    rintro e w7 ⟨rfl, rfl⟩
    go_wp2_with fail
    refine (cS.out _ _ K6.out.z0).mono ?_
    rintro e w7 ⟨rfl, hb⟩
    have K7 := hidd (K6.out.below hb)
    have HK7 := hidd ((hb.block _ (Array.getElem?_eq_some_iff.1 HK6.out).1).trans HK6.out)
    clear hb
    go_wp2_with fail
    refine (cY.out _).mono ?_
    rintro e w8 ⟨rfl, rfl⟩
    go_wp2_with fail
    refine (cE.out _ _ K7.out.z0).mono ?_
    rintro e w8 ⟨rfl, rfl⟩
    go_wp2_with fail
    refine (cK.out _).mono ?_
    rintro e w8 ⟨rfl, hb⟩
    have K8 := hidd (K7.out.below hb)
    have HK8 := hidd ((hb.block _ (Array.getElem?_eq_some_iff.1 HK7.out).1).trans HK7.out)
    have r0 := K8.out.r0
    have r1 := K8.out.r1
    clear hb x0 x1
    go_wp2_with fail
    have hne : w3.heap.size ≠ w.heap.size + 1 := by have := World.block_lt_of_cell? w3 _ K3.out.r0; have h2 : w.heap.size + 1 < w3.heap.size := this; omega
    have hKS : (w8.setCell ⟨w.heap.size + 1, 0, none⟩ (.bool true)).heap[w3.heap.size]? = some (.deferred (some [])) := (Below.heap_setCell _ _ _ _ hne).trans HK8.out
    have hrc : (w8.setCell ⟨w.heap.size + 1, 0, none⟩ (.bool true)).cell? ⟨w.heap.size + 1, 0, none⟩ = some (.bool true) := World.cell?_setCell_same' w8 ⟨w.heap.size + 1, 0, none⟩ (.bool true) (by rw [r0]; rfl)
    have hgp := grownBy_putObj' (w8.setCell ⟨w.heap.size + 1, 0, none⟩ (.bool true)) w3.heap.size (.deferred none)
    have hrp := cell_kept hrc hgp (fun r e => by cases e; exact ⟨_, hKS, rfl⟩)
    refine ⟨by simp, .inl ⟨_, _, rfl, run_takeDeferred hKS, ?_⟩⟩
    refine ⟨.bool true, ?_, rfl, ?_⟩
    · simp [results, Try.results7, go_sem, hrp]
    · exact (K8.out.bel.setCell (p := ⟨w.heap.size + 1, 0, none⟩) (by show w.heap.size ≤ w.heap.size + 1; omega) (.bool true)).grown hgp (K8.out.bel.setCell (p := ⟨w.heap.size + 1, 0, none⟩) (by show w.heap.size ≤ w.heap.size + 1; omega) (.bool true)).size (fun k e => by cases e; exact K3.out.bel.size)
end Go.Proofs.Ytiecailfndlgoaa
