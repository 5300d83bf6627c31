/- Heaps: going over what is not there. -/
import Derived.Test.YtnjkfpjccedkjaaHpK
import Derived.Test.YtnjkfpjccedkjaaHpM
import Derived.Test.YtnjkfpjccedkjaaShelfS
import Derived.Shelf.SlSortCmp.NoneTotal
import Derived.RangeFuncNested
import Derived.RangeFuncBound
import Derived.RangeFuncCalls
import Derived.RangeFuncLeaves
import Derived.RangeFuncBox
import Derived.Shelf.RegionOpen
import Derived.OwnWalkIn
import Derived.TacticsInMore
import Derived.LoopNIn
import Derived.LoopIn
namespace Go.Proofs.Ytnjkfpjccedkjaa.Hp
set_option linter.unusedVariables false
open Go.RowKit Go.Maps Go.Sort Go.Shelf Go.Proofs.Ytnjkfpjccedkjaa.Tp
attribute [local go_sem] Oper.semAt_some

theorem abides_below {β : Type} {B : Nat} {J : β → World → Prop} (hJ : AbidesFrom B J) {s : β} {W W' : World} (h : J s W) (hb : Below W.heap.size W W') : J s W' := hJ s W W' none h ⟨hb.os, hb.tape, hb.output, hb.size, fun k hk _ => hb.block k hk⟩ (fun r e => by cases e)
theorem each_any (a : Option Addr) (w : World) : Calls Try.prog 41 #[.pointer a] w fun e w' => e = .returned (.func (.func 57) #[] #[.pointer (some ⟨w.heap.size, 0, none⟩)]) ∧ w' = w.alloc (.cells #[.pointer a] 24) := by
  have hmf : ∀ (fn : Fn) (first cap : Array Value) (w : World), (Instr.makeFunc fn first cap).run Try.prog w = .ok (.func fn first cap) w := fun _ _ _ _ => rfl
  go_enter Try.func41, Try.ntmps41
  go_wp2
  go_ret
  exact ⟨rfl, rfl⟩
theorem values_any (v : Value) (hv : ∃ A n c, v = .slice A n c) (w : World) : Calls Try.prog 39 #[v] w fun e w' => e = .returned (.func (.func 54) #[] #[.pointer (some ⟨w.heap.size, 0, none⟩)]) ∧ w' = w.alloc (.cells #[v] 26) := by
  have hmf : ∀ (fn : Fn) (first cap : Array Value) (w : World), (Instr.makeFunc fn first cap).run Try.prog w = .ok (.func fn first cap) w := fun _ _ _ _ => rfl
  obtain ⟨A, n, c, rfl⟩ := hv
  go_enter Try.func39, Try.ntmps39
  go_wp2
  go_ret
  exact ⟨rfl, rfl⟩
set_option maxRecDepth 100000 in
set_option maxHeartbeats 4000000 in
theorem each1_none {α : Type} (encs : α → Array Value) (n n₀ N : Nat) (hn : 1 ≤ n) (q b : Nat) (w : World) (hq : q < w.heap.size) (hc : w.cell? ⟨q, 0, none⟩ = some (.pointer (some ⟨b, 0, none⟩))) (hb : b < w.heap.size) (hz : w.cell? ⟨b, 0, none⟩ = some (.map none)) :
    SeqStopsK Fence.wide n Try.prog 57 #[.pointer (some ⟨q, 0, none⟩)] encs (Below n₀) (fun xs => xs = []) (fun _ => False) N w := by
  intro l J Jx W hW hJ hJx hY h0
  have hc1 := (hW.cell (p := ⟨q, 0, none⟩) hq).trans hc
  have ci := hidd (len_zero b W ((hW.cell (p := ⟨b, 0, none⟩) hb).trans hz))
  have HJ := hidd h0
  clear hW hJ hJx hY h0 hc hz
  refine callsIn_of_wp Try.func57 rfl trivial ?_ rfl
  simp only [Try.ntmps57, List.size_toArray, List.length_cons, List.length_nil, Nat.reduceAdd, Nat.reduceSub, Array.replicate_succ, Array.replicate_zero, List.push_toArray, List.append_toArray, List.nil_append, List.cons_append]
  refine wpIn_wide.2 ?_
  go_wp2_with fail
  refine ci.out.mono ?_
  rintro e w' ⟨rfl, rfl⟩
  go_wp2_with fail
  refine wp_loop_rounds 1 ?_
  rw [rounds_succ]
  go_wp2_with fail
  exact ⟨rfl, _, results_none rfl _ _ _, ⟨_, rfl⟩, .inl ⟨_, rfl, HJ.out⟩⟩
set_option maxRecDepth 100000 in
set_option maxHeartbeats 4000000 in
theorem values1_none {α : Type} (encs : α → Array Value) (n n₀ N : Nat) (hn : 1 ≤ n) (q : Nat) (w : World) (hq : q < w.heap.size) (hc : w.cell? ⟨q, 0, none⟩ = some (.slice none 0 0)) :
    SeqStopsK Fence.wide n Try.prog 54 #[.pointer (some ⟨q, 0, none⟩)] encs (Below n₀) (fun xs => xs = []) (fun _ => False) N w := by
  intro l J Jx W hW hJ hJx hY h0
  have hc1 := (hW.cell (p := ⟨q, 0, none⟩) hq).trans hc
  have HJ := hidd h0
  clear hW hJ hJx hY h0 hc
  refine callsIn_of_wp Try.func54 rfl trivial ?_ rfl
  simp only [Try.ntmps54, List.size_toArray, List.length_cons, List.length_nil, Nat.reduceAdd, Nat.reduceSub, Array.replicate_succ, Array.replicate_zero, List.push_toArray, List.append_toArray, List.nil_append, List.cons_append]
  refine wpIn_wide.2 ?_
  go_wp2_with fail
  refine wp_loop_rounds 1 ?_
  rw [rounds_succ]
  go_wp2_with fail
  exact ⟨rfl, _, results_none rfl _ _ _, ⟨_, rfl⟩, .inl ⟨_, rfl, HJ.out⟩⟩
set_option maxRecDepth 100000 in
set_option maxHeartbeats 4000000 in
theorem append_none (q b : Nat) (w : World) (hq : q < w.heap.size) (hc : w.cell? ⟨q, 0, none⟩ = some (.pointer (some ⟨b, 0, none⟩))) (hb : b < w.heap.size) (hz : w.cell? ⟨b, 0, none⟩ = some (.map none)) :
    Calls Try.prog 67 #[.slice none 0 0, .func (.func 57) #[] #[.pointer (some ⟨q, 0, none⟩)]] w fun e w' => e = .returned (.slice none 0 0) ∧ Below w.heap.size w w' := by
  have HIT := hidd (fun W (h : Below w.heap.size w W) => each1_none (α := Empty) (fun x => x.elim) (6 - 1) 0 0 (by omega) q b W (Nat.lt_of_lt_of_le hq h.size) ((h.cell (p := ⟨q, 0, none⟩) hq).trans hc) (Nat.lt_of_lt_of_le hb h.size) ((h.cell (p := ⟨b, 0, none⟩) hb).trans hz))
  clear hc hz hq hb
  refine (callsIn_wide (n := 6)).1 ?_
  refine callsIn_of_wp_marks Try.func67 rfl trivial ?_ rfl
  simp only [Try.ntmps67, List.size_toArray, List.length_cons, List.length_nil, Nat.reduceAdd, Nat.reduceSub, Array.replicate_succ, Array.replicate_zero, List.push_toArray, List.append_toArray, List.nil_append, List.cons_append]
  gi_wp2_with fail
  obtain ⟨W5, hW5⟩ : ∃ W5, w.alloc (.cells #[.slice none 0 0] 26) = W5 := ⟨_, rfl⟩
  rw [hW5]
  have B5 : Hid (Below w.heap.size w W5) := hidd (hW5 ▸ below_new (Below.refl _ _) _)
  have s5 : w.heap.size < W5.heap.size := by rw [← hW5]; simp
  have x0 : Hid (W5.cell? ⟨w.heap.size, 0, none⟩ = some (.slice none 0 0)) := hidd (by rw [← hW5]; simp [go_sem])
  clear hW5
  refine wpIn_rangeFunc_ownF rfl (by omega) (gf := 57) (lb := #[.pointer (some ⟨q, 0, none⟩)]) rfl trivial (enters_of Try.func57 (by kernel_rfl) rfl)
    (HIT.out _ B5.out) belowK_t (belowK_b (by omega)) (Below.refl _ _) (fun x => x.elim)
    (fun pre W => Below W5.heap.size W5 W) (fun _ _ _ => False) (ownFrom_below (Nat.le_refl _) (Nat.le_refl _)) (fun _ _ _ _ _ hs _ _ => hs)
    (Below.refl _ _)
    ?a1 ?assign ?body ?done ?stop
  case a1 => exact fun x => x.elim
  case assign => exact fun l x => x.elim
  case body => exact fun l pre x => x.elim
  case stop =>
    intro D c pre W _ _ h _
    exact h.elim
  case done =>
    rintro D xs W hD rfl hI hK
    have hDl : D < W.heap.size := (Array.getElem?_eq_some_iff.1 hK).1
    have c1 := (hI.cell (p := ⟨w.heap.size, 0, none⟩) s5).trans x0.out
    have HBW := hidd (B5.out.trans (hI.mono (Nat.le_of_lt s5)))
    have HK := hidd hK
    have hs8 := hI.size
    clear hI hK
    gi_wp2_with fail
    have hgp := grownBy_putObj' W D (.deferred none)
    refine ⟨by simp, .inl ⟨_, _, rfl, run_takeDeferred HK.out, ?_⟩⟩
    refine ⟨.slice none 0 0, ?_, rfl, ?_⟩
    · simp [results, Try.results67, go_sem]
    · exact HBW.out.grown hgp (by have := HBW.out.size; omega) (fun k e => by cases e; omega)
theorem collect_none (q b : Nat) (w : World) (hq : q < w.heap.size) (hc : w.cell? ⟨q, 0, none⟩ = some (.pointer (some ⟨b, 0, none⟩))) (hb : b < w.heap.size) (hz : w.cell? ⟨b, 0, none⟩ = some (.map none)) :
    Calls Try.prog 55 #[.func (.func 57) #[] #[.pointer (some ⟨q, 0, none⟩)]] w fun e w' => e = .returned (.slice none 0 0) ∧ Below w.heap.size w w' := by
  have c := hidd (append_none q b w hq hc hb hz)
  clear hq hc hb hz
  go_enter Try.func55, Try.ntmps55
  go_wp2_with fail
  refine c.out.mono ?_
  rintro e w' ⟨rfl, hb⟩
  go_wp2_with fail
  go_ret
  exact ⟨rfl, hb⟩
theorem sorted_none (q b : Nat) (fv : Value) (hfv : fv.oneCell' = true) (w : World) (hq : q < w.heap.size) (hc : w.cell? ⟨q, 0, none⟩ = some (.pointer (some ⟨b, 0, none⟩))) (hb : b < w.heap.size) (hz : w.cell? ⟨b, 0, none⟩ = some (.map none)) :
    Calls Try.prog 40 #[.func (.func 57) #[] #[.pointer (some ⟨q, 0, none⟩)], fv] w fun e w' => e = .returned (.slice none 0 0) ∧ Below w.heap.size w w' := by
  have c := hidd (collect_none q b w hq hc hb hz)
  have cs := hidd (fun W => AnyF.slices_SortFunc_none Try.sortItem0 none 0 fv W)
  change Hid (∀ W, Calls Try.prog 56 _ _ _) at cs
  clear hq hc hb hz
  go_enter Try.func40, Try.ntmps40
  go_wp2_with fail
  refine c.out.mono ?_
  rintro e w' ⟨rfl, hb⟩
  go_wp2_with fail
  refine (cs.out _).mono ?_
  rintro e w'' ⟨rfl, rfl⟩
  go_wp2_with fail
  go_ret
  exact ⟨rfl, hb⟩
theorem all_zero (b : Nat) (w : World) (hb : b < w.heap.size) (hz : w.cell? ⟨b, 0, none⟩ = some (.map none)) :
    Calls Try.prog 19 #[.pointer (some ⟨b, 0, none⟩)] w fun e w' => ∃ q, e = .returned (.func (.func 54) #[] #[.pointer (some ⟨q, 0, none⟩)]) ∧ Below w.heap.size w w' ∧ q < w'.heap.size ∧ w'.cell? ⟨q, 0, none⟩ = some (.slice none 0 0) := by
  have c1 := hidd (fun W => each_any (some ⟨b, 0, none⟩) W)
  have c2 := hidd (fun W (h : Below w.heap.size w W) q (hq : q < W.heap.size) (hc : W.cell? ⟨q, 0, none⟩ = some (.pointer (some ⟨b, 0, none⟩))) fv hf => sorted_none q b fv hf W hq hc (Nat.lt_of_lt_of_le hb h.size) ((h.cell (p := ⟨b, 0, none⟩) hb).trans hz))
  have c3 := hidd (fun W => values_any (.slice none 0 0) ⟨_, _, _, rfl⟩ W)
  clear hb hz
  go_enter Try.func19, Try.ntmps19
  go_wp2_with fail
  refine (c1.out _).mono ?_
  rintro e w1 ⟨rfl, h1⟩
  have B1 := hidd (h1 ▸ below_new (Below.refl _ _) _ : Below w.heap.size w w1)
  have s1 : w.heap.size < w1.heap.size := by rw [h1]; simp
  have x1 : w1.cell? ⟨w.heap.size, 0, none⟩ = some (.pointer (some ⟨b, 0, none⟩)) := by rw [h1]; simp [go_sem]
  clear h1
  go_wp2_with fail
  refine (c2.out _ B1.out _ s1 x1 _ rfl).mono ?_
  rintro e w2 ⟨rfl, h2⟩
  have B2 := hidd (B1.out.trans (h2.mono B1.out.size))
  clear h2 x1 s1
  go_wp2_with fail
  refine (c3.out _).mono ?_
  rintro e w3 ⟨rfl, h3⟩
  have B3 := hidd (h3 ▸ below_new B2.out _ : Below w.heap.size w w3)
  have s3 : w2.heap.size < w3.heap.size := by rw [h3]; simp
  have x3 : w3.cell? ⟨w2.heap.size, 0, none⟩ = some (.slice none 0 0) := by rw [h3]; simp [go_sem]
  clear h3
  go_wp2_with fail
  go_ret
  exact ⟨_, rfl, B3.out, s3, x3⟩
theorem copy_zero (b : Nat) (w : World) (hz : w.cell? ⟨b, 0, none⟩ = some (.map none)) : Calls Try.prog 18 #[.pointer (some ⟨b, 0, none⟩)] w fun e w' => e = .returned (.pointer none) ∧ w = w' := by
  have c := hidd (isNone_at b none w hz)
  go_enter Try.func18, Try.ntmps18
  go_wp2_with fail
  refine c.out.mono ?_
  rintro e w' ⟨rfl, rfl⟩
  go_wp2_with fail
  go_ret
  exact ⟨rfl, rfl⟩
end Go.Proofs.Ytnjkfpjccedkjaa.Hp
