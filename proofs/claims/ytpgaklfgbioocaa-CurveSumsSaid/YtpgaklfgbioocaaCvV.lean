/- Curves: what every law of the layer looks at besides. -/
import Derived.Test.YtpgaklfgbioocaaCvU
namespace Go.Proofs.Ytpgaklfgbioocaa
set_option linter.unusedVariables false
open Go.RowKit Go.Proofs.Ytpgaklfgbioocaa.RowK

theorem lie_lit (w : World) (L : List (Int × Int)) (T : TypeId) (cs : Array Value) (h : cs.toList = rowOf sendV L) : Lie sendV 2 (w.alloc (.cells cs T)) (w.alloc (.cells cs T)).heap.size (some ⟨w.heap.size, 0, none⟩) L := fun _ => by
  refine ⟨_, rfl, by simp, fun i x hx j v hv => ?_⟩
  have h1 := row_at sendV_len L i x hx j v hv
  rw [← h, Array.getElem?_toList] at h1
  rw [add_zero_off]
  have hh : (w.alloc (.cells cs T)).heap[w.heap.size]? = some (.cells cs T) := World.alloc_heap_new w _
  simp only [World.cell?, hh, Option.isSome_none, Bool.false_eq_true, if_false]
  exact h1
theorem lie_lit2 (w : World) (b : Nat) (hb : w.heap.size = b) (L : List (Int × Int)) (T : TypeId) (cs : Array Value) (h : cs.toList = rowOf sendV L) : Lie sendV 2 (w.alloc (.cells cs T)) (w.alloc (.cells cs T)).heap.size (some ⟨b, 0, none⟩) L := by
  subst hb; exact lie_lit w L T cs h
theorem low_rising {l : List (Int × Int)} (h : l.Pairwise (fun a b => CM.le a b = true)) : CM.low l = CM.hull l := by
  unfold CM.low CM.sortL
  rw [List.mergeSort_of_pairwise h]
theorem low4 : CM.low [(0, 5), (10, 1), (2, 5), (4, 3)] = [(0, 5), (4, 3), (10, 1)] := by
  rw [CM.low_mems (m := [(0, 5), (2, 5), (4, 3), (10, 1)]) (by simp) (fun x => by simp only [List.mem_cons, List.not_mem_nil, or_false]; constructor <;> (rintro (h | h | h | h) <;> simp [h])), low_rising (by decide +kernel)]
  decide +kernel
theorem may4 : MayAll [(0, 5), (10, 1), (2, 5), (4, 3)] := by unfold MayAll; decide
theorem rgt3 : RgtC [(0, 5), (4, 3), (10, 1)] := by
  refine ⟨by decide, by unfold MayAll; decide, ?_⟩
  rw [← low4]
  exact CM.low_nrm (by simp)
theorem min3 {x : Int} (h : CM.IsMin [(0, 5), (4, 3), (10, 1)] 3 1 x) : x = 13 := by
  have g : CM.IsMin [(0, 5), (4, 3), (10, 1)] 3 1 13 := ⟨⟨(4, 3), by simp, by decide⟩, fun y hy => by
    simp at hy
    rcases hy with rfl | rfl | rfl <;> decide⟩
  exact h.same g
theorem later3 : laterL [(0, 5), (4, 3), (10, 1)] 2 = [(10, 3), (12, 1)] := by decide +kernel
theorem bound3 : boundP [(10, 3), (12, 1)] := by unfold boundP; decide
theorem low4_len : (CM.low [(0, 5), (10, 1), (2, 5), (4, 3)]).length ≤ 32 := by rw [low4]; decide
set_option maxRecDepth 100000 in
set_option maxHeartbeats 4000000 in
theorem known3_any (w : World) : Calls Try.prog 5 #[] w fun e w' => e = .returned (.bool true) ∧ Below w.heap.size w w' := by
  have cm := hidd (fun (b : Nat) (W : World) (hW : Lie sendV 2 W W.heap.size (some ⟨b, 0, none⟩) [(0, 5), (10, 1), (2, 5), (4, 3)]) => (make_good (some ⟨b, 0, none⟩) [(0, 5), (10, 1), (2, 5), (4, 3)] 4 (by decide) W hW may4 (by decide)).1 low4_len)
  rw [low4] at cm
  have ca := hidd (fun (A : Option Addr) (c : Nat) (hc : 3 ≤ c) (hcm : c ≤ maxLen) (W : World) (hW : Lie sendV 2 W W.heap.size A [(0, 5), (4, 3), (10, 1)]) => curveAt_yes A [(0, 5), (4, 3), (10, 1)] c 3 hc hcm W hW rgt3 (by decide))
  have cl := hidd (fun (A : Option Addr) (c : Nat) (W : World) (hW : Lie sendV 2 W W.heap.size A [(0, 5), (4, 3), (10, 1)]) => later_yes true A [(0, 5), (4, 3), (10, 1)] c 2 (by decide) W hW rgt3 (by decide) (by rw [later3]; exact ⟨fun _ => bound3, fun _ => rfl⟩))
  rw [later3] at cl
  simp only [if_true] at cl
  have cs1 := hidd (fun (A B : Option Addr) (c d : Nat) (W : World) hA hB => same_any A B [(0, 5), (4, 3), (10, 1)] [(0, 5), (4, 3), (10, 1)] c d (by decide) (by decide) W hA hB)
  have cs2 := hidd (fun (A B : Option Addr) (c d : Nat) (W : World) hA hB => same_any A B [(10, 3), (12, 1)] [(10, 3), (12, 1)] c d (by decide) (by decide) W hA hB)
  have hl1 := hidd (lie_lit w [(0, 5), (10, 1), (2, 5), (4, 3)] 44 #[.int .i64 0, .int .i64 5, .int .i64 10, .int .i64 1, .int .i64 2, .int .i64 5, .int .i64 4, .int .i64 3] rfl)
  have hl2 := hidd (fun W => lie_lit W [(0, 5), (4, 3), (10, 1)] 44 #[.int .i64 0, .int .i64 5, .int .i64 4, .int .i64 3, .int .i64 10, .int .i64 1] rfl)
  have hl3 := hidd (fun W b hb => lie_lit2 W b hb [(10, 3), (12, 1)] 44 #[.int .i64 10, .int .i64 3, .int .i64 12, .int .i64 1] rfl)
  unfold MakeEnd at cm cl
  unfold AtEnd at ca
  go_enter Try.func5, Try.ntmps5
  go_wp2_with fail
  refine (cm.out _ _ hl1.out).mono ?_
  rintro e w1 ⟨v, rfl, hO1, hb1⟩
  obtain ⟨A1, c1, rfl, hc10, hc11, hA1⟩ := hO1.lie sendV_len
  have HA1 := hidd hA1
  have HB1 := hidd (below_step (below_new (Below.refl w.heap.size w) _) hb1)
  have HC1 := hidd hc10
  have HC2 := hidd hc11
  clear hO1 hb1 hA1 hc10 hc11
  go_wp2_with fail
  refine (ca.out A1 c1 HC1.out HC2.out _ HA1.out).mono ?_
  rintro e w2 ⟨x, rfl, hx, hb2⟩
  have hx13 := min3 hx
  subst hx13
  have HA2 := hidd (HA1.out.below hb2)
  have HB2 := hidd (below_step HB1.out hb2)
  clear hx hb2
  go_wp2_with fail
  refine (cl.out A1 c1 _ HA2.out).mono ?_
  rintro e w3 ⟨v, rfl, hO3, hb3⟩
  obtain ⟨A3, c3, rfl, _, _, hA3⟩ := hO3.lie sendV_len
  have HA3 := hidd hA3
  have HA4 := hidd (HA2.out.below hb3)
  have HB3 := hidd (below_step HB2.out hb3)
  clear hO3 hb3 hA3
  go_wp2_with fail
  refine (cs1.out A1 _ c1 _ _ (HA4.out.below (below_new (Below.refl _ _) _)) (hl2.out w3)).mono ?_
  rintro e w4 ⟨rfl, q4, rfl⟩
  have HB4 := hidd (below_new HB3.out (.cells #[.int .i64 0, .int .i64 5, .int .i64 4, .int .i64 3, .int .i64 10, .int .i64 1] 44))
  go_wp2_with fail
  refine (cs2.out A3 _ c3 _ _ (HA3.out.below (by (repeat' (first | (with_reducible exact Below.refl _ _) | (with_reducible assumption) | (with_reducible apply Below.setCell) | (with_reducible apply Below.alloc) | (with_reducible apply Below.drew) | (with_reducible apply below_drewN) | (with_reducible refine Below.trans ?_ (Below.mono (by assumption) ?_)) | omega | (simp; done) | (simp; omega))))) (hl3.out _ _ (by first | rfl | simp))).mono ?_
  rintro e w5 ⟨rfl, q5, rfl⟩
  go_wp2_with fail
  go_ret
  exact ⟨by simp, by have := HB3.out; have := this.size; (repeat' (first | (with_reducible exact Below.refl _ _) | (with_reducible assumption) | (with_reducible apply Below.setCell) | (with_reducible apply Below.alloc) | (with_reducible apply Below.drew) | (with_reducible apply below_drewN) | (with_reducible refine Below.trans ?_ (Below.mono (by assumption) ?_)) | omega | (simp; done) | (simp; omega)))⟩
end Go.Proofs.Ytpgaklfgbioocaa
