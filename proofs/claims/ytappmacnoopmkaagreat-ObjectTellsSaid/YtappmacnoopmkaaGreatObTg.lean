/- Objects: ObjectTells: the walk. -/
import Derived.Test.YtappmacnoopmkaaGreatObTb
import Derived.Test.YtappmacnoopmkaaGreatObTc
import Derived.Test.YtappmacnoopmkaaGreatObK
namespace Go.Proofs.YtappmacnoopmkaaGreat
set_option linter.unusedVariables false
open Go.RowKit

/-- a struct's load behind a guard that holds: whole. -/
theorem wpList_load_rowG {P : Program} {ops : Array Oper} {rest : List Oper} {o : Oper} {a : Act} {w : World} {Q : Exit → Act → World → Prop} (hw : Region.wanted o (yielded ops a.tmps) = true) (ty : TypeId) (x : Operand) (ho : o.op = .load ty x)
    (g : Nat) (hx : a.eval x = .pointer (some ⟨g, 0, none⟩)) (t : TypeId) (cs : Array Value) (fr : Nat × Nat) (d : TypeDesc) (hg : w.heap[g]? = some (.cells cs t fr))
    (hu : P.underlying ty = some d) (hd : (match d with | .struct _ | .array _ _ => true | _ => false) = true) (hi : (P.info? ty).map (·.size) = some cs.size)
    (h : wpList P ops Q rest (a.put o.dst (.agg cs)) w) : wpList P ops Q (o :: rest) a w :=
  wpList_step fun K hK => by rw [if_pos hw]; exact wp_load_row ty x ho g hx t cs fr d hg hu hd hi (hK _ _ h)
set_option maxRecDepth 100000 in
set_option maxHeartbeats 2000000 in
theorem tells_walk (s0 s1 s2 s3 s4 s5 s6 s7 s8 s9 s10 s11 s12 s13 s14 s15 s16 s17 s18 s19 s20 s21 s22 s23 s24 s25 s26 s27 : Int) (hY : -9223372036854775808 ≤ s8 ∧ s8 ≤ 9223372036854775807) (w : World) : Calls Tryz.prog 3 #[.agg #[.int .i64 s0, .int .i64 s1, .int .i64 s2, .int .i64 s3, .int .i64 s4, .int .i64 s5, .int .i64 s6, .int .i64 s7, .int .i64 s8, .int .i64 s9, .int .i64 s10, .int .i64 s11, .int .i64 s12, .int .i64 s13, .int .i64 s14, .int .i64 s15, .int .i64 s16, .int .i64 s17, .int .i64 s18, .int .i64 s19, .int .i64 s20, .int .i64 s21, .int .i64 s22, .int .i64 s23, .int .i64 s24, .int .i64 s25, .int .i64 s26, .int .i64 s27]] w fun e w' => e = .returned (.bool true) ∧ Below w.heap.size w w' := by
  have C1 := hidd (fun W => places_any s0 s1 s2 s3 s4 s5 s6 s7 s8 s9 s10 s11 s12 s13 s14 s15 s16 s17 s18 s19 s20 s21 s22 s23 s24 s25 s26 s27 hY W)
  have C2 := hidd (fun W => flows_any s0 s1 s2 s3 s4 s5 s6 s7 s8 s9 s10 s11 s12 s13 s14 s15 s16 s17 s18 s19 s20 s21 s22 s23 s24 s25 s26 s27 hY W)
  have C3 := hidd (fun W => known_any W)
  obtain ⟨wE, hwE⟩ : ∃ wE, w.alloc (.cells #[.int .i64 s0, .int .i64 s1, .int .i64 s2, .int .i64 s3, .int .i64 s4, .int .i64 s5, .int .i64 s6, .int .i64 s7, .int .i64 s8, .int .i64 s9, .int .i64 s10, .int .i64 s11, .int .i64 s12, .int .i64 s13, .int .i64 s14, .int .i64 s15, .int .i64 s16, .int .i64 s17, .int .i64 s18, .int .i64 s19, .int .i64 s20, .int .i64 s21, .int .i64 s22, .int .i64 s23, .int .i64 s24, .int .i64 s25, .int .i64 s26, .int .i64 s27] 37) = wE := ⟨_, rfl⟩
  have hpE : w.heap.size < wE.heap.size := by rw [← hwE]; simp
  have KX := hidd (fun (W : World) (hb : Below wE.heap.size wE W) => (show W.heap[w.heap.size]? = some (.cells #[.int .i64 s0, .int .i64 s1, .int .i64 s2, .int .i64 s3, .int .i64 s4, .int .i64 s5, .int .i64 s6, .int .i64 s7, .int .i64 s8, .int .i64 s9, .int .i64 s10, .int .i64 s11, .int .i64 s12, .int .i64 s13, .int .i64 s14, .int .i64 s15, .int .i64 s16, .int .i64 s17, .int .i64 s18, .int .i64 s19, .int .i64 s20, .int .i64 s21, .int .i64 s22, .int .i64 s23, .int .i64 s24, .int .i64 s25, .int .i64 s26, .int .i64 s27] 37 (0, 0)) from (hb.block w.heap.size hpE).trans (by rw [← hwE]; exact heap_alloc_new w _)))
  have hinf : (Tryz.prog.info? 37).map (·.size) = some (#[.int .i64 s0, .int .i64 s1, .int .i64 s2, .int .i64 s3, .int .i64 s4, .int .i64 s5, .int .i64 s6, .int .i64 s7, .int .i64 s8, .int .i64 s9, .int .i64 s10, .int .i64 s11, .int .i64 s12, .int .i64 s13, .int .i64 s14, .int .i64 s15, .int .i64 s16, .int .i64 s17, .int .i64 s18, .int .i64 s19, .int .i64 s20, .int .i64 s21, .int .i64 s22, .int .i64 s23, .int .i64 s24, .int .i64 s25, .int .i64 s26, .int .i64 s27] : Array Value).size := by kernel_rfl
  have HG0 := hidd (KX.out _ (Below.refl _ _))
  have HI := hidd hinf
  clear hinf
  have HBE := hidd (show Below w.heap.size w wE by rw [← hwE]; exact below_new (Below.refl w.heap.size w) _)
  have HWE := hidd hwE
  clear hY hwE
  go_enter Tryz.func3, Tryz.ntmps3
  refine cut_seq_places (fun a' w' => a' = ({ tmps := #[.agg #[.int .i64 s0, .int .i64 s1, .int .i64 s2, .int .i64 s3, .int .i64 s4, .int .i64 s5, .int .i64 s6, .int .i64 s7, .int .i64 s8, .int .i64 s9, .int .i64 s10, .int .i64 s11, .int .i64 s12, .int .i64 s13, .int .i64 s14, .int .i64 s15, .int .i64 s16, .int .i64 s17, .int .i64 s18, .int .i64 s19, .int .i64 s20, .int .i64 s21, .int .i64 s22, .int .i64 s23, .int .i64 s24, .int .i64 s25, .int .i64 s26, .int .i64 s27], .pointer (some ⟨w.heap.size, 0, none⟩), .bool false, undef, undef, undef, undef, undef, undef, undef, undef, undef], defers := [] } : Act) ∧ wE = w') ?first ?rest
  case first =>
    intro K hK
    go_wp2_with fail
    rw [HWE.out]
    exact hK.out _ _ ⟨rfl, rfl⟩
  case rest =>
  rintro a' w' ⟨rfl, rfl⟩
  go_wp2_with (first | (refine wpList_load_row rfl 37 (.tmp 1) rfl w.heap.size rfl 37 _ (0, 0) _ HG0.out Tryz.underlying37 rfl HI.out ?_) | fail)
  refine (C1.out _).mono ?_
  rintro e w1 ⟨rfl, hb1⟩
  have HB1 := hidd (below_step HBE.out hb1)
  have HG1 := hidd (KX.out _ hb1)
  clear hb1
  go_wp2_with (first | (refine wpList_load_rowG (by rfl) 37 (.tmp 1) rfl w.heap.size rfl 37 _ (0, 0) _ HG1.out Tryz.underlying37 rfl HI.out ?_) | fail)
  refine (C2.out _).mono ?_
  rintro e w2 ⟨rfl, hb2⟩
  have HB2 := hidd hb2
  clear hb2
  go_wp2_with fail
  refine (C3.out _).mono ?_
  rintro e w3 ⟨rfl, hb3⟩
  have HB3 := hidd hb3
  clear hb3
  go_wp2_with fail
  go_ret
  exact ⟨by first | rfl | simp, below_step (below_step HB1.out HB2.out) HB3.out⟩
end Go.Proofs.YtappmacnoopmkaaGreat
