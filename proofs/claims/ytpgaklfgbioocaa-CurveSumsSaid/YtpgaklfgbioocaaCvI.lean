/- Curves: lines in order. -/
import Derived.Test.YtpgaklfgbioocaaCvH
namespace Go.Proofs.Ytpgaklfgbioocaa
set_option linter.unusedVariables false
open Go.RowKit RowK Go.Shelf Go.Sort Go.Lib

set_option maxHeartbeats 2000000 in
theorem lowest1_grew (a0 a1 b0 b1 : Int) (w : World) : Calls Try.prog 36 #[.agg #[.int .i64 a0, .int .i64 a1], .agg #[.int .i64 b0, .int .i64 b1]] w fun e w' => e = .returned (.int .i64 (lineC (a0, a1) (b0, b1))) ∧ Grew w w' := by
  have c1 := hidd (fun W => compare_any a0 b0 W)
  have c2 := hidd (fun W => compare_any a1 b1 W)
  have co := hidd (fun b W h0 h1 => or_any (cmpV a0 b0) (cmpV a1 b1) b W h0 h1)
  unfold lineC
  dsimp only
  generalize cmpV a0 b0 = x at *
  generalize cmpV a1 b1 = y at *
  generalize orV x y = z at *
  go_enter Try.func36, Try.ntmps36
  go_wp2_with fail
  go_region_held3 (fun w' => w'.cell? ⟨w.heap.size, 0, none⟩ = some (.int .i64 a0) ∧ w'.cell? ⟨w.heap.size, 1, none⟩ = some (.int .i64 a1) ∧ w'.cell? ⟨w.heap.size + 1, 0, none⟩ = some (.int .i64 b0) ∧ w'.cell? ⟨w.heap.size + 1, 1, none⟩ = some (.int .i64 b1))
    ((first | go_keep | (simp [go_sem]; done) | (refine ⟨?_, ?_, ?_, ?_⟩ <;> simp [go_sem])))
    ((first
      | (go_at_call_of 38 (Value.int IntKind.i64 a0); refine (c1.out _).mono ?_; rintro E w1 ⟨rfl, rfl⟩)
      | (go_at_call_of 38 (Value.int IntKind.i64 a1); refine (c2.out _).mono ?_; rintro E w1 ⟨rfl, rfl⟩)
      | (go_at_call 37; refine (co.out _ _ (by simp [go_sem]) (by simp [go_sem])).mono ?_; rintro E w1 ⟨rfl, rfl⟩)))
  all_goals go_wp2_with fail
  all_goals go_ret
  all_goals (refine ⟨rfl, ?_⟩; repeat' (first | with_reducible exact Grew.refl _ | with_reducible apply Grew.alloc | with_reducible apply Grew.drew | with_reducible apply Grew.drewN))
theorem lowest1_lays (blk off size : Nat) (w : World) : CmpLays Try.prog 36 #[] sendV 2 lineC blk off size w :=
  fun _ _ _ _ x y => lowest1_grew x.1 x.2 y.1 y.2 _
theorem joined_in (F : Fence) (n : Nat) (h48 : F.fn 35) (hro : F.round = none) (a : Option Addr) (len cap : Nat) (w : World) :
    CallsIn F n Try.prog 35 #[.slice a len cap] w fun e w' => e = .returned (.func (.func 49) #[] #[.pointer (some ⟨w.heap.size, 0, none⟩)]) ∧ w' = w.alloc (.cells #[.slice a len cap] 22) := by
  refine callsIn_of_wp Try.func35 rfl h48 ?_ hro
  simp only [Try.ntmps35, List.size_toArray, List.length_cons, List.length_nil, Nat.reduceAdd, Nat.reduceSub, Array.replicate_succ, Array.replicate_zero, List.push_toArray, List.append_toArray, List.nil_append, List.cons_append]
  gi_wp2
  go_ret
  exact ⟨rfl, rfl⟩
theorem joined_stops (F : Fence) (n : Nat) (h61 : F.fn 49) (hro : F.round = none) (hn : 1 ≤ n) (Bs n₀ : Nat) (A : Option Addr) (k : Nat) (cs : List Crv) (hlen : cs.length ≤ 1000000) (hlen2 : ∀ c ∈ cs, c.2.length ≤ 1000000) (w : World) (hBs : Bs < w.heap.size) (hn₀ : n₀ ≤ w.heap.size)
    (hc : w.cell? ⟨Bs, 0, none⟩ = some (.slice A cs.length k)) (hC : Curves w n₀ A cs) :
    SeqStopsK F n Try.prog 49 #[.pointer (some ⟨Bs, 0, none⟩)] (fun x : Int × Int => #[Value.agg #[.int .i64 x.1, .int .i64 x.2]]) (Below n₀) (fun ys => ys = allLines cs) (fun pre => pre <+: allLines cs) (allLines cs).length w := fun l J Jx W hW hJ _ hY h0 =>
  joined1_in F n h61 hro hn l Bs n₀ A k cs hlen hlen2 J Jx W (Nat.le_trans hn₀ hW.size) hJ hY ((hW.cell (p := ⟨Bs, 0, none⟩) hBs).trans hc) (hC.keep (hW.mono hn₀)) h0
end Go.Proofs.Ytpgaklfgbioocaa
