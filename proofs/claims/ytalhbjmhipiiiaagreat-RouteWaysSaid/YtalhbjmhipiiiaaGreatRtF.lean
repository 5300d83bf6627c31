/- Routes: the least of what is near; a way grown. -/
import Derived.Test.YtalhbjmhipiiiaaGreatRtE
namespace Go.Proofs.YtalhbjmhipiiiaaGreat.Tp
set_option linter.unusedVariables false
open Go.RowKit Go.Maps
attribute [local go_sem] Oper.semAt_some

theorem first1_any (pw pt bw : Nat) (z : Int) (y t : Nat) (hy : y < 16) (ht : t < 16) (v : Nat) (W : World) (h0 : W.cell? ⟨pw, 0, none⟩ = some (.pointer (some ⟨bw, 0, none⟩))) (h1 : W.cell? ⟨pt, 0, none⟩ = some (.int .i64 (t : Int))) (hc : W.cell? ⟨bw, 1 + y * 16 + t, none⟩ = some (.int .i64 (v : Int))) :
    Calls Tryz.prog 109 #[.agg #[.int .i64 z, .int .i64 (y : Int)], .pointer (some ⟨pw, 0, none⟩), .pointer (some ⟨pt, 0, none⟩)] W fun e w' => e = .returned (.int .i64 (v : Int)) ∧ Below W.heap.size W w' := by
  have hlt := World.block_lt_of_cell? W _ h0
  have hlt1 := World.block_lt_of_cell? W _ h1
  have hlt2 := World.block_lt_of_cell? W _ hc
  obtain ⟨W0, hW0⟩ : ∃ W0, W.alloc (.cells #[.int .i64 z, .int .i64 (y : Int)] 148) = W0 := ⟨_, rfl⟩
  have hb0 : Below W.heap.size W W0 := by rw [← hW0]; (repeat' (first | (with_reducible exact Below.refl _ _) | (with_reducible assumption) | (with_reducible apply Below.setCell) | (with_reducible apply Below.alloc) | (with_reducible apply Below.drew) | (with_reducible apply below_drewN) | (with_reducible refine Below.trans ?_ (Below.mono (by assumption) ?_)) | omega | (simp; done) | (simp; omega)))
  have c0 := (hb0.cell (p := ⟨pw, 0, none⟩) hlt).trans h0
  have c1 := (hb0.cell (p := ⟨pt, 0, none⟩) hlt1).trans h1
  have c2 := (hb0.cell (p := ⟨bw, 1 + y * 16 + t, none⟩) hlt2).trans hc
  have c3 : W0.cell? ⟨W.heap.size, 0, none⟩ = some (.int .i64 z) := by rw [← hW0]; simp [go_sem]
  have c4 : W0.cell? ⟨W.heap.size, 1, none⟩ = some (.int .i64 (y : Int)) := by rw [← hW0]; simp [go_sem]
  have hy0 : (0 : Int) ≤ (y : Int) := by omega
  have hy16 : (y : Int) < 16 := by omega
  have ht0 : (0 : Int) ≤ (t : Int) := by omega
  have ht16 : (t : Int) < 16 := by omega
  have HB := hidd hb0
  have HW := hidd hW0
  clear h0 h1 hc hlt hlt1 hlt2 hb0 hW0
  go_enter Tryz.func109, Tryz.ntmps109
  go_wp2_with fail
  rw [HW.out]
  go_quiet (fail)
  go_wp2_with fail
  exact ⟨rfl, .int .i64 (v : Int), by simp [results, Tryz.results109, go_sem], rfl, HB.out.trans (below_drewN (Below.refl _ _) _)⟩
theorem grown_any (z : Int) (A : Option Addr) (l : List Int) (c : Nat) (hl : l.length ≤ 100) (hc : l.length ≤ c) (W : World) (hA : Lie intV 1 W W.heap.size A l) :
    Calls Tryz.prog 86 #[.int .i64 z, .slice A l.length c] W fun e w' => ∃ B c', e = .returned (.slice (some B) (l.length + 1) c') ∧ l.length + 1 ≤ c' ∧ c' ≤ maxLen ∧ Lie intV 1 w' w'.heap.size (some B) (z :: l) ∧ W.heap.size ≤ B.block ∧ Below W.heap.size W w' := by
  obtain ⟨i0, hi, hz0, hz1, hz2⟩ := info_parts intInfo
  have hO : Hid ((W.alloc (.cells #[.int .i64 z] 3)).ownsRow W.heap.size 3 1 (.slice (some ⟨W.heap.size, 0, none⟩) 1 1) 1 [.int .i64 z]) := hidd ⟨rfl, .inr ⟨W.heap.size, 1, #[.int .i64 z], rfl, Nat.le_refl _, (MapKept.heap_alloc W _).1, Nat.le_refl _, by decide, rfl, rfl⟩⟩
  have hb1 : Below W.heap.size W (W.alloc (.cells #[.int .i64 z] 3)) := by (repeat' (first | (with_reducible exact Below.refl _ _) | (with_reducible assumption) | (with_reducible apply Below.setCell) | (with_reducible apply Below.alloc) | (with_reducible apply Below.drew) | (with_reducible apply below_drewN) | (with_reducible refine Below.trans ?_ (Below.mono (by assumption) ?_)) | omega | (simp; done) | (simp; omega)))
  have hs1 := hA.below hb1
  have hsrc : Hid (0 < l.length → ∃ ad', A = some ad' ∧ ∀ j u, (rowOf intV l)[j]? = some u → (W.alloc (.cells #[.int .i64 z] 3)).cell? (ad'.add j) = some u) := hidd (fun hl => by
    obtain ⟨a2, e2, _, hc⟩ := hs1 hl
    refine ⟨a2, e2, fun j u hj => ?_⟩
    have hjl : j < (rowOf intV l).length := (List.getElem?_eq_some_iff.1 hj).1
    rw [row_len intV_len] at hjl
    have h3 := row_at intV_len l j l[j] (List.getElem?_eq_getElem (by omega)) 0 _ rfl
    have h5 := hc j l[j] (List.getElem?_eq_getElem (by omega)) 0 _ rfl
    simp only [Nat.mul_one, Nat.add_zero] at h3 h5
    rw [hj] at h3
    rw [h5]
    exact h3.symm)
  have hmax : Hid (1 + l.length ≤ maxLen) := hidd (by unfold maxLen; omega)
  have hby : Hid ((1 + l.length) * 8 ≤ 140737488355328) := hidd (by omega)
  have HB1 := hidd hb1
  have HR := hidd (row_len intV_len l)
  have HONE := hidd (rowOf_one intV_one l)
  have hbase : Hid (W.heap.size ≤ (W.alloc (.cells #[.int .i64 z] 3)).heap.size) := hidd (by simp)
  clear hA hs1 hb1 hc
  go_enter Tryz.func86, Tryz.ntmps86
  go_wp2_with (first | (at_builtin; refine wpList_append_some rfl _ _ 36 rfl W.heap.size 3 i0 (.int .i64 0) 1 8 Tryz.underlying36 hi hz0 hz1 hz2 rfl (by decide) (.slice (some ⟨W.heap.size, 0, none⟩) 1 1) 1 [.int .i64 z] rfl hO.out A l.length c (rowOf intV l) rfl HR.out hsrc.out HONE.out hmax.out hby.out hbase.out ?_; intro v' w1 hown' hgrow hor; have HO2 := hidd hown'; have HG := hidd hgrow; clear hown' hgrow hor) | fail)
  go_ret
  have h2 := HO2.out
  have h3 : OwnL intV 1 w1 W.heap.size 3 v' (z :: l) := by
    unfold OwnL
    rw [List.length_cons, Nat.add_comm]
    exact h2
  obtain ⟨A', c', e, hc1, hc2, hl⟩ := h3.lie intV_len
  subst e
  obtain ⟨ad, rfl, _⟩ := hl (by simp)
  exact ⟨ad, c', rfl, hc1, hc2, hl, h3.from_ ad rfl, HB1.out.grown HG.out (by simp) (fun k hk => by simp [Value.ownBlock] at hk; omega)⟩
end Go.Proofs.YtalhbjmhipiiiaaGreat.Tp
