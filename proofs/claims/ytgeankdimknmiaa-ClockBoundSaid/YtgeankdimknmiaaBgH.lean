/- Which pairs are fractions: the program's answer and the document's. -/
import Derived.Test.YtgeankdimknmiaaBgG
namespace Go.Proofs.Ytgeankdimknmiaa
set_option linter.unusedVariables false
open Go.RowKit

theorem ratCheck_any (n d : Int) (h0 : -9223372036854775808 ≤ n) (h1 : n ≤ 9223372036854775807) (h2 : -9223372036854775808 ≤ d) (h3 : d ≤ 9223372036854775807) (w : World) :
    Calls Try.prog 56 #[.agg #[.int .i64 n, .int .i64 d]] w fun e w' => e = .returned (.int .i64 (if rightB n d then 0 else 2)) ∧ Below w.heap.size w w' := by
  have c := hidd (fun W => is_any n d h0 h1 h2 h3 W)
  generalize rightB n d = R at *
  cases R
  all_goals
    go_enter Try.func56, Try.ntmps56
    go_wp2_with fail
    refine (c.out _).mono ?_
    rintro e w1 ⟨rfl, hb⟩
    go_wp2_with fail
    go_ret
    exact ⟨rfl, by (repeat' (first | (with_reducible exact Below.refl _ _) | (with_reducible assumption) | (with_reducible apply Below.setCell) | (with_reducible apply Below.alloc) | (with_reducible apply Below.drew) | (with_reducible apply below_drewN) | (with_reducible refine Below.trans ?_ (Below.mono (by assumption) ?_)) | omega | (simp; done) | (simp; omega)))⟩
theorem digs_one : BM.digs 1 = [1] := by rw [BM.digs_pos (by decide)]; simp [BM.digs_zero]
theorem digs_single {G : Nat} (h : (BM.digs G).length = 1) : BM.D (BM.digs G) 0 = G := by
  have h1 := BM.valD_digs G
  obtain ⟨d, hd⟩ := List.length_eq_one_iff.1 h
  rw [hd] at h1 ⊢
  simp [BM.valD] at h1
  simp [BM.D, h1]
end Go.Proofs.Ytgeankdimknmiaa
