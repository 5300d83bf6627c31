/- The document's fraction of two numbers; is a pair one. -/
import Derived.Test.YtgeankdimknmiaaBgF
namespace Go.Proofs.Ytgeankdimknmiaa
set_option linter.unusedVariables false
open Go.RowKit

theorem nat15 {n : Nat} (h : n < 18446744073709551616) : n < 65536 ^ 15 := by omega
set_option maxRecDepth 100000 in
set_option maxHeartbeats 4000000 in
theorem refMake_any (n d : Int) (h0 : -9223372036854775808 ≤ n) (h1 : n ≤ 9223372036854775807) (h2 : -9223372036854775808 ≤ d) (h3 : d ≤ 9223372036854775807) (w : World) :
    Calls Try.prog 11 #[.int .i64 n, .int .i64 d] w fun e w' => e = .returned (pairOf (makeR n d)) ∧ Below w.heap.size w w' := by
  have hb0 := below_new (Below.refl w.heap.size w) (.cells #[.int .i64 0, .int .i64 0] 35)
  have hbox := RatBox.new w 35 0 0
  have HB0 := hidd hb0
  have HBX := hidd hbox
  have sn := hidd (fun W => size_big n h0 h1 W)
  have sd := hidd (fun W => size_big d h2 h3 W)
  have on := hidd (fun W => (of_any n.natAbs (by omega) W).mono fun _ _ h => h.one)
  have od := hidd (fun W => (of_any d.natAbs (by omega) W).mono fun _ _ h => h.one)
  have cf := hidd (fun b u v W h h' => frac_big b n.natAbs d.natAbs (nat15 (by omega)) (nat15 (by omega)) u v W h h')
  have hmk : ∀ b, (n ≠ 0 → b = (decide (n < 0) != decide (d < 0))) → RM.fracN b n.natAbs d.natAbs = makeR n d := by
    intro b hb
    unfold makeR
    by_cases hz : n = 0
    · subst hz; exact RM.fracN_zero _ _ _
    · rw [hb hz]
  have HMK := hidd hmk
  unfold pairOf at *
  generalize makeR n d = r at *
  generalize n.natAbs = N at *
  generalize d.natAbs = D at *
  clear hb0 hbox hmk
  obtain ⟨b, hb⟩ : ∃ b, (n != 0 && (decide (n < 0) != decide (d < 0))) = b := ⟨_, rfl⟩
  have hr : RM.fracN b N D = r := HMK.out b (fun hz => by rw [← hb]; simp [hz])
  have CF := hidd (fun u v W h h' => cf.out b u v W h h')
  rw [hr] at CF
  have HBB := hidd hb
  clear hr cf HMK hb
  have tail : ∀ W, Calls Try.prog 26 #[.int .i64 n] W fun e w' => e = .returned (.int .u64 (N : Int)) ∧ w' = W := sn.out
  by_cases hn : n = 0
  · have hbf : b = false := by rw [← HBB.out, hn]; rfl
    subst hbf
    subst hn
    go_enter Try.func11, Try.ntmps11
    go_wp2_with fail
    refine (sn.out _).mono ?_
    rintro e w' ⟨rfl, rfl⟩
    go_wp2_with fail
    refine (on.out _).mono ?_
    rintro e w1 ⟨u, rfl, hu, hb1⟩
    have HU := hidd hu
    have HB1 := hidd (below_step HB0.out hb1)
    have HX1 := hidd (HBX.out.step hb1)
    clear hu hb1
    go_wp2_with fail
    refine (sd.out _).mono ?_
    rintro e w' ⟨rfl, rfl⟩
    go_wp2_with fail
    refine (od.out _).mono ?_
    rintro e w2 ⟨v, rfl, hv, hb2⟩
    have HU2 := hidd (HU.out.below hb2)
    have HV := hidd hv
    have HB2 := hidd (below_step HB1.out hb2)
    have HX2 := hidd (HX1.out.step hb2)
    clear hv hb2
    go_wp2_with fail
    refine (CF.out _ _ _ HU2.out HV.out).mono ?_
    rintro e w3 ⟨rfl, hb3⟩
    have HB3 := hidd (below_step HB2.out hb3)
    obtain ⟨bz, b0, b1, b2, b3⟩ := HX2.out.step hb3
    clear hb3
    go_wp2_with fail
    exact bodyPost_ret (v := .tuple #[.agg #[.int .i64 r.1, .int .i64 r.2.1], .int .i64 r.2.2]) (by simp [results, Try.results11, go_sem, *]) rfl ⟨rfl, by have := HB3.out; (repeat' (first | (with_reducible exact Below.refl _ _) | (with_reducible assumption) | (with_reducible apply Below.setCell) | (with_reducible apply Below.alloc) | (with_reducible apply Below.drew) | (with_reducible apply below_drewN) | (with_reducible refine Below.trans ?_ (Below.mono (by assumption) ?_)) | omega | (simp; done) | (simp; omega)))⟩
  · have hn2 : (n != 0) = true := by simp [hn]
    have hbf : (decide (n < 0) != decide (d < 0)) = b := by rw [← HBB.out, hn2]; rfl
    have hbf2 : (!(decide (n < 0) == decide (d < 0))) = b := by rw [← hbf]; rfl
    clear HBB hn
    go_enter Try.func11, Try.ntmps11
    go_wp2_with fail
    refine (sn.out _).mono ?_
    rintro e w' ⟨rfl, rfl⟩
    go_wp2_with fail
    refine (on.out _).mono ?_
    rintro e w1 ⟨u, rfl, hu, hb1⟩
    have HU := hidd hu
    have HB1 := hidd (below_step HB0.out hb1)
    have HX1 := hidd (HBX.out.step hb1)
    clear hu hb1
    go_wp2_with fail
    refine (sd.out _).mono ?_
    rintro e w' ⟨rfl, rfl⟩
    go_wp2_with fail
    refine (od.out _).mono ?_
    rintro e w2 ⟨v, rfl, hv, hb2⟩
    have HU2 := hidd (HU.out.below hb2)
    have HV := hidd hv
    have HB2 := hidd (below_step HB1.out hb2)
    have HX2 := hidd (HX1.out.step hb2)
    clear hv hb2
    go_wp2_with fail
    refine (CF.out _ _ _ HU2.out HV.out).mono ?_
    rintro e w3 ⟨rfl, hb3⟩
    have HB3 := hidd (below_step HB2.out hb3)
    obtain ⟨bz, b0, b1, b2, b3⟩ := HX2.out.step hb3
    clear hb3
    go_wp2_with fail
    exact bodyPost_ret (v := .tuple #[.agg #[.int .i64 r.1, .int .i64 r.2.1], .int .i64 r.2.2]) (by simp [results, Try.results11, go_sem, *]) rfl ⟨rfl, by have := HB3.out; (repeat' (first | (with_reducible exact Below.refl _ _) | (with_reducible assumption) | (with_reducible apply Below.setCell) | (with_reducible apply Below.alloc) | (with_reducible apply Below.drew) | (with_reducible apply below_drewN) | (with_reducible refine Below.trans ?_ (Below.mono (by assumption) ?_)) | omega | (simp; done) | (simp; omega)))⟩
end Go.Proofs.Ytgeankdimknmiaa
