/- Rate, of any spec, terms and ticks. -/
import Derived.Test.YtianceglbkcmpaaBdM
namespace Go.Proofs.Ytianceglbkcmpaa
set_option linter.unusedVariables false
open Go.RowKit

theorem searchOk_from (does : Int → Bool) (r : Int) : ∀ (n : Nat) (lo hi : Int), r ≤ lo → searchOk (fun R => decide (r ≤ R)) does n lo hi = true
  | 0, _, _, _ => rfl
  | n + 1, lo, hi, h => by
    unfold searchOk
    by_cases hlt : lo < hi
    · rw [if_pos hlt, Bool.and_eq_true]
      refine ⟨decide_eq_true (by omega), ?_⟩
      split
      · exact searchOk_from does r n lo _ h
      · exact searchOk_from does r n _ hi (by omega)
    · rw [if_neg hlt]
theorem spec_in {p r u m l : Int} (h : Zp.rightB p r u m l = true) : SpecIn p r u m := by
  obtain ⟨a1, a2, a3, a4, a5, a6, a7, a8⟩ := Zp.rightB_iff h
  exact ⟨a1, a2, a3, by omega, a6, a7, a8⟩
theorem terms_in {c d : Int} (h : termsB c d = true) : (0 ≤ c ∧ c ≤ 10000000) ∧ 0 ≤ d ∧ d ≤ 1000000 := by
  unfold termsB at h
  rw [Bool.and_eq_true] at h
  exact ⟨fromB_iff.1 h.1, fromB_iff.1 h.2⟩
theorem timely_any (p r u m l R c d T : Int) (hs : SpecIn p r u m) (hR : r ≤ R) (hR2 : R ≤ 1000000) (hc1 : 0 ≤ c) (hc2 : c ≤ 10000000) (hd1 : 0 ≤ d) (hd2 : d ≤ 1000000) (a b e : Nat) (W : World) (hAW : AskAt W a b e p r u m l T c d) :
    Calls Try.prog 48 #[.int .i64 R, .pointer (some ⟨a, 0, none⟩), .pointer (some ⟨e, 0, none⟩), .pointer (some ⟨b, 0, none⟩)] W fun E w' => E = .returned (.bool (timely p r u m c d T R)) ∧ Below W.heap.size W w' := by
  obtain ⟨N, D, ht, _, hu⟩ := told_up (l := l) hs hR hR2 hc1 hc2 hd1 hd2
  have h := inTime_any p r u m l R c d N D T hs hc1 hc2 hd1 hd2 ht a b e W hAW
  rw [hu] at h
  exact h
def rateE (p r u m c d T : Int) : Ending := if timely p r u m c d T 1000000 then .returned (.int .i64 (search (timely p r u m c d T) 1000001 r 1000000)) else errPanic 150
set_option maxRecDepth 100000 in
set_option maxHeartbeats 4000000 in
theorem rateStep2 (p r u m l c d T : Int) (hs : SpecIn p r u m) (hc1 : 0 ≤ c) (hc2 : c ≤ 10000000) (hd1 : 0 ≤ d) (hd2 : d ≤ 1000000) (a b e : Nat) (w : World) (ha : AskAt w a b e p r u m l T c d) :
    StepsTo 47 #[.pointer (some ⟨a, 0, none⟩), .pointer (some ⟨e, 0, none⟩), .pointer (some ⟨b, 0, none⟩)] (rateE p r u m c d T) w := by
  intro W hW
  have hAW := ha.step hW
  have HA := hidd hAW
  have hmf : ∀ (fn : Fn) (first cap : Array Value) (w : World), (Instr.makeFunc fn first cap).run Try.prog w = .ok (.func fn first cap) w := fun _ _ _ _ => rfl
  have hen := entersRate11
  have hr1 := hs.1
  have hr2 : r ≤ 1000000 := by have := hs.2.1; have := hs.2.2.1; omega
  have c1 := fun V (hV : AskAt V a b e p r u m l T c d) => timely_any p r u m l 1000000 c d T hs hr2 (by decide) hc1 hc2 hd1 hd2 a b e V hV
  have cl := hidd (fun V (hV : Below W.heap.size W V) => least_any 48 #[.pointer (some ⟨a, 0, none⟩), .pointer (some ⟨e, 0, none⟩), .pointer (some ⟨b, 0, none⟩)] entersRate11 (timely p r u m c d T) (fun R => decide (r ≤ R)) r 1000000 1000001 hr1 hr2 (by omega) (by omega) V
    (fun R hR _ hR2 V' hV' => timely_any p r u m l R c d T hs (of_decide_eq_true hR) hR2 hc1 hc2 hd1 hd2 a b e V' ((HA.out.step hV).step hV')) (searchOk_from _ r _ _ _ (Int.le_refl r)))
  unfold rateE
  generalize search (timely p r u m c d T) 1000001 r 1000000 = X at *
  generalize timely p r u m c d T 1000000 = B at *
  have C1 := hidd c1
  obtain ⟨⟨x0, x1, x2, x3, x4, x5⟩, ⟨y0, y1⟩, z0, z1, z2⟩ := hAW
  clear hs c1 ha hW
  cases B
  · simp only [Bool.false_eq_true, if_false]
    go_enter Try.func47, Try.ntmps47
    go_wp2_with fail
    refine (C1.out _ HA.out).mono ?_
    rintro E1 w1 ⟨rfl, hb1⟩
    have HB1 := hidd hb1
    clear hb1
    go_wp2_with fail
    refine (need_no _ _).mono ?_
    rintro E2 w2 ⟨rfl, rfl⟩
    go_wp2_with fail
    exact ⟨rfl, rfl, HB1.out⟩
  · simp only [if_true]
    go_enter Try.func47, Try.ntmps47
    go_wp2_with fail
    refine (C1.out _ HA.out).mono ?_
    rintro E1 w1 ⟨rfl, hb1⟩
    have HA1 := hidd (HA.out.step hb1)
    have HB1 := hidd hb1
    clear hb1 x0 x1 x2 x3 x4 x5 y0 y1 z0 z1 z2
    obtain ⟨⟨x0, x1, x2, x3, x4, x5⟩, ⟨y0, y1⟩, z0, z1, z2⟩ := HA1.out
    go_wp2_with fail
    refine (need_yes _ _).mono ?_
    rintro E2 w2 ⟨rfl, rfl⟩
    go_wp2_with fail
    refine (cl.out _ HB1.out).mono ?_
    rintro E3 w3 ⟨rfl, hb3⟩
    go_wp2_with fail
    go_ret
    exact ⟨rfl, below_step HB1.out hb3⟩
def rateB (p r u m l c d T : Int) : Bool := Zp.rightB p r u m l && termsB c d && fromB 0 T 1000000
def rateR (p r u m l c d T : Int) : Int × Int := if rateB p r u m l c d T then (if timely p r u m c d T 1000000 then (search (timely p r u m c d T) 1000001 r 1000000, 0) else (0, 150)) else (0, 2)
set_option maxRecDepth 100000 in
set_option maxHeartbeats 4000000 in
theorem Rate_any (p r u m l c d T : Int) (w : World) :
    Calls Try.prog 19 #[.agg #[.int .i64 p, .int .i64 r, .int .i64 u, .int .i64 m, .int .i64 l], .agg #[.int .i64 c, .int .i64 d], .int .i64 T] w fun e w' => e = .returned (.tuple #[.int .i64 (rateR p r u m l c d T).1, .int .i64 (rateR p r u m l c d T).2]) ∧ Below w.heap.size w w' := by
  have hmf : ∀ (fn : Fn) (first cap : Array Value) (w : World), (Instr.makeFunc fn first cap).run Try.prog w = .ok (.func fn first cap) w := fun _ _ _ _ => rfl
  have c1 := hidd (fun W => isSpec_any p r u m l W)
  have c2 := hidd (fun W => isTerms_any c d W)
  have c3 := hidd (fun W => isFrom_any 0 T 1000000 W)
  have st := hidd (fun (h1 : Zp.rightB p r u m l = true) (h2 : termsB c d = true) a b e W ha => rateStep2 p r u m l c d T (spec_in h1) (terms_in h2).1.1 (terms_in h2).1.2 (terms_in h2).2.1 (terms_in h2).2.2 a b e W ha)
  have ka := hidd (ask_new2 w p r u m l T c d)
  obtain ⟨B, hB⟩ : ∃ B, rateB p r u m l c d T = B := ⟨_, rfl⟩
  have hB2 := hB
  unfold rateB at hB2
  have hr : rateR p r u m l c d T = if B then (if timely p r u m c d T 1000000 then (search (timely p r u m c d T) 1000001 r 1000000, 0) else (0, 150)) else (0, 2) := by unfold rateR; rw [hB]
  rw [hr]
  unfold rateE at st
  generalize search (timely p r u m c d T) 1000001 r 1000000 = X at *
  generalize timely p r u m c d T 1000000 = Y at *
  generalize Zp.rightB p r u m l = P1 at *
  generalize termsB c d = P2 at *
  generalize fromB 0 T 1000000 = P3 at *
  clear hB hr
  go_enter Try.func19, Try.ntmps19
  go_wp2_with fail
  refine Zp.wp_scope_fwd 0 (fun a' w' => B = false ∧ Below w.heap.size w w' ∧ ∃ v0 v1 v2 v3 v4 v5 v6 v7 v8 v9 v10 v11 v12 v13 v14 v15 v16 v17 v18 v19 v20 v21 v22 : Value, a' = { tmps := #[v0, v1, v2, v3, v4, v5, v6, v7, v8, v9, v10, v11, v12, v13, v14, v15, v16, v17, v18, v19, v20, v21, v22], defers := [] }) rfl ?_ ?_
  case refine_2 =>
    rintro a' w' ⟨rfl, hb, v0, v1, v2, v3, v4, v5, v6, v7, v8, v9, v10, v11, v12, v13, v14, v15, v16, v17, v18, v19, v20, v21, v22, rfl⟩
    go_wp2_with fail
    (try rw [Exit.noGoto_ret])
    go_ret2
    exact ⟨by simp, hb⟩
  obtain ⟨⟨x0, x1, x2, x3, x4, x5⟩, ⟨y0, y1⟩, z0, z1, z2⟩ := ka.out
  have HB0 := hidd (below_new (below_new (below_new (Below.refl w.heap.size w) (.cells #[.int .i64 p, .int .i64 r, .int .i64 u, .int .i64 m, .int .i64 l] 23)) (.cells #[.int .i64 c, .int .i64 d] 25)) (.cells #[.int .i64 T] 2))
  cases P1
  · have hBf : B = false := by rw [← hB2]; simp
    clear hB2
    go_wp2_with fail
    refine (c1.out _).mono ?_
    rintro e w1 ⟨rfl, hb1⟩
    go_wp2_with fail
    go_step3
    exact ⟨rfl, hBf, below_step HB0.out hb1, _, _, _, _, _, _, _, _, _, _, _, _, _, _, _, _, _, _, _, _, _, _, _, rfl⟩
  · go_wp2_with fail
    refine (c1.out _).mono ?_
    rintro e w1 ⟨rfl, hb1⟩
    have HA1 := hidd (ka.out.step hb1)
    have HB1 := hidd (below_step HB0.out hb1)
    clear hb1 x0 x1 x2 x3 x4 x5 y0 y1 z0 z1 z2
    obtain ⟨⟨x0, x1, x2, x3, x4, x5⟩, ⟨y0, y1⟩, z0, z1, z2⟩ := HA1.out
    cases P2
    · have hBf : B = false := by rw [← hB2]; simp
      clear hB2
      go_wp2_with fail
      refine (c2.out _).mono ?_
      rintro e w2 ⟨rfl, hb2⟩
      go_wp2_with fail
      go_step3
      exact ⟨rfl, hBf, below_step HB1.out hb2, _, _, _, _, _, _, _, _, _, _, _, _, _, _, _, _, _, _, _, _, _, _, _, rfl⟩
    · go_wp2_with fail
      refine (c2.out _).mono ?_
      rintro e w2 ⟨rfl, hb2⟩
      have HA2 := hidd (HA1.out.step hb2)
      have HB2 := hidd (below_step HB1.out hb2)
      clear hb2 x0 x1 x2 x3 x4 x5 y0 y1 z0 z1 z2
      obtain ⟨⟨x0, x1, x2, x3, x4, x5⟩, ⟨y0, y1⟩, z0, z1, z2⟩ := HA2.out
      cases P3
      · have hBf : B = false := by rw [← hB2]; simp
        clear hB2
        go_wp2_with fail
        refine (c3.out _).mono ?_
        rintro e w3 ⟨rfl, rfl⟩
        go_wp2_with fail
        go_step3
        exact ⟨rfl, hBf, HB2.out, _, _, _, _, _, _, _, _, _, _, _, _, _, _, _, _, _, _, _, _, _, _, _, rfl⟩
      · obtain rfl : B = true := by rw [← hB2]; rfl
        have stt := hidd (st.out trivial trivial w.heap.size (w.heap.size + 1 + 1) (w.heap.size + 1) w2 HA2.out)
        clear hB2
        cases Y
        · go_wp2_with fail
          refine (c3.out _).mono ?_
          rintro e w3 ⟨rfl, rfl⟩
          go_wp2_with fail
          refine (toldBL_no _ entersRate1 _ _ 150 stt.out).mono ?_
          rintro e w4 ⟨rfl, hb4⟩
          have HB4 := hidd (below_step HB2.out hb4)
          clear hb4
          go_wp2_with fail
          (try simp only [Exit.jump])
          go_ret2
          exact ⟨by simp, HB4.out⟩
        · go_wp2_with fail
          refine (c3.out _).mono ?_
          rintro e w3 ⟨rfl, rfl⟩
          go_wp2_with fail
          refine (toldBL_ok _ entersRate1 _ _ X stt.out).mono ?_
          rintro e w4 ⟨rfl, hb4⟩
          have HB4 := hidd (below_step HB2.out hb4)
          clear hb4
          go_wp2_with fail
          (try simp only [Exit.jump])
          go_ret2
          exact ⟨by simp, HB4.out⟩
end Go.Proofs.Ytianceglbkcmpaa
