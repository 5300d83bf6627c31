/- Which pairs are fractions: the program's answer and the document's. -/
import Derived.Test.YtohkkebiilaniaaBgG
namespace Go.Proofs.Ytohkkebiilaniaa
set_option linter.unusedVariables false
open Go.RowKit

theorem ratCheck_any (n d : Int) (h0 : -9223372036854775808 ≤ n) (h1 : n ≤ 9223372036854775807) (h2 : -9223372036854775808 ≤ d) (h3 : d ≤ 9223372036854775807) (w : World) :
    Calls Try.prog 47 #[.agg #[.int .i64 n, .int .i64 d]] w fun e w' => e = .returned (.int .i64 (if rightB n d then 0 else 2)) ∧ Below w.heap.size w w' := by
  have c := hidd (fun W => is_any n d h0 h1 h2 h3 W)
  generalize rightB n d = R at *
  cases R
  all_goals
    go_enter Try.func47, Try.ntmps47
    go_wp2_with fail
    refine (c.out _).mono ?_
    rintro e w1 ⟨rfl, hb⟩
    go_wp2_with fail
    go_ret
    exact ⟨rfl, by (repeat' (first | (with_reducible exact Below.refl _ _) | (with_reducible assumption) | (with_reducible apply Below.setCell) | (with_reducible apply Below.alloc) | (with_reducible apply Below.drew) | (with_reducible apply below_drewN) | (with_reducible refine Below.trans ?_ (Below.mono (by assumption) ?_)) | omega | (simp; done) | (simp; omega)))⟩
theorem digs_one : BM.digs 1 = [1] := by rw [BM.digs_pos (by decide)]; simp [BM.digs_zero]
theorem digs_single {G : Nat} (h : (BM.digs G).length = 1) : BM.D (BM.digs G) 0 = G := by
  have h1 := BM.valD_digs G
  obtain ⟨d, hd⟩ := List.length_eq_one_iff.1 h
  rw [hd] at h1 ⊢
  simp [BM.valD] at h1
  simp [BM.D, h1]
set_option maxRecDepth 100000 in
set_option maxHeartbeats 8000000 in
theorem refRight_any (n d : Int) (h0 : -9223372036854775808 ≤ n) (h1 : n ≤ 9223372036854775807) (h2 : -9223372036854775808 ≤ d) (h3 : d ≤ 9223372036854775807) (w : World) :
    Calls Try.prog 57 #[.agg #[.int .i64 n, .int .i64 d]] w fun e w' => e = .returned (.bool (rightB n d)) ∧ Below w.heap.size w w' := by
  by_cases hd : d < 1
  · have hr : rightB n d = false := decide_eq_false (fun h => by omega)
    rw [hr]
    go_enter Try.func57, Try.ntmps57
    go_wp2_with fail
    go_ret
    exact ⟨rfl, by (repeat' (first | (with_reducible exact Below.refl _ _) | (with_reducible assumption) | (with_reducible apply Below.setCell) | (with_reducible apply Below.alloc) | (with_reducible apply Below.drew) | (with_reducible apply below_drewN) | (with_reducible refine Below.trans ?_ (Below.mono (by assumption) ?_)) | omega | (simp; done) | (simp; omega)))⟩
  · have sn := hidd (fun W => size_big n h0 h1 W)
    by_cases hn : n = -9223372036854775808
    · have hr : rightB n d = false := decide_eq_false (fun h => h.2.1 hn)
      rw [hr]
      have hN : n.natAbs = 9223372036854775808 := by omega
      rw [hN] at sn
      clear hr hN hn
      go_enter Try.func57, Try.ntmps57
      go_wp2_with fail
      refine (sn.out _).mono ?_
      rintro e w' ⟨rfl, rfl⟩
      go_wp2_with fail
      go_ret
      exact ⟨rfl, by (repeat' (first | (with_reducible exact Below.refl _ _) | (with_reducible assumption) | (with_reducible apply Below.setCell) | (with_reducible apply Below.alloc) | (with_reducible apply Below.drew) | (with_reducible apply below_drewN) | (with_reducible refine Below.trans ?_ (Below.mono (by assumption) ?_)) | omega | (simp; done) | (simp; omega)))⟩
    · have on := hidd (fun W => (of_any n.natAbs (by omega) W).mono fun _ _ h => h.one)
      have od := hidd (fun W => (of_any d.natAbs (by omega) W).mono fun _ _ h => h.one)
      have cg := hidd (fun u v W h h' => gcd_big n.natAbs d.natAbs (nat15 (by omega)) (nat15 (by omega)) u v W h h')
      have hr : rightB n d = (Nat.gcd n.natAbs d.natAbs == 1) := by
        unfold rightB
        by_cases hg : Nat.gcd n.natAbs d.natAbs = 1
        · simp [hg, hn]; omega
        · simp [hg]
      have hdD : d = (d.natAbs : Int) := by omega
      have hN63 : ¬ 9223372036854775808 ≤ (n.natAbs : Int) := by omega
      rw [hr]
      generalize hG : Nat.gcd n.natAbs d.natAbs = G at *
      generalize n.natAbs = N at *
      generalize d.natAbs = D at *
      clear hr hG hn
      rw [← hdD] at od
      have hNn : (0 : Int) ≤ (N : Int) := by omega
      generalize hNi : (N : Int) = Ni at *
      have hN64 : ¬ 9223372036854775808 ≤ Ni := hN63
      have hDw : IntKind.u64.wrap d = d := by rw [IntKind.wrap_u64]; omega
      clear hNi hN63 hdD
      obtain ⟨bb, hbb⟩ : ∃ bb, (G == 1) = bb := ⟨_, rfl⟩
      rw [hbb]
      have HBE := hidd hbb
      clear hbb
      have hb0 := below_new (Below.refl w.heap.size w) (.cells #[.int .i64 n, .int .i64 d] 32)
      have hbox := RatBox.new w 32 n d
      have HB0 := hidd hb0
      have HBX := hidd hbox
      clear hb0 hbox
      go_enter Try.func57, Try.ntmps57
      go_wp2_with fail
      refine (sn.out _).mono ?_
      rintro e w' ⟨rfl, rfl⟩
      go_wp2_with fail
      go_cut [3] (fun s3 wx => BigAt G wx s3 ∧ Below w.heap.size w wx)
      case first =>
        obtain ⟨bz, b0, b1, b2, b3⟩ := HBX.out
        go_region_held3 (fun w' => w'.cell? ⟨w.heap.size, 0, none⟩ = some (.int .i64 n) ∧ w'.cell? ⟨w.heap.size, 1, none⟩ = some (.int .i64 d))
          ((first | exact pp3 | exact pp2 | exact pp1 | exact ⟨b0, b1⟩))
          ((first
            | (go_at_call 73; refine (sn.out _).mono ?_; rintro E ws ⟨rfl, rfl⟩)
            | (go_at_call_of 75 (Value.int IntKind.u64 Ni); refine (on.out _).mono ?_; rintro E wa ⟨va, rfl, ha, hba⟩; have qa := Below.size hba; have pp1 : wa.cell? ⟨w.heap.size, 0, none⟩ = some (.int .i64 n) ∧ wa.cell? ⟨w.heap.size, 1, none⟩ = some (.int .i64 d) := (by first | exact ⟨(by have q := Below.cell (p := ⟨w.heap.size, 0, none⟩) hba bz; exact q.trans b0), (by have q := Below.cell (p := ⟨w.heap.size, 1, none⟩) hba bz; exact q.trans b1)⟩ | exact ⟨(by have q := Below.cell (p := ⟨w.heap.size, 0, none⟩) hba (Nat.lt_of_lt_of_le bz qb); exact q.trans pp2.1), (by have q := Below.cell (p := ⟨w.heap.size, 1, none⟩) hba (Nat.lt_of_lt_of_le bz qb); exact q.trans pp2.2)⟩))
            | (go_at_call_of 75 (Value.int IntKind.u64 d); refine (od.out _).mono ?_; rintro E wb ⟨vb, rfl, hb, hbb⟩; have qb := Below.size hbb; have pp2 : wb.cell? ⟨w.heap.size, 0, none⟩ = some (.int .i64 n) ∧ wb.cell? ⟨w.heap.size, 1, none⟩ = some (.int .i64 d) := (by first | exact ⟨(by have q := Below.cell (p := ⟨w.heap.size, 0, none⟩) hbb bz; exact q.trans b0), (by have q := Below.cell (p := ⟨w.heap.size, 1, none⟩) hbb bz; exact q.trans b1)⟩ | exact ⟨(by have q := Below.cell (p := ⟨w.heap.size, 0, none⟩) hbb (Nat.lt_of_lt_of_le bz qa); exact q.trans pp1.1), (by have q := Below.cell (p := ⟨w.heap.size, 1, none⟩) hbb (Nat.lt_of_lt_of_le bz qa); exact q.trans pp1.2)⟩))
            | (go_at_call 74; (first | (refine (cg.out _ _ _ (ha.below hbb) hb).mono ?_) | (refine (cg.out _ _ _ ha (hb.below hba)).mono ?_)); rintro E wg ⟨vg, rfl, hg, hbg⟩; have pp3 : wg.cell? ⟨w.heap.size, 0, none⟩ = some (.int .i64 n) ∧ wg.cell? ⟨w.heap.size, 1, none⟩ = some (.int .i64 d) := (by first | exact ⟨(by have q := Below.cell (p := ⟨w.heap.size, 0, none⟩) hbg (Nat.lt_of_lt_of_le bz (Nat.le_trans qa qb)); exact q.trans pp2.1), (by have q := Below.cell (p := ⟨w.heap.size, 1, none⟩) hbg (Nat.lt_of_lt_of_le bz (Nat.le_trans qa qb)); exact q.trans pp2.2)⟩ | exact ⟨(by have q := Below.cell (p := ⟨w.heap.size, 0, none⟩) hbg (Nat.lt_of_lt_of_le bz (Nat.le_trans qb qa)); exact q.trans pp1.1), (by have q := Below.cell (p := ⟨w.heap.size, 1, none⟩) hbg (Nat.lt_of_lt_of_le bz (Nat.le_trans qb qa)); exact q.trans pp1.2)⟩))))
        all_goals go_wp2_with fail
        all_goals go_meet
        all_goals (refine ⟨hg, ?_⟩)
        all_goals first | exact below_step (below_step (below_step HB0.out.drew hba) hbb) hbg | exact below_step (below_step (below_step HB0.out.drew hbb) hba) hbg | exact below_step (below_step (below_step HB0.out hba) hbb) hbg | exact below_step (below_step (below_step HB0.out hbb) hba) hbg
      case rest =>
        obtain ⟨hG, hB⟩ := hcut
        have HGG := hidd hG
        have HBB := hidd hB
        obtain ⟨A, c, rfl, g1, g2, hl⟩ := hG
        have HL := hidd hl
        clear hB hl
        by_cases h1 : G = 1
        · subst h1
          have hbt : bb = true := by rw [← HBE.out]; rfl
          subst hbt
          obtain ⟨ad, e', hadb, x0⟩ := HL.out.digit 0 (by rw [digs_one]; decide)
          subst e'
          have hD0 : BM.D (BM.digs 1) 0 = 1 := by rw [digs_one]; rfl
          have hl1 : (BM.digs 1).length = 1 := by rw [digs_one]; rfl
          have ea : ad.add 0 = ad := rfl
          rw [hD0, ea] at x0
          rw [hl1]
          clear hD0 hl1 ea g1
          go_wp2_with fail
          go_ret
          exact ⟨rfl, HBB.out⟩
        · have hG1 : bb = false := by rw [← HBE.out]; exact beq_eq_false_iff_ne.2 h1
          subst hG1
          by_cases hl1 : (BM.digs G).length = 1
          · obtain ⟨ad, e', hadb, x0⟩ := HL.out.digit 0 (by rw [hl1]; decide)
            subst e'
            have hD0 := digs_single hl1
            have ea : ad.add 0 = ad := rfl
            rw [hD0, ea] at x0
            rw [hl1]
            have hne : (((G : Nat) : Int) == 1) = false := beq_eq_false_iff_ne.2 (by omega)
            clear hD0 hl1 ea g1
            go_wp2_with fail
            go_ret
            exact ⟨rfl, HBB.out⟩
          · have hne : (((BM.digs G).length : Int) == 1) = false := beq_eq_false_iff_ne.2 (by omega)
            go_wp2_with fail
            go_ret
            exact ⟨rfl, HBB.out⟩
end Go.Proofs.Ytohkkebiilaniaa
