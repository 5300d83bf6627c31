/- Objects: ObjectTells: flows. -/
import Derived.Test.YtappmacnoopmkaaGreatObTa
namespace Go.Proofs.YtappmacnoopmkaaGreat
set_option linter.unusedVariables false
open Go.RowKit

theorem cut_seq_flows {P : Program} {c1 c2 : Code} {Q : Exit → Act → World → Prop} {a : Act} {w : World} (R : Act → World → Prop) (first : ∀ K : Act → World → Prop, Hid (∀ a' w', R a' w' → K a' w') → Code.wp P c1 (Exit.then K Q) a w) (rest : ∀ a' w', R a' w' → Code.wp P c2 Q a' w') : Code.wp P (c1.seq c2) Q a w := Go.wp_seq (first _ rest)
set_option maxRecDepth 1000000 in
set_option maxHeartbeats 40000000 in
theorem flows_any (s0 s1 s2 s3 s4 s5 s6 s7 s8 s9 s10 s11 s12 s13 s14 s15 s16 s17 s18 s19 s20 s21 s22 s23 s24 s25 s26 s27 : Int) (hY : -9223372036854775808 ≤ s8 ∧ s8 ≤ 9223372036854775807) (w : World) : Calls Tryz.prog 6 #[.agg #[.int .i64 s0, .int .i64 s1, .int .i64 s2, .int .i64 s3, .int .i64 s4, .int .i64 s5, .int .i64 s6, .int .i64 s7, .int .i64 s8, .int .i64 s9, .int .i64 s10, .int .i64 s11, .int .i64 s12, .int .i64 s13, .int .i64 s14, .int .i64 s15, .int .i64 s16, .int .i64 s17, .int .i64 s18, .int .i64 s19, .int .i64 s20, .int .i64 s21, .int .i64 s22, .int .i64 s23, .int .i64 s24, .int .i64 s25, .int .i64 s26, .int .i64 s27]] w fun e w' => e = .returned (.bool true) ∧ Below w.heap.size w w' := by
  have HY := hidd hY
  obtain ⟨wE, hwE⟩ : ∃ wE, w.alloc (.cells #[.int .i64 s0, .int .i64 s1, .int .i64 s2, .int .i64 s3, .int .i64 s4, .int .i64 s5, .int .i64 s6, .int .i64 s7, .int .i64 s8, .int .i64 s9, .int .i64 s10, .int .i64 s11, .int .i64 s12, .int .i64 s13, .int .i64 s14, .int .i64 s15, .int .i64 s16, .int .i64 s17, .int .i64 s18, .int .i64 s19, .int .i64 s20, .int .i64 s21, .int .i64 s22, .int .i64 s23, .int .i64 s24, .int .i64 s25, .int .i64 s26, .int .i64 s27] 37) = wE := ⟨_, rfl⟩
  have hpE : w.heap.size < wE.heap.size := by rw [← hwE]; simp
  have HBE := hidd (show Below w.heap.size w wE by rw [← hwE]; exact below_new (Below.refl _ _) _)
  have BE0 := hidd (Below.refl wE.heap.size wE)
  have KXW := hidd (fun (W : World) (hb : Below wE.heap.size wE W) => (show W.cell? ⟨w.heap.size, 9, none⟩ = some (.int .i64 s9) ∧ W.cell? ⟨w.heap.size, 10, none⟩ = some (.int .i64 s10) ∧ W.cell? ⟨w.heap.size, 11, none⟩ = some (.int .i64 s11) ∧ W.cell? ⟨w.heap.size, 12, none⟩ = some (.int .i64 s12) ∧ W.cell? ⟨w.heap.size, 13, none⟩ = some (.int .i64 s13) ∧ W.cell? ⟨w.heap.size, 14, none⟩ = some (.int .i64 s14) ∧ W.cell? ⟨w.heap.size, 15, none⟩ = some (.int .i64 s15) from ⟨(hb.cell (p := ⟨w.heap.size, 9, none⟩) hpE).trans (by rw [← hwE]; simp [go_sem]), (hb.cell (p := ⟨w.heap.size, 10, none⟩) hpE).trans (by rw [← hwE]; simp [go_sem]), (hb.cell (p := ⟨w.heap.size, 11, none⟩) hpE).trans (by rw [← hwE]; simp [go_sem]), (hb.cell (p := ⟨w.heap.size, 12, none⟩) hpE).trans (by rw [← hwE]; simp [go_sem]), (hb.cell (p := ⟨w.heap.size, 13, none⟩) hpE).trans (by rw [← hwE]; simp [go_sem]), (hb.cell (p := ⟨w.heap.size, 14, none⟩) hpE).trans (by rw [← hwE]; simp [go_sem]), (hb.cell (p := ⟨w.heap.size, 15, none⟩) hpE).trans (by rw [← hwE]; simp [go_sem])⟩))
  have KXL := hidd (fun (W : World) (hb : Below wE.heap.size wE W) => (show W.cell? ⟨w.heap.size, 16, none⟩ = some (.int .i64 s16) ∧ W.cell? ⟨w.heap.size, 17, none⟩ = some (.int .i64 s17) from ⟨(hb.cell (p := ⟨w.heap.size, 16, none⟩) hpE).trans (by rw [← hwE]; simp [go_sem]), (hb.cell (p := ⟨w.heap.size, 17, none⟩) hpE).trans (by rw [← hwE]; simp [go_sem])⟩))
  have KXN := hidd (fun (W : World) (hb : Below wE.heap.size wE W) => (show W.cell? ⟨w.heap.size, 18, none⟩ = some (.int .i64 s18) ∧ W.cell? ⟨w.heap.size, 19, none⟩ = some (.int .i64 s19) from ⟨(hb.cell (p := ⟨w.heap.size, 18, none⟩) hpE).trans (by rw [← hwE]; simp [go_sem]), (hb.cell (p := ⟨w.heap.size, 19, none⟩) hpE).trans (by rw [← hwE]; simp [go_sem])⟩))
  have KXP := hidd (fun (W : World) (hb : Below wE.heap.size wE W) => (show W.cell? ⟨w.heap.size, 20, none⟩ = some (.int .i64 s20) ∧ W.cell? ⟨w.heap.size, 21, none⟩ = some (.int .i64 s21) ∧ W.cell? ⟨w.heap.size, 22, none⟩ = some (.int .i64 s22) ∧ W.cell? ⟨w.heap.size, 23, none⟩ = some (.int .i64 s23) ∧ W.cell? ⟨w.heap.size, 24, none⟩ = some (.int .i64 s24) from ⟨(hb.cell (p := ⟨w.heap.size, 20, none⟩) hpE).trans (by rw [← hwE]; simp [go_sem]), (hb.cell (p := ⟨w.heap.size, 21, none⟩) hpE).trans (by rw [← hwE]; simp [go_sem]), (hb.cell (p := ⟨w.heap.size, 22, none⟩) hpE).trans (by rw [← hwE]; simp [go_sem]), (hb.cell (p := ⟨w.heap.size, 23, none⟩) hpE).trans (by rw [← hwE]; simp [go_sem]), (hb.cell (p := ⟨w.heap.size, 24, none⟩) hpE).trans (by rw [← hwE]; simp [go_sem])⟩))
  have KXM := hidd (fun (W : World) (hb : Below wE.heap.size wE W) => (show W.cell? ⟨w.heap.size, 25, none⟩ = some (.int .i64 s25) ∧ W.cell? ⟨w.heap.size, 26, none⟩ = some (.int .i64 s26) from ⟨(hb.cell (p := ⟨w.heap.size, 25, none⟩) hpE).trans (by rw [← hwE]; simp [go_sem]), (hb.cell (p := ⟨w.heap.size, 26, none⟩) hpE).trans (by rw [← hwE]; simp [go_sem])⟩))
  have HWE := hidd hwE
  clear hwE
  go_enter Tryz.func6, Tryz.ntmps6
  refine cut_seq_flows (fun a' w' => a' = ({ tmps := #[.agg #[.int .i64 s0, .int .i64 s1, .int .i64 s2, .int .i64 s3, .int .i64 s4, .int .i64 s5, .int .i64 s6, .int .i64 s7, .int .i64 s8, .int .i64 s9, .int .i64 s10, .int .i64 s11, .int .i64 s12, .int .i64 s13, .int .i64 s14, .int .i64 s15, .int .i64 s16, .int .i64 s17, .int .i64 s18, .int .i64 s19, .int .i64 s20, .int .i64 s21, .int .i64 s22, .int .i64 s23, .int .i64 s24, .int .i64 s25, .int .i64 s26, .int .i64 s27], .pointer (some ⟨w.heap.size, 0, none⟩), .bool false, undef, undef, undef, undef, undef, undef, undef, undef, undef, undef, undef, undef, undef, undef, undef, undef, undef, undef, undef, undef, undef, undef, undef, undef, undef, undef, undef, undef, undef, undef, undef, undef, undef, undef, undef, undef, undef, undef, undef, undef, undef, undef, undef, undef, undef, undef, undef, undef, undef, undef, undef, undef, undef, undef, undef, undef, undef, undef, undef, undef, undef, undef, undef, undef, undef, undef, undef, undef, undef, undef, undef, undef, undef, undef, undef, undef, undef, undef, undef, undef, undef, undef, undef, undef, undef, undef, undef, undef, undef, undef, undef, undef, undef, undef, undef, undef, undef, undef, undef, undef, undef, undef, undef, undef, undef, undef, undef, undef, undef, undef, undef, undef, undef, undef, undef, undef, undef, undef, undef, undef, undef, undef, undef, undef, undef, undef, undef, undef, undef, undef, undef, undef, undef, undef, undef, undef, undef, undef, undef, undef, undef, undef, undef, undef, undef, undef, undef, undef, undef, undef, undef, undef, undef, undef, undef, undef, undef, undef, undef, undef, undef, undef, undef, undef, undef, undef, undef, undef, undef, undef, undef, undef, undef, undef, undef, undef, undef, undef, undef, undef, undef, undef, undef, undef, undef, undef, undef, undef, undef, undef, undef, undef, undef, undef, undef, undef, undef, undef, undef, undef, undef, undef, undef, undef, undef, undef, undef, undef, undef, undef, undef, undef, undef, undef, undef, undef, undef, undef, undef, undef, undef, undef, undef, undef, undef, undef, undef, undef, undef, undef, undef, undef, undef, undef, undef, undef, undef, undef, undef, undef, undef, undef, undef, undef, undef, undef, undef, undef, undef, undef, undef, undef, undef, undef, undef, undef, undef, undef, undef, undef, undef, undef, undef, undef, undef, undef, undef, undef, undef, undef, undef, undef, undef, undef, undef, undef, undef, undef, undef, undef, undef, undef, undef, undef, undef, undef, undef, undef, undef, undef], defers := [] } : Act) ∧ wE = w') ?first ?rest
  case first =>
    intro K hK
    go_wp2_with fail
    rw [HWE.out]
    exact hK.out _ _ ⟨rfl, rfl⟩
  case rest =>
  rintro a' w' ⟨rfl, rfl⟩
  dsimp only
  refine Go.wp_seq_k (fun K hK => ?_)
  go_cut [4, 6, 8] (fun s_4 s_6 s_8 wx => Below wE.heap.size wE wx)
  case first =>
    as_aux_lemma =>
      by_cases hm : mayW s9 s10 s11 s12 s13 s14 s15 = true
      · have T1 := hidd (fun W => tW1 s9 s10 s11 s12 s13 s14 s15 hm W)
        have T2 := hidd (fun W => tW2 s9 s10 s11 s12 s13 s14 s15 hm W)
        have T3 := hidd (fun W => tW3 s9 s10 s11 s12 s13 s14 s15 hm W)
        have T5 := hidd (fun A k W h => tW5 s9 s10 s11 s12 s13 s14 s15 hm A k W h)
        clear hm
        obtain ⟨c0, c1, c2, c3, c4, c5, c6⟩ := KXW.out _ BE0.out
        go_wp2_with fail
        refine (T1.out _).mono ?_
        rintro e w1 ⟨hb1, A1, k1, rfl, hl1⟩
        have BE1 := hidd (below_step BE0.out hb1)
        have hz1 : w.heap.size < w1.heap.size := by have := BE1.out.size; omega
        have HL1 := hidd hl1
        obtain ⟨d0, d1, d2, d3, d4, d5, d6⟩ := KXW.out _ BE1.out
        clear c0 c1 c2 c3 c4 c5 c6 hb1 hl1
        go_wp2_with fail
        refine (T2.out _).mono ?_
        rintro e w2 ⟨rfl, hb2⟩
        obtain ⟨bc, bf⟩ := bcell hb2
        have hz2 : w1.heap.size + 1 < w2.heap.size := by have := hb2.size; simp at this; omega
        have o0 : w2.cell? ⟨w1.heap.size, 0, none⟩ = some (.int .i64 9) := by rw [bc _ _ (by simp; omega)]; simp [go_sem]
        have n0 : w2.cell? ⟨w1.heap.size + 1, 0, none⟩ = some (.int .i64 0) := by rw [bc _ _ (by simp)]; simp [go_sem]
        have m0 : w2.frozen? ⟨w1.heap.size + 1, 0, none⟩ = false := by rw [bf _ _ (by simp)]; simp [go_sem]
        have o1 : w2.cell? ⟨w1.heap.size, 1, none⟩ = some (.int .i64 2) := by rw [bc _ _ (by simp; omega)]; simp [go_sem]
        have n1 : w2.cell? ⟨w1.heap.size + 1, 1, none⟩ = some (.int .i64 0) := by rw [bc _ _ (by simp)]; simp [go_sem]
        have m1 : w2.frozen? ⟨w1.heap.size + 1, 1, none⟩ = false := by rw [bf _ _ (by simp)]; simp [go_sem]
        have o2 : w2.cell? ⟨w1.heap.size, 2, none⟩ = some (.slice A1 7 k1) := by rw [bc _ _ (by simp; omega)]; simp [go_sem]
        have n2 : w2.cell? ⟨w1.heap.size + 1, 2, none⟩ = some (.slice none 0 0) := by rw [bc _ _ (by simp)]; simp [go_sem]
        have m2 : w2.frozen? ⟨w1.heap.size + 1, 2, none⟩ = false := by rw [bf _ _ (by simp)]; simp [go_sem]
        have BB2 := below_step (below_new (below_new (Below.refl w1.heap.size w1) (.cells #[.int .i64 9, .int .i64 2, .slice A1 7 k1] 42)) (.cells #[.int .i64 0, .int .i64 0, .slice none 0 0] 42)) hb2
        have BE2 := hidd (below_step BE1.out BB2)
        have HL2 := hidd (HL1.out.to (w' := w2) (p' := (· < w1.heap.size)) (fun q hq => ⟨hq, BB2.block q hq⟩))
        obtain ⟨f0, f1, f2, f3, f4, f5, f6⟩ := KXW.out _ BE2.out
        clear d0 d1 d2 d3 d4 d5 d6 hb2 bc bf BB2
        go_wp2_with fail
        refine (T3.out _).mono ?_
        rintro e w3 ⟨hb3, A3, k3, rfl, hl3⟩
        obtain ⟨bc, bf⟩ := bcell hb3
        have hz3 := hb3.size
        have o0' : w3.cell? ⟨w1.heap.size, 0, none⟩ = some (.int .i64 9) := (bc _ _ (by omega)).trans o0
        have n0' : w3.cell? ⟨w1.heap.size + 1, 0, none⟩ = some (.int .i64 0) := (bc _ _ hz2).trans n0
        have m0' : w3.frozen? ⟨w1.heap.size + 1, 0, none⟩ = false := (bf _ _ hz2).trans m0
        have o1' : w3.cell? ⟨w1.heap.size, 1, none⟩ = some (.int .i64 2) := (bc _ _ (by omega)).trans o1
        have n1' : w3.cell? ⟨w1.heap.size + 1, 1, none⟩ = some (.int .i64 0) := (bc _ _ hz2).trans n1
        have m1' : w3.frozen? ⟨w1.heap.size + 1, 1, none⟩ = false := (bf _ _ hz2).trans m1
        have o2' : w3.cell? ⟨w1.heap.size, 2, none⟩ = some (.slice A1 7 k1) := (bc _ _ (by omega)).trans o2
        have n2' : w3.cell? ⟨w1.heap.size + 1, 2, none⟩ = some (.slice none 0 0) := (bc _ _ hz2).trans n2
        have m2' : w3.frozen? ⟨w1.heap.size + 1, 2, none⟩ = false := (bf _ _ hz2).trans m2
        obtain ⟨W3, hW3⟩ : ∃ W3, (((w3.setCell ⟨w1.heap.size + 1, 0, none⟩ (.int .i64 9)).setCell ⟨w1.heap.size + 1, 1, none⟩ (.int .i64 2)).setCell ⟨w1.heap.size + 1, 2, none⟩ (.slice A3 7 k3)) = W3 := ⟨_, rfl⟩
        have hs3 : W3.heap.size = w3.heap.size := by rw [← hW3]; simp
        have BE3 := hidd (show Below wE.heap.size wE W3 by rw [← hW3]; have q := below_step BE2.out hb3; have z1 := BE1.out.size; (repeat' (first | (with_reducible exact Below.refl _ _) | (with_reducible assumption) | (with_reducible apply Below.setCell) | (with_reducible apply Below.alloc) | (with_reducible apply Below.drew) | (with_reducible apply below_drewN) | (with_reducible refine Below.trans ?_ (Below.mono (by assumption) ?_)) | omega | (simp; done) | (simp; omega))))
        have HL3 := hidd (show LieQ wdV 1 W3 (· < w1.heap.size) A1 [s10, s11, s9, s13, s12, s14, s15] by rw [← hW3]; exact lieq_set3 (HL2.out.to (w' := w3) (p' := (· < w1.heap.size)) (fun q hq => ⟨hq, hb3.block q (by omega)⟩)) _ (fun q hq => by omega) _ _ _)
        have HM3 := hidd (show LieQ wdV 1 W3 (fun q => w2.heap.size ≤ q ∧ q < w3.heap.size) A3 [s10, s11, s9, s13, s12, s14, s15] by rw [← hW3]; exact lieq_set3 hl3 _ (fun q hq => by omega) _ _ _)
        have r0 : W3.cell? ⟨w1.heap.size, 0, none⟩ = some (.int .i64 9) := by rw [← hW3]; simp [go_sem, o0']
        have r1 : W3.cell? ⟨w1.heap.size, 1, none⟩ = some (.int .i64 2) := by rw [← hW3]; simp [go_sem, o1']
        have r2 : W3.cell? ⟨w1.heap.size, 2, none⟩ = some (.slice A1 7 k1) := by rw [← hW3]; simp [go_sem, o2']
        have HW3 := hidd hW3
        clear f0 f1 f2 f3 f4 f5 f6 hW3 hb3 hl3 bc bf o0 o1 o2 n0 n1 n2 m0 m1 m2
        go_wp2_with fail
        rw [HW3.out]
        refine (refSelf 9 2 A1 A3 [s10, s11, s9, s13, s12, s14, s15] 7 k1 k3 rfl (by omega) W3 (HL3.out.to (w' := W3) (p' := (· < W3.heap.size)) (fun q hq => ⟨by have : q < w1.heap.size := hq; omega, rfl⟩)) (HM3.out.to (w' := W3) (p' := (· < W3.heap.size)) (fun q hq => ⟨by omega, rfl⟩))).mono ?_
        rintro e w4 ⟨rfl, hb4⟩
        obtain ⟨bc, bf⟩ := bcell hb4
        have v0 : w4.cell? ⟨w1.heap.size, 0, none⟩ = some (.int .i64 9) := (bc _ _ (by omega)).trans r0
        have v1 : w4.cell? ⟨w1.heap.size, 1, none⟩ = some (.int .i64 2) := (bc _ _ (by omega)).trans r1
        have v2 : w4.cell? ⟨w1.heap.size, 2, none⟩ = some (.slice A1 7 k1) := (bc _ _ (by omega)).trans r2
        have BE4 := hidd (below_step BE3.out hb4)
        have HL4 := hidd (HL3.out.to (w' := w4) (p' := (· < w4.heap.size)) (fun q hq => ⟨by have := hb4.size; have : q < w1.heap.size := hq; omega, hb4.block q (by have : q < w1.heap.size := hq; omega)⟩))
        clear hb4 bc bf r0 r1 r2 o0' o1' o2' n0' n1' n2' m0' m1' m2'
        go_wp2_with fail
        refine (T5.out A1 k1 _ HL4.out).mono ?_
        rintro e w5 ⟨rfl, hb5⟩
        have BE5 := hidd (below_step BE4.out hb5)
        have hz5 : w.heap.size < w5.heap.size := by have := BE5.out.size; omega
        obtain ⟨g0, g1, g2, g3, g4, g5, g6⟩ := KXW.out _ BE5.out
        clear hb5 v0 v1 v2 hz2 hz3 hs3
        go_wp2_with fail
        go_meet
        exact below_new BE5.out _
      · have hm' : mayW s9 s10 s11 s12 s13 s14 s15 = false := by cases h : mayW s9 s10 s11 s12 s13 s14 s15; rfl; exact absurd h hm
        have T1 := hidd (fun W => fW1 s9 s10 s11 s12 s13 s14 s15 hm' W)
        have T2 := hidd (fun W => fW2 s9 s10 s11 s12 s13 s14 s15 hm' W)
        have T4 := hidd (fun W => refZero W)
        have T5 := hidd (fun W => fW5 W)
        clear hm hm'
        obtain ⟨c0, c1, c2, c3, c4, c5, c6⟩ := KXW.out _ BE0.out
        go_wp2_with fail
        refine (T1.out _).mono ?_
        rintro e w1 ⟨rfl, hb1⟩
        have BE1 := hidd (below_step BE0.out hb1)
        have hz1 : w.heap.size < w1.heap.size := by have := BE1.out.size; omega
        obtain ⟨d0, d1, d2, d3, d4, d5, d6⟩ := KXW.out _ BE1.out
        clear c0 c1 c2 c3 c4 c5 c6 hb1
        go_wp2_with fail
        refine (T2.out _).mono ?_
        rintro e w2 ⟨rfl, hb2⟩
        obtain ⟨bc, bf⟩ := bcell hb2
        have hz2 : w1.heap.size + 1 < w2.heap.size := by have := hb2.size; simp at this; omega
        have o0 : w2.cell? ⟨w1.heap.size, 0, none⟩ = some (.int .i64 0) := by rw [bc _ _ (by simp; omega)]; simp [go_sem]
        have n0 : w2.cell? ⟨w1.heap.size + 1, 0, none⟩ = some (.int .i64 0) := by rw [bc _ _ (by simp)]; simp [go_sem]
        have o1 : w2.cell? ⟨w1.heap.size, 1, none⟩ = some (.int .i64 0) := by rw [bc _ _ (by simp; omega)]; simp [go_sem]
        have n1 : w2.cell? ⟨w1.heap.size + 1, 1, none⟩ = some (.int .i64 0) := by rw [bc _ _ (by simp)]; simp [go_sem]
        have o2 : w2.cell? ⟨w1.heap.size, 2, none⟩ = some (.slice none 0 0) := by rw [bc _ _ (by simp; omega)]; simp [go_sem]
        have n2 : w2.cell? ⟨w1.heap.size + 1, 2, none⟩ = some (.slice none 0 0) := by rw [bc _ _ (by simp)]; simp [go_sem]
        have BE2 := hidd (below_step (below_new (below_new BE1.out (.cells #[.int .i64 0, .int .i64 0, .slice none 0 0] 42)) (.cells #[.int .i64 0, .int .i64 0, .slice none 0 0] 42)) hb2)
        clear d0 d1 d2 d3 d4 d5 d6 hb2 bc bf
        go_wp2_with fail
        refine (T4.out _).mono ?_
        rintro e w4 ⟨rfl, hb4⟩
        obtain ⟨bc, bf⟩ := bcell hb4
        have v0 : w4.cell? ⟨w1.heap.size, 0, none⟩ = some (.int .i64 0) := (bc _ _ (by omega)).trans o0
        have v1 : w4.cell? ⟨w1.heap.size, 1, none⟩ = some (.int .i64 0) := (bc _ _ (by omega)).trans o1
        have v2 : w4.cell? ⟨w1.heap.size, 2, none⟩ = some (.slice none 0 0) := (bc _ _ (by omega)).trans o2
        have BE4 := hidd (below_step BE2.out hb4)
        clear hb4 bc bf o0 o1 o2 n0 n1 n2
        go_wp2_with fail
        refine (T5.out _).mono ?_
        rintro e w5 ⟨rfl, hb5⟩
        have BE5 := hidd (below_step BE4.out hb5)
        clear hb5 v0 v1 v2 hz2
        go_wp2_with fail
        go_meet
        exact below_new BE5.out _
  case rest =>
  obtain ⟨wc1, hwc⟩ : ∃ W, W = wc := ⟨_, rfl⟩
  subst hwc
  have BC1 := hidd hcut
  clear hcut
  refine hK _ _ ?_
  clear hK
  refine Go.wp_seq_k (fun K hK => ?_)
  go_cut [10, 12, 14] (fun s_10 s_12 s_14 wx => Below wE.heap.size wE wx)
  case first =>
    as_aux_lemma =>
      by_cases hm : mayN s16 s17 = true
      · have T1 := hidd (fun W => tL1 s16 s17 hm W)
        have T2 := hidd (fun W => tL2 s16 s17 hm W)
        have T3 := hidd (fun W => tL3 s16 s17 hm W)
        have T5 := hidd (fun A k W h => tL5 s16 s17 hm A k W h)
        clear hm
        obtain ⟨c0, c1⟩ := KXL.out _ BC1.out
        go_wp2_with fail
        refine (T1.out _).mono ?_
        rintro e w1 ⟨hb1, A1, k1, rfl, hl1⟩
        have BE1 := hidd (below_step BC1.out hb1)
        have hz1 : w.heap.size < w1.heap.size := by have := BE1.out.size; omega
        have HL1 := hidd hl1
        obtain ⟨d0, d1⟩ := KXL.out _ BE1.out
        clear c0 c1 hb1 hl1
        go_wp2_with fail
        refine (T2.out _).mono ?_
        rintro e w2 ⟨rfl, hb2⟩
        obtain ⟨bc, bf⟩ := bcell hb2
        have hz2 : w1.heap.size + 1 < w2.heap.size := by have := hb2.size; simp at this; omega
        have o0 : w2.cell? ⟨w1.heap.size, 0, none⟩ = some (.int .i64 10) := by rw [bc _ _ (by simp; omega)]; simp [go_sem]
        have n0 : w2.cell? ⟨w1.heap.size + 1, 0, none⟩ = some (.int .i64 0) := by rw [bc _ _ (by simp)]; simp [go_sem]
        have m0 : w2.frozen? ⟨w1.heap.size + 1, 0, none⟩ = false := by rw [bf _ _ (by simp)]; simp [go_sem]
        have o1 : w2.cell? ⟨w1.heap.size, 1, none⟩ = some (.int .i64 1) := by rw [bc _ _ (by simp; omega)]; simp [go_sem]
        have n1 : w2.cell? ⟨w1.heap.size + 1, 1, none⟩ = some (.int .i64 0) := by rw [bc _ _ (by simp)]; simp [go_sem]
        have m1 : w2.frozen? ⟨w1.heap.size + 1, 1, none⟩ = false := by rw [bf _ _ (by simp)]; simp [go_sem]
        have o2 : w2.cell? ⟨w1.heap.size, 2, none⟩ = some (.slice A1 2 k1) := by rw [bc _ _ (by simp; omega)]; simp [go_sem]
        have n2 : w2.cell? ⟨w1.heap.size + 1, 2, none⟩ = some (.slice none 0 0) := by rw [bc _ _ (by simp)]; simp [go_sem]
        have m2 : w2.frozen? ⟨w1.heap.size + 1, 2, none⟩ = false := by rw [bf _ _ (by simp)]; simp [go_sem]
        have BB2 := below_step (below_new (below_new (Below.refl w1.heap.size w1) (.cells #[.int .i64 10, .int .i64 1, .slice A1 2 k1] 42)) (.cells #[.int .i64 0, .int .i64 0, .slice none 0 0] 42)) hb2
        have BE2 := hidd (below_step BE1.out BB2)
        have HL2 := hidd (HL1.out.to (w' := w2) (p' := (· < w1.heap.size)) (fun q hq => ⟨hq, BB2.block q hq⟩))
        obtain ⟨f0, f1⟩ := KXL.out _ BE2.out
        clear d0 d1 hb2 bc bf BB2
        go_wp2_with fail
        refine (T3.out _).mono ?_
        rintro e w3 ⟨hb3, A3, k3, rfl, hl3⟩
        obtain ⟨bc, bf⟩ := bcell hb3
        have hz3 := hb3.size
        have o0' : w3.cell? ⟨w1.heap.size, 0, none⟩ = some (.int .i64 10) := (bc _ _ (by omega)).trans o0
        have n0' : w3.cell? ⟨w1.heap.size + 1, 0, none⟩ = some (.int .i64 0) := (bc _ _ hz2).trans n0
        have m0' : w3.frozen? ⟨w1.heap.size + 1, 0, none⟩ = false := (bf _ _ hz2).trans m0
        have o1' : w3.cell? ⟨w1.heap.size, 1, none⟩ = some (.int .i64 1) := (bc _ _ (by omega)).trans o1
        have n1' : w3.cell? ⟨w1.heap.size + 1, 1, none⟩ = some (.int .i64 0) := (bc _ _ hz2).trans n1
        have m1' : w3.frozen? ⟨w1.heap.size + 1, 1, none⟩ = false := (bf _ _ hz2).trans m1
        have o2' : w3.cell? ⟨w1.heap.size, 2, none⟩ = some (.slice A1 2 k1) := (bc _ _ (by omega)).trans o2
        have n2' : w3.cell? ⟨w1.heap.size + 1, 2, none⟩ = some (.slice none 0 0) := (bc _ _ hz2).trans n2
        have m2' : w3.frozen? ⟨w1.heap.size + 1, 2, none⟩ = false := (bf _ _ hz2).trans m2
        obtain ⟨W3, hW3⟩ : ∃ W3, (((w3.setCell ⟨w1.heap.size + 1, 0, none⟩ (.int .i64 10)).setCell ⟨w1.heap.size + 1, 1, none⟩ (.int .i64 1)).setCell ⟨w1.heap.size + 1, 2, none⟩ (.slice A3 2 k3)) = W3 := ⟨_, rfl⟩
        have hs3 : W3.heap.size = w3.heap.size := by rw [← hW3]; simp
        have BE3 := hidd (show Below wE.heap.size wE W3 by rw [← hW3]; have q := below_step BE2.out hb3; have z1 := BE1.out.size; (repeat' (first | (with_reducible exact Below.refl _ _) | (with_reducible assumption) | (with_reducible apply Below.setCell) | (with_reducible apply Below.alloc) | (with_reducible apply Below.drew) | (with_reducible apply below_drewN) | (with_reducible refine Below.trans ?_ (Below.mono (by assumption) ?_)) | omega | (simp; done) | (simp; omega))))
        have HL3 := hidd (show LieQ wdV 1 W3 (· < w1.heap.size) A1 [s16, s17] by rw [← hW3]; exact lieq_set3 (HL2.out.to (w' := w3) (p' := (· < w1.heap.size)) (fun q hq => ⟨hq, hb3.block q (by omega)⟩)) _ (fun q hq => by omega) _ _ _)
        have HM3 := hidd (show LieQ wdV 1 W3 (fun q => w2.heap.size ≤ q ∧ q < w3.heap.size) A3 [s16, s17] by rw [← hW3]; exact lieq_set3 hl3 _ (fun q hq => by omega) _ _ _)
        have r0 : W3.cell? ⟨w1.heap.size, 0, none⟩ = some (.int .i64 10) := by rw [← hW3]; simp [go_sem, o0']
        have r1 : W3.cell? ⟨w1.heap.size, 1, none⟩ = some (.int .i64 1) := by rw [← hW3]; simp [go_sem, o1']
        have r2 : W3.cell? ⟨w1.heap.size, 2, none⟩ = some (.slice A1 2 k1) := by rw [← hW3]; simp [go_sem, o2']
        have HW3 := hidd hW3
        clear f0 f1 hW3 hb3 hl3 bc bf o0 o1 o2 n0 n1 n2 m0 m1 m2
        go_wp2_with fail
        rw [HW3.out]
        refine (refSelf 10 1 A1 A3 [s16, s17] 2 k1 k3 rfl (by omega) W3 (HL3.out.to (w' := W3) (p' := (· < W3.heap.size)) (fun q hq => ⟨by have : q < w1.heap.size := hq; omega, rfl⟩)) (HM3.out.to (w' := W3) (p' := (· < W3.heap.size)) (fun q hq => ⟨by omega, rfl⟩))).mono ?_
        rintro e w4 ⟨rfl, hb4⟩
        obtain ⟨bc, bf⟩ := bcell hb4
        have v0 : w4.cell? ⟨w1.heap.size, 0, none⟩ = some (.int .i64 10) := (bc _ _ (by omega)).trans r0
        have v1 : w4.cell? ⟨w1.heap.size, 1, none⟩ = some (.int .i64 1) := (bc _ _ (by omega)).trans r1
        have v2 : w4.cell? ⟨w1.heap.size, 2, none⟩ = some (.slice A1 2 k1) := (bc _ _ (by omega)).trans r2
        have BE4 := hidd (below_step BE3.out hb4)
        have HL4 := hidd (HL3.out.to (w' := w4) (p' := (· < w4.heap.size)) (fun q hq => ⟨by have := hb4.size; have : q < w1.heap.size := hq; omega, hb4.block q (by have : q < w1.heap.size := hq; omega)⟩))
        clear hb4 bc bf r0 r1 r2 o0' o1' o2' n0' n1' n2' m0' m1' m2'
        go_wp2_with fail
        refine (T5.out A1 k1 _ HL4.out).mono ?_
        rintro e w5 ⟨rfl, hb5⟩
        have BE5 := hidd (below_step BE4.out hb5)
        have hz5 : w.heap.size < w5.heap.size := by have := BE5.out.size; omega
        obtain ⟨g0, g1⟩ := KXL.out _ BE5.out
        clear hb5 v0 v1 v2 hz2 hz3 hs3
        go_wp2_with fail
        go_meet
        exact below_new BE5.out _
      · have hm' : mayN s16 s17 = false := by cases h : mayN s16 s17; rfl; exact absurd h hm
        have T1 := hidd (fun W => fL1 s16 s17 hm' W)
        have T2 := hidd (fun W => fL2 s16 s17 hm' W)
        have T4 := hidd (fun W => refZero W)
        have T5 := hidd (fun W => fL5 W)
        clear hm hm'
        obtain ⟨c0, c1⟩ := KXL.out _ BC1.out
        go_wp2_with fail
        refine (T1.out _).mono ?_
        rintro e w1 ⟨rfl, hb1⟩
        have BE1 := hidd (below_step BC1.out hb1)
        have hz1 : w.heap.size < w1.heap.size := by have := BE1.out.size; omega
        obtain ⟨d0, d1⟩ := KXL.out _ BE1.out
        clear c0 c1 hb1
        go_wp2_with fail
        refine (T2.out _).mono ?_
        rintro e w2 ⟨rfl, hb2⟩
        obtain ⟨bc, bf⟩ := bcell hb2
        have hz2 : w1.heap.size + 1 < w2.heap.size := by have := hb2.size; simp at this; omega
        have o0 : w2.cell? ⟨w1.heap.size, 0, none⟩ = some (.int .i64 0) := by rw [bc _ _ (by simp; omega)]; simp [go_sem]
        have n0 : w2.cell? ⟨w1.heap.size + 1, 0, none⟩ = some (.int .i64 0) := by rw [bc _ _ (by simp)]; simp [go_sem]
        have o1 : w2.cell? ⟨w1.heap.size, 1, none⟩ = some (.int .i64 0) := by rw [bc _ _ (by simp; omega)]; simp [go_sem]
        have n1 : w2.cell? ⟨w1.heap.size + 1, 1, none⟩ = some (.int .i64 0) := by rw [bc _ _ (by simp)]; simp [go_sem]
        have o2 : w2.cell? ⟨w1.heap.size, 2, none⟩ = some (.slice none 0 0) := by rw [bc _ _ (by simp; omega)]; simp [go_sem]
        have n2 : w2.cell? ⟨w1.heap.size + 1, 2, none⟩ = some (.slice none 0 0) := by rw [bc _ _ (by simp)]; simp [go_sem]
        have BE2 := hidd (below_step (below_new (below_new BE1.out (.cells #[.int .i64 0, .int .i64 0, .slice none 0 0] 42)) (.cells #[.int .i64 0, .int .i64 0, .slice none 0 0] 42)) hb2)
        clear d0 d1 hb2 bc bf
        go_wp2_with fail
        refine (T4.out _).mono ?_
        rintro e w4 ⟨rfl, hb4⟩
        obtain ⟨bc, bf⟩ := bcell hb4
        have v0 : w4.cell? ⟨w1.heap.size, 0, none⟩ = some (.int .i64 0) := (bc _ _ (by omega)).trans o0
        have v1 : w4.cell? ⟨w1.heap.size, 1, none⟩ = some (.int .i64 0) := (bc _ _ (by omega)).trans o1
        have v2 : w4.cell? ⟨w1.heap.size, 2, none⟩ = some (.slice none 0 0) := (bc _ _ (by omega)).trans o2
        have BE4 := hidd (below_step BE2.out hb4)
        clear hb4 bc bf o0 o1 o2 n0 n1 n2
        go_wp2_with fail
        refine (T5.out _).mono ?_
        rintro e w5 ⟨rfl, hb5⟩
        have BE5 := hidd (below_step BE4.out hb5)
        clear hb5 v0 v1 v2 hz2
        go_wp2_with fail
        go_meet
        exact below_new BE5.out _
  case rest =>
  obtain ⟨wc2, hwc⟩ : ∃ W, W = wc := ⟨_, rfl⟩
  subst hwc
  have BC2 := hidd hcut
  clear hcut
  refine hK _ _ ?_
  clear hK
  refine Go.wp_seq_k (fun K hK => ?_)
  go_cut [16, 18, 20] (fun s_16 s_18 s_20 wx => Below wE.heap.size wE wx)
  case first =>
    as_aux_lemma =>
      by_cases hm : mayN s18 s19 = true
      · have T1 := hidd (fun W => tN1 s18 s19 hm W)
        have T2 := hidd (fun W => tN2 s18 s19 hm W)
        have T3 := hidd (fun W => tN3 s18 s19 hm W)
        have T5 := hidd (fun A k W h => tN5 s18 s19 hm A k W h)
        clear hm
        obtain ⟨c0, c1⟩ := KXN.out _ BC2.out
        go_wp2_with fail
        refine (T1.out _).mono ?_
        rintro e w1 ⟨hb1, A1, k1, rfl, hl1⟩
        have BE1 := hidd (below_step BC2.out hb1)
        have hz1 : w.heap.size < w1.heap.size := by have := BE1.out.size; omega
        have HL1 := hidd hl1
        obtain ⟨d0, d1⟩ := KXN.out _ BE1.out
        clear c0 c1 hb1 hl1
        go_wp2_with fail
        refine (T2.out _).mono ?_
        rintro e w2 ⟨rfl, hb2⟩
        obtain ⟨bc, bf⟩ := bcell hb2
        have hz2 : w1.heap.size + 1 < w2.heap.size := by have := hb2.size; simp at this; omega
        have o0 : w2.cell? ⟨w1.heap.size, 0, none⟩ = some (.int .i64 11) := by rw [bc _ _ (by simp; omega)]; simp [go_sem]
        have n0 : w2.cell? ⟨w1.heap.size + 1, 0, none⟩ = some (.int .i64 0) := by rw [bc _ _ (by simp)]; simp [go_sem]
        have m0 : w2.frozen? ⟨w1.heap.size + 1, 0, none⟩ = false := by rw [bf _ _ (by simp)]; simp [go_sem]
        have o1 : w2.cell? ⟨w1.heap.size, 1, none⟩ = some (.int .i64 1) := by rw [bc _ _ (by simp; omega)]; simp [go_sem]
        have n1 : w2.cell? ⟨w1.heap.size + 1, 1, none⟩ = some (.int .i64 0) := by rw [bc _ _ (by simp)]; simp [go_sem]
        have m1 : w2.frozen? ⟨w1.heap.size + 1, 1, none⟩ = false := by rw [bf _ _ (by simp)]; simp [go_sem]
        have o2 : w2.cell? ⟨w1.heap.size, 2, none⟩ = some (.slice A1 2 k1) := by rw [bc _ _ (by simp; omega)]; simp [go_sem]
        have n2 : w2.cell? ⟨w1.heap.size + 1, 2, none⟩ = some (.slice none 0 0) := by rw [bc _ _ (by simp)]; simp [go_sem]
        have m2 : w2.frozen? ⟨w1.heap.size + 1, 2, none⟩ = false := by rw [bf _ _ (by simp)]; simp [go_sem]
        have BB2 := below_step (below_new (below_new (Below.refl w1.heap.size w1) (.cells #[.int .i64 11, .int .i64 1, .slice A1 2 k1] 42)) (.cells #[.int .i64 0, .int .i64 0, .slice none 0 0] 42)) hb2
        have BE2 := hidd (below_step BE1.out BB2)
        have HL2 := hidd (HL1.out.to (w' := w2) (p' := (· < w1.heap.size)) (fun q hq => ⟨hq, BB2.block q hq⟩))
        obtain ⟨f0, f1⟩ := KXN.out _ BE2.out
        clear d0 d1 hb2 bc bf BB2
        go_wp2_with fail
        refine (T3.out _).mono ?_
        rintro e w3 ⟨hb3, A3, k3, rfl, hl3⟩
        obtain ⟨bc, bf⟩ := bcell hb3
        have hz3 := hb3.size
        have o0' : w3.cell? ⟨w1.heap.size, 0, none⟩ = some (.int .i64 11) := (bc _ _ (by omega)).trans o0
        have n0' : w3.cell? ⟨w1.heap.size + 1, 0, none⟩ = some (.int .i64 0) := (bc _ _ hz2).trans n0
        have m0' : w3.frozen? ⟨w1.heap.size + 1, 0, none⟩ = false := (bf _ _ hz2).trans m0
        have o1' : w3.cell? ⟨w1.heap.size, 1, none⟩ = some (.int .i64 1) := (bc _ _ (by omega)).trans o1
        have n1' : w3.cell? ⟨w1.heap.size + 1, 1, none⟩ = some (.int .i64 0) := (bc _ _ hz2).trans n1
        have m1' : w3.frozen? ⟨w1.heap.size + 1, 1, none⟩ = false := (bf _ _ hz2).trans m1
        have o2' : w3.cell? ⟨w1.heap.size, 2, none⟩ = some (.slice A1 2 k1) := (bc _ _ (by omega)).trans o2
        have n2' : w3.cell? ⟨w1.heap.size + 1, 2, none⟩ = some (.slice none 0 0) := (bc _ _ hz2).trans n2
        have m2' : w3.frozen? ⟨w1.heap.size + 1, 2, none⟩ = false := (bf _ _ hz2).trans m2
        obtain ⟨W3, hW3⟩ : ∃ W3, (((w3.setCell ⟨w1.heap.size + 1, 0, none⟩ (.int .i64 11)).setCell ⟨w1.heap.size + 1, 1, none⟩ (.int .i64 1)).setCell ⟨w1.heap.size + 1, 2, none⟩ (.slice A3 2 k3)) = W3 := ⟨_, rfl⟩
        have hs3 : W3.heap.size = w3.heap.size := by rw [← hW3]; simp
        have BE3 := hidd (show Below wE.heap.size wE W3 by rw [← hW3]; have q := below_step BE2.out hb3; have z1 := BE1.out.size; (repeat' (first | (with_reducible exact Below.refl _ _) | (with_reducible assumption) | (with_reducible apply Below.setCell) | (with_reducible apply Below.alloc) | (with_reducible apply Below.drew) | (with_reducible apply below_drewN) | (with_reducible refine Below.trans ?_ (Below.mono (by assumption) ?_)) | omega | (simp; done) | (simp; omega))))
        have HL3 := hidd (show LieQ wdV 1 W3 (· < w1.heap.size) A1 [s18, s19] by rw [← hW3]; exact lieq_set3 (HL2.out.to (w' := w3) (p' := (· < w1.heap.size)) (fun q hq => ⟨hq, hb3.block q (by omega)⟩)) _ (fun q hq => by omega) _ _ _)
        have HM3 := hidd (show LieQ wdV 1 W3 (fun q => w2.heap.size ≤ q ∧ q < w3.heap.size) A3 [s18, s19] by rw [← hW3]; exact lieq_set3 hl3 _ (fun q hq => by omega) _ _ _)
        have r0 : W3.cell? ⟨w1.heap.size, 0, none⟩ = some (.int .i64 11) := by rw [← hW3]; simp [go_sem, o0']
        have r1 : W3.cell? ⟨w1.heap.size, 1, none⟩ = some (.int .i64 1) := by rw [← hW3]; simp [go_sem, o1']
        have r2 : W3.cell? ⟨w1.heap.size, 2, none⟩ = some (.slice A1 2 k1) := by rw [← hW3]; simp [go_sem, o2']
        have HW3 := hidd hW3
        clear f0 f1 hW3 hb3 hl3 bc bf o0 o1 o2 n0 n1 n2 m0 m1 m2
        go_wp2_with fail
        rw [HW3.out]
        refine (refSelf 11 1 A1 A3 [s18, s19] 2 k1 k3 rfl (by omega) W3 (HL3.out.to (w' := W3) (p' := (· < W3.heap.size)) (fun q hq => ⟨by have : q < w1.heap.size := hq; omega, rfl⟩)) (HM3.out.to (w' := W3) (p' := (· < W3.heap.size)) (fun q hq => ⟨by omega, rfl⟩))).mono ?_
        rintro e w4 ⟨rfl, hb4⟩
        obtain ⟨bc, bf⟩ := bcell hb4
        have v0 : w4.cell? ⟨w1.heap.size, 0, none⟩ = some (.int .i64 11) := (bc _ _ (by omega)).trans r0
        have v1 : w4.cell? ⟨w1.heap.size, 1, none⟩ = some (.int .i64 1) := (bc _ _ (by omega)).trans r1
        have v2 : w4.cell? ⟨w1.heap.size, 2, none⟩ = some (.slice A1 2 k1) := (bc _ _ (by omega)).trans r2
        have BE4 := hidd (below_step BE3.out hb4)
        have HL4 := hidd (HL3.out.to (w' := w4) (p' := (· < w4.heap.size)) (fun q hq => ⟨by have := hb4.size; have : q < w1.heap.size := hq; omega, hb4.block q (by have : q < w1.heap.size := hq; omega)⟩))
        clear hb4 bc bf r0 r1 r2 o0' o1' o2' n0' n1' n2' m0' m1' m2'
        go_wp2_with fail
        refine (T5.out A1 k1 _ HL4.out).mono ?_
        rintro e w5 ⟨rfl, hb5⟩
        have BE5 := hidd (below_step BE4.out hb5)
        have hz5 : w.heap.size < w5.heap.size := by have := BE5.out.size; omega
        obtain ⟨g0, g1⟩ := KXN.out _ BE5.out
        clear hb5 v0 v1 v2 hz2 hz3 hs3
        go_wp2_with fail
        go_meet
        exact below_new BE5.out _
      · have hm' : mayN s18 s19 = false := by cases h : mayN s18 s19; rfl; exact absurd h hm
        have T1 := hidd (fun W => fN1 s18 s19 hm' W)
        have T2 := hidd (fun W => fN2 s18 s19 hm' W)
        have T4 := hidd (fun W => refZero W)
        have T5 := hidd (fun W => fN5 W)
        clear hm hm'
        obtain ⟨c0, c1⟩ := KXN.out _ BC2.out
        go_wp2_with fail
        refine (T1.out _).mono ?_
        rintro e w1 ⟨rfl, hb1⟩
        have BE1 := hidd (below_step BC2.out hb1)
        have hz1 : w.heap.size < w1.heap.size := by have := BE1.out.size; omega
        obtain ⟨d0, d1⟩ := KXN.out _ BE1.out
        clear c0 c1 hb1
        go_wp2_with fail
        refine (T2.out _).mono ?_
        rintro e w2 ⟨rfl, hb2⟩
        obtain ⟨bc, bf⟩ := bcell hb2
        have hz2 : w1.heap.size + 1 < w2.heap.size := by have := hb2.size; simp at this; omega
        have o0 : w2.cell? ⟨w1.heap.size, 0, none⟩ = some (.int .i64 0) := by rw [bc _ _ (by simp; omega)]; simp [go_sem]
        have n0 : w2.cell? ⟨w1.heap.size + 1, 0, none⟩ = some (.int .i64 0) := by rw [bc _ _ (by simp)]; simp [go_sem]
        have o1 : w2.cell? ⟨w1.heap.size, 1, none⟩ = some (.int .i64 0) := by rw [bc _ _ (by simp; omega)]; simp [go_sem]
        have n1 : w2.cell? ⟨w1.heap.size + 1, 1, none⟩ = some (.int .i64 0) := by rw [bc _ _ (by simp)]; simp [go_sem]
        have o2 : w2.cell? ⟨w1.heap.size, 2, none⟩ = some (.slice none 0 0) := by rw [bc _ _ (by simp; omega)]; simp [go_sem]
        have n2 : w2.cell? ⟨w1.heap.size + 1, 2, none⟩ = some (.slice none 0 0) := by rw [bc _ _ (by simp)]; simp [go_sem]
        have BE2 := hidd (below_step (below_new (below_new BE1.out (.cells #[.int .i64 0, .int .i64 0, .slice none 0 0] 42)) (.cells #[.int .i64 0, .int .i64 0, .slice none 0 0] 42)) hb2)
        clear d0 d1 hb2 bc bf
        go_wp2_with fail
        refine (T4.out _).mono ?_
        rintro e w4 ⟨rfl, hb4⟩
        obtain ⟨bc, bf⟩ := bcell hb4
        have v0 : w4.cell? ⟨w1.heap.size, 0, none⟩ = some (.int .i64 0) := (bc _ _ (by omega)).trans o0
        have v1 : w4.cell? ⟨w1.heap.size, 1, none⟩ = some (.int .i64 0) := (bc _ _ (by omega)).trans o1
        have v2 : w4.cell? ⟨w1.heap.size, 2, none⟩ = some (.slice none 0 0) := (bc _ _ (by omega)).trans o2
        have BE4 := hidd (below_step BE2.out hb4)
        clear hb4 bc bf o0 o1 o2 n0 n1 n2
        go_wp2_with fail
        refine (T5.out _).mono ?_
        rintro e w5 ⟨rfl, hb5⟩
        have BE5 := hidd (below_step BE4.out hb5)
        clear hb5 v0 v1 v2 hz2
        go_wp2_with fail
        go_meet
        exact below_new BE5.out _
  case rest =>
  obtain ⟨wc3, hwc⟩ : ∃ W, W = wc := ⟨_, rfl⟩
  subst hwc
  have BC3 := hidd hcut
  clear hcut
  refine hK _ _ ?_
  clear hK
  refine Go.wp_seq_k (fun K hK => ?_)
  go_cut [22, 24, 26] (fun s_22 s_24 s_26 wx => Below wE.heap.size wE wx)
  case first =>
    as_aux_lemma =>
      by_cases hm : mayP s20 s21 s22 s23 s24 = true
      · have T1 := hidd (fun W => tP1 s20 s21 s22 s23 s24 hm W)
        have T2 := hidd (fun W => tP2 s20 s21 s22 s23 s24 hm W)
        have T3 := hidd (fun W => tP3 s20 s21 s22 s23 s24 hm W)
        have T5 := hidd (fun A k W h => tP5 s20 s21 s22 s23 s24 hm A k W h)
        clear hm
        obtain ⟨c0, c1, c2, c3, c4⟩ := KXP.out _ BC3.out
        go_wp2_with fail
        refine (T1.out _).mono ?_
        rintro e w1 ⟨hb1, A1, k1, rfl, hl1⟩
        have BE1 := hidd (below_step BC3.out hb1)
        have hz1 : w.heap.size < w1.heap.size := by have := BE1.out.size; omega
        have HL1 := hidd hl1
        obtain ⟨d0, d1, d2, d3, d4⟩ := KXP.out _ BE1.out
        clear c0 c1 c2 c3 c4 hb1 hl1
        go_wp2_with fail
        refine (T2.out _).mono ?_
        rintro e w2 ⟨rfl, hb2⟩
        obtain ⟨bc, bf⟩ := bcell hb2
        have hz2 : w1.heap.size + 1 < w2.heap.size := by have := hb2.size; simp at this; omega
        have o0 : w2.cell? ⟨w1.heap.size, 0, none⟩ = some (.int .i64 12) := by rw [bc _ _ (by simp; omega)]; simp [go_sem]
        have n0 : w2.cell? ⟨w1.heap.size + 1, 0, none⟩ = some (.int .i64 0) := by rw [bc _ _ (by simp)]; simp [go_sem]
        have m0 : w2.frozen? ⟨w1.heap.size + 1, 0, none⟩ = false := by rw [bf _ _ (by simp)]; simp [go_sem]
        have o1 : w2.cell? ⟨w1.heap.size, 1, none⟩ = some (.int .i64 2) := by rw [bc _ _ (by simp; omega)]; simp [go_sem]
        have n1 : w2.cell? ⟨w1.heap.size + 1, 1, none⟩ = some (.int .i64 0) := by rw [bc _ _ (by simp)]; simp [go_sem]
        have m1 : w2.frozen? ⟨w1.heap.size + 1, 1, none⟩ = false := by rw [bf _ _ (by simp)]; simp [go_sem]
        have o2 : w2.cell? ⟨w1.heap.size, 2, none⟩ = some (.slice A1 5 k1) := by rw [bc _ _ (by simp; omega)]; simp [go_sem]
        have n2 : w2.cell? ⟨w1.heap.size + 1, 2, none⟩ = some (.slice none 0 0) := by rw [bc _ _ (by simp)]; simp [go_sem]
        have m2 : w2.frozen? ⟨w1.heap.size + 1, 2, none⟩ = false := by rw [bf _ _ (by simp)]; simp [go_sem]
        have BB2 := below_step (below_new (below_new (Below.refl w1.heap.size w1) (.cells #[.int .i64 12, .int .i64 2, .slice A1 5 k1] 42)) (.cells #[.int .i64 0, .int .i64 0, .slice none 0 0] 42)) hb2
        have BE2 := hidd (below_step BE1.out BB2)
        have HL2 := hidd (HL1.out.to (w' := w2) (p' := (· < w1.heap.size)) (fun q hq => ⟨hq, BB2.block q hq⟩))
        obtain ⟨f0, f1, f2, f3, f4⟩ := KXP.out _ BE2.out
        clear d0 d1 d2 d3 d4 hb2 bc bf BB2
        go_wp2_with fail
        refine (T3.out _).mono ?_
        rintro e w3 ⟨hb3, A3, k3, rfl, hl3⟩
        obtain ⟨bc, bf⟩ := bcell hb3
        have hz3 := hb3.size
        have o0' : w3.cell? ⟨w1.heap.size, 0, none⟩ = some (.int .i64 12) := (bc _ _ (by omega)).trans o0
        have n0' : w3.cell? ⟨w1.heap.size + 1, 0, none⟩ = some (.int .i64 0) := (bc _ _ hz2).trans n0
        have m0' : w3.frozen? ⟨w1.heap.size + 1, 0, none⟩ = false := (bf _ _ hz2).trans m0
        have o1' : w3.cell? ⟨w1.heap.size, 1, none⟩ = some (.int .i64 2) := (bc _ _ (by omega)).trans o1
        have n1' : w3.cell? ⟨w1.heap.size + 1, 1, none⟩ = some (.int .i64 0) := (bc _ _ hz2).trans n1
        have m1' : w3.frozen? ⟨w1.heap.size + 1, 1, none⟩ = false := (bf _ _ hz2).trans m1
        have o2' : w3.cell? ⟨w1.heap.size, 2, none⟩ = some (.slice A1 5 k1) := (bc _ _ (by omega)).trans o2
        have n2' : w3.cell? ⟨w1.heap.size + 1, 2, none⟩ = some (.slice none 0 0) := (bc _ _ hz2).trans n2
        have m2' : w3.frozen? ⟨w1.heap.size + 1, 2, none⟩ = false := (bf _ _ hz2).trans m2
        obtain ⟨W3, hW3⟩ : ∃ W3, (((w3.setCell ⟨w1.heap.size + 1, 0, none⟩ (.int .i64 12)).setCell ⟨w1.heap.size + 1, 1, none⟩ (.int .i64 2)).setCell ⟨w1.heap.size + 1, 2, none⟩ (.slice A3 5 k3)) = W3 := ⟨_, rfl⟩
        have hs3 : W3.heap.size = w3.heap.size := by rw [← hW3]; simp
        have BE3 := hidd (show Below wE.heap.size wE W3 by rw [← hW3]; have q := below_step BE2.out hb3; have z1 := BE1.out.size; (repeat' (first | (with_reducible exact Below.refl _ _) | (with_reducible assumption) | (with_reducible apply Below.setCell) | (with_reducible apply Below.alloc) | (with_reducible apply Below.drew) | (with_reducible apply below_drewN) | (with_reducible refine Below.trans ?_ (Below.mono (by assumption) ?_)) | omega | (simp; done) | (simp; omega))))
        have HL3 := hidd (show LieQ wdV 1 W3 (· < w1.heap.size) A1 [s21, s22, s20, s24, s23] by rw [← hW3]; exact lieq_set3 (HL2.out.to (w' := w3) (p' := (· < w1.heap.size)) (fun q hq => ⟨hq, hb3.block q (by omega)⟩)) _ (fun q hq => by omega) _ _ _)
        have HM3 := hidd (show LieQ wdV 1 W3 (fun q => w2.heap.size ≤ q ∧ q < w3.heap.size) A3 [s21, s22, s20, s24, s23] by rw [← hW3]; exact lieq_set3 hl3 _ (fun q hq => by omega) _ _ _)
        have r0 : W3.cell? ⟨w1.heap.size, 0, none⟩ = some (.int .i64 12) := by rw [← hW3]; simp [go_sem, o0']
        have r1 : W3.cell? ⟨w1.heap.size, 1, none⟩ = some (.int .i64 2) := by rw [← hW3]; simp [go_sem, o1']
        have r2 : W3.cell? ⟨w1.heap.size, 2, none⟩ = some (.slice A1 5 k1) := by rw [← hW3]; simp [go_sem, o2']
        have HW3 := hidd hW3
        clear f0 f1 f2 f3 f4 hW3 hb3 hl3 bc bf o0 o1 o2 n0 n1 n2 m0 m1 m2
        go_wp2_with fail
        rw [HW3.out]
        refine (refSelf 12 2 A1 A3 [s21, s22, s20, s24, s23] 5 k1 k3 rfl (by omega) W3 (HL3.out.to (w' := W3) (p' := (· < W3.heap.size)) (fun q hq => ⟨by have : q < w1.heap.size := hq; omega, rfl⟩)) (HM3.out.to (w' := W3) (p' := (· < W3.heap.size)) (fun q hq => ⟨by omega, rfl⟩))).mono ?_
        rintro e w4 ⟨rfl, hb4⟩
        obtain ⟨bc, bf⟩ := bcell hb4
        have v0 : w4.cell? ⟨w1.heap.size, 0, none⟩ = some (.int .i64 12) := (bc _ _ (by omega)).trans r0
        have v1 : w4.cell? ⟨w1.heap.size, 1, none⟩ = some (.int .i64 2) := (bc _ _ (by omega)).trans r1
        have v2 : w4.cell? ⟨w1.heap.size, 2, none⟩ = some (.slice A1 5 k1) := (bc _ _ (by omega)).trans r2
        have BE4 := hidd (below_step BE3.out hb4)
        have HL4 := hidd (HL3.out.to (w' := w4) (p' := (· < w4.heap.size)) (fun q hq => ⟨by have := hb4.size; have : q < w1.heap.size := hq; omega, hb4.block q (by have : q < w1.heap.size := hq; omega)⟩))
        clear hb4 bc bf r0 r1 r2 o0' o1' o2' n0' n1' n2' m0' m1' m2'
        go_wp2_with fail
        refine (T5.out A1 k1 _ HL4.out).mono ?_
        rintro e w5 ⟨rfl, hb5⟩
        have BE5 := hidd (below_step BE4.out hb5)
        have hz5 : w.heap.size < w5.heap.size := by have := BE5.out.size; omega
        obtain ⟨g0, g1, g2, g3, g4⟩ := KXP.out _ BE5.out
        clear hb5 v0 v1 v2 hz2 hz3 hs3
        go_wp2_with fail
        go_meet
        exact below_new BE5.out _
      · have hm' : mayP s20 s21 s22 s23 s24 = false := by cases h : mayP s20 s21 s22 s23 s24; rfl; exact absurd h hm
        have T1 := hidd (fun W => fP1 s20 s21 s22 s23 s24 hm' W)
        have T2 := hidd (fun W => fP2 s20 s21 s22 s23 s24 hm' W)
        have T4 := hidd (fun W => refZero W)
        have T5 := hidd (fun W => fP5 W)
        clear hm hm'
        obtain ⟨c0, c1, c2, c3, c4⟩ := KXP.out _ BC3.out
        go_wp2_with fail
        refine (T1.out _).mono ?_
        rintro e w1 ⟨rfl, hb1⟩
        have BE1 := hidd (below_step BC3.out hb1)
        have hz1 : w.heap.size < w1.heap.size := by have := BE1.out.size; omega
        obtain ⟨d0, d1, d2, d3, d4⟩ := KXP.out _ BE1.out
        clear c0 c1 c2 c3 c4 hb1
        go_wp2_with fail
        refine (T2.out _).mono ?_
        rintro e w2 ⟨rfl, hb2⟩
        obtain ⟨bc, bf⟩ := bcell hb2
        have hz2 : w1.heap.size + 1 < w2.heap.size := by have := hb2.size; simp at this; omega
        have o0 : w2.cell? ⟨w1.heap.size, 0, none⟩ = some (.int .i64 0) := by rw [bc _ _ (by simp; omega)]; simp [go_sem]
        have n0 : w2.cell? ⟨w1.heap.size + 1, 0, none⟩ = some (.int .i64 0) := by rw [bc _ _ (by simp)]; simp [go_sem]
        have o1 : w2.cell? ⟨w1.heap.size, 1, none⟩ = some (.int .i64 0) := by rw [bc _ _ (by simp; omega)]; simp [go_sem]
        have n1 : w2.cell? ⟨w1.heap.size + 1, 1, none⟩ = some (.int .i64 0) := by rw [bc _ _ (by simp)]; simp [go_sem]
        have o2 : w2.cell? ⟨w1.heap.size, 2, none⟩ = some (.slice none 0 0) := by rw [bc _ _ (by simp; omega)]; simp [go_sem]
        have n2 : w2.cell? ⟨w1.heap.size + 1, 2, none⟩ = some (.slice none 0 0) := by rw [bc _ _ (by simp)]; simp [go_sem]
        have BE2 := hidd (below_step (below_new (below_new BE1.out (.cells #[.int .i64 0, .int .i64 0, .slice none 0 0] 42)) (.cells #[.int .i64 0, .int .i64 0, .slice none 0 0] 42)) hb2)
        clear d0 d1 d2 d3 d4 hb2 bc bf
        go_wp2_with fail
        refine (T4.out _).mono ?_
        rintro e w4 ⟨rfl, hb4⟩
        obtain ⟨bc, bf⟩ := bcell hb4
        have v0 : w4.cell? ⟨w1.heap.size, 0, none⟩ = some (.int .i64 0) := (bc _ _ (by omega)).trans o0
        have v1 : w4.cell? ⟨w1.heap.size, 1, none⟩ = some (.int .i64 0) := (bc _ _ (by omega)).trans o1
        have v2 : w4.cell? ⟨w1.heap.size, 2, none⟩ = some (.slice none 0 0) := (bc _ _ (by omega)).trans o2
        have BE4 := hidd (below_step BE2.out hb4)
        clear hb4 bc bf o0 o1 o2 n0 n1 n2
        go_wp2_with fail
        refine (T5.out _).mono ?_
        rintro e w5 ⟨rfl, hb5⟩
        have BE5 := hidd (below_step BE4.out hb5)
        clear hb5 v0 v1 v2 hz2
        go_wp2_with fail
        go_meet
        exact below_new BE5.out _
  case rest =>
  obtain ⟨wc4, hwc⟩ : ∃ W, W = wc := ⟨_, rfl⟩
  subst hwc
  have BC4 := hidd hcut
  clear hcut
  refine hK _ _ ?_
  clear hK
  refine Go.wp_seq_k (fun K hK => ?_)
  go_cut [28, 30, 32] (fun s_28 s_30 s_32 wx => Below wE.heap.size wE wx)
  case first =>
    as_aux_lemma =>
      by_cases hm : mayM s25 s26 = true
      · have T1 := hidd (fun W => tM1 s25 s26 hm W)
        have T2 := hidd (fun W => tM2 s25 s26 hm W)
        have T3 := hidd (fun W => tM3 s25 s26 hm W)
        have T5 := hidd (fun A k W h => tM5 s25 s26 hm A k W h)
        clear hm
        obtain ⟨c0, c1⟩ := KXM.out _ BC4.out
        go_wp2_with fail
        refine (T1.out _).mono ?_
        rintro e w1 ⟨hb1, A1, k1, rfl, hl1⟩
        have BE1 := hidd (below_step BC4.out hb1)
        have hz1 : w.heap.size < w1.heap.size := by have := BE1.out.size; omega
        have HL1 := hidd hl1
        obtain ⟨d0, d1⟩ := KXM.out _ BE1.out
        clear c0 c1 hb1 hl1
        go_wp2_with fail
        refine (T2.out _).mono ?_
        rintro e w2 ⟨rfl, hb2⟩
        obtain ⟨bc, bf⟩ := bcell hb2
        have hz2 : w1.heap.size + 1 < w2.heap.size := by have := hb2.size; simp at this; omega
        have o0 : w2.cell? ⟨w1.heap.size, 0, none⟩ = some (.int .i64 13) := by rw [bc _ _ (by simp; omega)]; simp [go_sem]
        have n0 : w2.cell? ⟨w1.heap.size + 1, 0, none⟩ = some (.int .i64 0) := by rw [bc _ _ (by simp)]; simp [go_sem]
        have m0 : w2.frozen? ⟨w1.heap.size + 1, 0, none⟩ = false := by rw [bf _ _ (by simp)]; simp [go_sem]
        have o1 : w2.cell? ⟨w1.heap.size, 1, none⟩ = some (.int .i64 2) := by rw [bc _ _ (by simp; omega)]; simp [go_sem]
        have n1 : w2.cell? ⟨w1.heap.size + 1, 1, none⟩ = some (.int .i64 0) := by rw [bc _ _ (by simp)]; simp [go_sem]
        have m1 : w2.frozen? ⟨w1.heap.size + 1, 1, none⟩ = false := by rw [bf _ _ (by simp)]; simp [go_sem]
        have o2 : w2.cell? ⟨w1.heap.size, 2, none⟩ = some (.slice A1 2 k1) := by rw [bc _ _ (by simp; omega)]; simp [go_sem]
        have n2 : w2.cell? ⟨w1.heap.size + 1, 2, none⟩ = some (.slice none 0 0) := by rw [bc _ _ (by simp)]; simp [go_sem]
        have m2 : w2.frozen? ⟨w1.heap.size + 1, 2, none⟩ = false := by rw [bf _ _ (by simp)]; simp [go_sem]
        have BB2 := below_step (below_new (below_new (Below.refl w1.heap.size w1) (.cells #[.int .i64 13, .int .i64 2, .slice A1 2 k1] 42)) (.cells #[.int .i64 0, .int .i64 0, .slice none 0 0] 42)) hb2
        have BE2 := hidd (below_step BE1.out BB2)
        have HL2 := hidd (HL1.out.to (w' := w2) (p' := (· < w1.heap.size)) (fun q hq => ⟨hq, BB2.block q hq⟩))
        obtain ⟨f0, f1⟩ := KXM.out _ BE2.out
        clear d0 d1 hb2 bc bf BB2
        go_wp2_with fail
        refine (T3.out _).mono ?_
        rintro e w3 ⟨hb3, A3, k3, rfl, hl3⟩
        obtain ⟨bc, bf⟩ := bcell hb3
        have hz3 := hb3.size
        have o0' : w3.cell? ⟨w1.heap.size, 0, none⟩ = some (.int .i64 13) := (bc _ _ (by omega)).trans o0
        have n0' : w3.cell? ⟨w1.heap.size + 1, 0, none⟩ = some (.int .i64 0) := (bc _ _ hz2).trans n0
        have m0' : w3.frozen? ⟨w1.heap.size + 1, 0, none⟩ = false := (bf _ _ hz2).trans m0
        have o1' : w3.cell? ⟨w1.heap.size, 1, none⟩ = some (.int .i64 2) := (bc _ _ (by omega)).trans o1
        have n1' : w3.cell? ⟨w1.heap.size + 1, 1, none⟩ = some (.int .i64 0) := (bc _ _ hz2).trans n1
        have m1' : w3.frozen? ⟨w1.heap.size + 1, 1, none⟩ = false := (bf _ _ hz2).trans m1
        have o2' : w3.cell? ⟨w1.heap.size, 2, none⟩ = some (.slice A1 2 k1) := (bc _ _ (by omega)).trans o2
        have n2' : w3.cell? ⟨w1.heap.size + 1, 2, none⟩ = some (.slice none 0 0) := (bc _ _ hz2).trans n2
        have m2' : w3.frozen? ⟨w1.heap.size + 1, 2, none⟩ = false := (bf _ _ hz2).trans m2
        obtain ⟨W3, hW3⟩ : ∃ W3, (((w3.setCell ⟨w1.heap.size + 1, 0, none⟩ (.int .i64 13)).setCell ⟨w1.heap.size + 1, 1, none⟩ (.int .i64 2)).setCell ⟨w1.heap.size + 1, 2, none⟩ (.slice A3 2 k3)) = W3 := ⟨_, rfl⟩
        have hs3 : W3.heap.size = w3.heap.size := by rw [← hW3]; simp
        have BE3 := hidd (show Below wE.heap.size wE W3 by rw [← hW3]; have q := below_step BE2.out hb3; have z1 := BE1.out.size; (repeat' (first | (with_reducible exact Below.refl _ _) | (with_reducible assumption) | (with_reducible apply Below.setCell) | (with_reducible apply Below.alloc) | (with_reducible apply Below.drew) | (with_reducible apply below_drewN) | (with_reducible refine Below.trans ?_ (Below.mono (by assumption) ?_)) | omega | (simp; done) | (simp; omega))))
        have HL3 := hidd (show LieQ wdV 1 W3 (· < w1.heap.size) A1 [s25, s26] by rw [← hW3]; exact lieq_set3 (HL2.out.to (w' := w3) (p' := (· < w1.heap.size)) (fun q hq => ⟨hq, hb3.block q (by omega)⟩)) _ (fun q hq => by omega) _ _ _)
        have HM3 := hidd (show LieQ wdV 1 W3 (fun q => w2.heap.size ≤ q ∧ q < w3.heap.size) A3 [s25, s26] by rw [← hW3]; exact lieq_set3 hl3 _ (fun q hq => by omega) _ _ _)
        have r0 : W3.cell? ⟨w1.heap.size, 0, none⟩ = some (.int .i64 13) := by rw [← hW3]; simp [go_sem, o0']
        have r1 : W3.cell? ⟨w1.heap.size, 1, none⟩ = some (.int .i64 2) := by rw [← hW3]; simp [go_sem, o1']
        have r2 : W3.cell? ⟨w1.heap.size, 2, none⟩ = some (.slice A1 2 k1) := by rw [← hW3]; simp [go_sem, o2']
        have HW3 := hidd hW3
        clear f0 f1 hW3 hb3 hl3 bc bf o0 o1 o2 n0 n1 n2 m0 m1 m2
        go_wp2_with fail
        rw [HW3.out]
        refine (refSelf 13 2 A1 A3 [s25, s26] 2 k1 k3 rfl (by omega) W3 (HL3.out.to (w' := W3) (p' := (· < W3.heap.size)) (fun q hq => ⟨by have : q < w1.heap.size := hq; omega, rfl⟩)) (HM3.out.to (w' := W3) (p' := (· < W3.heap.size)) (fun q hq => ⟨by omega, rfl⟩))).mono ?_
        rintro e w4 ⟨rfl, hb4⟩
        obtain ⟨bc, bf⟩ := bcell hb4
        have v0 : w4.cell? ⟨w1.heap.size, 0, none⟩ = some (.int .i64 13) := (bc _ _ (by omega)).trans r0
        have v1 : w4.cell? ⟨w1.heap.size, 1, none⟩ = some (.int .i64 2) := (bc _ _ (by omega)).trans r1
        have v2 : w4.cell? ⟨w1.heap.size, 2, none⟩ = some (.slice A1 2 k1) := (bc _ _ (by omega)).trans r2
        have BE4 := hidd (below_step BE3.out hb4)
        have HL4 := hidd (HL3.out.to (w' := w4) (p' := (· < w4.heap.size)) (fun q hq => ⟨by have := hb4.size; have : q < w1.heap.size := hq; omega, hb4.block q (by have : q < w1.heap.size := hq; omega)⟩))
        clear hb4 bc bf r0 r1 r2 o0' o1' o2' n0' n1' n2' m0' m1' m2'
        go_wp2_with fail
        refine (T5.out A1 k1 _ HL4.out).mono ?_
        rintro e w5 ⟨rfl, hb5⟩
        have BE5 := hidd (below_step BE4.out hb5)
        have hz5 : w.heap.size < w5.heap.size := by have := BE5.out.size; omega
        obtain ⟨g0, g1⟩ := KXM.out _ BE5.out
        clear hb5 v0 v1 v2 hz2 hz3 hs3
        go_wp2_with fail
        go_meet
        exact below_new BE5.out _
      · have hm' : mayM s25 s26 = false := by cases h : mayM s25 s26; rfl; exact absurd h hm
        have T1 := hidd (fun W => fM1 s25 s26 hm' W)
        have T2 := hidd (fun W => fM2 s25 s26 hm' W)
        have T4 := hidd (fun W => refZero W)
        have T5 := hidd (fun W => fM5 W)
        clear hm hm'
        obtain ⟨c0, c1⟩ := KXM.out _ BC4.out
        go_wp2_with fail
        refine (T1.out _).mono ?_
        rintro e w1 ⟨rfl, hb1⟩
        have BE1 := hidd (below_step BC4.out hb1)
        have hz1 : w.heap.size < w1.heap.size := by have := BE1.out.size; omega
        obtain ⟨d0, d1⟩ := KXM.out _ BE1.out
        clear c0 c1 hb1
        go_wp2_with fail
        refine (T2.out _).mono ?_
        rintro e w2 ⟨rfl, hb2⟩
        obtain ⟨bc, bf⟩ := bcell hb2
        have hz2 : w1.heap.size + 1 < w2.heap.size := by have := hb2.size; simp at this; omega
        have o0 : w2.cell? ⟨w1.heap.size, 0, none⟩ = some (.int .i64 0) := by rw [bc _ _ (by simp; omega)]; simp [go_sem]
        have n0 : w2.cell? ⟨w1.heap.size + 1, 0, none⟩ = some (.int .i64 0) := by rw [bc _ _ (by simp)]; simp [go_sem]
        have o1 : w2.cell? ⟨w1.heap.size, 1, none⟩ = some (.int .i64 0) := by rw [bc _ _ (by simp; omega)]; simp [go_sem]
        have n1 : w2.cell? ⟨w1.heap.size + 1, 1, none⟩ = some (.int .i64 0) := by rw [bc _ _ (by simp)]; simp [go_sem]
        have o2 : w2.cell? ⟨w1.heap.size, 2, none⟩ = some (.slice none 0 0) := by rw [bc _ _ (by simp; omega)]; simp [go_sem]
        have n2 : w2.cell? ⟨w1.heap.size + 1, 2, none⟩ = some (.slice none 0 0) := by rw [bc _ _ (by simp)]; simp [go_sem]
        have BE2 := hidd (below_step (below_new (below_new BE1.out (.cells #[.int .i64 0, .int .i64 0, .slice none 0 0] 42)) (.cells #[.int .i64 0, .int .i64 0, .slice none 0 0] 42)) hb2)
        clear d0 d1 hb2 bc bf
        go_wp2_with fail
        refine (T4.out _).mono ?_
        rintro e w4 ⟨rfl, hb4⟩
        obtain ⟨bc, bf⟩ := bcell hb4
        have v0 : w4.cell? ⟨w1.heap.size, 0, none⟩ = some (.int .i64 0) := (bc _ _ (by omega)).trans o0
        have v1 : w4.cell? ⟨w1.heap.size, 1, none⟩ = some (.int .i64 0) := (bc _ _ (by omega)).trans o1
        have v2 : w4.cell? ⟨w1.heap.size, 2, none⟩ = some (.slice none 0 0) := (bc _ _ (by omega)).trans o2
        have BE4 := hidd (below_step BE2.out hb4)
        clear hb4 bc bf o0 o1 o2 n0 n1 n2
        go_wp2_with fail
        refine (T5.out _).mono ?_
        rintro e w5 ⟨rfl, hb5⟩
        have BE5 := hidd (below_step BE4.out hb5)
        clear hb5 v0 v1 v2 hz2
        go_wp2_with fail
        go_meet
        exact below_new BE5.out _
  case rest =>
  obtain ⟨wc5, hwc⟩ : ∃ W, W = wc := ⟨_, rfl⟩
  subst hwc
  have BC5 := hidd hcut
  clear hcut
  refine hK _ _ ?_
  clear hK
  go_wp2_with fail
  go_ret
  exact ⟨by first | rfl | simp, below_step HBE.out BC5.out⟩
end Go.Proofs.YtappmacnoopmkaaGreat
