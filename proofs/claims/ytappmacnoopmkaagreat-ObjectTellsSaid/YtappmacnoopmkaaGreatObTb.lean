/- Objects: ObjectTells: places. -/
import Derived.Test.YtappmacnoopmkaaGreatObTa
namespace Go.Proofs.YtappmacnoopmkaaGreat
set_option linter.unusedVariables false
open Go.RowKit

theorem cut_seq_places {P : Program} {c1 c2 : Code} {Q : Exit → Act → World → Prop} {a : Act} {w : World} (R : Act → World → Prop) (first : ∀ K : Act → World → Prop, Hid (∀ a' w', R a' w' → K a' w') → Code.wp P c1 (Exit.then K Q) a w) (rest : ∀ a' w', R a' w' → Code.wp P c2 Q a' w') : Code.wp P (c1.seq c2) Q a w := Go.wp_seq (first _ rest)
set_option maxRecDepth 1000000 in
set_option maxHeartbeats 40000000 in
theorem places_any (s0 s1 s2 s3 s4 s5 s6 s7 s8 s9 s10 s11 s12 s13 s14 s15 s16 s17 s18 s19 s20 s21 s22 s23 s24 s25 s26 s27 : Int) (hY : -9223372036854775808 ≤ s8 ∧ s8 ≤ 9223372036854775807) (w : World) : Calls Tryz.prog 5 #[.agg #[.int .i64 s0, .int .i64 s1, .int .i64 s2, .int .i64 s3, .int .i64 s4, .int .i64 s5, .int .i64 s6, .int .i64 s7, .int .i64 s8, .int .i64 s9, .int .i64 s10, .int .i64 s11, .int .i64 s12, .int .i64 s13, .int .i64 s14, .int .i64 s15, .int .i64 s16, .int .i64 s17, .int .i64 s18, .int .i64 s19, .int .i64 s20, .int .i64 s21, .int .i64 s22, .int .i64 s23, .int .i64 s24, .int .i64 s25, .int .i64 s26, .int .i64 s27]] w fun e w' => e = .returned (.bool true) ∧ Below w.heap.size w w' := by
  have HY := hidd hY
  obtain ⟨wE, hwE⟩ : ∃ wE, w.alloc (.cells #[.int .i64 s0, .int .i64 s1, .int .i64 s2, .int .i64 s3, .int .i64 s4, .int .i64 s5, .int .i64 s6, .int .i64 s7, .int .i64 s8, .int .i64 s9, .int .i64 s10, .int .i64 s11, .int .i64 s12, .int .i64 s13, .int .i64 s14, .int .i64 s15, .int .i64 s16, .int .i64 s17, .int .i64 s18, .int .i64 s19, .int .i64 s20, .int .i64 s21, .int .i64 s22, .int .i64 s23, .int .i64 s24, .int .i64 s25, .int .i64 s26, .int .i64 s27] 37) = wE := ⟨_, rfl⟩
  have hpE : w.heap.size < wE.heap.size := by rw [← hwE]; simp
  have HBE := hidd (show Below w.heap.size w wE by rw [← hwE]; exact below_new (Below.refl _ _) _)
  have BE0 := hidd (Below.refl wE.heap.size wE)
  have KXS := hidd (fun (W : World) (hb : Below wE.heap.size wE W) => (show W.cell? ⟨w.heap.size, 0, none⟩ = some (.int .i64 s0) ∧ W.cell? ⟨w.heap.size, 1, none⟩ = some (.int .i64 s1) from ⟨(hb.cell (p := ⟨w.heap.size, 0, none⟩) hpE).trans (by rw [← hwE]; simp [go_sem]), (hb.cell (p := ⟨w.heap.size, 1, none⟩) hpE).trans (by rw [← hwE]; simp [go_sem])⟩))
  have KXH := hidd (fun (W : World) (hb : Below wE.heap.size wE W) => (show W.cell? ⟨w.heap.size, 2, none⟩ = some (.int .i64 s2) ∧ W.cell? ⟨w.heap.size, 3, none⟩ = some (.int .i64 s3) from ⟨(hb.cell (p := ⟨w.heap.size, 2, none⟩) hpE).trans (by rw [← hwE]; simp [go_sem]), (hb.cell (p := ⟨w.heap.size, 3, none⟩) hpE).trans (by rw [← hwE]; simp [go_sem])⟩))
  have KXQ := hidd (fun (W : World) (hb : Below wE.heap.size wE W) => (show W.cell? ⟨w.heap.size, 4, none⟩ = some (.int .i64 s4) from (hb.cell (p := ⟨w.heap.size, 4, none⟩) hpE).trans (by rw [← hwE]; simp [go_sem])))
  have KXF := hidd (fun (W : World) (hb : Below wE.heap.size wE W) => (show W.cell? ⟨w.heap.size, 5, none⟩ = some (.int .i64 s5) ∧ W.cell? ⟨w.heap.size, 6, none⟩ = some (.int .i64 s6) ∧ W.cell? ⟨w.heap.size, 7, none⟩ = some (.int .i64 s7) from ⟨(hb.cell (p := ⟨w.heap.size, 5, none⟩) hpE).trans (by rw [← hwE]; simp [go_sem]), (hb.cell (p := ⟨w.heap.size, 6, none⟩) hpE).trans (by rw [← hwE]; simp [go_sem]), (hb.cell (p := ⟨w.heap.size, 7, none⟩) hpE).trans (by rw [← hwE]; simp [go_sem])⟩))
  have KXY := hidd (fun (W : World) (hb : Below wE.heap.size wE W) => (show W.cell? ⟨w.heap.size, 8, none⟩ = some (.int .i64 s8) from (hb.cell (p := ⟨w.heap.size, 8, none⟩) hpE).trans (by rw [← hwE]; simp [go_sem])))
  have KXT := hidd (fun (W : World) (hb : Below wE.heap.size wE W) => (show W.cell? ⟨w.heap.size, 27, none⟩ = some (.int .i64 s27) from (hb.cell (p := ⟨w.heap.size, 27, none⟩) hpE).trans (by rw [← hwE]; simp [go_sem])))
  have HWE := hidd hwE
  clear hwE
  go_enter Tryz.func5, Tryz.ntmps5
  refine cut_seq_places (fun a' w' => a' = ({ tmps := #[.agg #[.int .i64 s0, .int .i64 s1, .int .i64 s2, .int .i64 s3, .int .i64 s4, .int .i64 s5, .int .i64 s6, .int .i64 s7, .int .i64 s8, .int .i64 s9, .int .i64 s10, .int .i64 s11, .int .i64 s12, .int .i64 s13, .int .i64 s14, .int .i64 s15, .int .i64 s16, .int .i64 s17, .int .i64 s18, .int .i64 s19, .int .i64 s20, .int .i64 s21, .int .i64 s22, .int .i64 s23, .int .i64 s24, .int .i64 s25, .int .i64 s26, .int .i64 s27], .pointer (some ⟨w.heap.size, 0, none⟩), .bool false, undef, undef, undef, undef, undef, undef, undef, undef, undef, undef, undef, undef, undef, undef, undef, undef, undef, undef, undef, undef, undef, undef, undef, undef, undef, undef, undef, undef, undef, undef, undef, undef, undef, undef, undef, undef, undef, undef, undef, undef, undef, undef, undef, undef, undef, undef, undef, undef, undef, undef, undef, undef, undef, undef, undef, undef, undef, undef, undef, undef, undef, undef, undef, undef, undef, undef, undef, undef, undef, undef, undef, undef, undef, undef, undef, undef, undef, undef, undef, undef, undef, undef, undef, undef, undef, undef, undef, undef, undef, undef, undef, undef, undef, undef, undef, undef, undef, undef, undef, undef, undef, undef, undef, undef, undef, undef, undef, undef, undef, undef, undef, undef, undef, undef, undef, undef, undef, undef, undef, undef, undef, undef, undef, undef, undef, undef, undef, undef, undef, undef, undef, undef, undef, undef, undef, undef, undef, undef, undef, undef, undef, undef, undef, undef, undef, undef, undef, undef, undef, undef, undef, undef, undef, undef, undef, undef, undef, undef, undef, undef, undef, undef, undef, undef, undef, undef, undef, undef, undef, undef, undef, undef, undef, undef, undef, undef, undef, undef, undef, undef, undef, undef, undef, undef, undef, undef, undef, undef, undef, undef, undef, undef, undef, undef, undef, undef, undef, undef, undef, undef, undef, undef, undef, undef, undef, undef, undef, undef, undef, undef, undef, undef, undef, undef, undef, undef, undef, undef, undef, undef, undef, undef, undef, undef, undef, undef, undef, undef, undef, undef, undef, undef, undef, undef, undef, undef, undef, undef, undef, undef, undef, undef, undef, undef, undef, undef, undef, undef, undef, undef, undef, undef, undef, undef, undef, undef, undef, undef, undef, undef, undef, undef, undef, undef, undef, undef, undef, undef, undef, undef, undef, undef, undef, undef, undef, undef, undef, undef, undef, undef, undef, undef, undef, undef, undef, undef, undef, undef, undef, undef, undef, undef, undef, undef, undef, undef, undef, undef, undef, undef, undef, undef, undef, undef, undef, undef, undef, undef, undef, undef, undef, undef, undef, undef, undef, undef, undef, undef, undef, undef, undef, undef, undef, undef, undef, undef, undef, undef, undef, undef, undef, undef, undef, undef, undef, undef, undef, undef, undef, undef, undef, undef, undef, undef, undef], defers := [] } : Act) ∧ wE = w') ?first ?rest
  case first =>
    intro K hK
    go_wp2_with fail
    rw [HWE.out]
    exact hK.out _ _ ⟨rfl, rfl⟩
  case rest =>
  rintro a' w' ⟨rfl, rfl⟩
  dsimp only
  refine Go.wp_seq_k (fun K hK => ?_)
  go_cut [4, 6, 8] (fun s_4 s_6 s_8 wx => Below wE.heap.size wE wx)
  case first =>
    as_aux_lemma =>
      by_cases hm : mayS s0 s1 = true
      · have T1 := hidd (fun W => tS1 s0 s1 hm W)
        have T2 := hidd (fun W => tS2 s0 s1 hm W)
        have T3 := hidd (fun W => tS3 s0 s1 hm W)
        have T5 := hidd (fun A k W h => tS5 s0 s1 hm A k W h)
        clear hm
        obtain ⟨c0, c1⟩ := KXS.out _ BE0.out
        go_wp2_with fail
        refine (T1.out _).mono ?_
        rintro e w1 ⟨hb1, A1, k1, rfl, hl1⟩
        have BE1 := hidd (below_step BE0.out hb1)
        have hz1 : w.heap.size < w1.heap.size := by have := BE1.out.size; omega
        have HL1 := hidd hl1
        obtain ⟨d0, d1⟩ := KXS.out _ BE1.out
        clear c0 c1 hb1 hl1
        go_wp2_with fail
        refine (T2.out _).mono ?_
        rintro e w2 ⟨rfl, hb2⟩
        obtain ⟨bc, bf⟩ := bcell hb2
        have hz2 : w1.heap.size + 1 < w2.heap.size := by have := hb2.size; simp at this; omega
        have o0 : w2.cell? ⟨w1.heap.size, 0, none⟩ = some (.int .i64 1) := by rw [bc _ _ (by simp; omega)]; simp [go_sem]
        have n0 : w2.cell? ⟨w1.heap.size + 1, 0, none⟩ = some (.int .i64 0) := by rw [bc _ _ (by simp)]; simp [go_sem]
        have m0 : w2.frozen? ⟨w1.heap.size + 1, 0, none⟩ = false := by rw [bf _ _ (by simp)]; simp [go_sem]
        have o1 : w2.cell? ⟨w1.heap.size, 1, none⟩ = some (.int .i64 1) := by rw [bc _ _ (by simp; omega)]; simp [go_sem]
        have n1 : w2.cell? ⟨w1.heap.size + 1, 1, none⟩ = some (.int .i64 0) := by rw [bc _ _ (by simp)]; simp [go_sem]
        have m1 : w2.frozen? ⟨w1.heap.size + 1, 1, none⟩ = false := by rw [bf _ _ (by simp)]; simp [go_sem]
        have o2 : w2.cell? ⟨w1.heap.size, 2, none⟩ = some (.slice A1 2 k1) := by rw [bc _ _ (by simp; omega)]; simp [go_sem]
        have n2 : w2.cell? ⟨w1.heap.size + 1, 2, none⟩ = some (.slice none 0 0) := by rw [bc _ _ (by simp)]; simp [go_sem]
        have m2 : w2.frozen? ⟨w1.heap.size + 1, 2, none⟩ = false := by rw [bf _ _ (by simp)]; simp [go_sem]
        have BB2 := below_step (below_new (below_new (Below.refl w1.heap.size w1) (.cells #[.int .i64 1, .int .i64 1, .slice A1 2 k1] 42)) (.cells #[.int .i64 0, .int .i64 0, .slice none 0 0] 42)) hb2
        have BE2 := hidd (below_step BE1.out BB2)
        have HL2 := hidd (HL1.out.to (w' := w2) (p' := (· < w1.heap.size)) (fun q hq => ⟨hq, BB2.block q hq⟩))
        obtain ⟨f0, f1⟩ := KXS.out _ BE2.out
        clear d0 d1 hb2 bc bf BB2
        go_wp2_with fail
        refine (T3.out _).mono ?_
        rintro e w3 ⟨hb3, A3, k3, rfl, hl3⟩
        obtain ⟨bc, bf⟩ := bcell hb3
        have hz3 := hb3.size
        have o0' : w3.cell? ⟨w1.heap.size, 0, none⟩ = some (.int .i64 1) := (bc _ _ (by omega)).trans o0
        have n0' : w3.cell? ⟨w1.heap.size + 1, 0, none⟩ = some (.int .i64 0) := (bc _ _ hz2).trans n0
        have m0' : w3.frozen? ⟨w1.heap.size + 1, 0, none⟩ = false := (bf _ _ hz2).trans m0
        have o1' : w3.cell? ⟨w1.heap.size, 1, none⟩ = some (.int .i64 1) := (bc _ _ (by omega)).trans o1
        have n1' : w3.cell? ⟨w1.heap.size + 1, 1, none⟩ = some (.int .i64 0) := (bc _ _ hz2).trans n1
        have m1' : w3.frozen? ⟨w1.heap.size + 1, 1, none⟩ = false := (bf _ _ hz2).trans m1
        have o2' : w3.cell? ⟨w1.heap.size, 2, none⟩ = some (.slice A1 2 k1) := (bc _ _ (by omega)).trans o2
        have n2' : w3.cell? ⟨w1.heap.size + 1, 2, none⟩ = some (.slice none 0 0) := (bc _ _ hz2).trans n2
        have m2' : w3.frozen? ⟨w1.heap.size + 1, 2, none⟩ = false := (bf _ _ hz2).trans m2
        obtain ⟨W3, hW3⟩ : ∃ W3, (((w3.setCell ⟨w1.heap.size + 1, 0, none⟩ (.int .i64 1)).setCell ⟨w1.heap.size + 1, 1, none⟩ (.int .i64 1)).setCell ⟨w1.heap.size + 1, 2, none⟩ (.slice A3 2 k3)) = W3 := ⟨_, rfl⟩
        have hs3 : W3.heap.size = w3.heap.size := by rw [← hW3]; simp
        have BE3 := hidd (show Below wE.heap.size wE W3 by rw [← hW3]; have q := below_step BE2.out hb3; have z1 := BE1.out.size; (repeat' (first | (with_reducible exact Below.refl _ _) | (with_reducible assumption) | (with_reducible apply Below.setCell) | (with_reducible apply Below.alloc) | (with_reducible apply Below.drew) | (with_reducible apply below_drewN) | (with_reducible refine Below.trans ?_ (Below.mono (by assumption) ?_)) | omega | (simp; done) | (simp; omega))))
        have HL3 := hidd (show LieQ wdV 1 W3 (· < w1.heap.size) A1 [s0, (285212672 + s1)] by rw [← hW3]; exact lieq_set3 (HL2.out.to (w' := w3) (p' := (· < w1.heap.size)) (fun q hq => ⟨hq, hb3.block q (by omega)⟩)) _ (fun q hq => by omega) _ _ _)
        have HM3 := hidd (show LieQ wdV 1 W3 (fun q => w2.heap.size ≤ q ∧ q < w3.heap.size) A3 [s0, (285212672 + s1)] by rw [← hW3]; exact lieq_set3 hl3 _ (fun q hq => by omega) _ _ _)
        have r0 : W3.cell? ⟨w1.heap.size, 0, none⟩ = some (.int .i64 1) := by rw [← hW3]; simp [go_sem, o0']
        have r1 : W3.cell? ⟨w1.heap.size, 1, none⟩ = some (.int .i64 1) := by rw [← hW3]; simp [go_sem, o1']
        have r2 : W3.cell? ⟨w1.heap.size, 2, none⟩ = some (.slice A1 2 k1) := by rw [← hW3]; simp [go_sem, o2']
        have HW3 := hidd hW3
        clear f0 f1 hW3 hb3 hl3 bc bf o0 o1 o2 n0 n1 n2 m0 m1 m2
        go_wp2_with fail
        rw [HW3.out]
        refine (refSelf 1 1 A1 A3 [s0, (285212672 + s1)] 2 k1 k3 rfl (by omega) W3 (HL3.out.to (w' := W3) (p' := (· < W3.heap.size)) (fun q hq => ⟨by have : q < w1.heap.size := hq; omega, rfl⟩)) (HM3.out.to (w' := W3) (p' := (· < W3.heap.size)) (fun q hq => ⟨by omega, rfl⟩))).mono ?_
        rintro e w4 ⟨rfl, hb4⟩
        obtain ⟨bc, bf⟩ := bcell hb4
        have v0 : w4.cell? ⟨w1.heap.size, 0, none⟩ = some (.int .i64 1) := (bc _ _ (by omega)).trans r0
        have v1 : w4.cell? ⟨w1.heap.size, 1, none⟩ = some (.int .i64 1) := (bc _ _ (by omega)).trans r1
        have v2 : w4.cell? ⟨w1.heap.size, 2, none⟩ = some (.slice A1 2 k1) := (bc _ _ (by omega)).trans r2
        have BE4 := hidd (below_step BE3.out hb4)
        have HL4 := hidd (HL3.out.to (w' := w4) (p' := (· < w4.heap.size)) (fun q hq => ⟨by have := hb4.size; have : q < w1.heap.size := hq; omega, hb4.block q (by have : q < w1.heap.size := hq; omega)⟩))
        clear hb4 bc bf r0 r1 r2 o0' o1' o2' n0' n1' n2' m0' m1' m2'
        go_wp2_with fail
        refine (T5.out A1 k1 _ HL4.out).mono ?_
        rintro e w5 ⟨rfl, hb5⟩
        have BE5 := hidd (below_step BE4.out hb5)
        have hz5 : w.heap.size < w5.heap.size := by have := BE5.out.size; omega
        obtain ⟨g0, g1⟩ := KXS.out _ BE5.out
        clear hb5 v0 v1 v2 hz2 hz3 hs3
        go_wp2_with fail
        go_meet
        exact below_new BE5.out _
      · have hm' : mayS s0 s1 = false := by cases h : mayS s0 s1; rfl; exact absurd h hm
        have T1 := hidd (fun W => fS1 s0 s1 hm' W)
        have T2 := hidd (fun W => fS2 s0 s1 hm' W)
        have T4 := hidd (fun W => refZero W)
        have T5 := hidd (fun W => fS5 W)
        clear hm hm'
        obtain ⟨c0, c1⟩ := KXS.out _ BE0.out
        go_wp2_with fail
        refine (T1.out _).mono ?_
        rintro e w1 ⟨rfl, hb1⟩
        have BE1 := hidd (below_step BE0.out hb1)
        have hz1 : w.heap.size < w1.heap.size := by have := BE1.out.size; omega
        obtain ⟨d0, d1⟩ := KXS.out _ BE1.out
        clear c0 c1 hb1
        go_wp2_with fail
        refine (T2.out _).mono ?_
        rintro e w2 ⟨rfl, hb2⟩
        obtain ⟨bc, bf⟩ := bcell hb2
        have hz2 : w1.heap.size + 1 < w2.heap.size := by have := hb2.size; simp at this; omega
        have o0 : w2.cell? ⟨w1.heap.size, 0, none⟩ = some (.int .i64 0) := by rw [bc _ _ (by simp; omega)]; simp [go_sem]
        have n0 : w2.cell? ⟨w1.heap.size + 1, 0, none⟩ = some (.int .i64 0) := by rw [bc _ _ (by simp)]; simp [go_sem]
        have o1 : w2.cell? ⟨w1.heap.size, 1, none⟩ = some (.int .i64 0) := by rw [bc _ _ (by simp; omega)]; simp [go_sem]
        have n1 : w2.cell? ⟨w1.heap.size + 1, 1, none⟩ = some (.int .i64 0) := by rw [bc _ _ (by simp)]; simp [go_sem]
        have o2 : w2.cell? ⟨w1.heap.size, 2, none⟩ = some (.slice none 0 0) := by rw [bc _ _ (by simp; omega)]; simp [go_sem]
        have n2 : w2.cell? ⟨w1.heap.size + 1, 2, none⟩ = some (.slice none 0 0) := by rw [bc _ _ (by simp)]; simp [go_sem]
        have BE2 := hidd (below_step (below_new (below_new BE1.out (.cells #[.int .i64 0, .int .i64 0, .slice none 0 0] 42)) (.cells #[.int .i64 0, .int .i64 0, .slice none 0 0] 42)) hb2)
        clear d0 d1 hb2 bc bf
        go_wp2_with fail
        refine (T4.out _).mono ?_
        rintro e w4 ⟨rfl, hb4⟩
        obtain ⟨bc, bf⟩ := bcell hb4
        have v0 : w4.cell? ⟨w1.heap.size, 0, none⟩ = some (.int .i64 0) := (bc _ _ (by omega)).trans o0
        have v1 : w4.cell? ⟨w1.heap.size, 1, none⟩ = some (.int .i64 0) := (bc _ _ (by omega)).trans o1
        have v2 : w4.cell? ⟨w1.heap.size, 2, none⟩ = some (.slice none 0 0) := (bc _ _ (by omega)).trans o2
        have BE4 := hidd (below_step BE2.out hb4)
        clear hb4 bc bf o0 o1 o2 n0 n1 n2
        go_wp2_with fail
        refine (T5.out _).mono ?_
        rintro e w5 ⟨rfl, hb5⟩
        have BE5 := hidd (below_step BE4.out hb5)
        clear hb5 v0 v1 v2 hz2
        go_wp2_with fail
        go_meet
        exact below_new BE5.out _
  case rest =>
  as_aux_lemma =>
  obtain ⟨wc1, hwc⟩ : ∃ W, W = wc := ⟨_, rfl⟩
  subst hwc
  have BC1 := hidd hcut
  clear hcut
  refine hK _ _ ?_
  clear hK
  refine Go.wp_seq_k (fun K hK => ?_)
  go_cut [10, 12, 14] (fun s_10 s_12 s_14 wx => Below wE.heap.size wE wx)
  case first =>
    as_aux_lemma =>
      by_cases hm : mayH s2 s3 = true
      · have T1 := hidd (fun W => tH1 s2 s3 hm W)
        have T2 := hidd (fun W => tH2 s2 s3 hm W)
        have T3 := hidd (fun W => tH3 s2 s3 hm W)
        have T5 := hidd (fun A k W h => tH5 s2 s3 hm A k W h)
        clear hm
        obtain ⟨c0, c1⟩ := KXH.out _ BC1.out
        go_wp2_with fail
        refine (T1.out _).mono ?_
        rintro e w1 ⟨hb1, A1, k1, rfl, hl1⟩
        have BE1 := hidd (below_step BC1.out hb1)
        have hz1 : w.heap.size < w1.heap.size := by have := BE1.out.size; omega
        have HL1 := hidd hl1
        obtain ⟨d0, d1⟩ := KXH.out _ BE1.out
        clear c0 c1 hb1 hl1
        go_wp2_with fail
        refine (T2.out _).mono ?_
        rintro e w2 ⟨rfl, hb2⟩
        obtain ⟨bc, bf⟩ := bcell hb2
        have hz2 : w1.heap.size + 1 < w2.heap.size := by have := hb2.size; simp at this; omega
        have o0 : w2.cell? ⟨w1.heap.size, 0, none⟩ = some (.int .i64 3) := by rw [bc _ _ (by simp; omega)]; simp [go_sem]
        have n0 : w2.cell? ⟨w1.heap.size + 1, 0, none⟩ = some (.int .i64 0) := by rw [bc _ _ (by simp)]; simp [go_sem]
        have m0 : w2.frozen? ⟨w1.heap.size + 1, 0, none⟩ = false := by rw [bf _ _ (by simp)]; simp [go_sem]
        have o1 : w2.cell? ⟨w1.heap.size, 1, none⟩ = some (.int .i64 1) := by rw [bc _ _ (by simp; omega)]; simp [go_sem]
        have n1 : w2.cell? ⟨w1.heap.size + 1, 1, none⟩ = some (.int .i64 0) := by rw [bc _ _ (by simp)]; simp [go_sem]
        have m1 : w2.frozen? ⟨w1.heap.size + 1, 1, none⟩ = false := by rw [bf _ _ (by simp)]; simp [go_sem]
        have o2 : w2.cell? ⟨w1.heap.size, 2, none⟩ = some (.slice A1 2 k1) := by rw [bc _ _ (by simp; omega)]; simp [go_sem]
        have n2 : w2.cell? ⟨w1.heap.size + 1, 2, none⟩ = some (.slice none 0 0) := by rw [bc _ _ (by simp)]; simp [go_sem]
        have m2 : w2.frozen? ⟨w1.heap.size + 1, 2, none⟩ = false := by rw [bf _ _ (by simp)]; simp [go_sem]
        have BB2 := below_step (below_new (below_new (Below.refl w1.heap.size w1) (.cells #[.int .i64 3, .int .i64 1, .slice A1 2 k1] 42)) (.cells #[.int .i64 0, .int .i64 0, .slice none 0 0] 42)) hb2
        have BE2 := hidd (below_step BE1.out BB2)
        have HL2 := hidd (HL1.out.to (w' := w2) (p' := (· < w1.heap.size)) (fun q hq => ⟨hq, BB2.block q hq⟩))
        obtain ⟨f0, f1⟩ := KXH.out _ BE2.out
        clear d0 d1 hb2 bc bf BB2
        go_wp2_with fail
        refine (T3.out _).mono ?_
        rintro e w3 ⟨hb3, A3, k3, rfl, hl3⟩
        obtain ⟨bc, bf⟩ := bcell hb3
        have hz3 := hb3.size
        have o0' : w3.cell? ⟨w1.heap.size, 0, none⟩ = some (.int .i64 3) := (bc _ _ (by omega)).trans o0
        have n0' : w3.cell? ⟨w1.heap.size + 1, 0, none⟩ = some (.int .i64 0) := (bc _ _ hz2).trans n0
        have m0' : w3.frozen? ⟨w1.heap.size + 1, 0, none⟩ = false := (bf _ _ hz2).trans m0
        have o1' : w3.cell? ⟨w1.heap.size, 1, none⟩ = some (.int .i64 1) := (bc _ _ (by omega)).trans o1
        have n1' : w3.cell? ⟨w1.heap.size + 1, 1, none⟩ = some (.int .i64 0) := (bc _ _ hz2).trans n1
        have m1' : w3.frozen? ⟨w1.heap.size + 1, 1, none⟩ = false := (bf _ _ hz2).trans m1
        have o2' : w3.cell? ⟨w1.heap.size, 2, none⟩ = some (.slice A1 2 k1) := (bc _ _ (by omega)).trans o2
        have n2' : w3.cell? ⟨w1.heap.size + 1, 2, none⟩ = some (.slice none 0 0) := (bc _ _ hz2).trans n2
        have m2' : w3.frozen? ⟨w1.heap.size + 1, 2, none⟩ = false := (bf _ _ hz2).trans m2
        obtain ⟨W3, hW3⟩ : ∃ W3, (((w3.setCell ⟨w1.heap.size + 1, 0, none⟩ (.int .i64 3)).setCell ⟨w1.heap.size + 1, 1, none⟩ (.int .i64 1)).setCell ⟨w1.heap.size + 1, 2, none⟩ (.slice A3 2 k3)) = W3 := ⟨_, rfl⟩
        have hs3 : W3.heap.size = w3.heap.size := by rw [← hW3]; simp
        have BE3 := hidd (show Below wE.heap.size wE W3 by rw [← hW3]; have q := below_step BE2.out hb3; have z1 := BE1.out.size; (repeat' (first | (with_reducible exact Below.refl _ _) | (with_reducible assumption) | (with_reducible apply Below.setCell) | (with_reducible apply Below.alloc) | (with_reducible apply Below.drew) | (with_reducible apply below_drewN) | (with_reducible refine Below.trans ?_ (Below.mono (by assumption) ?_)) | omega | (simp; done) | (simp; omega))))
        have HL3 := hidd (show LieQ wdV 1 W3 (· < w1.heap.size) A1 [s2, s3] by rw [← hW3]; exact lieq_set3 (HL2.out.to (w' := w3) (p' := (· < w1.heap.size)) (fun q hq => ⟨hq, hb3.block q (by omega)⟩)) _ (fun q hq => by omega) _ _ _)
        have HM3 := hidd (show LieQ wdV 1 W3 (fun q => w2.heap.size ≤ q ∧ q < w3.heap.size) A3 [s2, s3] by rw [← hW3]; exact lieq_set3 hl3 _ (fun q hq => by omega) _ _ _)
        have r0 : W3.cell? ⟨w1.heap.size, 0, none⟩ = some (.int .i64 3) := by rw [← hW3]; simp [go_sem, o0']
        have r1 : W3.cell? ⟨w1.heap.size, 1, none⟩ = some (.int .i64 1) := by rw [← hW3]; simp [go_sem, o1']
        have r2 : W3.cell? ⟨w1.heap.size, 2, none⟩ = some (.slice A1 2 k1) := by rw [← hW3]; simp [go_sem, o2']
        have HW3 := hidd hW3
        clear f0 f1 hW3 hb3 hl3 bc bf o0 o1 o2 n0 n1 n2 m0 m1 m2
        go_wp2_with fail
        rw [HW3.out]
        refine (refSelf 3 1 A1 A3 [s2, s3] 2 k1 k3 rfl (by omega) W3 (HL3.out.to (w' := W3) (p' := (· < W3.heap.size)) (fun q hq => ⟨by have : q < w1.heap.size := hq; omega, rfl⟩)) (HM3.out.to (w' := W3) (p' := (· < W3.heap.size)) (fun q hq => ⟨by omega, rfl⟩))).mono ?_
        rintro e w4 ⟨rfl, hb4⟩
        obtain ⟨bc, bf⟩ := bcell hb4
        have v0 : w4.cell? ⟨w1.heap.size, 0, none⟩ = some (.int .i64 3) := (bc _ _ (by omega)).trans r0
        have v1 : w4.cell? ⟨w1.heap.size, 1, none⟩ = some (.int .i64 1) := (bc _ _ (by omega)).trans r1
        have v2 : w4.cell? ⟨w1.heap.size, 2, none⟩ = some (.slice A1 2 k1) := (bc _ _ (by omega)).trans r2
        have BE4 := hidd (below_step BE3.out hb4)
        have HL4 := hidd (HL3.out.to (w' := w4) (p' := (· < w4.heap.size)) (fun q hq => ⟨by have := hb4.size; have : q < w1.heap.size := hq; omega, hb4.block q (by have : q < w1.heap.size := hq; omega)⟩))
        clear hb4 bc bf r0 r1 r2 o0' o1' o2' n0' n1' n2' m0' m1' m2'
        go_wp2_with fail
        refine (T5.out A1 k1 _ HL4.out).mono ?_
        rintro e w5 ⟨rfl, hb5⟩
        have BE5 := hidd (below_step BE4.out hb5)
        have hz5 : w.heap.size < w5.heap.size := by have := BE5.out.size; omega
        obtain ⟨g0, g1⟩ := KXH.out _ BE5.out
        clear hb5 v0 v1 v2 hz2 hz3 hs3
        go_wp2_with fail
        go_meet
        exact below_new BE5.out _
      · have hm' : mayH s2 s3 = false := by cases h : mayH s2 s3; rfl; exact absurd h hm
        have T1 := hidd (fun W => fH1 s2 s3 hm' W)
        have T2 := hidd (fun W => fH2 s2 s3 hm' W)
        have T4 := hidd (fun W => refZero W)
        have T5 := hidd (fun W => fH5 W)
        clear hm hm'
        obtain ⟨c0, c1⟩ := KXH.out _ BC1.out
        go_wp2_with fail
        refine (T1.out _).mono ?_
        rintro e w1 ⟨rfl, hb1⟩
        have BE1 := hidd (below_step BC1.out hb1)
        have hz1 : w.heap.size < w1.heap.size := by have := BE1.out.size; omega
        obtain ⟨d0, d1⟩ := KXH.out _ BE1.out
        clear c0 c1 hb1
        go_wp2_with fail
        refine (T2.out _).mono ?_
        rintro e w2 ⟨rfl, hb2⟩
        obtain ⟨bc, bf⟩ := bcell hb2
        have hz2 : w1.heap.size + 1 < w2.heap.size := by have := hb2.size; simp at this; omega
        have o0 : w2.cell? ⟨w1.heap.size, 0, none⟩ = some (.int .i64 0) := by rw [bc _ _ (by simp; omega)]; simp [go_sem]
        have n0 : w2.cell? ⟨w1.heap.size + 1, 0, none⟩ = some (.int .i64 0) := by rw [bc _ _ (by simp)]; simp [go_sem]
        have o1 : w2.cell? ⟨w1.heap.size, 1, none⟩ = some (.int .i64 0) := by rw [bc _ _ (by simp; omega)]; simp [go_sem]
        have n1 : w2.cell? ⟨w1.heap.size + 1, 1, none⟩ = some (.int .i64 0) := by rw [bc _ _ (by simp)]; simp [go_sem]
        have o2 : w2.cell? ⟨w1.heap.size, 2, none⟩ = some (.slice none 0 0) := by rw [bc _ _ (by simp; omega)]; simp [go_sem]
        have n2 : w2.cell? ⟨w1.heap.size + 1, 2, none⟩ = some (.slice none 0 0) := by rw [bc _ _ (by simp)]; simp [go_sem]
        have BE2 := hidd (below_step (below_new (below_new BE1.out (.cells #[.int .i64 0, .int .i64 0, .slice none 0 0] 42)) (.cells #[.int .i64 0, .int .i64 0, .slice none 0 0] 42)) hb2)
        clear d0 d1 hb2 bc bf
        go_wp2_with fail
        refine (T4.out _).mono ?_
        rintro e w4 ⟨rfl, hb4⟩
        obtain ⟨bc, bf⟩ := bcell hb4
        have v0 : w4.cell? ⟨w1.heap.size, 0, none⟩ = some (.int .i64 0) := (bc _ _ (by omega)).trans o0
        have v1 : w4.cell? ⟨w1.heap.size, 1, none⟩ = some (.int .i64 0) := (bc _ _ (by omega)).trans o1
        have v2 : w4.cell? ⟨w1.heap.size, 2, none⟩ = some (.slice none 0 0) := (bc _ _ (by omega)).trans o2
        have BE4 := hidd (below_step BE2.out hb4)
        clear hb4 bc bf o0 o1 o2 n0 n1 n2
        go_wp2_with fail
        refine (T5.out _).mono ?_
        rintro e w5 ⟨rfl, hb5⟩
        have BE5 := hidd (below_step BE4.out hb5)
        clear hb5 v0 v1 v2 hz2
        go_wp2_with fail
        go_meet
        exact below_new BE5.out _
  case rest =>
  as_aux_lemma =>
  obtain ⟨wc2, hwc⟩ : ∃ W, W = wc := ⟨_, rfl⟩
  subst hwc
  have BC2 := hidd hcut
  clear hcut
  refine hK _ _ ?_
  clear hK
  refine Go.wp_seq_k (fun K hK => ?_)
  go_cut [16, 18, 19, 20] (fun s_16 s_18 s_19 s_20 wx => Below wE.heap.size wE wx)
  case first =>
    as_aux_lemma =>
      by_cases hm : mayQ s4 = true
      · have T1 := hidd (fun W => tQ1 s4 hm W)
        have T2 := hidd (fun W => tQ2 s4 hm W)
        have T3 := hidd (fun W => tQ3 s4 hm W)
        have T5 := hidd (fun A k W h => tQ5 s4 hm A k W h)
        clear hm
        have c0 := KXQ.out _ BC2.out
        go_wp2_with fail
        refine (T1.out _).mono ?_
        rintro e w1 ⟨hb1, A1, k1, rfl, hl1⟩
        have BE1 := hidd (below_step BC2.out hb1)
        have hz1 : w.heap.size < w1.heap.size := by have := BE1.out.size; omega
        have HL1 := hidd hl1
        have d0 := KXQ.out _ BE1.out
        clear c0 hb1 hl1
        go_wp2_with fail
        refine (T2.out _).mono ?_
        rintro e w2 ⟨rfl, hb2⟩
        obtain ⟨bc, bf⟩ := bcell hb2
        have hz2 : w1.heap.size + 1 < w2.heap.size := by have := hb2.size; simp at this; omega
        have o0 : w2.cell? ⟨w1.heap.size, 0, none⟩ = some (.int .i64 5) := by rw [bc _ _ (by simp; omega)]; simp [go_sem]
        have n0 : w2.cell? ⟨w1.heap.size + 1, 0, none⟩ = some (.int .i64 0) := by rw [bc _ _ (by simp)]; simp [go_sem]
        have m0 : w2.frozen? ⟨w1.heap.size + 1, 0, none⟩ = false := by rw [bf _ _ (by simp)]; simp [go_sem]
        have o1 : w2.cell? ⟨w1.heap.size, 1, none⟩ = some (.int .i64 1) := by rw [bc _ _ (by simp; omega)]; simp [go_sem]
        have n1 : w2.cell? ⟨w1.heap.size + 1, 1, none⟩ = some (.int .i64 0) := by rw [bc _ _ (by simp)]; simp [go_sem]
        have m1 : w2.frozen? ⟨w1.heap.size + 1, 1, none⟩ = false := by rw [bf _ _ (by simp)]; simp [go_sem]
        have o2 : w2.cell? ⟨w1.heap.size, 2, none⟩ = some (.slice A1 1 k1) := by rw [bc _ _ (by simp; omega)]; simp [go_sem]
        have n2 : w2.cell? ⟨w1.heap.size + 1, 2, none⟩ = some (.slice none 0 0) := by rw [bc _ _ (by simp)]; simp [go_sem]
        have m2 : w2.frozen? ⟨w1.heap.size + 1, 2, none⟩ = false := by rw [bf _ _ (by simp)]; simp [go_sem]
        have BB2 := below_step (below_new (below_new (Below.refl w1.heap.size w1) (.cells #[.int .i64 5, .int .i64 1, .slice A1 1 k1] 42)) (.cells #[.int .i64 0, .int .i64 0, .slice none 0 0] 42)) hb2
        have BE2 := hidd (below_step BE1.out BB2)
        have HL2 := hidd (HL1.out.to (w' := w2) (p' := (· < w1.heap.size)) (fun q hq => ⟨hq, BB2.block q hq⟩))
        have f0 := KXQ.out _ BE2.out
        clear d0 hb2 bc bf BB2
        go_wp2_with fail
        refine (T3.out _).mono ?_
        rintro e w3 ⟨hb3, A3, k3, rfl, hl3⟩
        obtain ⟨bc, bf⟩ := bcell hb3
        have hz3 := hb3.size
        have o0' : w3.cell? ⟨w1.heap.size, 0, none⟩ = some (.int .i64 5) := (bc _ _ (by omega)).trans o0
        have n0' : w3.cell? ⟨w1.heap.size + 1, 0, none⟩ = some (.int .i64 0) := (bc _ _ hz2).trans n0
        have m0' : w3.frozen? ⟨w1.heap.size + 1, 0, none⟩ = false := (bf _ _ hz2).trans m0
        have o1' : w3.cell? ⟨w1.heap.size, 1, none⟩ = some (.int .i64 1) := (bc _ _ (by omega)).trans o1
        have n1' : w3.cell? ⟨w1.heap.size + 1, 1, none⟩ = some (.int .i64 0) := (bc _ _ hz2).trans n1
        have m1' : w3.frozen? ⟨w1.heap.size + 1, 1, none⟩ = false := (bf _ _ hz2).trans m1
        have o2' : w3.cell? ⟨w1.heap.size, 2, none⟩ = some (.slice A1 1 k1) := (bc _ _ (by omega)).trans o2
        have n2' : w3.cell? ⟨w1.heap.size + 1, 2, none⟩ = some (.slice none 0 0) := (bc _ _ hz2).trans n2
        have m2' : w3.frozen? ⟨w1.heap.size + 1, 2, none⟩ = false := (bf _ _ hz2).trans m2
        obtain ⟨W3, hW3⟩ : ∃ W3, (((w3.setCell ⟨w1.heap.size + 1, 0, none⟩ (.int .i64 5)).setCell ⟨w1.heap.size + 1, 1, none⟩ (.int .i64 1)).setCell ⟨w1.heap.size + 1, 2, none⟩ (.slice A3 1 k3)) = W3 := ⟨_, rfl⟩
        have hs3 : W3.heap.size = w3.heap.size := by rw [← hW3]; simp
        have BE3 := hidd (show Below wE.heap.size wE W3 by rw [← hW3]; have q := below_step BE2.out hb3; have z1 := BE1.out.size; (repeat' (first | (with_reducible exact Below.refl _ _) | (with_reducible assumption) | (with_reducible apply Below.setCell) | (with_reducible apply Below.alloc) | (with_reducible apply Below.drew) | (with_reducible apply below_drewN) | (with_reducible refine Below.trans ?_ (Below.mono (by assumption) ?_)) | omega | (simp; done) | (simp; omega))))
        have HL3 := hidd (show LieQ wdV 1 W3 (· < w1.heap.size) A1 [s4] by rw [← hW3]; exact lieq_set3 (HL2.out.to (w' := w3) (p' := (· < w1.heap.size)) (fun q hq => ⟨hq, hb3.block q (by omega)⟩)) _ (fun q hq => by omega) _ _ _)
        have HM3 := hidd (show LieQ wdV 1 W3 (fun q => w2.heap.size ≤ q ∧ q < w3.heap.size) A3 [s4] by rw [← hW3]; exact lieq_set3 hl3 _ (fun q hq => by omega) _ _ _)
        have r0 : W3.cell? ⟨w1.heap.size, 0, none⟩ = some (.int .i64 5) := by rw [← hW3]; simp [go_sem, o0']
        have r1 : W3.cell? ⟨w1.heap.size, 1, none⟩ = some (.int .i64 1) := by rw [← hW3]; simp [go_sem, o1']
        have r2 : W3.cell? ⟨w1.heap.size, 2, none⟩ = some (.slice A1 1 k1) := by rw [← hW3]; simp [go_sem, o2']
        have HW3 := hidd hW3
        clear f0 hW3 hb3 hl3 bc bf o0 o1 o2 n0 n1 n2 m0 m1 m2
        go_wp2_with fail
        rw [HW3.out]
        refine (refSelf 5 1 A1 A3 [s4] 1 k1 k3 rfl (by omega) W3 (HL3.out.to (w' := W3) (p' := (· < W3.heap.size)) (fun q hq => ⟨by have : q < w1.heap.size := hq; omega, rfl⟩)) (HM3.out.to (w' := W3) (p' := (· < W3.heap.size)) (fun q hq => ⟨by omega, rfl⟩))).mono ?_
        rintro e w4 ⟨rfl, hb4⟩
        obtain ⟨bc, bf⟩ := bcell hb4
        have v0 : w4.cell? ⟨w1.heap.size, 0, none⟩ = some (.int .i64 5) := (bc _ _ (by omega)).trans r0
        have v1 : w4.cell? ⟨w1.heap.size, 1, none⟩ = some (.int .i64 1) := (bc _ _ (by omega)).trans r1
        have v2 : w4.cell? ⟨w1.heap.size, 2, none⟩ = some (.slice A1 1 k1) := (bc _ _ (by omega)).trans r2
        have BE4 := hidd (below_step BE3.out hb4)
        have HL4 := hidd (HL3.out.to (w' := w4) (p' := (· < w4.heap.size)) (fun q hq => ⟨by have := hb4.size; have : q < w1.heap.size := hq; omega, hb4.block q (by have : q < w1.heap.size := hq; omega)⟩))
        clear hb4 bc bf r0 r1 r2 o0' o1' o2' n0' n1' n2' m0' m1' m2'
        go_wp2_with fail
        refine (T5.out A1 k1 _ HL4.out).mono ?_
        rintro e w5 ⟨rfl, hb5⟩
        have BE5 := hidd (below_step BE4.out hb5)
        have hz5 : w.heap.size < w5.heap.size := by have := BE5.out.size; omega
        have g0 := KXQ.out _ BE5.out
        clear hb5 v0 v1 v2 hz2 hz3 hs3
        go_wp2_with fail
        go_meet
        exact BE5.out
      · have hm' : mayQ s4 = false := by cases h : mayQ s4; rfl; exact absurd h hm
        have T1 := hidd (fun W => fQ1 s4 hm' W)
        have T2 := hidd (fun W => fQ2 s4 hm' W)
        have T4 := hidd (fun W => refZero W)
        have T5 := hidd (fun W => fQ5 W)
        clear hm hm'
        have c0 := KXQ.out _ BC2.out
        go_wp2_with fail
        refine (T1.out _).mono ?_
        rintro e w1 ⟨rfl, hb1⟩
        have BE1 := hidd (below_step BC2.out hb1)
        have hz1 : w.heap.size < w1.heap.size := by have := BE1.out.size; omega
        have d0 := KXQ.out _ BE1.out
        clear c0 hb1
        go_wp2_with fail
        refine (T2.out _).mono ?_
        rintro e w2 ⟨rfl, hb2⟩
        obtain ⟨bc, bf⟩ := bcell hb2
        have hz2 : w1.heap.size + 1 < w2.heap.size := by have := hb2.size; simp at this; omega
        have o0 : w2.cell? ⟨w1.heap.size, 0, none⟩ = some (.int .i64 0) := by rw [bc _ _ (by simp; omega)]; simp [go_sem]
        have n0 : w2.cell? ⟨w1.heap.size + 1, 0, none⟩ = some (.int .i64 0) := by rw [bc _ _ (by simp)]; simp [go_sem]
        have o1 : w2.cell? ⟨w1.heap.size, 1, none⟩ = some (.int .i64 0) := by rw [bc _ _ (by simp; omega)]; simp [go_sem]
        have n1 : w2.cell? ⟨w1.heap.size + 1, 1, none⟩ = some (.int .i64 0) := by rw [bc _ _ (by simp)]; simp [go_sem]
        have o2 : w2.cell? ⟨w1.heap.size, 2, none⟩ = some (.slice none 0 0) := by rw [bc _ _ (by simp; omega)]; simp [go_sem]
        have n2 : w2.cell? ⟨w1.heap.size + 1, 2, none⟩ = some (.slice none 0 0) := by rw [bc _ _ (by simp)]; simp [go_sem]
        have BE2 := hidd (below_step (below_new (below_new BE1.out (.cells #[.int .i64 0, .int .i64 0, .slice none 0 0] 42)) (.cells #[.int .i64 0, .int .i64 0, .slice none 0 0] 42)) hb2)
        clear d0 hb2 bc bf
        go_wp2_with fail
        refine (T4.out _).mono ?_
        rintro e w4 ⟨rfl, hb4⟩
        obtain ⟨bc, bf⟩ := bcell hb4
        have v0 : w4.cell? ⟨w1.heap.size, 0, none⟩ = some (.int .i64 0) := (bc _ _ (by omega)).trans o0
        have v1 : w4.cell? ⟨w1.heap.size, 1, none⟩ = some (.int .i64 0) := (bc _ _ (by omega)).trans o1
        have v2 : w4.cell? ⟨w1.heap.size, 2, none⟩ = some (.slice none 0 0) := (bc _ _ (by omega)).trans o2
        have BE4 := hidd (below_step BE2.out hb4)
        clear hb4 bc bf o0 o1 o2 n0 n1 n2
        go_wp2_with fail
        refine (T5.out _).mono ?_
        rintro e w5 ⟨rfl, hb5⟩
        have BE5 := hidd (below_step BE4.out hb5)
        clear hb5 v0 v1 v2 hz2
        go_wp2_with fail
        go_meet
        exact BE5.out
  case rest =>
  as_aux_lemma =>
  obtain ⟨wc3, hwc⟩ : ∃ W, W = wc := ⟨_, rfl⟩
  subst hwc
  have BC3 := hidd hcut
  clear hcut
  refine hK _ _ ?_
  clear hK
  refine Go.wp_seq_k (fun K hK => ?_)
  go_cut [22, 24, 26] (fun s_22 s_24 s_26 wx => Below wE.heap.size wE wx)
  case first =>
    as_aux_lemma =>
      by_cases hm : mayF s5 s6 s7 = true
      · have T1 := hidd (fun W => tF1 s5 s6 s7 hm W)
        have T2 := hidd (fun W => tF2 s5 s6 s7 hm W)
        have T3 := hidd (fun W => tF3 s5 s6 s7 hm W)
        have T5 := hidd (fun A k W h => tF5 s5 s6 s7 hm A k W h)
        clear hm
        obtain ⟨c0, c1, c2⟩ := KXF.out _ BC3.out
        go_wp2_with fail
        refine (T1.out _).mono ?_
        rintro e w1 ⟨hb1, A1, k1, rfl, hl1⟩
        have BE1 := hidd (below_step BC3.out hb1)
        have hz1 : w.heap.size < w1.heap.size := by have := BE1.out.size; omega
        have HL1 := hidd hl1
        obtain ⟨d0, d1, d2⟩ := KXF.out _ BE1.out
        clear c0 c1 c2 hb1 hl1
        go_wp2_with fail
        refine (T2.out _).mono ?_
        rintro e w2 ⟨rfl, hb2⟩
        obtain ⟨bc, bf⟩ := bcell hb2
        have hz2 : w1.heap.size + 1 < w2.heap.size := by have := hb2.size; simp at this; omega
        have o0 : w2.cell? ⟨w1.heap.size, 0, none⟩ = some (.int .i64 6) := by rw [bc _ _ (by simp; omega)]; simp [go_sem]
        have n0 : w2.cell? ⟨w1.heap.size + 1, 0, none⟩ = some (.int .i64 0) := by rw [bc _ _ (by simp)]; simp [go_sem]
        have m0 : w2.frozen? ⟨w1.heap.size + 1, 0, none⟩ = false := by rw [bf _ _ (by simp)]; simp [go_sem]
        have o1 : w2.cell? ⟨w1.heap.size, 1, none⟩ = some (.int .i64 1) := by rw [bc _ _ (by simp; omega)]; simp [go_sem]
        have n1 : w2.cell? ⟨w1.heap.size + 1, 1, none⟩ = some (.int .i64 0) := by rw [bc _ _ (by simp)]; simp [go_sem]
        have m1 : w2.frozen? ⟨w1.heap.size + 1, 1, none⟩ = false := by rw [bf _ _ (by simp)]; simp [go_sem]
        have o2 : w2.cell? ⟨w1.heap.size, 2, none⟩ = some (.slice A1 2 k1) := by rw [bc _ _ (by simp; omega)]; simp [go_sem]
        have n2 : w2.cell? ⟨w1.heap.size + 1, 2, none⟩ = some (.slice none 0 0) := by rw [bc _ _ (by simp)]; simp [go_sem]
        have m2 : w2.frozen? ⟨w1.heap.size + 1, 2, none⟩ = false := by rw [bf _ _ (by simp)]; simp [go_sem]
        have BB2 := below_step (below_new (below_new (Below.refl w1.heap.size w1) (.cells #[.int .i64 6, .int .i64 1, .slice A1 2 k1] 42)) (.cells #[.int .i64 0, .int .i64 0, .slice none 0 0] 42)) hb2
        have BE2 := hidd (below_step BE1.out BB2)
        have HL2 := hidd (HL1.out.to (w' := w2) (p' := (· < w1.heap.size)) (fun q hq => ⟨hq, BB2.block q hq⟩))
        obtain ⟨f0, f1, f2⟩ := KXF.out _ BE2.out
        clear d0 d1 d2 hb2 bc bf BB2
        go_wp2_with fail
        refine (T3.out _).mono ?_
        rintro e w3 ⟨hb3, A3, k3, rfl, hl3⟩
        obtain ⟨bc, bf⟩ := bcell hb3
        have hz3 := hb3.size
        have o0' : w3.cell? ⟨w1.heap.size, 0, none⟩ = some (.int .i64 6) := (bc _ _ (by omega)).trans o0
        have n0' : w3.cell? ⟨w1.heap.size + 1, 0, none⟩ = some (.int .i64 0) := (bc _ _ hz2).trans n0
        have m0' : w3.frozen? ⟨w1.heap.size + 1, 0, none⟩ = false := (bf _ _ hz2).trans m0
        have o1' : w3.cell? ⟨w1.heap.size, 1, none⟩ = some (.int .i64 1) := (bc _ _ (by omega)).trans o1
        have n1' : w3.cell? ⟨w1.heap.size + 1, 1, none⟩ = some (.int .i64 0) := (bc _ _ hz2).trans n1
        have m1' : w3.frozen? ⟨w1.heap.size + 1, 1, none⟩ = false := (bf _ _ hz2).trans m1
        have o2' : w3.cell? ⟨w1.heap.size, 2, none⟩ = some (.slice A1 2 k1) := (bc _ _ (by omega)).trans o2
        have n2' : w3.cell? ⟨w1.heap.size + 1, 2, none⟩ = some (.slice none 0 0) := (bc _ _ hz2).trans n2
        have m2' : w3.frozen? ⟨w1.heap.size + 1, 2, none⟩ = false := (bf _ _ hz2).trans m2
        obtain ⟨W3, hW3⟩ : ∃ W3, (((w3.setCell ⟨w1.heap.size + 1, 0, none⟩ (.int .i64 6)).setCell ⟨w1.heap.size + 1, 1, none⟩ (.int .i64 1)).setCell ⟨w1.heap.size + 1, 2, none⟩ (.slice A3 2 k3)) = W3 := ⟨_, rfl⟩
        have hs3 : W3.heap.size = w3.heap.size := by rw [← hW3]; simp
        have BE3 := hidd (show Below wE.heap.size wE W3 by rw [← hW3]; have q := below_step BE2.out hb3; have z1 := BE1.out.size; (repeat' (first | (with_reducible exact Below.refl _ _) | (with_reducible assumption) | (with_reducible apply Below.setCell) | (with_reducible apply Below.alloc) | (with_reducible apply Below.drew) | (with_reducible apply below_drewN) | (with_reducible refine Below.trans ?_ (Below.mono (by assumption) ?_)) | omega | (simp; done) | (simp; omega))))
        have HL3 := hidd (show LieQ wdV 1 W3 (· < w1.heap.size) A1 [s5, (65536 * s6 + s7)] by rw [← hW3]; exact lieq_set3 (HL2.out.to (w' := w3) (p' := (· < w1.heap.size)) (fun q hq => ⟨hq, hb3.block q (by omega)⟩)) _ (fun q hq => by omega) _ _ _)
        have HM3 := hidd (show LieQ wdV 1 W3 (fun q => w2.heap.size ≤ q ∧ q < w3.heap.size) A3 [s5, (65536 * s6 + s7)] by rw [← hW3]; exact lieq_set3 hl3 _ (fun q hq => by omega) _ _ _)
        have r0 : W3.cell? ⟨w1.heap.size, 0, none⟩ = some (.int .i64 6) := by rw [← hW3]; simp [go_sem, o0']
        have r1 : W3.cell? ⟨w1.heap.size, 1, none⟩ = some (.int .i64 1) := by rw [← hW3]; simp [go_sem, o1']
        have r2 : W3.cell? ⟨w1.heap.size, 2, none⟩ = some (.slice A1 2 k1) := by rw [← hW3]; simp [go_sem, o2']
        have HW3 := hidd hW3
        clear f0 f1 f2 hW3 hb3 hl3 bc bf o0 o1 o2 n0 n1 n2 m0 m1 m2
        go_wp2_with fail
        rw [HW3.out]
        refine (refSelf 6 1 A1 A3 [s5, (65536 * s6 + s7)] 2 k1 k3 rfl (by omega) W3 (HL3.out.to (w' := W3) (p' := (· < W3.heap.size)) (fun q hq => ⟨by have : q < w1.heap.size := hq; omega, rfl⟩)) (HM3.out.to (w' := W3) (p' := (· < W3.heap.size)) (fun q hq => ⟨by omega, rfl⟩))).mono ?_
        rintro e w4 ⟨rfl, hb4⟩
        obtain ⟨bc, bf⟩ := bcell hb4
        have v0 : w4.cell? ⟨w1.heap.size, 0, none⟩ = some (.int .i64 6) := (bc _ _ (by omega)).trans r0
        have v1 : w4.cell? ⟨w1.heap.size, 1, none⟩ = some (.int .i64 1) := (bc _ _ (by omega)).trans r1
        have v2 : w4.cell? ⟨w1.heap.size, 2, none⟩ = some (.slice A1 2 k1) := (bc _ _ (by omega)).trans r2
        have BE4 := hidd (below_step BE3.out hb4)
        have HL4 := hidd (HL3.out.to (w' := w4) (p' := (· < w4.heap.size)) (fun q hq => ⟨by have := hb4.size; have : q < w1.heap.size := hq; omega, hb4.block q (by have : q < w1.heap.size := hq; omega)⟩))
        clear hb4 bc bf r0 r1 r2 o0' o1' o2' n0' n1' n2' m0' m1' m2'
        go_wp2_with fail
        refine (T5.out A1 k1 _ HL4.out).mono ?_
        rintro e w5 ⟨rfl, hb5⟩
        have BE5 := hidd (below_step BE4.out hb5)
        have hz5 : w.heap.size < w5.heap.size := by have := BE5.out.size; omega
        obtain ⟨g0, g1, g2⟩ := KXF.out _ BE5.out
        clear hb5 v0 v1 v2 hz2 hz3 hs3
        go_wp2_with fail
        go_meet
        exact below_new BE5.out _
      · have hm' : mayF s5 s6 s7 = false := by cases h : mayF s5 s6 s7; rfl; exact absurd h hm
        have T1 := hidd (fun W => fF1 s5 s6 s7 hm' W)
        have T2 := hidd (fun W => fF2 s5 s6 s7 hm' W)
        have T4 := hidd (fun W => refZero W)
        have T5 := hidd (fun W => fF5 W)
        clear hm hm'
        obtain ⟨c0, c1, c2⟩ := KXF.out _ BC3.out
        go_wp2_with fail
        refine (T1.out _).mono ?_
        rintro e w1 ⟨rfl, hb1⟩
        have BE1 := hidd (below_step BC3.out hb1)
        have hz1 : w.heap.size < w1.heap.size := by have := BE1.out.size; omega
        obtain ⟨d0, d1, d2⟩ := KXF.out _ BE1.out
        clear c0 c1 c2 hb1
        go_wp2_with fail
        refine (T2.out _).mono ?_
        rintro e w2 ⟨rfl, hb2⟩
        obtain ⟨bc, bf⟩ := bcell hb2
        have hz2 : w1.heap.size + 1 < w2.heap.size := by have := hb2.size; simp at this; omega
        have o0 : w2.cell? ⟨w1.heap.size, 0, none⟩ = some (.int .i64 0) := by rw [bc _ _ (by simp; omega)]; simp [go_sem]
        have n0 : w2.cell? ⟨w1.heap.size + 1, 0, none⟩ = some (.int .i64 0) := by rw [bc _ _ (by simp)]; simp [go_sem]
        have o1 : w2.cell? ⟨w1.heap.size, 1, none⟩ = some (.int .i64 0) := by rw [bc _ _ (by simp; omega)]; simp [go_sem]
        have n1 : w2.cell? ⟨w1.heap.size + 1, 1, none⟩ = some (.int .i64 0) := by rw [bc _ _ (by simp)]; simp [go_sem]
        have o2 : w2.cell? ⟨w1.heap.size, 2, none⟩ = some (.slice none 0 0) := by rw [bc _ _ (by simp; omega)]; simp [go_sem]
        have n2 : w2.cell? ⟨w1.heap.size + 1, 2, none⟩ = some (.slice none 0 0) := by rw [bc _ _ (by simp)]; simp [go_sem]
        have BE2 := hidd (below_step (below_new (below_new BE1.out (.cells #[.int .i64 0, .int .i64 0, .slice none 0 0] 42)) (.cells #[.int .i64 0, .int .i64 0, .slice none 0 0] 42)) hb2)
        clear d0 d1 d2 hb2 bc bf
        go_wp2_with fail
        refine (T4.out _).mono ?_
        rintro e w4 ⟨rfl, hb4⟩
        obtain ⟨bc, bf⟩ := bcell hb4
        have v0 : w4.cell? ⟨w1.heap.size, 0, none⟩ = some (.int .i64 0) := (bc _ _ (by omega)).trans o0
        have v1 : w4.cell? ⟨w1.heap.size, 1, none⟩ = some (.int .i64 0) := (bc _ _ (by omega)).trans o1
        have v2 : w4.cell? ⟨w1.heap.size, 2, none⟩ = some (.slice none 0 0) := (bc _ _ (by omega)).trans o2
        have BE4 := hidd (below_step BE2.out hb4)
        clear hb4 bc bf o0 o1 o2 n0 n1 n2
        go_wp2_with fail
        refine (T5.out _).mono ?_
        rintro e w5 ⟨rfl, hb5⟩
        have BE5 := hidd (below_step BE4.out hb5)
        clear hb5 v0 v1 v2 hz2
        go_wp2_with fail
        go_meet
        exact below_new BE5.out _
  case rest =>
  as_aux_lemma =>
  obtain ⟨wc4, hwc⟩ : ∃ W, W = wc := ⟨_, rfl⟩
  subst hwc
  have BC4 := hidd hcut
  clear hcut
  refine hK _ _ ?_
  clear hK
  refine Go.wp_seq_k (fun K hK => ?_)
  go_cut [28, 30, 31, 32] (fun s_28 s_30 s_31 s_32 wx => Below wE.heap.size wE wx)
  case first =>
    as_aux_lemma =>
      by_cases hm : mayY s8 = true
      · have T1 := hidd (fun W => tY1 s8 HY.out hm W)
        have T2 := hidd (fun W => tY2 s8 hm W)
        have T3 := hidd (fun W => tY3 s8 hm W)
        have T5 := hidd (fun A k W h => tY5 s8 hm A k W h)
        clear hm
        have c0 := KXY.out _ BC4.out
        go_wp2_with fail
        refine (T1.out _).mono ?_
        rintro e w1 ⟨hb1, A1, k1, rfl, hl1⟩
        have BE1 := hidd (below_step BC4.out hb1)
        have hz1 : w.heap.size < w1.heap.size := by have := BE1.out.size; omega
        have HL1 := hidd hl1
        have d0 := KXY.out _ BE1.out
        clear c0 hb1 hl1
        go_wp2_with fail
        refine (T2.out _).mono ?_
        rintro e w2 ⟨rfl, hb2⟩
        obtain ⟨bc, bf⟩ := bcell hb2
        have hz2 : w1.heap.size + 1 < w2.heap.size := by have := hb2.size; simp at this; omega
        have o0 : w2.cell? ⟨w1.heap.size, 0, none⟩ = some (.int .i64 8) := by rw [bc _ _ (by simp; omega)]; simp [go_sem]
        have n0 : w2.cell? ⟨w1.heap.size + 1, 0, none⟩ = some (.int .i64 0) := by rw [bc _ _ (by simp)]; simp [go_sem]
        have m0 : w2.frozen? ⟨w1.heap.size + 1, 0, none⟩ = false := by rw [bf _ _ (by simp)]; simp [go_sem]
        have o1 : w2.cell? ⟨w1.heap.size, 1, none⟩ = some (.int .i64 1) := by rw [bc _ _ (by simp; omega)]; simp [go_sem]
        have n1 : w2.cell? ⟨w1.heap.size + 1, 1, none⟩ = some (.int .i64 0) := by rw [bc _ _ (by simp)]; simp [go_sem]
        have m1 : w2.frozen? ⟨w1.heap.size + 1, 1, none⟩ = false := by rw [bf _ _ (by simp)]; simp [go_sem]
        have o2 : w2.cell? ⟨w1.heap.size, 2, none⟩ = some (.slice A1 1 k1) := by rw [bc _ _ (by simp; omega)]; simp [go_sem]
        have n2 : w2.cell? ⟨w1.heap.size + 1, 2, none⟩ = some (.slice none 0 0) := by rw [bc _ _ (by simp)]; simp [go_sem]
        have m2 : w2.frozen? ⟨w1.heap.size + 1, 2, none⟩ = false := by rw [bf _ _ (by simp)]; simp [go_sem]
        have BB2 := below_step (below_new (below_new (Below.refl w1.heap.size w1) (.cells #[.int .i64 8, .int .i64 1, .slice A1 1 k1] 42)) (.cells #[.int .i64 0, .int .i64 0, .slice none 0 0] 42)) hb2
        have BE2 := hidd (below_step BE1.out BB2)
        have HL2 := hidd (HL1.out.to (w' := w2) (p' := (· < w1.heap.size)) (fun q hq => ⟨hq, BB2.block q hq⟩))
        have f0 := KXY.out _ BE2.out
        clear d0 hb2 bc bf BB2
        go_wp2_with fail
        refine (T3.out _).mono ?_
        rintro e w3 ⟨hb3, A3, k3, rfl, hl3⟩
        obtain ⟨bc, bf⟩ := bcell hb3
        have hz3 := hb3.size
        have o0' : w3.cell? ⟨w1.heap.size, 0, none⟩ = some (.int .i64 8) := (bc _ _ (by omega)).trans o0
        have n0' : w3.cell? ⟨w1.heap.size + 1, 0, none⟩ = some (.int .i64 0) := (bc _ _ hz2).trans n0
        have m0' : w3.frozen? ⟨w1.heap.size + 1, 0, none⟩ = false := (bf _ _ hz2).trans m0
        have o1' : w3.cell? ⟨w1.heap.size, 1, none⟩ = some (.int .i64 1) := (bc _ _ (by omega)).trans o1
        have n1' : w3.cell? ⟨w1.heap.size + 1, 1, none⟩ = some (.int .i64 0) := (bc _ _ hz2).trans n1
        have m1' : w3.frozen? ⟨w1.heap.size + 1, 1, none⟩ = false := (bf _ _ hz2).trans m1
        have o2' : w3.cell? ⟨w1.heap.size, 2, none⟩ = some (.slice A1 1 k1) := (bc _ _ (by omega)).trans o2
        have n2' : w3.cell? ⟨w1.heap.size + 1, 2, none⟩ = some (.slice none 0 0) := (bc _ _ hz2).trans n2
        have m2' : w3.frozen? ⟨w1.heap.size + 1, 2, none⟩ = false := (bf _ _ hz2).trans m2
        obtain ⟨W3, hW3⟩ : ∃ W3, (((w3.setCell ⟨w1.heap.size + 1, 0, none⟩ (.int .i64 8)).setCell ⟨w1.heap.size + 1, 1, none⟩ (.int .i64 1)).setCell ⟨w1.heap.size + 1, 2, none⟩ (.slice A3 1 k3)) = W3 := ⟨_, rfl⟩
        have hs3 : W3.heap.size = w3.heap.size := by rw [← hW3]; simp
        have BE3 := hidd (show Below wE.heap.size wE W3 by rw [← hW3]; have q := below_step BE2.out hb3; have z1 := BE1.out.size; (repeat' (first | (with_reducible exact Below.refl _ _) | (with_reducible assumption) | (with_reducible apply Below.setCell) | (with_reducible apply Below.alloc) | (with_reducible apply Below.drew) | (with_reducible apply below_drewN) | (with_reducible refine Below.trans ?_ (Below.mono (by assumption) ?_)) | omega | (simp; done) | (simp; omega))))
        have HL3 := hidd (show LieQ wdV 1 W3 (· < w1.heap.size) A1 [(styleW s8)] by rw [← hW3]; exact lieq_set3 (HL2.out.to (w' := w3) (p' := (· < w1.heap.size)) (fun q hq => ⟨hq, hb3.block q (by omega)⟩)) _ (fun q hq => by omega) _ _ _)
        have HM3 := hidd (show LieQ wdV 1 W3 (fun q => w2.heap.size ≤ q ∧ q < w3.heap.size) A3 [(styleW s8)] by rw [← hW3]; exact lieq_set3 hl3 _ (fun q hq => by omega) _ _ _)
        have r0 : W3.cell? ⟨w1.heap.size, 0, none⟩ = some (.int .i64 8) := by rw [← hW3]; simp [go_sem, o0']
        have r1 : W3.cell? ⟨w1.heap.size, 1, none⟩ = some (.int .i64 1) := by rw [← hW3]; simp [go_sem, o1']
        have r2 : W3.cell? ⟨w1.heap.size, 2, none⟩ = some (.slice A1 1 k1) := by rw [← hW3]; simp [go_sem, o2']
        have HW3 := hidd hW3
        clear f0 hW3 hb3 hl3 bc bf o0 o1 o2 n0 n1 n2 m0 m1 m2
        go_wp2_with fail
        rw [HW3.out]
        refine (refSelf 8 1 A1 A3 [(styleW s8)] 1 k1 k3 rfl (by omega) W3 (HL3.out.to (w' := W3) (p' := (· < W3.heap.size)) (fun q hq => ⟨by have : q < w1.heap.size := hq; omega, rfl⟩)) (HM3.out.to (w' := W3) (p' := (· < W3.heap.size)) (fun q hq => ⟨by omega, rfl⟩))).mono ?_
        rintro e w4 ⟨rfl, hb4⟩
        obtain ⟨bc, bf⟩ := bcell hb4
        have v0 : w4.cell? ⟨w1.heap.size, 0, none⟩ = some (.int .i64 8) := (bc _ _ (by omega)).trans r0
        have v1 : w4.cell? ⟨w1.heap.size, 1, none⟩ = some (.int .i64 1) := (bc _ _ (by omega)).trans r1
        have v2 : w4.cell? ⟨w1.heap.size, 2, none⟩ = some (.slice A1 1 k1) := (bc _ _ (by omega)).trans r2
        have BE4 := hidd (below_step BE3.out hb4)
        have HL4 := hidd (HL3.out.to (w' := w4) (p' := (· < w4.heap.size)) (fun q hq => ⟨by have := hb4.size; have : q < w1.heap.size := hq; omega, hb4.block q (by have : q < w1.heap.size := hq; omega)⟩))
        clear hb4 bc bf r0 r1 r2 o0' o1' o2' n0' n1' n2' m0' m1' m2'
        go_wp2_with fail
        refine (T5.out A1 k1 _ HL4.out).mono ?_
        rintro e w5 ⟨rfl, hb5⟩
        have BE5 := hidd (below_step BE4.out hb5)
        have hz5 : w.heap.size < w5.heap.size := by have := BE5.out.size; omega
        have g0 := KXY.out _ BE5.out
        clear hb5 v0 v1 v2 hz2 hz3 hs3
        go_wp2_with fail
        go_meet
        exact BE5.out
      · have hm' : mayY s8 = false := by cases h : mayY s8; rfl; exact absurd h hm
        have T1 := hidd (fun W => fY1 s8 HY.out hm' W)
        have T2 := hidd (fun W => fY2 s8 hm' W)
        have T4 := hidd (fun W => refZero W)
        have T5 := hidd (fun W => fY5 W)
        clear hm hm'
        have c0 := KXY.out _ BC4.out
        go_wp2_with fail
        refine (T1.out _).mono ?_
        rintro e w1 ⟨rfl, hb1⟩
        have BE1 := hidd (below_step BC4.out hb1)
        have hz1 : w.heap.size < w1.heap.size := by have := BE1.out.size; omega
        have d0 := KXY.out _ BE1.out
        clear c0 hb1
        go_wp2_with fail
        refine (T2.out _).mono ?_
        rintro e w2 ⟨rfl, hb2⟩
        obtain ⟨bc, bf⟩ := bcell hb2
        have hz2 : w1.heap.size + 1 < w2.heap.size := by have := hb2.size; simp at this; omega
        have o0 : w2.cell? ⟨w1.heap.size, 0, none⟩ = some (.int .i64 0) := by rw [bc _ _ (by simp; omega)]; simp [go_sem]
        have n0 : w2.cell? ⟨w1.heap.size + 1, 0, none⟩ = some (.int .i64 0) := by rw [bc _ _ (by simp)]; simp [go_sem]
        have o1 : w2.cell? ⟨w1.heap.size, 1, none⟩ = some (.int .i64 0) := by rw [bc _ _ (by simp; omega)]; simp [go_sem]
        have n1 : w2.cell? ⟨w1.heap.size + 1, 1, none⟩ = some (.int .i64 0) := by rw [bc _ _ (by simp)]; simp [go_sem]
        have o2 : w2.cell? ⟨w1.heap.size, 2, none⟩ = some (.slice none 0 0) := by rw [bc _ _ (by simp; omega)]; simp [go_sem]
        have n2 : w2.cell? ⟨w1.heap.size + 1, 2, none⟩ = some (.slice none 0 0) := by rw [bc _ _ (by simp)]; simp [go_sem]
        have BE2 := hidd (below_step (below_new (below_new BE1.out (.cells #[.int .i64 0, .int .i64 0, .slice none 0 0] 42)) (.cells #[.int .i64 0, .int .i64 0, .slice none 0 0] 42)) hb2)
        clear d0 hb2 bc bf
        go_wp2_with fail
        refine (T4.out _).mono ?_
        rintro e w4 ⟨rfl, hb4⟩
        obtain ⟨bc, bf⟩ := bcell hb4
        have v0 : w4.cell? ⟨w1.heap.size, 0, none⟩ = some (.int .i64 0) := (bc _ _ (by omega)).trans o0
        have v1 : w4.cell? ⟨w1.heap.size, 1, none⟩ = some (.int .i64 0) := (bc _ _ (by omega)).trans o1
        have v2 : w4.cell? ⟨w1.heap.size, 2, none⟩ = some (.slice none 0 0) := (bc _ _ (by omega)).trans o2
        have BE4 := hidd (below_step BE2.out hb4)
        clear hb4 bc bf o0 o1 o2 n0 n1 n2
        go_wp2_with fail
        refine (T5.out _).mono ?_
        rintro e w5 ⟨rfl, hb5⟩
        have BE5 := hidd (below_step BE4.out hb5)
        clear hb5 v0 v1 v2 hz2
        go_wp2_with fail
        go_meet
        exact BE5.out
  case rest =>
  as_aux_lemma =>
  obtain ⟨wc5, hwc⟩ : ∃ W, W = wc := ⟨_, rfl⟩
  subst hwc
  have BC5 := hidd hcut
  clear hcut
  refine hK _ _ ?_
  clear hK
  refine Go.wp_seq_k (fun K hK => ?_)
  go_cut [34, 36, 37, 38] (fun s_34 s_36 s_37 s_38 wx => Below wE.heap.size wE wx)
  case first =>
    as_aux_lemma =>
      by_cases hm : mayT s27 = true
      · have T1 := hidd (fun W => tT1 s27 hm W)
        have T2 := hidd (fun W => tT2 s27 hm W)
        have T3 := hidd (fun W => tT3 s27 hm W)
        have T5 := hidd (fun A k W h => tT5 s27 hm A k W h)
        clear hm
        have c0 := KXT.out _ BC5.out
        go_wp2_with fail
        refine (T1.out _).mono ?_
        rintro e w1 ⟨hb1, A1, k1, rfl, hl1⟩
        have BE1 := hidd (below_step BC5.out hb1)
        have hz1 : w.heap.size < w1.heap.size := by have := BE1.out.size; omega
        have HL1 := hidd hl1
        have d0 := KXT.out _ BE1.out
        clear c0 hb1 hl1
        go_wp2_with fail
        refine (T2.out _).mono ?_
        rintro e w2 ⟨rfl, hb2⟩
        obtain ⟨bc, bf⟩ := bcell hb2
        have hz2 : w1.heap.size + 1 < w2.heap.size := by have := hb2.size; simp at this; omega
        have o0 : w2.cell? ⟨w1.heap.size, 0, none⟩ = some (.int .i64 15) := by rw [bc _ _ (by simp; omega)]; simp [go_sem]
        have n0 : w2.cell? ⟨w1.heap.size + 1, 0, none⟩ = some (.int .i64 0) := by rw [bc _ _ (by simp)]; simp [go_sem]
        have m0 : w2.frozen? ⟨w1.heap.size + 1, 0, none⟩ = false := by rw [bf _ _ (by simp)]; simp [go_sem]
        have o1 : w2.cell? ⟨w1.heap.size, 1, none⟩ = some (.int .i64 1) := by rw [bc _ _ (by simp; omega)]; simp [go_sem]
        have n1 : w2.cell? ⟨w1.heap.size + 1, 1, none⟩ = some (.int .i64 0) := by rw [bc _ _ (by simp)]; simp [go_sem]
        have m1 : w2.frozen? ⟨w1.heap.size + 1, 1, none⟩ = false := by rw [bf _ _ (by simp)]; simp [go_sem]
        have o2 : w2.cell? ⟨w1.heap.size, 2, none⟩ = some (.slice A1 1 k1) := by rw [bc _ _ (by simp; omega)]; simp [go_sem]
        have n2 : w2.cell? ⟨w1.heap.size + 1, 2, none⟩ = some (.slice none 0 0) := by rw [bc _ _ (by simp)]; simp [go_sem]
        have m2 : w2.frozen? ⟨w1.heap.size + 1, 2, none⟩ = false := by rw [bf _ _ (by simp)]; simp [go_sem]
        have BB2 := below_step (below_new (below_new (Below.refl w1.heap.size w1) (.cells #[.int .i64 15, .int .i64 1, .slice A1 1 k1] 42)) (.cells #[.int .i64 0, .int .i64 0, .slice none 0 0] 42)) hb2
        have BE2 := hidd (below_step BE1.out BB2)
        have HL2 := hidd (HL1.out.to (w' := w2) (p' := (· < w1.heap.size)) (fun q hq => ⟨hq, BB2.block q hq⟩))
        have f0 := KXT.out _ BE2.out
        clear d0 hb2 bc bf BB2
        go_wp2_with fail
        refine (T3.out _).mono ?_
        rintro e w3 ⟨hb3, A3, k3, rfl, hl3⟩
        obtain ⟨bc, bf⟩ := bcell hb3
        have hz3 := hb3.size
        have o0' : w3.cell? ⟨w1.heap.size, 0, none⟩ = some (.int .i64 15) := (bc _ _ (by omega)).trans o0
        have n0' : w3.cell? ⟨w1.heap.size + 1, 0, none⟩ = some (.int .i64 0) := (bc _ _ hz2).trans n0
        have m0' : w3.frozen? ⟨w1.heap.size + 1, 0, none⟩ = false := (bf _ _ hz2).trans m0
        have o1' : w3.cell? ⟨w1.heap.size, 1, none⟩ = some (.int .i64 1) := (bc _ _ (by omega)).trans o1
        have n1' : w3.cell? ⟨w1.heap.size + 1, 1, none⟩ = some (.int .i64 0) := (bc _ _ hz2).trans n1
        have m1' : w3.frozen? ⟨w1.heap.size + 1, 1, none⟩ = false := (bf _ _ hz2).trans m1
        have o2' : w3.cell? ⟨w1.heap.size, 2, none⟩ = some (.slice A1 1 k1) := (bc _ _ (by omega)).trans o2
        have n2' : w3.cell? ⟨w1.heap.size + 1, 2, none⟩ = some (.slice none 0 0) := (bc _ _ hz2).trans n2
        have m2' : w3.frozen? ⟨w1.heap.size + 1, 2, none⟩ = false := (bf _ _ hz2).trans m2
        obtain ⟨W3, hW3⟩ : ∃ W3, (((w3.setCell ⟨w1.heap.size + 1, 0, none⟩ (.int .i64 15)).setCell ⟨w1.heap.size + 1, 1, none⟩ (.int .i64 1)).setCell ⟨w1.heap.size + 1, 2, none⟩ (.slice A3 1 k3)) = W3 := ⟨_, rfl⟩
        have hs3 : W3.heap.size = w3.heap.size := by rw [← hW3]; simp
        have BE3 := hidd (show Below wE.heap.size wE W3 by rw [← hW3]; have q := below_step BE2.out hb3; have z1 := BE1.out.size; (repeat' (first | (with_reducible exact Below.refl _ _) | (with_reducible assumption) | (with_reducible apply Below.setCell) | (with_reducible apply Below.alloc) | (with_reducible apply Below.drew) | (with_reducible apply below_drewN) | (with_reducible refine Below.trans ?_ (Below.mono (by assumption) ?_)) | omega | (simp; done) | (simp; omega))))
        have HL3 := hidd (show LieQ wdV 1 W3 (· < w1.heap.size) A1 [s27] by rw [← hW3]; exact lieq_set3 (HL2.out.to (w' := w3) (p' := (· < w1.heap.size)) (fun q hq => ⟨hq, hb3.block q (by omega)⟩)) _ (fun q hq => by omega) _ _ _)
        have HM3 := hidd (show LieQ wdV 1 W3 (fun q => w2.heap.size ≤ q ∧ q < w3.heap.size) A3 [s27] by rw [← hW3]; exact lieq_set3 hl3 _ (fun q hq => by omega) _ _ _)
        have r0 : W3.cell? ⟨w1.heap.size, 0, none⟩ = some (.int .i64 15) := by rw [← hW3]; simp [go_sem, o0']
        have r1 : W3.cell? ⟨w1.heap.size, 1, none⟩ = some (.int .i64 1) := by rw [← hW3]; simp [go_sem, o1']
        have r2 : W3.cell? ⟨w1.heap.size, 2, none⟩ = some (.slice A1 1 k1) := by rw [← hW3]; simp [go_sem, o2']
        have HW3 := hidd hW3
        clear f0 hW3 hb3 hl3 bc bf o0 o1 o2 n0 n1 n2 m0 m1 m2
        go_wp2_with fail
        rw [HW3.out]
        refine (refSelf 15 1 A1 A3 [s27] 1 k1 k3 rfl (by omega) W3 (HL3.out.to (w' := W3) (p' := (· < W3.heap.size)) (fun q hq => ⟨by have : q < w1.heap.size := hq; omega, rfl⟩)) (HM3.out.to (w' := W3) (p' := (· < W3.heap.size)) (fun q hq => ⟨by omega, rfl⟩))).mono ?_
        rintro e w4 ⟨rfl, hb4⟩
        obtain ⟨bc, bf⟩ := bcell hb4
        have v0 : w4.cell? ⟨w1.heap.size, 0, none⟩ = some (.int .i64 15) := (bc _ _ (by omega)).trans r0
        have v1 : w4.cell? ⟨w1.heap.size, 1, none⟩ = some (.int .i64 1) := (bc _ _ (by omega)).trans r1
        have v2 : w4.cell? ⟨w1.heap.size, 2, none⟩ = some (.slice A1 1 k1) := (bc _ _ (by omega)).trans r2
        have BE4 := hidd (below_step BE3.out hb4)
        have HL4 := hidd (HL3.out.to (w' := w4) (p' := (· < w4.heap.size)) (fun q hq => ⟨by have := hb4.size; have : q < w1.heap.size := hq; omega, hb4.block q (by have : q < w1.heap.size := hq; omega)⟩))
        clear hb4 bc bf r0 r1 r2 o0' o1' o2' n0' n1' n2' m0' m1' m2'
        go_wp2_with fail
        refine (T5.out A1 k1 _ HL4.out).mono ?_
        rintro e w5 ⟨rfl, hb5⟩
        have BE5 := hidd (below_step BE4.out hb5)
        have hz5 : w.heap.size < w5.heap.size := by have := BE5.out.size; omega
        have g0 := KXT.out _ BE5.out
        clear hb5 v0 v1 v2 hz2 hz3 hs3
        go_wp2_with fail
        go_meet
        exact BE5.out
      · have hm' : mayT s27 = false := by cases h : mayT s27; rfl; exact absurd h hm
        have T1 := hidd (fun W => fT1 s27 hm' W)
        have T2 := hidd (fun W => fT2 s27 hm' W)
        have T4 := hidd (fun W => refZero W)
        have T5 := hidd (fun W => fT5 W)
        clear hm hm'
        have c0 := KXT.out _ BC5.out
        go_wp2_with fail
        refine (T1.out _).mono ?_
        rintro e w1 ⟨rfl, hb1⟩
        have BE1 := hidd (below_step BC5.out hb1)
        have hz1 : w.heap.size < w1.heap.size := by have := BE1.out.size; omega
        have d0 := KXT.out _ BE1.out
        clear c0 hb1
        go_wp2_with fail
        refine (T2.out _).mono ?_
        rintro e w2 ⟨rfl, hb2⟩
        obtain ⟨bc, bf⟩ := bcell hb2
        have hz2 : w1.heap.size + 1 < w2.heap.size := by have := hb2.size; simp at this; omega
        have o0 : w2.cell? ⟨w1.heap.size, 0, none⟩ = some (.int .i64 0) := by rw [bc _ _ (by simp; omega)]; simp [go_sem]
        have n0 : w2.cell? ⟨w1.heap.size + 1, 0, none⟩ = some (.int .i64 0) := by rw [bc _ _ (by simp)]; simp [go_sem]
        have o1 : w2.cell? ⟨w1.heap.size, 1, none⟩ = some (.int .i64 0) := by rw [bc _ _ (by simp; omega)]; simp [go_sem]
        have n1 : w2.cell? ⟨w1.heap.size + 1, 1, none⟩ = some (.int .i64 0) := by rw [bc _ _ (by simp)]; simp [go_sem]
        have o2 : w2.cell? ⟨w1.heap.size, 2, none⟩ = some (.slice none 0 0) := by rw [bc _ _ (by simp; omega)]; simp [go_sem]
        have n2 : w2.cell? ⟨w1.heap.size + 1, 2, none⟩ = some (.slice none 0 0) := by rw [bc _ _ (by simp)]; simp [go_sem]
        have BE2 := hidd (below_step (below_new (below_new BE1.out (.cells #[.int .i64 0, .int .i64 0, .slice none 0 0] 42)) (.cells #[.int .i64 0, .int .i64 0, .slice none 0 0] 42)) hb2)
        clear d0 hb2 bc bf
        go_wp2_with fail
        refine (T4.out _).mono ?_
        rintro e w4 ⟨rfl, hb4⟩
        obtain ⟨bc, bf⟩ := bcell hb4
        have v0 : w4.cell? ⟨w1.heap.size, 0, none⟩ = some (.int .i64 0) := (bc _ _ (by omega)).trans o0
        have v1 : w4.cell? ⟨w1.heap.size, 1, none⟩ = some (.int .i64 0) := (bc _ _ (by omega)).trans o1
        have v2 : w4.cell? ⟨w1.heap.size, 2, none⟩ = some (.slice none 0 0) := (bc _ _ (by omega)).trans o2
        have BE4 := hidd (below_step BE2.out hb4)
        clear hb4 bc bf o0 o1 o2 n0 n1 n2
        go_wp2_with fail
        refine (T5.out _).mono ?_
        rintro e w5 ⟨rfl, hb5⟩
        have BE5 := hidd (below_step BE4.out hb5)
        clear hb5 v0 v1 v2 hz2
        go_wp2_with fail
        go_meet
        exact BE5.out
  case rest =>
  as_aux_lemma =>
  obtain ⟨wc6, hwc⟩ : ∃ W, W = wc := ⟨_, rfl⟩
  subst hwc
  have BC6 := hidd hcut
  clear hcut
  refine hK _ _ ?_
  clear hK
  go_wp2_with fail
  go_ret
  exact ⟨by first | rfl | simp, below_step HBE.out BC6.out⟩
end Go.Proofs.YtappmacnoopmkaaGreat
