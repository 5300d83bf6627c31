/- Curves: the least lines (the document's side): the walk. -/
import Derived.Test.YtjifbcbbnjpcjaaCwF
import Derived.Test.YtjifbcbbnjpcjaaLexT
namespace Go.Proofs.Ytjifbcbbnjpcjaa
set_option linter.unusedVariables false
open Go.RowKit Go.Proofs.Ytjifbcbbnjpcjaa.RowK

theorem wrap_both2 {x : Int} (h0 : -9223372036854775808 ≤ x) (h1 : x ≤ 9223372036854775807) : IntKind.i64.wrap x = x ∧ wrap64 x = x := by
  have e1 : IntKind.i64.wrap x = x := IntWalk.i64_in _ (by omega)
  refine ⟨e1, ?_⟩
  conv => rhs; rw [← e1]
  simp [IntKind.wrap_i64, wrap64]
theorem may_mem {L M : List (Int × Int)} (hm : MayAll L) (h : ∀ y, y ∈ M → y ∈ L) {i : Nat} (hi : i < M.length) : 0 ≤ SM.av M i ∧ SM.av M i ≤ 1000000000 ∧ 0 ≤ SM.sv M i ∧ SM.sv M i ≤ 1000000000 := by
  have hx := h M[i] (List.getElem_mem hi)
  obtain ⟨k, hk, e⟩ := List.getElem_of_mem hx
  have := mayB_iff (hm k hk)
  rw [← (av_at hi).1, ← (av_at hi).2, ← e, (av_at hk).1, (av_at hk).2]
  exact this
theorem gone_iff {M : List (Int × Int)} {k j m : Nat} (hj : k = j + 1) (hm : m = k + 1) : GoneAt M k ↔ SM.sv M j ≤ SM.sv M k ∨ (m < M.length ∧ SM.sv M m < SM.sv M k ∧ (SM.av M m - SM.av M j) * (SM.sv M j - SM.sv M k) ≤ (SM.av M k - SM.av M j) * (SM.sv M j - SM.sv M m)) := by
  subst hj; subst hm
  unfold GoneAt
  simp only [Nat.add_sub_cancel]
  constructor
  · exact fun h => h.elim (fun h => .inl h.2) (fun h => .inr h.2)
  · exact fun h => h.elim (fun h => .inl ⟨by omega, h⟩) (fun h => .inr ⟨by omega, h⟩)
set_option maxRecDepth 100000 in
set_option maxHeartbeats 4000000 in
theorem least_ref (A : Option Addr) (L : List (Int × Int)) (c : Nat) (hL : L.length ≤ 60) (h0 : 0 < L.length) (hm : MayAll L) (w : World) (hA : Lie sendV 2 w w.heap.size A L) :
    Calls Try.prog 27 #[.slice A L.length c] w fun e w' => ∃ v, e = .returned v ∧ OwnL sendV 2 w' w.heap.size 46 v (CM.low L) ∧ Below w.heap.size w w' := by
  have HA := hidd hA
  have HM := hidd hm
  have cp := hidd (fun A' M c' X Y (h : M.length ≤ 100) (h1 : M.length ≤ c') (h2 : c' ≤ maxLen) (h3 : Ups M) W hW => put_any A' M c' X Y h h1 h2 h3 W hW)
  obtain ⟨i0, hi, hz0, hz1, hz2⟩ := info_parts lineInfo
  unfold PutEnd at cp
  clear hA hm
  go_enter Try.func27, Try.ntmps27
  go_wp2_with fail
  go_loopg [3, 4] (L.length + 1) (fun g s3 s4 wr => ∃ (i : Nat) (M : List (Int × Int)), i ≤ L.length ∧ i + g = L.length + 1 ∧ s4 = .int .i64 (i : Int) ∧ OwnL sendV 2 wr w.heap.size 46 s3 M ∧ SoFar L i M ∧ Below w.heap.size w wr)
  case atStart => exact ⟨0, [], by omega, by omega, by first | rfl | simp, OwnL.nil _ _ _, ⟨List.Pairwise.nil, fun y => by simp, rfl⟩, Below.refl _ _⟩
  case round =>
    obtain ⟨i, M, hi1, hg, rfl, hO, hS, hB⟩ := hrel
    have HG := hidd hg
    have HO := hidd hO
    have HS := hidd hS
    have HB := hidd hB
    clear hg hO hS hB
    by_cases hlt : i < L.length
    · obtain ⟨ad, rfl, hab, y0, y1⟩ := (HA.out.below HB.out).send i hlt
      rw [(av_at hlt).1] at y0
      rw [(av_at hlt).2] at y1
      obtain ⟨A3, c3, rfl, hc0, hc1, hl3⟩ := HO.out.lie sendV_len
      have cput := hidd (fun X Y => cp.out A3 M c3 X Y (by have := HS.out.2.2; omega) hc0 hc1 HS.out.1 _ hl3)
      have hin2 : (i : Int) < (L.length : Int) := by omega
      have hi0 : (0 : Int) ≤ (i : Int) := by omega
      have hj : IntKind.i64.wrap ((i : Int) + 1) = (i : Int) + 1 := IntWalk.i64_in _ (by omega)
      have hsp := fun N (h : PutM M (SM.av L i, SM.sv L i) N) => sofar_put hlt HS.out h
      have HSP := hidd hsp
      clear hsp hl3 cp
      generalize SM.av L i = p at *
      generalize SM.sv L i = q at *
      go_wp2_with fail
      refine (cput.out p q).mono ?_
      rintro e w1 ⟨v1, N, rfl, hO1, hP1, hb1⟩
      have HO1 := hidd (hO1.base HB.out.size : OwnL sendV 2 w1 w.heap.size 46 _ _)
      have HP1 := hidd (HSP.out N hP1)
      have HB1 := hidd (below_step HB.out hb1)
      clear hO1 hP1 hb1
      go_wp2_with fail
      have hg := HG.out
      go_roundg (gk - 1)
      case measure => omega
      case rel => exact ⟨i + 1, N, by omega, by omega, by go_num, HO1.out, HP1.out, HB1.out⟩
    · obtain rfl : i = L.length := by omega
      have HLF := hidd (left_start h0 HS.out)
      clear cp HS HG
      go_wp2_with fail
      go_loopg [3, 5, 6] (L.length + 1) (fun g s3 s5 s6 wr => ∃ (M : List (Int × Int)), M.length + 1 ≤ g + 0 ∧ OwnL sendV 2 wr w.heap.size 46 s3 M ∧ Left L M ∧ Below w.heap.size w wr)
      case atStart => exact ⟨M, by have := HLF.out.2.2.1; omega, HO.out, HLF.out, HB.out⟩
      case round =>
        obtain ⟨M2, hg, hO, hF, hB⟩ := hrel
        have HG := hidd hg
        have HO2 := hidd hO
        have HF := hidd hF
        have HB2 := hidd hB
        clear hg hO hF hB
        obtain ⟨A3, c3, rfl, hc0, hc1, hl3⟩ := HO2.out.lie sendV_len
        have HL3 := hidd hl3
        have hM60 : M2.length ≤ 60 := by have := HF.out.2.2.1; omega
        have hma : ∀ i, i < M2.length → 0 ≤ SM.av M2 i ∧ SM.av M2 i ≤ 1000000000 ∧ 0 ≤ SM.sv M2 i ∧ SM.sv M2 i ≤ 1000000000 := fun i hi => may_mem HM.out HF.out.2.2.2.1 hi
        have HMA := hidd hma
        clear hl3 hma
        obtain ⟨gko, rfl⟩ : ∃ g, g = gk := ⟨gk, rfl⟩
        go_wp2_with fail
        go_loopg [5, 6] (M2.length + 1) (fun g s5 s6 wr => ∃ (k : Nat) (gn : Int), k ≤ M2.length ∧ k + g = M2.length + 1 ∧ s6 = .int .i64 (k : Int) ∧ s5 = .int .i64 gn ∧ GoneSo M2 k gn ∧ Below w.heap.size w wr ∧ OwnL sendV 2 wr w.heap.size 46 (.slice A3 M2.length c3) M2)
        case atStart => exact ⟨0, -1, by omega, by omega, by first | rfl | simp, by first | rfl | simp, .inl ⟨rfl, fun i hi => absurd hi (by omega)⟩, by have := HB2.out; (repeat' (first | (with_reducible exact Below.refl _ _) | (with_reducible assumption) | (with_reducible apply Below.setCell) | (with_reducible apply Below.alloc) | (with_reducible apply Below.drew) | (with_reducible apply below_drewN) | (with_reducible refine Below.trans ?_ (Below.mono (by assumption) ?_)) | omega | (simp; done) | (simp; omega))), by have := HO2.out; first | exact this | exact this.below (by (repeat' (first | (with_reducible exact Below.refl _ _) | (with_reducible assumption) | (with_reducible apply Below.setCell) | (with_reducible apply Below.alloc) | (with_reducible apply Below.drew) | (with_reducible apply below_drewN) | (with_reducible refine Below.trans ?_ (Below.mono (by assumption) ?_)) | omega | (simp; done) | (simp; omega))))⟩
        case round =>
          obtain ⟨k, gn, hk1, hg, rfl, rfl, hGS, hB, hO⟩ := hrel
          have HG3 := hidd hg
          have HGS := hidd hGS
          have HB3 := hidd hB
          have HO3 := hidd hO
          obtain ⟨A4, c4, e4, _, _, hl4⟩ := HO3.out.lie sendV_len
          obtain ⟨rfl, rfl⟩ : A3 = A4 ∧ c3 = c4 := by injection e4 with h1 h2 h3; exact ⟨h1, h3⟩
          have HL4 := hidd hl4
          clear hg hGS hB hO hl4 e4 HL3
          have hk0 : (0 : Int) ≤ (k : Int) := by omega
          by_cases hlt : k < M2.length
          · have hlt2 : (k : Int) < (M2.length : Int) := by omega
            by_cases hkz : k = 0
            · obtain rfl : k = 0 := hkz
              have hlt0 : 0 < M2.length := hlt
              have hj : IntKind.i64.wrap ((0 : Int) + 1) = 1 := by decide
              have HST := hidd (goneSo_no HGS.out (show ¬ GoneAt M2 0 from fun h => by rcases h with h | h; exact absurd h.1 (by omega); exact absurd h.1 (by omega)))
              go_wp2_with fail
              try simp only [List.append_eq, List.cons_append, List.nil_append]
              refine wp_region_quiet_lit (by kernel_rfl) (lexB_tab _ (by kernel_rfl) rfl (by kernel_rfl)) ?_
              repeat (go_big_quiet_step (fail))
              refine wpQuiet_nil ?_
              intro _ hw'
              obtain ⟨nq, hw''⟩ := hw'
              subst hw''
              go_wp2_with fail
              have hg := HG3.out
              have hB := HB3.out
              go_roundg (gk - 1)
              case measure => omega
              case rel => exact ⟨1, gn, by omega, by omega, by first | rfl | go_num, by first | rfl | simp, HST.out, by (repeat' (first | (with_reducible exact Below.refl _ _) | (with_reducible assumption) | (with_reducible apply Below.setCell) | (with_reducible apply Below.alloc) | (with_reducible apply Below.drew) | (with_reducible apply below_drewN) | (with_reducible refine Below.trans ?_ (Below.mono (by assumption) ?_)) | omega | (simp; done) | (simp; omega))), by have := HO3.out; first | exact this | exact this.below (by (repeat' (first | (with_reducible exact Below.refl _ _) | (with_reducible assumption) | (with_reducible apply Below.setCell) | (with_reducible apply Below.alloc) | (with_reducible apply Below.drew) | (with_reducible apply below_drewN) | (with_reducible refine Below.trans ?_ (Below.mono (by assumption) ?_)) | omega | (simp; done) | (simp; omega))))⟩
            · obtain ⟨j, hjk⟩ : ∃ j : Nat, k = j + 1 := ⟨k - 1, by omega⟩
              obtain ⟨m, hmk⟩ : ∃ m : Nat, m = k + 1 := ⟨_, rfl⟩
              have hk1 : 0 < k := by omega
              have hk1i : (0 : Int) < (k : Int) := by omega
              have hj0 : (0 : Int) ≤ (j : Int) := by omega
              have hm0 : (0 : Int) ≤ (m : Int) := by omega
              have hjl : (j : Int) < (M2.length : Int) := by omega
              have ej : IntKind.i64.wrap ((k : Int) - 1) = (j : Int) := by rw [IntWalk.i64_in _ (by omega)]; omega
              have em : IntKind.i64.wrap ((k : Int) + 1) = (m : Int) := by rw [IntWalk.i64_in _ (by omega)]; omega
              obtain ⟨ad, rfl, hab, x0, x1⟩ := HL4.out.send k hlt
              obtain ⟨ad', e', hab', y0, y1⟩ := HL4.out.send j (by omega)
              obtain rfl : ad = ad' := by injection e'
              rw [(av_at hlt).1] at x0
              rw [(av_at hlt).2] at x1
              rw [(av_at (show j < M2.length by omega)).1] at y0
              rw [(av_at (show j < M2.length by omega)).2] at y1
              obtain ⟨b00, b01, b02, b03⟩ := HMA.out k hlt
              obtain ⟨a00, a01, a02, a03⟩ := HMA.out j (by omega)
              have hgd := gone_iff (M := M2) hjk hmk
              have HGD := hidd hgd
              have HGK := hidd (show GoneAt M2 k → GoneSo M2 m (k : Int) from fun h => hmk ▸ goneSo_yes h)
              have HGN := hidd (show ¬ GoneAt M2 k → GoneSo M2 m gn from fun h => hmk ▸ goneSo_no HGS.out h)
              have HMK := hidd hmk
              clear e' hgd HGS hmk hjk
              obtain ⟨ba, hba⟩ : ∃ x, SM.av M2 k = x := ⟨_, rfl⟩
              obtain ⟨br, hbr⟩ : ∃ x, SM.sv M2 k = x := ⟨_, rfl⟩
              obtain ⟨aa, haa⟩ : ∃ x, SM.av M2 j = x := ⟨_, rfl⟩
              obtain ⟨ar, har⟩ : ∃ x, SM.sv M2 j = x := ⟨_, rfl⟩
              rw [hba] at x0 b00 b01
              rw [hbr] at x1 b02 b03
              rw [haa] at y0 a00 a01
              rw [har] at y1 a02 a03
              rw [hba, hbr, haa, har] at HGD
              clear hba hbr haa har
              by_cases h1 : ar ≤ br
              · have HST := hidd (HGK.out (HGD.out.2 (.inl h1)))
                have hm2 : m ≤ M2.length := by have := HMK.out; omega
                have HM2 := hidd hm2
                clear hm2
                go_wp2_with fail
                try simp only [List.append_eq, List.cons_append, List.nil_append]
                refine wp_region_quiet_lit (by kernel_rfl) (lexB_tab _ (by kernel_rfl) rfl (by kernel_rfl)) ?_
                repeat (go_big_quiet_step (fail))
                refine wpQuiet_nil ?_
                intro _ hw'
                obtain ⟨nq, hw''⟩ := hw'
                subst hw''
                go_wp2_with fail
                have hg := HG3.out
                have hB := HB3.out
                go_roundg (gk - 1)
                case measure => omega
                case rel => exact ⟨m, (k : Int), HM2.out, by have := HMK.out; omega, by first | rfl | go_num, by first | rfl | simp, HST.out, by (repeat' (first | (with_reducible exact Below.refl _ _) | (with_reducible assumption) | (with_reducible apply Below.setCell) | (with_reducible apply Below.alloc) | (with_reducible apply Below.drew) | (with_reducible apply below_drewN) | (with_reducible refine Below.trans ?_ (Below.mono (by assumption) ?_)) | omega | (simp; done) | (simp; omega))), by have := HO3.out; first | exact this | exact this.below (by (repeat' (first | (with_reducible exact Below.refl _ _) | (with_reducible assumption) | (with_reducible apply Below.setCell) | (with_reducible apply Below.alloc) | (with_reducible apply Below.drew) | (with_reducible apply below_drewN) | (with_reducible refine Below.trans ?_ (Below.mono (by assumption) ?_)) | omega | (simp; done) | (simp; omega))))⟩
              · have h1d : decide (ar ≤ br) = false := decide_eq_false h1
                by_cases h2 : m < M2.length
                · obtain ⟨ad', e', hab', z0, z1⟩ := HL4.out.send m h2
                  obtain rfl : ad = ad' := by injection e'
                  rw [(av_at h2).1] at z0
                  rw [(av_at h2).2] at z1
                  obtain ⟨c00, c01, c02, c03⟩ := HMA.out m h2
                  have h2i : (m : Int) < (M2.length : Int) := by omega
                  clear e'
                  generalize SM.av M2 m = ca at *
                  generalize SM.sv M2 m = cr at *
                  by_cases h3 : cr < br
                  · obtain ⟨d1, hd1⟩ : ∃ x, ca - aa = x := ⟨_, rfl⟩
                    obtain ⟨d2, hd2⟩ : ∃ x, ar - br = x := ⟨_, rfl⟩
                    obtain ⟨d3, hd3⟩ : ∃ x, ba - aa = x := ⟨_, rfl⟩
                    obtain ⟨d4, hd4⟩ : ∃ x, ar - cr = x := ⟨_, rfl⟩
                    have g1 := wrap_both2 (x := ca - aa) (by omega) (by omega)
                    have g2 := wrap_both2 (x := ar - br) (by omega) (by omega)
                    have g3 := wrap_both2 (x := ba - aa) (by omega) (by omega)
                    have g4 := wrap_both2 (x := ar - cr) (by omega) (by omega)
                    have p1 := prod_bd (x := d1) (y := d2) (by omega) (by omega) (by omega) (by omega)
                    have p2 := prod_bd (x := d3) (y := d4) (by omega) (by omega) (by omega) (by omega)
                    have g5 := wrap_both2 (x := d1 * d2) (by omega) (by omega)
                    have g6 := wrap_both2 (x := d3 * d4) (by omega) (by omega)
                    rw [hd1, hd2, hd3, hd4] at HGD
                    obtain ⟨U, hU⟩ : ∃ x, d1 * d2 = x := ⟨_, rfl⟩
                    obtain ⟨V, hV⟩ : ∃ x, d3 * d4 = x := ⟨_, rfl⟩
                    rw [hU, hV] at HGD
                    have q1 := g1.1.trans hd1
                    have q2 := g2.1.trans hd2
                    have q3 := g3.1.trans hd3
                    have q4 := g4.1.trans hd4
                    have q5 := g5.1.trans hU
                    have q6 := g6.1.trans hV
                    have r1 := g1.2.trans hd1
                    have r2 := g2.2.trans hd2
                    have r3 := g3.2.trans hd3
                    have r4 := g4.2.trans hd4
                    have r5 := g5.2.trans hU
                    have r6 := g6.2.trans hV
                    clear g1 g2 g3 g4 g5 g6 hd1 hd2 hd3 hd4 hU hV p1 p2
                    have hm2 : m ≤ M2.length := by omega
                    have HM2 := hidd hm2
                    clear hm2
                    by_cases h4 : U ≤ V
                    · have HST := hidd (HGK.out (HGD.out.2 (.inr ⟨h2, h3, h4⟩)))
                      go_wp2_with fail
                      try simp only [List.append_eq, List.cons_append, List.nil_append]
                      refine wp_region_quiet_lit (by kernel_rfl) (lexB_tab _ (by kernel_rfl) rfl (by kernel_rfl)) ?_
                      repeat (go_big_quiet_step (fail))
                      refine wpQuiet_nil ?_
                      intro _ hw'
                      obtain ⟨nq, hw''⟩ := hw'
                      subst hw''
                      go_wp2_with fail
                      have hg := HG3.out
                      have hB := HB3.out
                      go_roundg (gk - 1)
                      case measure => omega
                      case rel => exact ⟨m, (k : Int), HM2.out, by have := HMK.out; omega, by first | rfl | go_num, by first | rfl | simp, HST.out, by (repeat' (first | (with_reducible exact Below.refl _ _) | (with_reducible assumption) | (with_reducible apply Below.setCell) | (with_reducible apply Below.alloc) | (with_reducible apply Below.drew) | (with_reducible apply below_drewN) | (with_reducible refine Below.trans ?_ (Below.mono (by assumption) ?_)) | omega | (simp; done) | (simp; omega))), by have := HO3.out; first | exact this | exact this.below (by (repeat' (first | (with_reducible exact Below.refl _ _) | (with_reducible assumption) | (with_reducible apply Below.setCell) | (with_reducible apply Below.alloc) | (with_reducible apply Below.drew) | (with_reducible apply below_drewN) | (with_reducible refine Below.trans ?_ (Below.mono (by assumption) ?_)) | omega | (simp; done) | (simp; omega))))⟩
                    · have h4d : decide (U ≤ V) = false := decide_eq_false h4
                      have HST := hidd (HGN.out (fun h => by rcases HGD.out.1 h with h | h; exact h1 h; exact h4 h.2.2))
                      go_wp2_with fail
                      try simp only [List.append_eq, List.cons_append, List.nil_append]
                      refine wp_region_quiet_lit (by kernel_rfl) (lexB_tab _ (by kernel_rfl) rfl (by kernel_rfl)) ?_
                      repeat (go_big_quiet_step (fail))
                      refine wpQuiet_nil ?_
                      intro _ hw'
                      obtain ⟨nq, hw''⟩ := hw'
                      subst hw''
                      go_wp2_with fail
                      have hg := HG3.out
                      have hB := HB3.out
                      go_roundg (gk - 1)
                      case measure => omega
                      case rel => exact ⟨m, gn, HM2.out, by have := HMK.out; omega, by first | rfl | go_num, by first | rfl | simp, HST.out, by (repeat' (first | (with_reducible exact Below.refl _ _) | (with_reducible assumption) | (with_reducible apply Below.setCell) | (with_reducible apply Below.alloc) | (with_reducible apply Below.drew) | (with_reducible apply below_drewN) | (with_reducible refine Below.trans ?_ (Below.mono (by assumption) ?_)) | omega | (simp; done) | (simp; omega))), by have := HO3.out; first | exact this | exact this.below (by (repeat' (first | (with_reducible exact Below.refl _ _) | (with_reducible assumption) | (with_reducible apply Below.setCell) | (with_reducible apply Below.alloc) | (with_reducible apply Below.drew) | (with_reducible apply below_drewN) | (with_reducible refine Below.trans ?_ (Below.mono (by assumption) ?_)) | omega | (simp; done) | (simp; omega))))⟩
                  · have h3d : decide (cr < br) = false := decide_eq_false h3
                    have HST := hidd (HGN.out (fun h => by rcases HGD.out.1 h with h | h; exact h1 h; exact h3 h.2.1))
                    have hm2 : m ≤ M2.length := by omega
                    have HM2 := hidd hm2
                    clear hm2
                    go_wp2_with fail
                    try simp only [List.append_eq, List.cons_append, List.nil_append]
                    refine wp_region_quiet_lit (by kernel_rfl) (lexB_tab _ (by kernel_rfl) rfl (by kernel_rfl)) ?_
                    repeat (go_big_quiet_step (fail))
                    refine wpQuiet_nil ?_
                    intro _ hw'
                    obtain ⟨nq, hw''⟩ := hw'
                    subst hw''
                    go_wp2_with fail
                    have hg := HG3.out
                    have hB := HB3.out
                    go_roundg (gk - 1)
                    case measure => omega
                    case rel => exact ⟨m, gn, HM2.out, by have := HMK.out; omega, by first | rfl | go_num, by first | rfl | simp, HST.out, by (repeat' (first | (with_reducible exact Below.refl _ _) | (with_reducible assumption) | (with_reducible apply Below.setCell) | (with_reducible apply Below.alloc) | (with_reducible apply Below.drew) | (with_reducible apply below_drewN) | (with_reducible refine Below.trans ?_ (Below.mono (by assumption) ?_)) | omega | (simp; done) | (simp; omega))), by have := HO3.out; first | exact this | exact this.below (by (repeat' (first | (with_reducible exact Below.refl _ _) | (with_reducible assumption) | (with_reducible apply Below.setCell) | (with_reducible apply Below.alloc) | (with_reducible apply Below.drew) | (with_reducible apply below_drewN) | (with_reducible refine Below.trans ?_ (Below.mono (by assumption) ?_)) | omega | (simp; done) | (simp; omega))))⟩
                · have HST := hidd (HGN.out (fun h => by rcases HGD.out.1 h with h | h; exact h1 h; exact h2 h.1))
                  have hm2 : m ≤ M2.length := by have := HMK.out; omega
                  have HM2 := hidd hm2
                  have h2i : ¬ (m : Int) < (M2.length : Int) := by omega
                  have h2d : decide (m < M2.length) = false := decide_eq_false h2
                  clear hm2
                  go_wp2_with fail
                  try simp only [List.append_eq, List.cons_append, List.nil_append]
                  refine wp_region_quiet_lit (by kernel_rfl) (lexB_tab _ (by kernel_rfl) rfl (by kernel_rfl)) ?_
                  repeat (go_big_quiet_step (fail))
                  refine wpQuiet_nil ?_
                  intro _ hw'
                  obtain ⟨nq, hw''⟩ := hw'
                  subst hw''
                  go_wp2_with fail
                  have hg := HG3.out
                  have hB := HB3.out
                  go_roundg (gk - 1)
                  case measure => omega
                  case rel => exact ⟨m, gn, HM2.out, by have := HMK.out; omega, by first | rfl | go_num, by first | rfl | simp, HST.out, by (repeat' (first | (with_reducible exact Below.refl _ _) | (with_reducible assumption) | (with_reducible apply Below.setCell) | (with_reducible apply Below.alloc) | (with_reducible apply Below.drew) | (with_reducible apply below_drewN) | (with_reducible refine Below.trans ?_ (Below.mono (by assumption) ?_)) | omega | (simp; done) | (simp; omega))), by have := HO3.out; first | exact this | exact this.below (by (repeat' (first | (with_reducible exact Below.refl _ _) | (with_reducible assumption) | (with_reducible apply Below.setCell) | (with_reducible apply Below.alloc) | (with_reducible apply Below.drew) | (with_reducible apply below_drewN) | (with_reducible refine Below.trans ?_ (Below.mono (by assumption) ?_)) | omega | (simp; done) | (simp; omega))))⟩
          · obtain rfl : k = M2.length := by omega
            rcases HGS.out with ⟨rfl, hall⟩ | ⟨j, rfl, hjl, hgo⟩
            · have HE := hidd (left_end HF.out hall)
              clear hall HGS
              go_wp2_with fail
              go_ret
              exact ⟨_, rfl, HE.out ▸ HO3.out, HB3.out⟩
            · have HLG := hidd (left_gone hjl HF.out hgo)
              have HER := hidd (erase_row hjl)
              obtain ⟨ad, rfl, hab, _, _⟩ := HL4.out.send j hjl
              obtain ⟨m, hm⟩ : ∃ m : Nat, m = j + 1 := ⟨_, rfl⟩
              have em : IntKind.i64.wrap ((j : Int) + 1) = (m : Int) := by rw [IntWalk.i64_in _ (by omega)]; omega
              have hj0 : (0 : Int) ≤ (j : Int) := by omega
              have hjl2 : (j : Int) ≤ (M2.length : Int) := by omega
              have hjl3 : (j : Int) ≤ (c3 : Int) := by omega
              have hm0 : (0 : Int) ≤ (m : Int) := by omega
              have hml : (m : Int) ≤ (M2.length : Int) := by omega
              have hmc : (m : Int) ≤ (c3 : Int) := by omega
              have hlc : (M2.length : Int) ≤ (c3 : Int) := by omega
              have hjneg : ¬ (j : Int) < 0 := by omega
              have hmle : m ≤ M2.length := by omega
              have HMJ := hidd hm
              have hWs := HB3.out.size
              have SRC1 := hidd (fun W' (hb : Below wr.heap.size wr W') => (fun (_ : 0 < j) => (⟨ad, rfl, lie_take (HL4.out.below hb) j⟩ : ∃ a, some ad = some a ∧ ∀ j' u, (rowOf sendV (M2.take j))[j']? = some u → W'.cell? (a.add j') = some u)))
              have SRC2 := hidd (fun W' (hb : Below wr.heap.size wr W') => (fun (_ : 0 < M2.length - m) => (⟨ad.add (m * 2), rfl, lie_drop (HL4.out.below hb) m⟩ : ∃ a, some (ad.add (m * 2)) = some a ∧ ∀ j' u, (rowOf sendV (M2.drop m))[j']? = some u → W'.cell? (a.add j') = some u)))
              have ejk : (M2.take j).length = j := by simp; omega
              have HFIN := hidd (fun wb v2 (hb2 : Below wr.heap.size wr wb) (hown2 : wb.ownsRow wr.heap.size 46 2 v2 (0 + j + (M2.length - m)) ([] ++ rowOf sendV (M2.take j) ++ rowOf sendV (M2.drop m))) => (show OwnL sendV 2 wb w.heap.size 46 v2 (M2.eraseIdx j) from OwnL.base (by
                unfold OwnL
                rw [HER.out.1, HER.out.2, ← HMJ.out]
                exact hown2) hWs))
              have HEJ := hidd ejk
              clear hgo HGS hm ejk
              by_cases hmm : m < M2.length
              · have hcm : ¬ c3 = m := by omega
                go_wp2_with fail
                go_region_held3 (fun _ => True) (trivial)
                  ((first
                    | (refine step_append_some (by rfl) (.const (.slice none 0 0)) (.tmp 127) _ (by rfl) wr.heap.size 46 i0 _ 2 16 Try.underlying24 hi hz0 hz1 hz2 rfl (by omega) (.slice none 0 0) 0 [] (by rfl) (World.ownsRow_nil _ _ _ _) (some ad) j c3 (rowOf sendV (M2.take j)) (by rfl) (by rw [row_len sendV_len, HEJ.out]) (SRC1.out _ (by (repeat' (first | (with_reducible exact Below.refl _ _) | (with_reducible assumption) | (with_reducible apply Below.setCell) | (with_reducible apply Below.alloc) | (with_reducible apply Below.drew) | (with_reducible apply below_drewN) | (with_reducible refine Below.trans ?_ (Below.mono (by assumption) ?_)) | omega | (simp; done) | (simp; omega))))) (rowOf_one sendV_one _) (by simp only [maxLen]; omega) (by omega) (by (first | omega | (simp; done) | (simp; omega))) ?_; intro v1 wa hown1 hgrow1 hat1; have hb1 : Below wr.heap.size wr wa := Below.grown (by (repeat' (first | (with_reducible exact Below.refl _ _) | (with_reducible assumption) | (with_reducible apply Below.setCell) | (with_reducible apply Below.alloc) | (with_reducible apply Below.drew) | (with_reducible apply below_drewN) | (with_reducible refine Below.trans ?_ (Below.mono (by assumption) ?_)) | omega | (simp; done) | (simp; omega)))) hgrow1 (by (first | omega | (simp; done) | (simp; omega))) (by intro k hk; simp [Value.ownBlock] at hk); have hz1' := Below.size hb1)
                    | (refine step_append_some (by rfl) (.tmp 128) (.tmp 132) _ (by rfl) wr.heap.size 46 i0 _ 2 16 Try.underlying24 hi hz0 hz1 hz2 rfl (by omega) v1 (0 + j) ([] ++ rowOf sendV (M2.take j)) (by rfl) hown1 (some (ad.add (m * 2))) (M2.length - m) (c3 - m) (rowOf sendV (M2.drop m)) (by rfl) (by rw [row_len sendV_len, List.length_drop]) (SRC2.out _ hb1) (rowOf_one sendV_one _) (by simp only [maxLen]; omega) (by omega) (by (first | omega | (simp; done) | (simp; omega))) ?_; intro v2 wb hown2 hgrow2 hat2; have hb2 : Below wr.heap.size wr wb := Below.grown hb1 hgrow2 (by (first | omega | (simp; done) | (simp; omega))) (fun k hk => (World.ownsRow.lt hown1 k hk).1); have hz2' := Below.size hb2)))
                all_goals go_wp2_with fail
                all_goals (
                  have hO := HFIN.out _ _ hb2 hown2
                  have hg := HG.out
                  have hel := HER.out.2
                  go_roundg (gko - 1)
                  case measure => omega
                  case rel => exact ⟨M2.eraseIdx j, by omega, hO, HLG.out, below_step HB3.out hb2⟩)
              · obtain rfl : m = M2.length := by omega
                have hd0 : M2.drop M2.length = [] := by simp
                have HD0 := hidd hd0
                clear hd0
                go_wp2_with fail
                go_region_held3 (fun _ => True) (trivial)
                  ((first
                    | (refine step_append_some (by rfl) (.const (.slice none 0 0)) (.tmp 127) _ (by rfl) wr.heap.size 46 i0 _ 2 16 Try.underlying24 hi hz0 hz1 hz2 rfl (by omega) (.slice none 0 0) 0 [] (by rfl) (World.ownsRow_nil _ _ _ _) (some ad) j c3 (rowOf sendV (M2.take j)) (by rfl) (by rw [row_len sendV_len, HEJ.out]) (SRC1.out _ (by (repeat' (first | (with_reducible exact Below.refl _ _) | (with_reducible assumption) | (with_reducible apply Below.setCell) | (with_reducible apply Below.alloc) | (with_reducible apply Below.drew) | (with_reducible apply below_drewN) | (with_reducible refine Below.trans ?_ (Below.mono (by assumption) ?_)) | omega | (simp; done) | (simp; omega))))) (rowOf_one sendV_one _) (by simp only [maxLen]; omega) (by omega) (by (first | omega | (simp; done) | (simp; omega))) ?_; intro v1 wa hown1 hgrow1 hat1; have hb1 : Below wr.heap.size wr wa := Below.grown (by (repeat' (first | (with_reducible exact Below.refl _ _) | (with_reducible assumption) | (with_reducible apply Below.setCell) | (with_reducible apply Below.alloc) | (with_reducible apply Below.drew) | (with_reducible apply below_drewN) | (with_reducible refine Below.trans ?_ (Below.mono (by assumption) ?_)) | omega | (simp; done) | (simp; omega)))) hgrow1 (by (first | omega | (simp; done) | (simp; omega))) (by intro k hk; simp [Value.ownBlock] at hk); have hz1' := Below.size hb1)
                    | (refine step_append_some (by rfl) (.tmp 128) (.tmp 132) _ (by rfl) wr.heap.size 46 i0 _ 2 16 Try.underlying24 hi hz0 hz1 hz2 rfl (by omega) v1 (0 + j) ([] ++ rowOf sendV (M2.take j)) (by rfl) hown1 (if c3 = M2.length then (some ad) else Option.map (fun x => x.add (M2.length * 2)) (some ad)) 0 (c3 - M2.length) [] (by rfl) rfl (fun h => absurd h (by omega)) (by simp) (by simp only [maxLen]; omega) (by omega) (by (first | omega | (simp; done) | (simp; omega))) ?_; intro v2 wb hown2 hgrow2 hat2; have hb2 : Below wr.heap.size wr wb := Below.grown hb1 hgrow2 (by (first | omega | (simp; done) | (simp; omega))) (fun k hk => (World.ownsRow.lt hown1 k hk).1); have hz2' := Below.size hb2)))
                all_goals go_wp2_with fail
                all_goals (
                  have hO := HFIN.out _ _ hb2 (by rw [HD0.out]; simpa [rowOf] using hown2)
                  have hg := HG.out
                  have hel := HER.out.2
                  go_roundg (gko - 1)
                  case measure => omega
                  case rel => exact ⟨M2.eraseIdx j, by omega, hO, HLG.out, below_step HB3.out hb2⟩)
end Go.Proofs.Ytjifbcbbnjpcjaa
