/- curve.together: the lines that a merge of the bends visits. -/
import Derived.Test.YtpgaklfgbioocaaCxB
namespace Go.Proofs.Ytpgaklfgbioocaa
set_option linter.unusedVariables false
open Go.RowKit RowK

def TogAt (w : World) (B : Nat) (L : List (Int × Int)) (i : Nat) (v : Value) : Prop :=
  ∃ (ad : Addr) (n c : Nat), v = .slice (some ad) n c ∧ n + i = L.length ∧ (1 ≤ n ∧ n ≤ c ∧ c ≤ maxLen) ∧ Lie sendV 2 w B (some ad) (L.drop i)
theorem drop_tail2 {w : World} {B : Nat} {ad : Addr} {L : List (Int × Int)} {i : Nat} (h : Lie sendV 2 w B (some ad) (L.drop i)) : Lie sendV 2 w B (some ⟨ad.block, ad.off + 2, none⟩) (L.drop (i + 1)) := by
  have g : Lie sendV 2 w B (some ⟨ad.block, ad.off + 2, none⟩) (L.drop i).tail := fun hl => by
    obtain ⟨ad', e, hB, hc⟩ := h (by cases hx : L.drop i <;> simp_all)
    obtain rfl : ad = ad' := by injection e
    refine ⟨_, rfl, hB, fun k x hx j v hv => ?_⟩
    have e2 : Addr.add ⟨ad.block, ad.off + 2, none⟩ (k * 2 + j) = ad.add ((k + 1) * 2 + j) := by
      have : (⟨ad.block, ad.off + 2, none⟩ : Addr) = ad.add 2 := rfl
      rw [this, add_of_add]; congr 1; omega
    rw [e2]
    exact hc (k + 1) x (by rw [← hx]; cases L.drop i <;> simp) j v hv
  rwa [List.tail_drop] at g
theorem may_at {L : List (Int × Int)} (h : MayAll L) {i : Nat} (hi : i < L.length) : 0 ≤ SM.av L i ∧ SM.av L i ≤ 1000000000 ∧ 0 ≤ SM.sv L i ∧ SM.sv L i ≤ 1000000000 := by
  have := mayB_iff (h i hi)
  exact this
theorem may_drop {L : List (Int × Int)} (h : MayAll L) (i : Nat) : ∀ k, k < (L.drop i).length → 0 ≤ SM.av (L.drop i) k ∧ SM.av (L.drop i) k ≤ 2000000000 ∧ 0 ≤ SM.sv (L.drop i) k ∧ SM.sv (L.drop i) k ≤ 2000000000 := fun k hk => by
  have := may_at h (show i + k < L.length by simp at hk; omega)
  rw [(av_drop L i k).1, (av_drop L i k).2]
  omega
theorem nb_bd {L : List (Int × Int)} (h : MayAll L) (i : Nat) : -2000000000 ≤ (CM.nb L i).1 ∧ (CM.nb L i).1 ≤ 2000000000 ∧ -2000000000 ≤ (CM.nb L i).2 ∧ (CM.nb L i).2 ≤ 2000000000 := by
  unfold CM.nb
  by_cases g : i + 1 < L.length
  · rw [if_pos g]
    have a := may_at h g
    have b := may_at h (show i < L.length by omega)
    unfold CM.bp CM.bq
    simp only [Nat.add_sub_cancel]
    omega
  · rw [if_neg g]
    decide
theorem bstep {B : Nat} {w a b : World} (hw : B ≤ w.heap.size) (t : Below B w a) (h : Below a.heap.size a b) : Below B w b := t.trans (h.mono (Nat.le_trans hw t.size))
set_option maxRecDepth 100000 in
set_option maxHeartbeats 8000000 in
theorem together_any (ad bd : Addr) (L M : List (Int × Int)) (c d : Nat) (hL : RgtC L) (hM : RgtC M) (hc : L.length ≤ c) (hcm : c ≤ maxLen) (hd : M.length ≤ d) (hdm : d ≤ maxLen) (w : World) (hA : Lie sendV 2 w w.heap.size (some ad) L) (hB : Lie sendV 2 w w.heap.size (some bd) M) :
    Calls Try.prog 24 #[.slice (some ad) L.length c, .slice (some bd) M.length d] w fun e w' => ∃ v, e = .returned v ∧ OwnL sendV 2 w' w.heap.size 44 v (CM.tog L M) ∧ Below w.heap.size w w' := by
  obtain ⟨i0, hi0, hz0, hz1, hz2⟩ := info_parts lineInfo
  have hl0 : 0 < L.length := hL.1.1
  have hm0 : 0 < M.length := hM.1.1
  have hl32 : L.length ≤ 32 := hL.1.2
  have hm32 : M.length ≤ 32 := hM.1.2
  have HL := hidd hL
  have HM := hidd hM
  have hlies := hidd (And.intro (show Lie sendV 2 w w.heap.size (some ad) (L.drop 0) by simpa using hA) (show Lie sendV 2 w w.heap.size (some bd) (M.drop 0) by simpa using hB))
  obtain ⟨ha9, ⟨x0, x1⟩, _⟩ := hA.two hl0
  obtain ⟨hb9, ⟨y0, y1⟩, _⟩ := hB.two hm0
  have cp := hidd (fun i j (hi : i < L.length) (hj : j < M.length) W => by
    have u := may_at hL.2.1 hi
    have v := may_at hM.2.1 hj
    exact plus_any (SM.av L i) (SM.sv L i) (SM.av M j) (SM.sv M j) u.1 (by omega) u.2.2.1 (by omega) v.1 (by omega) v.2.2.1 (by omega) W)
  have cn := hidd (fun ad n c i (hn : n + i = L.length) (h0 : 0 < n) W (h : Lie sendV 2 W W.heap.size (some ad) (L.drop i)) => nextBend_any ad (L.drop i) n c (by simp; omega) h0 (may_drop hL.2.1 i) W h)
  have cm := hidd (fun ad n c j (hn : n + j = M.length) (h0 : 0 < n) W (h : Lie sendV 2 W W.heap.size (some ad) (M.drop j)) => nextBend_any ad (M.drop j) n c (by simp; omega) h0 (may_drop hM.2.1 j) W h)
  have cg := hidd (fun i j W => against_any (CM.nb L i).1 (CM.nb L i).2 (CM.nb M j).1 (CM.nb M j).2 (nb_bd hL.2.1 i) (nb_bd hM.2.1 j) W)
  have htog := hidd (show [CM.pr L M 0 0] ++ CM.togF L M (L.length + M.length) 0 0 = CM.tog L M from rfl)
  have hlen := hidd (CM.tog_len L M)
  have CP0 := hidd (fun W => cp.out 0 0 hl0 hm0 W)
  have hl1 : (0 : Int) < (L.length : Int) := by omega
  have hm1 : (0 : Int) < (M.length : Int) := by omega
  obtain ⟨pl, hpl⟩ : ∃ k, L.length = k := ⟨_, rfl⟩
  obtain ⟨pm, hpm⟩ : ∃ k, M.length = k := ⟨_, rfl⟩
  clear hL hM hA hB
  have PR := hidd (show CM.pr L M 0 0 = (SM.av L 0 + SM.av M 0, SM.sv L 0 + SM.sv M 0) from rfl)
  generalize SM.av L 0 = a0 at *
  generalize SM.sv L 0 = a1 at *
  generalize SM.av M 0 = b0 at *
  generalize SM.sv M 0 = b1 at *
  have KEEP := hidd (fun W' (hb : Below w.heap.size w W') => (show (W'.cell? ad = some (.int .i64 a0) ∧ W'.cell? ⟨ad.block, ad.off + 1, none⟩ = some (.int .i64 a1)) ∧ W'.cell? bd = some (.int .i64 b0) ∧ W'.cell? ⟨bd.block, bd.off + 1, none⟩ = some (.int .i64 b1) from ⟨⟨(hb.cell (p := ad) ha9).trans x0, (hb.cell (p := ⟨ad.block, ad.off + 1, none⟩) ha9).trans x1⟩, (hb.cell (p := bd) hb9).trans y0, (hb.cell (p := ⟨bd.block, bd.off + 1, none⟩) hb9).trans y1⟩))
  rw [hpl] at hc hl0 hl32 hl1
  rw [hpm] at hd hm0 hm32 hm1
  rw [hpl, hpm]
  have HPL := hidd hpl
  have HPM := hidd hpm
  clear hpl hpm
  go_enter Try.func24, Try.ntmps24
  go_wp2_with fail
  go_region_held3 (fun w' => (w'.cell? ad = some (.int .i64 a0) ∧ w'.cell? ⟨ad.block, ad.off + 1, none⟩ = some (.int .i64 a1)) ∧ w'.cell? bd = some (.int .i64 b0) ∧ w'.cell? ⟨bd.block, bd.off + 1, none⟩ = some (.int .i64 b1))
    ((first | exact KEEP.out _ (below_new cum1 _) | exact KEEP.out _ cum1 | exact ⟨⟨x0, x1⟩, y0, y1⟩ | go_keep))
    ((first
      | (go_at_call 41; refine (CP0.out _).mono ?_; rintro E1 w1 ⟨rfl, l1⟩; have cum1 : Below w.heap.size w w1 := (by first | exact below_step (Below.drew (Below.refl _ _)) l1 | exact below_step (Below.refl _ _) l1))))
  all_goals have HB0 := hidd (below_new cum1 (.cells #[.int .i64 (a0 + b0), .int .i64 (a1 + b1)] 44))
  all_goals have HO0 := hidd (own_one w1 w.heap.size cum1.size 44 (a0 + b0) (a1 + b1))
  all_goals clear l1 cum1 x0 x1 y0 y1
  all_goals have HR0 := hidd (show [(a0 + b0, a1 + b1)] ++ CM.togF L M (L.length + M.length) 0 0 = CM.tog L M from by rw [← PR.out]; exact htog.out)
  all_goals go_wp2_with fail
  all_goals go_loopg [0, 1, 5] (L.length + M.length) (fun g s0 s1 s5 wr => ∃ (i j : Nat) (R : List (Int × Int)), (i < L.length ∧ j < M.length) ∧ L.length + M.length ≤ i + j + g ∧ R ++ CM.togF L M g i j = CM.tog L M ∧ TogAt wr w.heap.size L i s0 ∧ TogAt wr w.heap.size M j s1 ∧ OwnL sendV 2 wr w.heap.size 44 s5 R ∧ Below w.heap.size w wr)
  case atStart =>
    refine ⟨0, 0, [(a0 + b0, a1 + b1)], ⟨by rw [HPL.out]; exact hl0, by rw [HPM.out]; exact hm0⟩, by omega, HR0.out, ⟨ad, pl, c, rfl, by rw [HPL.out]; rfl, ⟨hl0, hc, hcm⟩, ?_⟩, ⟨bd, pm, d, rfl, by rw [HPM.out]; rfl, ⟨hm0, hd, hdm⟩, ?_⟩, HO0.out, HB0.out⟩
    · exact hlies.out.1.keep HB0.out
    · exact hlies.out.2.keep HB0.out
  case round =>
    clear CP0 KEEP HB0 HO0 HR0 PR htog hlies
    obtain ⟨i, j, R, ⟨hi, hj⟩, hg, hR, ⟨xd, n, cx, rfl, hn, ⟨n1, n2, n3⟩, hX⟩, ⟨yd, m, cy, rfl, hm, ⟨m1, m2, m3⟩, hY⟩, hO, hB⟩ := hrel
    have HG := hidd hg
    have HRR := hidd hR
    have HI := hidd hi
    have HJ := hidd hj
    have HX := hidd hX
    have HY := hidd hY
    have HO := hidd hO
    have HB := hidd hB
    have HN := hidd hn
    have HMn := hidd hm
    have hrl : R.length ≤ 65 := by
      have e := congrArg List.length hR
      rw [List.length_append] at e
      have := hlen.out
      rw [HPL.out, HPM.out] at this
      omega
    by_cases hc2 : i + 1 < L.length ∨ j + 1 < M.length
    · have hstep : CM.togF L M gk i j = CM.pr L M (CM.ni L M i j) (CM.nj L M i j) :: CM.togF L M (gk - 1) (CM.ni L M i j) (CM.nj L M i j) := by
        obtain ⟨g', rfl⟩ : ∃ g', gk = g' + 1 := ⟨gk - 1, by rw [HPL.out, HPM.out] at hg; have := HPL.out ▸ hi; have := HPM.out ▸ hj; omega⟩
        rw [Nat.add_sub_cancel]
        conv => lhs; unfold CM.togF
        rw [if_pos hc2]
      have HST := hidd hstep
      have hnx := CM.tog_next HL.out.2.2.2 HM.out.2.2.2 hi hj hc2
      have CN := hidd (fun W h => cn.out xd n cx i hn (by omega) W h)
      have CMm := hidd (fun W h => cm.out yd m cy j hm (by omega) W h)
      rw [nb_drop] at CN CMm
      have CG := hidd (fun W => cg.out i j W)
      have hW : ∃ V, cmpV ((CM.nb L i).1 * (CM.nb M j).2) ((CM.nb M j).1 * (CM.nb L i).2) = V ∧ CM.wh L M i j = V := ⟨_, rfl, rfl⟩
      obtain ⟨V, hV, hV2⟩ := hW
      rw [hV] at CG
      have hVi : CM.ni L M i j = if V ≤ 0 then i + 1 else i := by unfold CM.ni; rw [hV2]
      have hVj : CM.nj L M i j = if 0 ≤ V then j + 1 else j := by unfold CM.nj; rw [hV2]
      have hcas : (V ≤ 0 ∧ ¬ 0 ≤ V ∧ i + 1 < L.length ∧ CM.ni L M i j = i + 1 ∧ CM.nj L M i j = j) ∨ (¬ V ≤ 0 ∧ 0 ≤ V ∧ j + 1 < M.length ∧ CM.ni L M i j = i ∧ CM.nj L M i j = j + 1) ∨ (V ≤ 0 ∧ 0 ≤ V ∧ (i + 1 < L.length ∧ j + 1 < M.length) ∧ CM.ni L M i j = i + 1 ∧ CM.nj L M i j = j + 1) := by
        rcases hnx with ⟨a, b, e, _⟩ | ⟨a, b, e, _⟩ | ⟨a, b, e, f, _⟩
        · left
          rw [hVi] at a
          rw [hVj] at b
          have k1 : V ≤ 0 := by
            by_cases h : V ≤ 0
            · exact h
            · rw [if_neg h] at a; omega
          have k2 : ¬ 0 ≤ V := fun h => by rw [if_pos h] at b; omega
          exact ⟨k1, k2, e, by rw [hVi, a], by rw [hVj, b]⟩
        · right; left
          rw [hVi] at a
          rw [hVj] at b
          have k1 : ¬ V ≤ 0 := fun h => by rw [if_pos h] at a; omega
          have k2 : 0 ≤ V := by
            by_cases h : 0 ≤ V
            · exact h
            · rw [if_neg h] at b; omega
          exact ⟨k1, k2, e, by rw [hVi, a], by rw [hVj, b]⟩
        · right; right
          rw [hVi] at a
          rw [hVj] at b
          have k1 : V ≤ 0 := by
            by_cases h : V ≤ 0
            · exact h
            · rw [if_neg h] at a; omega
          have k2 : 0 ≤ V := by
            by_cases h : 0 ≤ V
            · exact h
            · rw [if_neg h] at b; omega
          exact ⟨k1, k2, ⟨e, f⟩, by rw [hVi, a], by rw [hVj, b]⟩
      have e1 : (i + 1 < L.length ↔ 1 < n) := by omega
      have e2 : (j + 1 < M.length ↔ 1 < m) := by omega
      obtain ⟨nb1, hnb1⟩ : ∃ x, (CM.nb L i).1 = x := ⟨_, rfl⟩
      obtain ⟨nb2, hnb2⟩ : ∃ x, (CM.nb L i).2 = x := ⟨_, rfl⟩
      obtain ⟨mb1, hmb1⟩ : ∃ x, (CM.nb M j).1 = x := ⟨_, rfl⟩
      obtain ⟨mb2, hmb2⟩ : ∃ x, (CM.nb M j).2 = x := ⟨_, rfl⟩
      rw [hnb1, hnb2] at CN CG
      rw [hmb1, hmb2] at CMm CG
      clear hnb1 hnb2 hmb1 hmb2 hV hV2 hVi hVj hnx hstep hg hR hX hY hO hB hi hj hn hm
      rcases hcas with ⟨hv1, hv2, hn2, hki, hkj⟩ | ⟨hv1, hv2, hm2, hki, hkj⟩ | ⟨hv1, hv2, ⟨hn2, hm2⟩, hki, hkj⟩
      · have hn2 := e1.1 hn2
        have hn3 : (1 : Int) < (n : Int) := by omega
        have hcx : ¬ cx = 1 := by omega
        clear e1 e2 hc2
        have hxn : Lie sendV 2 wr w.heap.size (some ⟨xd.block, xd.off + 2, none⟩) (L.drop (i + 1)) := drop_tail2 HX.out
        have hyn : Lie sendV 2 wr w.heap.size (some yd) (M.drop (j)) := HY.out
        have hi2 : i + 1 < L.length := by have := HI.out; omega
        have hj2 : j < M.length := by have := HJ.out; omega
        obtain ⟨hx9, ⟨x0, x1⟩, _⟩ := hxn.two (by simp; omega)
        obtain ⟨hy9, ⟨y0, y1⟩, _⟩ := hyn.two (by simp; omega)
        rw [(av_drop L (i + 1) 0).1] at x0
        rw [(av_drop L (i + 1) 0).2] at x1
        rw [(av_drop M (j) 0).1] at y0
        rw [(av_drop M (j) 0).2] at y1
        rw [Nat.add_zero] at x0 x1 y0 y1
        have CPP := hidd (fun W => cp.out (i + 1) (j) hi2 hj2 W)
        have HPR := hidd (show CM.pr L M (i + 1) (j) = (SM.av L (i + 1) + SM.av M (j), SM.sv L (i + 1) + SM.sv M (j)) from rfl)
        have HXN := hidd hxn
        have HYN := hidd hyn
        generalize SM.av L (i + 1) = a0 at *
        generalize SM.sv L (i + 1) = a1 at *
        generalize SM.av M (j) = b0 at *
        generalize SM.sv M (j) = b1 at *
        have HI2 := hidd hi2
        have HJ2 := hidd hj2
        have KEEP := hidd (fun W' (hb : Below w.heap.size wr W') => (show (W'.cell? ⟨xd.block, xd.off + 2, none⟩ = some (.int .i64 a0) ∧ W'.cell? ⟨xd.block, xd.off + 2 + 1, none⟩ = some (.int .i64 a1)) ∧ W'.cell? yd = some (.int .i64 b0) ∧ W'.cell? ⟨yd.block, yd.off + 1, none⟩ = some (.int .i64 b1) from ⟨⟨(hb.cell (p := ⟨xd.block, xd.off + 2, none⟩) hx9).trans x0, (hb.cell (p := ⟨xd.block, xd.off + 2 + 1, none⟩) hx9).trans x1⟩, (hb.cell (p := yd) hy9).trans y0, (hb.cell (p := ⟨yd.block, yd.off + 1, none⟩) hy9).trans y1⟩))
        have HN2 := hidd hn2
        have hwsz := HB.out.size
        have HKI := hidd hki
        have HKJ := hidd hkj
        clear hxn hyn hi2 hj2 hki hkj
        have p1n : (0 : Int) < (((n - 1) : Nat) : Int) := by omega
        have p2n : 0 < (n - 1) := by omega
        have p1m : (0 : Int) < ((m : Nat) : Int) := by omega
        have p2m : 0 < m := by omega
        go_wp2_with fail
        refine (CN.out _ ((HX.out.more HB.out.size))).mono ?_
        rintro E1 w1 ⟨rfl, l1⟩
        have C1 := hidd (bstep hwsz (Below.refl w.heap.size wr) l1)
        have O1 := hidd (HO.out.below l1)
        clear l1
        go_wp2_with fail
        refine (CMm.out _ ((HY.out.keep C1.out).more (Nat.le_trans hwsz C1.out.size))).mono ?_
        rintro E2 w2 ⟨rfl, l2⟩
        have C2 := hidd (bstep hwsz C1.out l2)
        have O2 := hidd (O1.out.below l2)
        clear l2
        go_wp2_with fail
        refine (CG.out _).mono ?_
        rintro E3 w3 ⟨rfl, l3⟩
        have C3 := hidd (bstep hwsz C2.out l3)
        have O3 := hidd (O2.out.below l3)
        clear l3 x0 x1 y0 y1
        obtain ⟨⟨x0, x1⟩, y0, y1⟩ := KEEP.out _ C3.out
        have hw3 : w.heap.size ≤ w3.heap.size := Nat.le_trans hwsz C3.out.size
        go_wp2_with fail
        go_region_held3 (fun w' => (w'.cell? ⟨xd.block, xd.off + 2, none⟩ = some (.int .i64 a0) ∧ w'.cell? ⟨xd.block, xd.off + 2 + 1, none⟩ = some (.int .i64 a1)) ∧ w'.cell? yd = some (.int .i64 b0) ∧ w'.cell? ⟨yd.block, yd.off + 1, none⟩ = some (.int .i64 b1))
          ((first | exact KEEP.out _ cum2 | exact KEEP.out _ (Below.alloc cum1 (Nat.le_trans hwsz cum1.size) _) | exact KEEP.out _ cum1 | exact ⟨⟨x0, x1⟩, y0, y1⟩ | go_keep))
          ((first
            | (go_at_call 41; refine (CPP.out _).mono ?_; rintro E4 w4 ⟨rfl, l4⟩; have cum1 : Below w.heap.size wr w4 := (by first | exact bstep hwsz (Below.drew C3.out) l4 | exact bstep hwsz C3.out l4); have O4 : OwnL sendV 2 w4 w.heap.size 44 _ R := (by first | exact OwnL.below (OwnL.drew O3.out) l4 | exact OwnL.below O3.out l4); have hw4 : w.heap.size ≤ w4.heap.size := Nat.le_trans hwsz (Below.size cum1))
            | (refine step_append_some (by rfl) (.tmp 36) (.tmp 44) _ (by rfl) w.heap.size 44 i0 _ 2 16 Try.underlying25 hi0 hz0 hz1 hz2 rfl (by omega) _ R.length (rowOf sendV R) (by rfl) (World.ownsRow.alloc O4 _) (some ⟨w4.heap.size, 0, none⟩) 1 1 [.int .i64 (a0 + b0), .int .i64 (a1 + b1)] (by rfl) (by rfl) (fun _ => ⟨_, rfl, World.news_of_block (cs := #[.int .i64 (a0 + b0), .int .i64 (a1 + b1)]) (t := 44) (fr := (0, 0)) (heap_alloc_new w4 _)⟩) (by simp [Value.oneCell']) (by simp only [maxLen]; omega) (by omega) (by (first | omega | (simp; done) | (simp; omega))) ?_; intro v1 wa hown1 hgrow1 hat1; have cum2 : Below w.heap.size wr wa := Below.grown (Below.alloc cum1 hw4 _) hgrow1 (by (first | omega | (simp; done) | (simp; omega))) (fun k hk => (OwnL.lt O4 k hk).1))))
        all_goals have O5 := hidd (OwnL.snoc (f := sendV) (L := R) (x := (a0 + b0, a1 + b1)) hown1 rfl rfl)
        all_goals have C5 := hidd cum2
        all_goals clear hown1 hgrow1 hat1 cum2 cum1 O4 l4 x0 x1 y0 y1
        all_goals go_wp2_with fail
        all_goals have hg := HG.out
        all_goals have hrr := HRR.out
        all_goals rw [HST.out, HKI.out, HKJ.out, HPR.out, ← List.singleton_append, ← List.append_assoc] at hrr
        all_goals have hn := HN.out
        all_goals have hm := HMn.out
        all_goals have hi9 := HI2.out
        all_goals have hj9 := HJ2.out
        all_goals go_roundg (gk - 1)
        case measure => omega
        case rel => exact ⟨i + 1, j, R ++ [(a0 + b0, a1 + b1)], ⟨hi9, hj9⟩, by omega, hrr, ⟨⟨xd.block, xd.off + 2, none⟩, n - 1, cx - 1, rfl, by omega, ⟨by omega, by omega, by omega⟩, HXN.out.keep C5.out⟩, ⟨yd, m, cy, rfl, by omega, ⟨by omega, by omega, by omega⟩, HYN.out.keep C5.out⟩, O5.out, HB.out.trans C5.out⟩
      · by_cases hn2 : 1 < n
        · have hm2 := e2.1 hm2
          have hm3 : (1 : Int) < (m : Int) := by omega
          have hcy : ¬ cy = 1 := by omega
          have hn3 : (1 : Int) < (n : Int) := by omega
          clear e1 e2 hc2
          have hxn : Lie sendV 2 wr w.heap.size (some xd) (L.drop (i)) := HX.out
          have hyn : Lie sendV 2 wr w.heap.size (some ⟨yd.block, yd.off + 2, none⟩) (M.drop (j + 1)) := drop_tail2 HY.out
          have hi2 : i < L.length := by have := HI.out; omega
          have hj2 : j + 1 < M.length := by have := HJ.out; omega
          obtain ⟨hx9, ⟨x0, x1⟩, _⟩ := hxn.two (by simp; omega)
          obtain ⟨hy9, ⟨y0, y1⟩, _⟩ := hyn.two (by simp; omega)
          rw [(av_drop L (i) 0).1] at x0
          rw [(av_drop L (i) 0).2] at x1
          rw [(av_drop M (j + 1) 0).1] at y0
          rw [(av_drop M (j + 1) 0).2] at y1
          rw [Nat.add_zero] at x0 x1 y0 y1
          have CPP := hidd (fun W => cp.out (i) (j + 1) hi2 hj2 W)
          have HPR := hidd (show CM.pr L M (i) (j + 1) = (SM.av L (i) + SM.av M (j + 1), SM.sv L (i) + SM.sv M (j + 1)) from rfl)
          have HXN := hidd hxn
          have HYN := hidd hyn
          generalize SM.av L (i) = a0 at *
          generalize SM.sv L (i) = a1 at *
          generalize SM.av M (j + 1) = b0 at *
          generalize SM.sv M (j + 1) = b1 at *
          have HI2 := hidd hi2
          have HJ2 := hidd hj2
          have KEEP := hidd (fun W' (hb : Below w.heap.size wr W') => (show (W'.cell? xd = some (.int .i64 a0) ∧ W'.cell? ⟨xd.block, xd.off + 1, none⟩ = some (.int .i64 a1)) ∧ W'.cell? ⟨yd.block, yd.off + 2, none⟩ = some (.int .i64 b0) ∧ W'.cell? ⟨yd.block, yd.off + 2 + 1, none⟩ = some (.int .i64 b1) from ⟨⟨(hb.cell (p := xd) hx9).trans x0, (hb.cell (p := ⟨xd.block, xd.off + 1, none⟩) hx9).trans x1⟩, (hb.cell (p := ⟨yd.block, yd.off + 2, none⟩) hy9).trans y0, (hb.cell (p := ⟨yd.block, yd.off + 2 + 1, none⟩) hy9).trans y1⟩))
          have HN2 := hidd hn2
          have HM2 := hidd hm2
          have hwsz := HB.out.size
          have HKI := hidd hki
          have HKJ := hidd hkj
          clear hxn hyn hi2 hj2 hki hkj
          have p1n : (0 : Int) < ((n : Nat) : Int) := by omega
          have p2n : 0 < n := by omega
          have p1m : (0 : Int) < (((m - 1) : Nat) : Int) := by omega
          have p2m : 0 < (m - 1) := by omega
          go_wp2_with fail
          refine (CN.out _ ((HX.out.more HB.out.size))).mono ?_
          rintro E1 w1 ⟨rfl, l1⟩
          have C1 := hidd (bstep hwsz (Below.refl w.heap.size wr) l1)
          have O1 := hidd (HO.out.below l1)
          clear l1
          go_wp2_with fail
          refine (CMm.out _ ((HY.out.keep C1.out).more (Nat.le_trans hwsz C1.out.size))).mono ?_
          rintro E2 w2 ⟨rfl, l2⟩
          have C2 := hidd (bstep hwsz C1.out l2)
          have O2 := hidd (O1.out.below l2)
          clear l2
          go_wp2_with fail
          refine (CG.out _).mono ?_
          rintro E3 w3 ⟨rfl, l3⟩
          have C3 := hidd (bstep hwsz C2.out l3)
          have O3 := hidd (O2.out.below l3)
          clear l3 x0 x1 y0 y1
          obtain ⟨⟨x0, x1⟩, y0, y1⟩ := KEEP.out _ C3.out
          have hw3 : w.heap.size ≤ w3.heap.size := Nat.le_trans hwsz C3.out.size
          go_wp2_with fail
          go_region_held3 (fun w' => (w'.cell? xd = some (.int .i64 a0) ∧ w'.cell? ⟨xd.block, xd.off + 1, none⟩ = some (.int .i64 a1)) ∧ w'.cell? ⟨yd.block, yd.off + 2, none⟩ = some (.int .i64 b0) ∧ w'.cell? ⟨yd.block, yd.off + 2 + 1, none⟩ = some (.int .i64 b1))
            ((first | exact KEEP.out _ cum2 | exact KEEP.out _ (Below.alloc cum1 (Nat.le_trans hwsz cum1.size) _) | exact KEEP.out _ cum1 | exact ⟨⟨x0, x1⟩, y0, y1⟩ | go_keep))
            ((first
              | (go_at_call 41; refine (CPP.out _).mono ?_; rintro E4 w4 ⟨rfl, l4⟩; have cum1 : Below w.heap.size wr w4 := (by first | exact bstep hwsz (Below.drew C3.out) l4 | exact bstep hwsz C3.out l4); have O4 : OwnL sendV 2 w4 w.heap.size 44 _ R := (by first | exact OwnL.below (OwnL.drew O3.out) l4 | exact OwnL.below O3.out l4); have hw4 : w.heap.size ≤ w4.heap.size := Nat.le_trans hwsz (Below.size cum1))
              | (refine step_append_some (by rfl) (.tmp 36) (.tmp 44) _ (by rfl) w.heap.size 44 i0 _ 2 16 Try.underlying25 hi0 hz0 hz1 hz2 rfl (by omega) _ R.length (rowOf sendV R) (by rfl) (World.ownsRow.alloc O4 _) (some ⟨w4.heap.size, 0, none⟩) 1 1 [.int .i64 (a0 + b0), .int .i64 (a1 + b1)] (by rfl) (by rfl) (fun _ => ⟨_, rfl, World.news_of_block (cs := #[.int .i64 (a0 + b0), .int .i64 (a1 + b1)]) (t := 44) (fr := (0, 0)) (heap_alloc_new w4 _)⟩) (by simp [Value.oneCell']) (by simp only [maxLen]; omega) (by omega) (by (first | omega | (simp; done) | (simp; omega))) ?_; intro v1 wa hown1 hgrow1 hat1; have cum2 : Below w.heap.size wr wa := Below.grown (Below.alloc cum1 hw4 _) hgrow1 (by (first | omega | (simp; done) | (simp; omega))) (fun k hk => (OwnL.lt O4 k hk).1))))
          all_goals have O5 := hidd (OwnL.snoc (f := sendV) (L := R) (x := (a0 + b0, a1 + b1)) hown1 rfl rfl)
          all_goals have C5 := hidd cum2
          all_goals clear hown1 hgrow1 hat1 cum2 cum1 O4 l4 x0 x1 y0 y1
          all_goals go_wp2_with fail
          all_goals have hg := HG.out
          all_goals have hrr := HRR.out
          all_goals rw [HST.out, HKI.out, HKJ.out, HPR.out, ← List.singleton_append, ← List.append_assoc] at hrr
          all_goals have hn := HN.out
          all_goals have hm := HMn.out
          all_goals have hi9 := HI2.out
          all_goals have hj9 := HJ2.out
          all_goals go_roundg (gk - 1)
          case measure => omega
          case rel => exact ⟨i, j + 1, R ++ [(a0 + b0, a1 + b1)], ⟨hi9, hj9⟩, by omega, hrr, ⟨xd, n, cx, rfl, by omega, ⟨by omega, by omega, by omega⟩, HXN.out.keep C5.out⟩, ⟨⟨yd.block, yd.off + 2, none⟩, m - 1, cy - 1, rfl, by omega, ⟨by omega, by omega, by omega⟩, HYN.out.keep C5.out⟩, O5.out, HB.out.trans C5.out⟩
        · have hm2 := e2.1 hm2
          have hm3 : (1 : Int) < (m : Int) := by omega
          have hcy : ¬ cy = 1 := by omega
          have hn3 : ¬ (1 : Int) < (n : Int) := by omega
          clear e1 e2 hc2
          have hxn : Lie sendV 2 wr w.heap.size (some xd) (L.drop (i)) := HX.out
          have hyn : Lie sendV 2 wr w.heap.size (some ⟨yd.block, yd.off + 2, none⟩) (M.drop (j + 1)) := drop_tail2 HY.out
          have hi2 : i < L.length := by have := HI.out; omega
          have hj2 : j + 1 < M.length := by have := HJ.out; omega
          obtain ⟨hx9, ⟨x0, x1⟩, _⟩ := hxn.two (by simp; omega)
          obtain ⟨hy9, ⟨y0, y1⟩, _⟩ := hyn.two (by simp; omega)
          rw [(av_drop L (i) 0).1] at x0
          rw [(av_drop L (i) 0).2] at x1
          rw [(av_drop M (j + 1) 0).1] at y0
          rw [(av_drop M (j + 1) 0).2] at y1
          rw [Nat.add_zero] at x0 x1 y0 y1
          have CPP := hidd (fun W => cp.out (i) (j + 1) hi2 hj2 W)
          have HPR := hidd (show CM.pr L M (i) (j + 1) = (SM.av L (i) + SM.av M (j + 1), SM.sv L (i) + SM.sv M (j + 1)) from rfl)
          have HXN := hidd hxn
          have HYN := hidd hyn
          generalize SM.av L (i) = a0 at *
          generalize SM.sv L (i) = a1 at *
          generalize SM.av M (j + 1) = b0 at *
          generalize SM.sv M (j + 1) = b1 at *
          have HI2 := hidd hi2
          have HJ2 := hidd hj2
          have KEEP := hidd (fun W' (hb : Below w.heap.size wr W') => (show (W'.cell? xd = some (.int .i64 a0) ∧ W'.cell? ⟨xd.block, xd.off + 1, none⟩ = some (.int .i64 a1)) ∧ W'.cell? ⟨yd.block, yd.off + 2, none⟩ = some (.int .i64 b0) ∧ W'.cell? ⟨yd.block, yd.off + 2 + 1, none⟩ = some (.int .i64 b1) from ⟨⟨(hb.cell (p := xd) hx9).trans x0, (hb.cell (p := ⟨xd.block, xd.off + 1, none⟩) hx9).trans x1⟩, (hb.cell (p := ⟨yd.block, yd.off + 2, none⟩) hy9).trans y0, (hb.cell (p := ⟨yd.block, yd.off + 2 + 1, none⟩) hy9).trans y1⟩))
          have HN2 := hidd hn2
          have HM2 := hidd hm2
          have hwsz := HB.out.size
          have HKI := hidd hki
          have HKJ := hidd hkj
          clear hxn hyn hi2 hj2 hki hkj
          have p1n : (0 : Int) < ((n : Nat) : Int) := by omega
          have p2n : 0 < n := by omega
          have p1m : (0 : Int) < (((m - 1) : Nat) : Int) := by omega
          have p2m : 0 < (m - 1) := by omega
          go_wp2_with fail
          refine (CN.out _ ((HX.out.more HB.out.size))).mono ?_
          rintro E1 w1 ⟨rfl, l1⟩
          have C1 := hidd (bstep hwsz (Below.refl w.heap.size wr) l1)
          have O1 := hidd (HO.out.below l1)
          clear l1
          go_wp2_with fail
          refine (CMm.out _ ((HY.out.keep C1.out).more (Nat.le_trans hwsz C1.out.size))).mono ?_
          rintro E2 w2 ⟨rfl, l2⟩
          have C2 := hidd (bstep hwsz C1.out l2)
          have O2 := hidd (O1.out.below l2)
          clear l2
          go_wp2_with fail
          refine (CG.out _).mono ?_
          rintro E3 w3 ⟨rfl, l3⟩
          have C3 := hidd (bstep hwsz C2.out l3)
          have O3 := hidd (O2.out.below l3)
          clear l3 x0 x1 y0 y1
          obtain ⟨⟨x0, x1⟩, y0, y1⟩ := KEEP.out _ C3.out
          have hw3 : w.heap.size ≤ w3.heap.size := Nat.le_trans hwsz C3.out.size
          go_wp2_with fail
          go_region_held3 (fun w' => (w'.cell? xd = some (.int .i64 a0) ∧ w'.cell? ⟨xd.block, xd.off + 1, none⟩ = some (.int .i64 a1)) ∧ w'.cell? ⟨yd.block, yd.off + 2, none⟩ = some (.int .i64 b0) ∧ w'.cell? ⟨yd.block, yd.off + 2 + 1, none⟩ = some (.int .i64 b1))
            ((first | exact KEEP.out _ cum2 | exact KEEP.out _ (Below.alloc cum1 (Nat.le_trans hwsz cum1.size) _) | exact KEEP.out _ cum1 | exact ⟨⟨x0, x1⟩, y0, y1⟩ | go_keep))
            ((first
              | (go_at_call 41; refine (CPP.out _).mono ?_; rintro E4 w4 ⟨rfl, l4⟩; have cum1 : Below w.heap.size wr w4 := (by first | exact bstep hwsz (Below.drew C3.out) l4 | exact bstep hwsz C3.out l4); have O4 : OwnL sendV 2 w4 w.heap.size 44 _ R := (by first | exact OwnL.below (OwnL.drew O3.out) l4 | exact OwnL.below O3.out l4); have hw4 : w.heap.size ≤ w4.heap.size := Nat.le_trans hwsz (Below.size cum1))
              | (refine step_append_some (by rfl) (.tmp 36) (.tmp 44) _ (by rfl) w.heap.size 44 i0 _ 2 16 Try.underlying25 hi0 hz0 hz1 hz2 rfl (by omega) _ R.length (rowOf sendV R) (by rfl) (World.ownsRow.alloc O4 _) (some ⟨w4.heap.size, 0, none⟩) 1 1 [.int .i64 (a0 + b0), .int .i64 (a1 + b1)] (by rfl) (by rfl) (fun _ => ⟨_, rfl, World.news_of_block (cs := #[.int .i64 (a0 + b0), .int .i64 (a1 + b1)]) (t := 44) (fr := (0, 0)) (heap_alloc_new w4 _)⟩) (by simp [Value.oneCell']) (by simp only [maxLen]; omega) (by omega) (by (first | omega | (simp; done) | (simp; omega))) ?_; intro v1 wa hown1 hgrow1 hat1; have cum2 : Below w.heap.size wr wa := Below.grown (Below.alloc cum1 hw4 _) hgrow1 (by (first | omega | (simp; done) | (simp; omega))) (fun k hk => (OwnL.lt O4 k hk).1))))
          all_goals have O5 := hidd (OwnL.snoc (f := sendV) (L := R) (x := (a0 + b0, a1 + b1)) hown1 rfl rfl)
          all_goals have C5 := hidd cum2
          all_goals clear hown1 hgrow1 hat1 cum2 cum1 O4 l4 x0 x1 y0 y1
          all_goals go_wp2_with fail
          all_goals have hg := HG.out
          all_goals have hrr := HRR.out
          all_goals rw [HST.out, HKI.out, HKJ.out, HPR.out, ← List.singleton_append, ← List.append_assoc] at hrr
          all_goals have hn := HN.out
          all_goals have hm := HMn.out
          all_goals have hi9 := HI2.out
          all_goals have hj9 := HJ2.out
          all_goals go_roundg (gk - 1)
          case measure => omega
          case rel => exact ⟨i, j + 1, R ++ [(a0 + b0, a1 + b1)], ⟨hi9, hj9⟩, by omega, hrr, ⟨xd, n, cx, rfl, by omega, ⟨by omega, by omega, by omega⟩, HXN.out.keep C5.out⟩, ⟨⟨yd.block, yd.off + 2, none⟩, m - 1, cy - 1, rfl, by omega, ⟨by omega, by omega, by omega⟩, HYN.out.keep C5.out⟩, O5.out, HB.out.trans C5.out⟩
      · have hn2 := e1.1 hn2
        have hm2 := e2.1 hm2
        have hn3 : (1 : Int) < (n : Int) := by omega
        have hm3 : (1 : Int) < (m : Int) := by omega
        have hcx : ¬ cx = 1 := by omega
        have hcy : ¬ cy = 1 := by omega
        clear e1 e2 hc2
        have hxn : Lie sendV 2 wr w.heap.size (some ⟨xd.block, xd.off + 2, none⟩) (L.drop (i + 1)) := drop_tail2 HX.out
        have hyn : Lie sendV 2 wr w.heap.size (some ⟨yd.block, yd.off + 2, none⟩) (M.drop (j + 1)) := drop_tail2 HY.out
        have hi2 : i + 1 < L.length := by have := HI.out; omega
        have hj2 : j + 1 < M.length := by have := HJ.out; omega
        obtain ⟨hx9, ⟨x0, x1⟩, _⟩ := hxn.two (by simp; omega)
        obtain ⟨hy9, ⟨y0, y1⟩, _⟩ := hyn.two (by simp; omega)
        rw [(av_drop L (i + 1) 0).1] at x0
        rw [(av_drop L (i + 1) 0).2] at x1
        rw [(av_drop M (j + 1) 0).1] at y0
        rw [(av_drop M (j + 1) 0).2] at y1
        rw [Nat.add_zero] at x0 x1 y0 y1
        have CPP := hidd (fun W => cp.out (i + 1) (j + 1) hi2 hj2 W)
        have HPR := hidd (show CM.pr L M (i + 1) (j + 1) = (SM.av L (i + 1) + SM.av M (j + 1), SM.sv L (i + 1) + SM.sv M (j + 1)) from rfl)
        have HXN := hidd hxn
        have HYN := hidd hyn
        generalize SM.av L (i + 1) = a0 at *
        generalize SM.sv L (i + 1) = a1 at *
        generalize SM.av M (j + 1) = b0 at *
        generalize SM.sv M (j + 1) = b1 at *
        have HI2 := hidd hi2
        have HJ2 := hidd hj2
        have KEEP := hidd (fun W' (hb : Below w.heap.size wr W') => (show (W'.cell? ⟨xd.block, xd.off + 2, none⟩ = some (.int .i64 a0) ∧ W'.cell? ⟨xd.block, xd.off + 2 + 1, none⟩ = some (.int .i64 a1)) ∧ W'.cell? ⟨yd.block, yd.off + 2, none⟩ = some (.int .i64 b0) ∧ W'.cell? ⟨yd.block, yd.off + 2 + 1, none⟩ = some (.int .i64 b1) from ⟨⟨(hb.cell (p := ⟨xd.block, xd.off + 2, none⟩) hx9).trans x0, (hb.cell (p := ⟨xd.block, xd.off + 2 + 1, none⟩) hx9).trans x1⟩, (hb.cell (p := ⟨yd.block, yd.off + 2, none⟩) hy9).trans y0, (hb.cell (p := ⟨yd.block, yd.off + 2 + 1, none⟩) hy9).trans y1⟩))
        have HN2 := hidd hn2
        have HM2 := hidd hm2
        have hwsz := HB.out.size
        have HKI := hidd hki
        have HKJ := hidd hkj
        clear hxn hyn hi2 hj2 hki hkj
        have p1n : (0 : Int) < (((n - 1) : Nat) : Int) := by omega
        have p2n : 0 < (n - 1) := by omega
        have p1m : (0 : Int) < (((m - 1) : Nat) : Int) := by omega
        have p2m : 0 < (m - 1) := by omega
        go_wp2_with fail
        refine (CN.out _ ((HX.out.more HB.out.size))).mono ?_
        rintro E1 w1 ⟨rfl, l1⟩
        have C1 := hidd (bstep hwsz (Below.refl w.heap.size wr) l1)
        have O1 := hidd (HO.out.below l1)
        clear l1
        go_wp2_with fail
        refine (CMm.out _ ((HY.out.keep C1.out).more (Nat.le_trans hwsz C1.out.size))).mono ?_
        rintro E2 w2 ⟨rfl, l2⟩
        have C2 := hidd (bstep hwsz C1.out l2)
        have O2 := hidd (O1.out.below l2)
        clear l2
        go_wp2_with fail
        refine (CG.out _).mono ?_
        rintro E3 w3 ⟨rfl, l3⟩
        have C3 := hidd (bstep hwsz C2.out l3)
        have O3 := hidd (O2.out.below l3)
        clear l3 x0 x1 y0 y1
        obtain ⟨⟨x0, x1⟩, y0, y1⟩ := KEEP.out _ C3.out
        have hw3 : w.heap.size ≤ w3.heap.size := Nat.le_trans hwsz C3.out.size
        go_wp2_with fail
        go_region_held3 (fun w' => (w'.cell? ⟨xd.block, xd.off + 2, none⟩ = some (.int .i64 a0) ∧ w'.cell? ⟨xd.block, xd.off + 2 + 1, none⟩ = some (.int .i64 a1)) ∧ w'.cell? ⟨yd.block, yd.off + 2, none⟩ = some (.int .i64 b0) ∧ w'.cell? ⟨yd.block, yd.off + 2 + 1, none⟩ = some (.int .i64 b1))
          ((first | exact KEEP.out _ cum2 | exact KEEP.out _ (Below.alloc cum1 (Nat.le_trans hwsz cum1.size) _) | exact KEEP.out _ cum1 | exact ⟨⟨x0, x1⟩, y0, y1⟩ | go_keep))
          ((first
            | (go_at_call 41; refine (CPP.out _).mono ?_; rintro E4 w4 ⟨rfl, l4⟩; have cum1 : Below w.heap.size wr w4 := (by first | exact bstep hwsz (Below.drew C3.out) l4 | exact bstep hwsz C3.out l4); have O4 : OwnL sendV 2 w4 w.heap.size 44 _ R := (by first | exact OwnL.below (OwnL.drew O3.out) l4 | exact OwnL.below O3.out l4); have hw4 : w.heap.size ≤ w4.heap.size := Nat.le_trans hwsz (Below.size cum1))
            | (refine step_append_some (by rfl) (.tmp 36) (.tmp 44) _ (by rfl) w.heap.size 44 i0 _ 2 16 Try.underlying25 hi0 hz0 hz1 hz2 rfl (by omega) _ R.length (rowOf sendV R) (by rfl) (World.ownsRow.alloc O4 _) (some ⟨w4.heap.size, 0, none⟩) 1 1 [.int .i64 (a0 + b0), .int .i64 (a1 + b1)] (by rfl) (by rfl) (fun _ => ⟨_, rfl, World.news_of_block (cs := #[.int .i64 (a0 + b0), .int .i64 (a1 + b1)]) (t := 44) (fr := (0, 0)) (heap_alloc_new w4 _)⟩) (by simp [Value.oneCell']) (by simp only [maxLen]; omega) (by omega) (by (first | omega | (simp; done) | (simp; omega))) ?_; intro v1 wa hown1 hgrow1 hat1; have cum2 : Below w.heap.size wr wa := Below.grown (Below.alloc cum1 hw4 _) hgrow1 (by (first | omega | (simp; done) | (simp; omega))) (fun k hk => (OwnL.lt O4 k hk).1))))
        all_goals have O5 := hidd (OwnL.snoc (f := sendV) (L := R) (x := (a0 + b0, a1 + b1)) hown1 rfl rfl)
        all_goals have C5 := hidd cum2
        all_goals clear hown1 hgrow1 hat1 cum2 cum1 O4 l4 x0 x1 y0 y1
        all_goals go_wp2_with fail
        all_goals have hg := HG.out
        all_goals have hrr := HRR.out
        all_goals rw [HST.out, HKI.out, HKJ.out, HPR.out, ← List.singleton_append, ← List.append_assoc] at hrr
        all_goals have hn := HN.out
        all_goals have hm := HMn.out
        all_goals have hi9 := HI2.out
        all_goals have hj9 := HJ2.out
        all_goals go_roundg (gk - 1)
        case measure => omega
        case rel => exact ⟨i + 1, j + 1, R ++ [(a0 + b0, a1 + b1)], ⟨hi9, hj9⟩, by omega, hrr, ⟨⟨xd.block, xd.off + 2, none⟩, n - 1, cx - 1, rfl, by omega, ⟨by omega, by omega, by omega⟩, HXN.out.keep C5.out⟩, ⟨⟨yd.block, yd.off + 2, none⟩, m - 1, cy - 1, rfl, by omega, ⟨by omega, by omega, by omega⟩, HYN.out.keep C5.out⟩, O5.out, HB.out.trans C5.out⟩
    · obtain rfl : n = 1 := by omega
      obtain rfl : m = 1 := by omega
      have hend : CM.togF L M gk i j = [] := by
        cases gk with
        | zero => rfl
        | succ g => unfold CM.togF; rw [if_neg hc2]
      rw [hend, List.append_nil] at hR
      subst hR
      clear hg hX hY hi hj hn hm hend hc2
      go_wp2_with fail
      go_ret
      exact ⟨_, rfl, HO.out, HB.out⟩
end Go.Proofs.Ytpgaklfgbioocaa
