/- Buckets: BucketRests' walk. -/
import Derived.Test.YtilikpacgbkebaaBkP
import Derived.Test.YtilikpacgbkebaaSpF
import Derived.Test.YtilikpacgbkebaaSmD
namespace Go.Proofs.Ytilikpacgbkebaa
open Go.RowKit
set_option linter.unusedVariables false
/-- a spec lies in block b. -/
def HasSpec12 (w : World) (b : Nat) (p r u m l : Int) : Prop :=
  b < w.heap.size ∧ w.cell? ⟨b, 0, none⟩ = some (.int .i64 p) ∧ w.cell? ⟨b, 1, none⟩ = some (.int .i64 r) ∧ w.cell? ⟨b, 2, none⟩ = some (.int .i64 u) ∧ w.cell? ⟨b, 3, none⟩ = some (.int .i64 m) ∧ w.cell? ⟨b, 4, none⟩ = some (.int .i64 l)
theorem HasSpec12.low {w w' : World} {b B : Nat} {p r u m l : Int} (h : HasSpec12 w b p r u m l) (hb : Below B w w') (hB : b < B) : HasSpec12 w' b p r u m l :=
  ⟨Nat.lt_of_lt_of_le h.1 hb.size, (hb.cell (p := ⟨b, 0, none⟩) hB).trans h.2.1, (hb.cell (p := ⟨b, 1, none⟩) hB).trans h.2.2.1, (hb.cell (p := ⟨b, 2, none⟩) hB).trans h.2.2.2.1, (hb.cell (p := ⟨b, 3, none⟩) hB).trans h.2.2.2.2.1, (hb.cell (p := ⟨b, 4, none⟩) hB).trans h.2.2.2.2.2⟩
theorem sendInfoT : (Try.prog.info? 36).map (fun i => (i.zero, i.size, i.bytes)) = some (some (.agg #[.int .i64 0, .int .i64 0]), 2, 16) := by kernel_rfl
theorem OwnL.farT {α : Type} {f : α → List Value} {sz : Nat} {w w' : World} {base : Nat} {e : TypeId} {v : Value} {L : List α} (h : OwnL f sz w base e v L) (hb : ∀ k, base ≤ k → k < w.heap.size → w'.heap[k]? = w.heap[k]?) : OwnL f sz w' base e v L := by
  refine ⟨h.1, ?_⟩
  rcases h.2 with h0 | ⟨g, cap, cur, rfl, hbs, hh, hr⟩
  · exact .inl h0
  · exact .inr ⟨g, cap, cur, rfl, hbs, (hb g hbs (Array.getElem?_eq_some_iff.1 hh).1).trans hh, hr⟩
theorem specBut {w w' : World} {b g : Nat} {p r u m l : Int} (h : HasSpec12 w b p r u m l) (hb : But g w w') (hn : b ≠ g) : HasSpec12 w' b p r u m l :=
  ⟨Nat.lt_of_lt_of_le h.1 hb.size, (hb.cell h.1 hn _).trans h.2.1, (hb.cell h.1 hn _).trans h.2.2.1, (hb.cell h.1 hn _).trans h.2.2.2.1, (hb.cell h.1 hn _).trans h.2.2.2.2.1, (hb.cell h.1 hn _).trans h.2.2.2.2.2⟩
namespace BM
theorem keepsR_of {p r u m l : Int} (h : rightB p r u m l = true) {T : List (Int × Int)} (hk : Keep p r u m l T) : keepsR p r u m l T = (true, 0) := by
  have hb := rightB_iff h
  have := (SM.fb_all (p := p) (r := r) (u := u) (m := m) (l := l) (by omega) (by omega) T).2 hk
  unfold keepsR fb0
  rw [if_pos h, this]
  simp
theorem div_up {u r q : Int} (hr : 1 ≤ r) (hq : u / r + 1 ≤ q) : u < r * q := by
  have h1 := Int.mul_ediv_add_emod u r
  have h2 := Int.emod_lt_of_pos u (show 0 < r by omega)
  have h3 : r * (u / r + 1) ≤ r * q := Int.mul_le_mul_of_nonneg_left hq (by omega)
  rw [Int.mul_add, Int.mul_one] at h3
  omega
theorem full {there most more d : Int} (h0 : 0 ≤ there) (h1 : 1 ≤ more) (hm : 0 ≤ most) (hd : most / more + 1 ≤ d) : later there most more d = most := by
  have := div_up h1 hd
  unfold later bnd
  omega
theorem step_no {p r u m l : Int} {s : St} {a z : Int} : ((step p r u m l s a z).2.1 = true → (step p r u m l s a z).2.2 = 0) ∧ ((step p r u m l s a z).2.2 = 0 ∨ (step p r u m l s a z).2.2 = 2) := by
  unfold step
  split
  · split
    · exact ⟨fun _ => rfl, .inl rfl⟩
    · exact ⟨fun _ => rfl, .inl rfl⟩
  · exact ⟨(fun h => by cases h), .inr rfl⟩
end BM
set_option maxRecDepth 100000 in
set_option maxHeartbeats 8000000 in
theorem rests12_walk (p r u m l : Int) (A : Option Addr) (L : List (Int × Int)) (ca : Nat) (hL : L.length ≤ maxLen) (w : World) (lL : Lie sendV 2 w w.heap.size A L) :
    Calls Try.prog 7 #[.agg #[.int .i64 p, .int .i64 r, .int .i64 u, .int .i64 m, .int .i64 l], .slice A L.length ca] w fun e w' => e = .returned (.bool true) ∧ Below w.heap.size w w' := by
  have cK := hidd (fun W => known12_any W)
  have HL := hidd lL
  unfold maxLen at hL
  clear lL
  cases hR : rightB p r u m l
  · have cN := hidd (fun W => bnew_no p r u m l hR W)
    generalize hNL : L.length = N at *
    clear HL hNL hR
    by_cases h40 : (40 : Int) < (N : Int)
    all_goals
      go_enter Try.func7, Try.ntmps7
      go_wp2_with fail
      refine (cN.out _).mono ?_
      rintro e w1 ⟨rfl, hb1⟩
      go_wp2_with fail
      refine (cK.out _).mono ?_
      rintro e w2 ⟨rfl, hb2⟩
      go_wp2_with fail
      go_ret
      exact ⟨rfl, below_step (below_step (below_new (Below.refl _ _) _) hb1) hb2⟩
  have cN := hidd (fun W => bnew_yes p r u m l hR W)
  by_cases h40 : (40 : Int) < (L.length : Int)
  · generalize hNL : L.length = N at *
    clear HL hNL hR
    go_enter Try.func7, Try.ntmps7
    go_wp2_with fail
    refine (cN.out _).mono ?_
    rintro e w1 ⟨b, rfl, -, -, hb1⟩
    go_wp2_with fail
    refine (cK.out _).mono ?_
    rintro e w2 ⟨rfl, hb2⟩
    go_wp2_with fail
    go_ret
    exact ⟨rfl, below_step (below_step (below_new (Below.refl _ _) _) hb1) hb2⟩
  have hp := rightB_iff hR
  have hp1 : 1 ≤ p := by omega
  have hp2 : p ≤ 1000000 := by omega
  have hr1 : 1 ≤ r := by omega
  have hl1 : 1 ≤ l := by omega
  have hu0 : 0 ≤ u := by omega
  have hu1 : u ≤ 10000000 := by omega
  have hm0 : 0 ≤ m := by omega
  have hm1 : m ≤ 2000 := by omega
  clear hp
  have HR := hidd hR
  have hO := hidd (BM.ok_first hR)
  have hI := hidd (BM.Inv.nil hR)
  have cT := hidd (fun b W s (h : BktAt W b p r u m l s) (hs : BM.Ok u m s) n z => btake_any h hR hs n z)
  have cW := hidd (fun b W s (h : BktAt W b p r u m l s) => bnow_any h hp1)
  have cH := hidd (fun b W s (h : BktAt W b p r u m l s) (hs : BM.Ok u m s) n (hn : BM.askB s n = true) => bhas_yes h hR hs n hn)
  have cE := hidd (fun T (hT : T.length ≤ 1000) (hk : BM.Keep p r u m l T) A c W hl => (by
    have h := keeps_any p r u m l A T c (by omega) W hl
    rw [BM.keepsR_of hR hk] at h
    exact h : Calls Try.prog 23 #[.agg #[.int .i64 p, .int .i64 r, .int .i64 u, .int .i64 m, .int .i64 l], .slice A T.length c] W fun e w' => e = .returned (.tuple #[.bool true, .int .i64 0]) ∧ Below W.heap.size W w'))
  unfold TakeEnd at cT
  clear hR
  obtain ⟨i0, hi0, hz0, hz1, hz2⟩ := info_parts sendInfoT
  go_enter Try.func7, Try.ntmps7
  go_wp2_with fail
  refine (cN.out _).mono ?_
  rintro e w1 ⟨b, rfl, hle, hB, hb1⟩
  have HB := hidd hB
  obtain ⟨bc, bf⟩ := bcell hb1
  have z0 : w.heap.size < w1.heap.size := by have := hb1.size; simp at this; omega
  have HSP := hidd (show HasSpec12 w1 w.heap.size p r u m l from ⟨z0, by rw [bc _ _ (by (first | omega | (simp; done) | (simp; omega)))]; simp [go_sem], by rw [bc _ _ (by (first | omega | (simp; done) | (simp; omega)))]; simp [go_sem], by rw [bc _ _ (by (first | omega | (simp; done) | (simp; omega)))]; simp [go_sem], by rw [bc _ _ (by (first | omega | (simp; done) | (simp; omega)))]; simp [go_sem], by rw [bc _ _ (by (first | omega | (simp; done) | (simp; omega)))]; simp [go_sem]⟩)
  have H1 := hidd (below_step (below_new (Below.refl _ _) _) hb1)
  have hwb : w.heap.size + 1 ≤ b := by simp at hle; omega
  have hbl := hB.lt
  clear bc bf hb1 hB hle
  obtain ⟨B0, hB0⟩ : ∃ B0, w1.heap.size = B0 := ⟨_, rfl⟩
  have HB0 := hidd hB0
  rw [hB0] at hbl z0
  clear hB0
  go_wp2_with fail
  go_loopg [7, 8] (L.length + 1) (fun gk s7 s8 wr => ∃ (i : Nat) (T : List (Int × Int)) (s : BM.St), i ≤ L.length ∧ i + gk = L.length + 1 ∧ s8 = .int .i64 (i : Int) ∧ T.length ≤ i ∧ BktAt wr b p r u m l s ∧ BM.Ok u m s ∧ BM.Inv p r u m l T s ∧ OwnL sendV 2 wr B0 36 s7 T ∧ B0 ≤ wr.heap.size ∧ HasSpec12 wr w.heap.size p r u m l ∧ Below w.heap.size w wr)
  case atStart => exact ⟨0, [], (0, u, m), by omega, by omega, rfl, by simp, HB.out, hO.out, hI.out, OwnL.nil _ _ _, Nat.le_of_eq HB0.out.symm, HSP.out, H1.out⟩
  case round =>
    clear HB HSP H1
    obtain ⟨i, T, s, hi, hk, rfl, hTi, hB, hs, hInv, hOw, hBz, hSp, hW⟩ := hrel
    have HB := hidd hB
    have HS := hidd hs
    have HI := hidd hInv
    have HO := hidd hOw
    have HSP := hidd hSp
    have HW := hidd hW
    have HK := hidd hk
    clear hB hs hInv hOw hSp hW hk
    by_cases hlt : i < L.length
    · obtain ⟨ad, rfl, hadb, y0, y1⟩ := (HL.out.keep HW.out).send i hlt
      have z1 : (i : Int) < (L.length : Int) := by omega
      have hT40 : T.length ≤ 40 := by omega
      generalize L[i].1 = n at *
      generalize L[i].2 = z at *
      generalize hNL : L.length = N at *
      have HNL := hidd hNL
      clear hNL
      have hadw : (ad.add (i * 2)).block < w.heap.size := by
        have e : (ad.add (i * 2)).block = ad.block := block_of_add _ _
        rw [e]
        omega
      go_wp2_with fail
      have ct := hidd (cT.out b wr.drew s HB.out.drew HS.out n z)
      have hok := hidd (BM.step_ok (p := p) (r := r) (l := l) HS.out hl1 n z)
      have hinv := hidd (HI.out.step (by omega) (by omega) (by omega) HS.out n z)
      have hno := hidd (BM.step_no (p := p) (r := r) (u := u) (m := m) (l := l) (s := s) (a := n) (z := z))
      generalize BM.step p r u m l s n z = St at *
      have KEEP := hidd (fun Y (hb : But b wr.drew Y) => (show Y.cell? (ad.add (i * 2)) = some (.int .i64 n) ∧ Y.cell? ⟨(ad.add (i * 2)).block, (ad.add (i * 2)).off + 1, none⟩ = some (.int .i64 z) from by
        have h1 : (ad.add (i * 2)).block < wr.drew.heap.size := Nat.lt_of_lt_of_le hadw HW.out.size
        have h2 : (ad.add (i * 2)).block ≠ b := by omega
        exact ⟨(World.cell?_of_block (hb.block _ h1 h2)).trans y0, (hb.cell h1 h2 _).trans y1⟩))
      go_cut [9, 10] (fun s9 s10 wy => s9 = .bool St.2.1 ∧ s10 = .int .i64 St.2.2 ∧ BktAt wy b p r u m l St.1 ∧ But b wr wy)
      case first =>
        go_region_held3 (fun Y => Y.cell? (ad.add (i * 2)) = some (.int .i64 n) ∧ Y.cell? ⟨(ad.add (i * 2)).block, (ad.add (i * 2)).off + 1, none⟩ = some (.int .i64 z))
          ((first | exact KEEP.out _ cum1 | exact ⟨y0, y1⟩ | go_keep))
          ((go_at_call 12; refine ct.out.mono ?_; rintro e w4 ⟨rfl, hB2, cum1⟩; have HB2 := hidd hB2; clear hB2))
        all_goals go_wp2_with fail
        all_goals go_meet
        all_goals exact ⟨rfl, rfl, HB2.out, ⟨cum1.os, cum1.tape, cum1.output, cum1.size, cum1.block⟩⟩
      case rest =>
        obtain ⟨rfl, rfl, hB2, hbut⟩ := hcut
        have HB2 := hidd hB2
        have HO2 := hidd (HO.out.farT (w' := wc) (fun k h1 h2 => hbut.block k h2 (by omega)))
        have HSP2 := hidd (specBut HSP.out hbut (by omega))
        have HW2 := hidd (HW.out.trans (hbut.below (by omega) HW.out.size))
        have hBz2 : B0 ≤ wc.heap.size := Nat.le_trans hBz hbut.size
        have x0 : wc.cell? (ad.add (i * 2)) = some (.int .i64 n) := (World.cell?_of_block (hbut.block _ (Nat.lt_of_lt_of_le hadw HW.out.size) (by omega))).trans y0
        have x1 : wc.cell? ⟨(ad.add (i * 2)).block, (ad.add (i * 2)).off + 1, none⟩ = some (.int .i64 z) := (hbut.cell (Nat.lt_of_lt_of_le hadw HW.out.size) (by omega) _).trans y1
        clear hB2 hbut HB HO HSP HW KEEP ct y0 y1
        obtain ⟨sx, is, no⟩ := St
        dsimp only at *
        cases is
        · have hInv2 : Hid (BM.Inv p r u m l T sx) := hinv
          have hn2 := hno.out.2
          clear hinv hno
          have hcase : ∀ v : Int, no = v → (v = 0 ∨ v = 2) := fun v h => by subst h; exact hn2
          rcases hn2 with hn2 | hn2
          all_goals
            subst hn2
            clear hcase
            go_wp2_with fail
            have hk := HK.out
            have hN := HNL.out
            subst hN
            go_roundg (gk - 1)
            case measure => omega
            case rel => exact ⟨i + 1, T, sx, by omega, by omega, by go_num, by omega, HB2.out, hok.out, hInv2.out, HO2.out, hBz2, HSP2.out, HW2.out⟩
        · have hInv2 : Hid (BM.Inv p r u m l (T ++ [(n, z)]) sx) := hinv
          have hn2 := hno.out.1 rfl
          subst hn2
          clear hinv hno
          obtain ⟨A1, c1, rfl, hc0, hc1, -⟩ := HO2.out.lie sendV_len
          go_wp2_with (at_builtin; refine wpList_append_some (by rfl) (.tmp 56) (.tmp 61) _ (by rfl) B0 36 i0 _ 2 16 Try.underlying24 hi0 hz0 hz1 hz2 rfl (by omega) (.slice A1 T.length c1) T.length (rowOf sendV T) (by rfl) (World.ownsRow.alloc HO2.out _) (some ⟨_, 0, none⟩) 1 1 [.int .i64 n, .int .i64 z] (by rfl) (by rfl) (fun _ => ⟨_, rfl, World.news_of_block (cs := #[.int .i64 n, .int .i64 z]) (t := 36) (fr := (0, 0)) (heap_alloc_new _ _)⟩) (by simp [Value.oneCell']) (by simp only [maxLen]; omega) (by omega) (by (first | omega | (simp; done) | (simp; omega))) ?_; intro va wa hown1 hgrow1 hat1)
          have hlowB : Below B0 wc wa := Below.grown ((Below.refl _ _).alloc hBz2 _) hgrow1 (by (first | omega | (simp; done) | (simp; omega))) (fun k hk => (World.ownsRow.lt HO2.out k hk).1)
          have hk := HK.out
          have hN := HNL.out
          subst hN
          go_roundg (gk - 1)
          case measure => omega
          case rel => exact ⟨i + 1, T ++ [(n, z)], sx, by omega, by omega, by go_num, by simp; omega, HB2.out.low hlowB hbl, hok.out, hInv2.out, OwnL.snoc (f := sendV) (L := T) (x := (n, z)) hown1 rfl rfl, Nat.le_trans hBz2 hlowB.size, HSP2.out.low hlowB z0, HW2.out.trans (hlowB.mono (by omega))⟩
    · have z1 : ¬ (i : Int) < (L.length : Int) := by omega
      have hT40 : T.length ≤ 40 := by omega
      clear HL HK
      generalize hNL : L.length = N at *
      clear hNL
      obtain ⟨A1, c1, rfl, hc0, hc1, hlie⟩ := HO.out.lie sendV_len
      have HLie := hidd hlie
      have cE2 := hidd (cE.out T (by omega) HI.out.keep A1 c1)
      clear hlie HO cE HI
      generalize hTl : T.length = tl at *
      clear hTl
      obtain ⟨zs, k0, k1, k2, k3, k4⟩ := id HSP.out
      go_wp2_with fail
      refine (cE2.out _ HLie.out).mono ?_
      rintro e w3 ⟨rfl, hb3⟩
      have HB3 := hidd (HB.out.below hb3)
      have HSP3 := hidd (HSP.out.low hb3 zs)
      have HW3 := hidd (below_step HW.out hb3)
      clear hb3 k0 k1 k2 k3 k4 zs HB HSP HW HLie cE2
      obtain ⟨zs, k0, k1, k2, k3, k4⟩ := id HSP3.out
      have hq1 : 0 ≤ u / r ∧ u / r ≤ 10000000 := ⟨Int.ediv_nonneg hu0 (by omega), Int.le_trans (Int.ediv_le_self r hu0) hu1⟩
      have hq2 : 0 ≤ m / p ∧ m / p ≤ 2000 := ⟨Int.ediv_nonneg hm0 (by omega), Int.le_trans (Int.ediv_le_self p hm0) hm1⟩
      obtain ⟨s0, s1, s2, s3, s4, s5⟩ := id HS.out
      have cw := hidd (fun k => cW.out b _ s (HB3.out.drewN k))
      have hful := hidd (fun d h1 => BM.full (d := d) s2 hr1 hu0 h1)
      have hful2 := hidd (fun d h1 => BM.full (d := d) s4 hp1 hm0 h1)
      have hdr : Hid (u.tdiv r = u / r) := hidd (Int.tdiv_eq_ediv_of_nonneg hu0)
      have hdp : Hid (m.tdiv p = m / p) := hidd (Int.tdiv_eq_ediv_of_nonneg hm0)
      obtain ⟨a1, a2⟩ := hq1
      obtain ⟨a3, a4⟩ := hq2
      generalize hQ1 : u / r = Q1 at *
      generalize hQ2 : m / p = Q2 at *
      have HQ1 := hidd hQ1
      have HQ2 := hidd hQ2
      clear hQ1 hQ2
      have d1 := hdr.out
      have d2 := hdp.out
      have nr : ¬ r = 0 := by omega
      have np : ¬ p = 0 := by omega
      have w1' : IntKind.i64.wrap Q1 = Q1 := IntWalk.i64_in _ (by omega)
      have w2' : IntKind.i64.wrap Q2 = Q2 := IntWalk.i64_in _ (by omega)
      have w3' : IntKind.i64.wrap (s.1 + Q1) = s.1 + Q1 := IntWalk.i64_in _ (by omega)
      have w4' : IntKind.i64.wrap (s.1 + Q1 + Q2) = s.1 + Q1 + Q2 := IntWalk.i64_in _ (by omega)
      have w5' : IntKind.i64.wrap (s.1 + Q1 + Q2 + 2) = s.1 + Q1 + Q2 + 2 := IntWalk.i64_in _ (by omega)
      go_wp2_with fail
      go_quiet ((go_at_call 14; exact Calls.quiet_of_same ((cw.out _).mono fun e w' h => ⟨h.1, h.2.symm⟩)))
      obtain ⟨w4, hw4⟩ : ∃ w4 : World, w3.drewN nq = w4 := ⟨_, rfl⟩
      have HB4 : Hid (BktAt w4 b p r u m l s) := hidd (by rw [← hw4]; exact HB3.out.drewN _)
      have HSP4 : Hid (HasSpec12 w4 w.heap.size p r u m l) := hidd (by rw [← hw4]; exact HSP3.out)
      have HW4 : Hid (Below w.heap.size w w4) := hidd (by rw [← hw4]; exact below_drewN HW3.out _)
      rw [hw4]
      clear hw4 HB3 HSP3 HW3 cw w1' w2' w3' w4' w5' d1 d2 nr np zs k0 k1 k2 k3 k4 hdr hdp
      generalize hX : s.1 + Q1 + Q2 + 2 = X at *
      have HX := hidd hX
      clear hX
      by_cases hmx : 2147483647 < X
      · go_wp2_with fail
        refine (cK.out _).mono ?_
        rintro e w5 ⟨rfl, hb5⟩
        have HW5 := hidd (below_step HW4.out hb5)
        clear hb5
        go_wp2_with fail
        go_ret
        exact ⟨rfl, HW5.out⟩
      · have hak : BM.askB s X = true := decide_eq_true (by have := HX.out; omega)
        have e0 : BM.lev0 r u s X = u := hful.out (X - s.1) (by have := HX.out; have := HQ1.out; omega)
        have e1 : BM.lev1 p m s X = m := hful2.out (X - s.1) (by have := HX.out; have := HQ2.out; omega)
        have cH2 := hidd (cH.out b w4 s HB4.out HS.out X hak)
        rw [e0, e1] at cH2
        clear e0 e1 hak hful hful2
        go_wp2_with fail
        refine cH2.out.mono ?_
        rintro e w5 ⟨rfl, hb5⟩
        obtain ⟨zs, k0, k1, k2, k3, k4⟩ := HSP4.out.low hb5 HSP4.out.1
        have HW5 := hidd (below_step HW4.out hb5)
        clear hb5
        go_wp2_with fail
        refine (cK.out _).mono ?_
        rintro e w6 ⟨rfl, hb6⟩
        have HW6 := hidd (below_step HW5.out hb6)
        clear hb6
        go_wp2_with fail
        go_ret
        exact ⟨rfl, HW6.out⟩
end Go.Proofs.Ytilikpacgbkebaa
