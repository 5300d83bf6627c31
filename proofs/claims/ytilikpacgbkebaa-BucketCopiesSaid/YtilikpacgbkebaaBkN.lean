/- Buckets: BucketCopies' walk. -/
import Derived.Test.YtilikpacgbkebaaBkN0
namespace Go.Proofs.Ytilikpacgbkebaa
open Go.RowKit
set_option linter.unusedVariables false
set_option maxRecDepth 100000 in
set_option maxHeartbeats 8000000 in
theorem copies12_walk (p r u m l : Int) (A : Option Addr) (L : List (Int × Int)) (ca : Nat) (B : Option Addr) (M : List (Int × Int)) (cb : Nat) (hL : L.length ≤ 8796093022208) (hM : M.length ≤ 8796093022208) (w : World) (lL : Lie sendV 2 w w.heap.size A L) (lM : Lie sendV 2 w w.heap.size B M) :
    Calls Try.prog 5 #[.agg #[.int .i64 p, .int .i64 r, .int .i64 u, .int .i64 m, .int .i64 l], .slice A L.length ca, .slice B M.length cb] w fun e w' => e = .returned (.bool true) ∧ Below w.heap.size w w' := by
  have cK := hidd (fun W => known12_any W)
  have HL := hidd lL
  have HM := hidd lM
  clear lL lM
  by_cases h40 : (40 : Int) < (L.length : Int) + (M.length : Int)
  · generalize hNL : L.length = N at *
    generalize hNM : M.length = K at *
    clear HL HM hNL hNM
    go_enter Try.func5, Try.ntmps5
    go_wp2_with fail
    refine (cK.out _).mono ?_
    rintro e w1 ⟨rfl, hb⟩
    go_wp2_with fail
    go_ret
    exact ⟨rfl, by (repeat' (first | (with_reducible exact Below.refl _ _) | (with_reducible assumption) | (with_reducible apply Below.setCell) | (with_reducible apply Below.alloc) | (with_reducible apply Below.drew) | (with_reducible apply below_drewN) | (with_reducible refine Below.trans ?_ (Below.mono (by assumption) ?_)) | omega | (simp; done) | (simp; omega)))⟩
  cases hR : rightB p r u m l
  · have cN := hidd (fun W => bnew_no p r u m l hR W)
    generalize hNL : L.length = N at *
    generalize hNM : M.length = K at *
    clear HL HM hNL hNM hR
    go_enter Try.func5, Try.ntmps5
    go_wp2_with fail
    refine (cN.out _).mono ?_
    rintro e w1 ⟨rfl, hb1⟩
    go_wp2_with fail
    refine (cK.out _).mono ?_
    rintro e w2 ⟨rfl, hb2⟩
    go_wp2_with fail
    go_ret
    exact ⟨rfl, below_step (below_step (below_new (Below.refl _ _) _) hb1) hb2⟩
  have hp := rightB_iff hR
  have hp1 : 1 ≤ p := by omega
  have hl1 : 1 ≤ l := by omega
  clear hp
  have HR := hidd hR
  have cN := hidd (fun W => bnew_yes p r u m l hR W)
  have hO := hidd (BM.ok_first hR)
  have cT := hidd (fun b W s (h : BktAt W b p r u m l s) (hs : BM.Ok u m s) n z => btake_any h hR hs n z)
  have cW := hidd (fun b W s (h : BktAt W b p r u m l s) => bnow_any h hp1)
  have cC := hidd (fun b W s (h : BktAt W b p r u m l s) => bcopy_any h hp1)
  have cH := hidd (fun b W s (h : BktAt W b p r u m l s) (hs : BM.Ok u m s) (hn : BM.askB s s.1 = true) => bhas_yes h hR hs s.1 hn)
  have cS := hidd (fun a b W s (h : BktAt W a p r u m l s) (h' : BktAt W b p r u m l s) => bsame_eq h h' hp1)
  have cZ := hidd (fun a W s (h : BktAt W a p r u m l s) => bsame_nil h hp1)
  unfold TakeEnd at cT
  clear hR
  go_enter Try.func5, Try.ntmps5
  go_wp2_with fail
  refine (cN.out _).mono ?_
  rintro e w1 ⟨b, rfl, hle, hB, hb1⟩
  have HB := hidd hB
  have H1 := hidd (below_step (below_new (Below.refl _ _) _) hb1)
  have hwb : w.heap.size ≤ b := by simp at hle; omega
  clear hB hb1 hle
  go_wp2_with fail
  go_loopg [9] (L.length + 1) (fun gk s9 wr => ∃ i : Nat, i ≤ L.length ∧ i + gk = L.length + 1 ∧ s9 = .int .i64 (i : Int) ∧ BktAt wr b p r u m l (BM.run p r u m l (0, u, m) (L.take i)) ∧ Below w.heap.size w wr)
  case atStart => exact ⟨0, by omega, by omega, rfl, HB.out, H1.out⟩
  case round =>
    clear HB H1
    obtain ⟨i, hi, hk, rfl, hB, hW⟩ := hrel
    have HB := hidd hB
    have HW := hidd hW
    have HK := hidd hk
    clear hB hW hk
    by_cases hlt : i < L.length
    · obtain ⟨ad, rfl, hadb, x0, x1⟩ := (HL.out.keep HW.out).send i hlt
      have ht := hidd (BM.run_take p r u m l (0, u, m) L hlt)
      have hs := hidd (BM.run_ok (p := p) (r := r) (L := L.take i) hl1 hO.out)
      have z1 : (i : Int) < (L.length : Int) := by omega
      generalize BM.run p r u m l (0, u, m) (L.take i) = s at *
      generalize L[i].1 = n at *
      generalize L[i].2 = z at *
      generalize hNL : L.length = N at *
      have HNL := hidd hNL
      clear hNL
      go_wp2_with fail
      go_still_tail 11, (by kernel_rfl)
      change wpList _ _ _ _ _ wr.drew
      have ct := hidd (cT.out b wr.drew s HB.out.drew hs.out n z)
      rw [← ht.out] at ct
      generalize BM.step p r u m l s n z = St at *
      have HW2 : Hid (Below w.heap.size w wr.drew) := hidd (Below.drew HW.out)
      generalize wr.drew = wd at *
      go_wp2_with fail
      refine ct.out.mono ?_
      rintro e w2 ⟨rfl, hB2, hb2⟩
      have HB2 := hidd hB2
      have HW3 := hidd (HW2.out.trans (hb2.below hwb HW2.out.size))
      clear hB2 hb2
      go_wp2_with fail
      have hk := HK.out
      have hN := HNL.out
      subst hN
      go_roundg (gk - 1)
      case measure => omega
      case rel => exact ⟨i + 1, by omega, by omega, by go_num, HB2.out, HW3.out⟩
    · have hs := hidd (BM.run_ok (p := p) (r := r) (L := L.take i) hl1 hO.out)
      generalize BM.run p r u m l (0, u, m) (L.take i) = s at *
      have z1 : ¬ (i : Int) < (L.length : Int) := by omega
      have hak : Hid (BM.askB s s.1 = true) := hidd (decide_eq_true ⟨Int.le_refl _, hs.out.2.1⟩)
      clear HL HK
      generalize hNL : L.length = N at *
      clear hNL
      go_wp2_with fail
      refine (cC.out b _ s HB.out).mono ?_
      rintro e w2 ⟨rfl, hC, hb2⟩
      have hne : wr.heap.size ≠ b := by have := HB.out.lt; omega
      have HC := hidd hC
      have HB2 := hidd (HB.out.below hb2)
      have HW2 := hidd (below_step HW.out hb2)
      clear hC hb2 HB
      have hwc : w.heap.size ≤ wr.heap.size := HW.out.size
      generalize wr.heap.size = c at *
      clear HW
      go_wp2_with fail
      refine (cW.out b _ s HB2.out).mono ?_
      rintro e w3 ⟨rfl, rfl⟩
      go_wp2_with fail
      refine (cH.out b _ s HB2.out hs.out hak.out).mono ?_
      rintro e w3 ⟨rfl, hb3⟩
      have HB3 := hidd (HB2.out.below hb3)
      have HC3 := hidd (HC.out.below hb3)
      have HW3 := hidd (below_step HW2.out hb3)
      clear hb3 HB2 HC HW2
      go_wp2_with fail
      go_loopg [14, 15] (M.length + 1) (fun gk s14 s15 wr => ∃ (j : Nat) (ch : Bool) (sc : BM.St), j ≤ M.length ∧ j + gk = M.length + 1 ∧ s14 = .bool ch ∧ s15 = .int .i64 (j : Int) ∧ BktAt wr c p r u m l sc ∧ (ch = false → sc = s) ∧ BM.Ok u m sc ∧ BktAt wr b p r u m l s ∧ Below w.heap.size w wr)
      case atStart => exact ⟨0, false, s, by omega, by omega, rfl, rfl, HC3.out, fun _ => rfl, hs.out, HB3.out, HW3.out⟩
      case round =>
        clear HB3 HC3 HW3
        obtain ⟨j, ch, sc, hj, hk, rfl, rfl, hC, hch, hsc, hB, hW⟩ := hrel
        have HB := hidd hB
        have HC := hidd hC
        have HW := hidd hW
        have HK := hidd hk
        have HCH := hidd hch
        have HSC := hidd hsc
        clear hB hC hW hk hch hsc
        by_cases hlt : j < M.length
        · obtain ⟨ad, rfl, hadb, x0, x1⟩ := (HM.out.keep HW.out).send j hlt
          have z2 : (j : Int) < (M.length : Int) := by omega
          generalize M[j].1 = n at *
          generalize M[j].2 = z at *
          generalize hNM : M.length = K at *
          have HNM := hidd hNM
          clear hNM
          go_wp2_with fail
          refine (cW.out c _ sc HC.out).mono ?_
          rintro e w4 ⟨rfl, rfl⟩
          go_wp2_with fail
          have ct := hidd (cT.out c wr.drew sc HC.out.drew HSC.out n z)
          have hsame := hidd (fun h1 h2 => BM.step_same (p := p) (r := r) (l := l) HSC.out (a := n) (z := z) h1 h2)
          have hok := hidd (BM.step_ok (p := p) (r := r) (l := l) HSC.out hl1 n z)
          generalize BM.step p r u m l sc n z = St at *
          have hadw : (ad.add (j * 2)).block < wr.heap.size ∧ (ad.add (j * 2)).block ≠ c := by
            have e : (ad.add (j * 2)).block = ad.block := block_of_add _ _
            have hsw := HW.out.size
            rw [e]
            omega
          have KEEP := hidd (fun Y (hb : But c wr.drew Y) => (show Y.cell? (ad.add (j * 2)) = some (.int .i64 n) ∧ Y.cell? ⟨(ad.add (j * 2)).block, (ad.add (j * 2)).off + 1, none⟩ = some (.int .i64 z) from
            ⟨(World.cell?_of_block (hb.block _ hadw.1 hadw.2)).trans x0, (hb.cell hadw.1 hadw.2 _).trans x1⟩))
          go_region_held3 (fun Y => Y.cell? (ad.add (j * 2)) = some (.int .i64 n) ∧ Y.cell? ⟨(ad.add (j * 2)).block, (ad.add (j * 2)).off + 1, none⟩ = some (.int .i64 z))
            ((first | exact KEEP.out _ cum1 | exact ⟨x0, x1⟩ | go_keep))
            ((go_at_call 12; refine ct.out.mono ?_; rintro e w4 ⟨rfl, hC2, cum1⟩; have HC2 := hidd hC2; clear hC2))
          have HB3 := hidd (HB.out.drew.but cum1 (fun e => hne e.symm))
          have HW3 := hidd ((Below.drew HW.out).trans (cum1.below hwc HW.out.size))
          clear cum1 KEEP hadw
          go_wp2_with fail
          refine (cW.out c _ _ HC2.out).mono ?_
          rintro e w5 ⟨rfl, rfl⟩
          obtain ⟨St1, is, St2⟩ := St
          dsimp only at *
          have HS2 : Hid (is = false → St1.1 = sc.1 → St1 = sc) := hidd (fun h1 h2 => hsame.out h1 h2)
          clear hsame ct
          cases ch
          · cases is
            · by_cases heq : St1.1 = sc.1
              · have e1 : (St1.1 != sc.1) = false := by rw [heq]; simp
                have HSS := hidd ((HS2.out rfl heq).trans (HCH.out rfl))
                clear HS2 HCH
                generalize St1.1 = y1 at *
                generalize sc.1 = y2 at *
                subst heq
                go_wp2_with fail
                have hk := HK.out
                have hN := HNM.out
                subst hN
                go_roundg (gk - 1)
                case measure => omega
                case rel => exact ⟨j + 1, false, St1, by omega, by omega, by simp, by go_num, HC2.out, fun _ => HSS.out, hok.out, HB3.out, HW3.out⟩
              · have e1 : (St1.1 != sc.1) = true := by simp [bne, heq]
                have e2 : (St1.1 == sc.1) = false := by simp [heq]
                generalize St1.1 = y1 at *
                generalize sc.1 = y2 at *
                go_wp2_with fail
                have hk := HK.out
                have hN := HNM.out
                subst hN
                go_roundg (gk - 1)
                case measure => omega
                case rel => exact ⟨j + 1, true, St1, by omega, by omega, by simp, by go_num, HC2.out, (fun h => by cases h), hok.out, HB3.out, HW3.out⟩
            · go_wp2_with fail
              have hk := HK.out
              have hN := HNM.out
              subst hN
              go_roundg (gk - 1)
              case measure => omega
              case rel => exact ⟨j + 1, true, St1, by omega, by omega, rfl, by go_num, HC2.out, (fun h => by cases h), hok.out, HB3.out, HW3.out⟩
          · go_wp2_with fail
            have hk := HK.out
            have hN := HNM.out
            subst hN
            go_roundg (gk - 1)
            case measure => omega
            case rel => exact ⟨j + 1, true, St1, by omega, by omega, rfl, by go_num, HC2.out, (fun h => by cases h), hok.out, HB3.out, HW3.out⟩
        · have z2 : ¬ (j : Int) < (M.length : Int) := by omega
          clear HM HK
          generalize hNM : M.length = K at *
          clear hNM
          go_wp2_with fail
          refine (cW.out b _ s HB.out).mono ?_
          rintro e w4 ⟨rfl, rfl⟩
          go_wp2_with fail
          refine (cH.out b _ s HB.out hs.out hak.out).mono ?_
          rintro e w4 ⟨rfl, hb4⟩
          have HB4 := hidd (HB.out.below hb4)
          have HC4 := hidd (HC.out.below hb4)
          have HW4 := hidd (below_step HW.out hb4)
          clear hb4 HB HC HW
          generalize BM.lev0 r u s s.1 = x at *
          generalize BM.lev1 p m s s.1 = y at *
          cases ch
          · have e1 := HCH.out rfl
            have HC5 : Hid (BktAt w4 c p r u m l s) := hidd (by have := HC4.out; rw [e1] at this; exact this)
            clear e1 HCH
            go_wp2_with fail
            refine (cS.out b c _ s HB4.out HC5.out).mono ?_
            rintro e w5 ⟨rfl, q5, hw5⟩
            have HB5 : Hid (BktAt w5 b p r u m l s) := hidd (by rw [hw5]; exact HB4.out.drewN _)
            have HW5 : Hid (Below w.heap.size w w5) := hidd (by rw [hw5]; exact below_drewN HW4.out _)
            clear hw5 HC4 HC5
            go_wp2_with fail
            refine (cC.out b _ s HB5.out).mono ?_
            rintro e w6 ⟨rfl, hC6, hb6⟩
            have HB6 := hidd (HB5.out.below hb6)
            have HC6 := hidd hC6
            have HW6 := hidd (below_step HW5.out hb6)
            clear hC6 hb6 HB5 HW5
            go_wp2_with fail
            refine (cS.out b _ _ s HB6.out HC6.out).mono ?_
            rintro e w7 ⟨rfl, q7, hw7⟩
            have HB7 : Hid (BktAt w7 b p r u m l s) := hidd (by rw [hw7]; exact HB6.out.drewN _)
            have HW7 : Hid (Below w.heap.size w w7) := hidd (by rw [hw7]; exact below_drewN HW6.out _)
            clear hw7 HB6 HC6 HW6
            go_wp2_with fail
            refine (cZ.out b _ s HB7.out).mono ?_
            rintro e w8 ⟨rfl, rfl⟩
            go_wp2_with fail
            refine (cK.out _).mono ?_
            rintro e w8 ⟨rfl, hb8⟩
            have HW8 := hidd (below_step HW7.out hb8)
            clear hb8
            go_wp2_with fail
            go_ret
            exact ⟨rfl, HW8.out⟩
          · have HB5 := HB4
            have HW5 := HW4
            clear HC4 HCH HB4 HW4
            go_wp2_with fail
            refine (cC.out b _ s HB5.out).mono ?_
            rintro e w6 ⟨rfl, hC6, hb6⟩
            have HB6 := hidd (HB5.out.below hb6)
            have HC6 := hidd hC6
            have HW6 := hidd (below_step HW5.out hb6)
            clear hC6 hb6 HB5 HW5
            go_wp2_with fail
            refine (cS.out b _ _ s HB6.out HC6.out).mono ?_
            rintro e w7 ⟨rfl, q7, hw7⟩
            have HB7 : Hid (BktAt w7 b p r u m l s) := hidd (by rw [hw7]; exact HB6.out.drewN _)
            have HW7 : Hid (Below w.heap.size w w7) := hidd (by rw [hw7]; exact below_drewN HW6.out _)
            clear hw7 HB6 HC6 HW6
            go_wp2_with fail
            refine (cZ.out b _ s HB7.out).mono ?_
            rintro e w8 ⟨rfl, rfl⟩
            go_wp2_with fail
            refine (cK.out _).mono ?_
            rintro e w8 ⟨rfl, hb8⟩
            have HW8 := hidd (below_step HW7.out hb8)
            clear hb8
            go_wp2_with fail
            go_ret
            exact ⟨rfl, HW8.out⟩
end Go.Proofs.Ytilikpacgbkebaa
