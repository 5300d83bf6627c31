/- Texts that the claim hangs on, in one. -/
import Derived.Test.YtiecailfndlgoaaMgEnA
import Derived.Test.YtiecailfndlgoaaMgEnB
/- Shapers: ShaperEnds' walk. -/
namespace Go.Proofs.Ytiecailfndlgoaa
open Go.RowKit Go.Sort
set_option linter.unusedVariables false
set_option maxRecDepth 100000 in
set_option maxHeartbeats 8000000 in
theorem ends13_walk (p r u m l : Int) (A : Option Addr) (L : List (Int × Int)) (ca : Nat) (hL : L.length ≤ maxLen) (w : World) (lL : Lie sendV 2 w w.heap.size A L) :
    Calls Try.prog 8 #[.agg #[.int .i64 p, .int .i64 r, .int .i64 u, .int .i64 m, .int .i64 l], .slice A L.length ca] w fun e w' => e = .returned (.bool true) ∧ Below w.heap.size w w' := by
  have cK := hidd (fun W => known13_any W)
  have HL := hidd lL
  unfold maxLen at hL
  clear lL
  cases hR : newB p r u m l 1000000000
  · have cN := hidd (fun W => shNew_no p r u m l 1000000000 hR W)
    generalize hNL : L.length = N at *
    clear HL hNL hR
    by_cases h30 : (30 : Int) < (N : Int)
    all_goals
      go_enter Try.func8, Try.ntmps8
      go_wp2_with fail
      refine (cN.out _).mono ?_
      rintro e w1 ⟨rfl, hb1⟩
      go_wp2_with fail
      refine (cK.out _).mono ?_
      rintro e w2 ⟨rfl, hb2⟩
      go_wp2_with fail
      go_ret
      exact ⟨rfl, below_step (below_step (below_new (Below.refl _ _) _) hb1) hb2⟩
  have cN := hidd (fun W => shNew_yes p r u m l 1000000000 hR W)
  by_cases h30 : (30 : Int) < (L.length : Int)
  · generalize hNL : L.length = N at *
    clear HL hNL hR
    go_enter Try.func8, Try.ntmps8
    go_wp2_with fail
    refine (cN.out _).mono ?_
    rintro e w1 ⟨h, g, b, rfl, -, -, -, -, hb1⟩
    go_wp2_with fail
    refine (cK.out _).mono ?_
    rintro e w2 ⟨rfl, hb2⟩
    go_wp2_with fail
    go_ret
    exact ⟨rfl, below_step (below_step (below_new (Below.refl _ _) _) hb1) hb2⟩
  obtain ⟨i0, hi0, hz0, hz1, hz2⟩ : ∃ i, Try.prog.info? 41 = some i ∧ i.zero = some (.agg #[.int .i64 0, .int .i64 0]) ∧ i.size = 2 ∧ i.bytes = 16 := by
    have q := waitInfo
    cases hi : Try.prog.info? 41 with
    | none => rw [hi] at q; cases q
    | some i => rw [hi] at q; simp at q; exact ⟨i, rfl, q.1, q.2.1, q.2.2⟩
  have hp : rightB p r u m l = true := (Bool.and_eq_true _ _ ▸ hR : rightB p r u m l = true ∧ _).1
  have HP := hidd (rightB_iff hp)
  clear hR hp
  obtain ⟨W0, hW0⟩ : ∃ W0 : World, w.alloc (.cells #[.int .i64 p, .int .i64 r, .int .i64 u, .int .i64 m, .int .i64 l] 23) = W0 := ⟨_, rfl⟩
  have HW0 := hidd hW0
  have B0 : Hid (Below w.heap.size w W0) := hidd (by rw [← hW0]; (repeat' (first | (with_reducible exact Below.refl _ _) | (with_reducible assumption) | (with_reducible apply Below.setCell) | (with_reducible apply Below.alloc) | (with_reducible apply Below.drew) | (with_reducible apply below_drewN) | (with_reducible refine Below.trans ?_ (Below.mono (by assumption) ?_)) | omega | (simp; done) | (simp; omega))))
  have LW := hidd (HL.out.below B0.out)
  clear hW0
  go_enter Try.func8, Try.ntmps8
  go_wp2_with fail
  rw [HW0.out]
  refine (cN.out _).mono ?_
  rintro e w1 ⟨h, g, b, rfl, h1, h2, h3, hS, hb1⟩
  have K0 := hidd (K2.new (w := W0) hb1 hb1.size hS h1 h2 h3)
  clear hb1 hS h1 h2 h3 cN
  go_wp2_with fail
  go_loopg [7, 9] (L.length + 1) (fun gk s7 s9 wr => ∃ (i : Nat) (C : List (Int × Int)), i ≤ L.length ∧ i + gk = L.length + 1 ∧ s9 = .int .i64 (i : Int) ∧ C.length ≤ i ∧ K2 W0.heap.size W0 h p r u m l (0, u, m) C s7 C (.slice none 0 0) [] wr)
  case atStart => exact ⟨0, [], by omega, by omega, rfl, by simp, K0.out⟩
  case round =>
    clear K0
    obtain ⟨i, C, hi, hk, rfl, hC, hK⟩ := hrel
    have HK := hidd hk
    have KK := hidd hK
    have HC := hidd hC
    clear hk hK hC
    by_cases hlt : i < L.length
    · have z1 : (i : Int) < (L.length : Int) := by omega
      have z0 : (0 : Int) ≤ (i : Int) := by omega
      obtain ⟨ad, rfl, hadb, x0, x1⟩ := (LW.out.keep KK.out.bel).send i hlt
      have cP := hidd (KK.out.put L[i].1 L[i].2)
      have hadw : (ad.add (i * 2)).block < W0.heap.size := by rw [block_of_add]; exact hadb
      have X0 := hidd x0
      have X1 := hidd x1
      generalize L[i].1 = a at *
      generalize L[i].2 = z at *
      generalize hNL : L.length = N at *
      have HNL := hidd hNL
      clear hNL
      generalize hE : putE m l 1000000000 C a z = E at *
      go_wp2_with fail
      refine cP.out.mono ?_
      rintro e w2 ⟨rfl, hK2⟩
      by_cases hE0 : E = 0
      · rw [if_pos hE0] at hK2
        have K2' := hidd hK2
        obtain ⟨A2, c2, rfl, hl2, hc2, hlie⟩ := OwnL.lie hK2.c sendV_len
        have hbA : W0.heap.size ≤ w2.heap.size := K2'.out.bsz
        have y0 : w2.cell? (ad.add (i * 2)) = some (.int .i64 a) := (K2'.out.bel.cell hadw).trans ((KK.out.bel.cell hadw).symm.trans X0.out)
        have y1 : w2.cell? ⟨(ad.add (i * 2)).block, (ad.add (i * 2)).off + 1, none⟩ = some (.int .i64 z) := (K2'.out.bel.cell (p := ⟨(ad.add (i * 2)).block, (ad.add (i * 2)).off + 1, none⟩) hadw).trans ((KK.out.bel.cell (p := ⟨(ad.add (i * 2)).block, (ad.add (i * 2)).off + 1, none⟩) hadw).symm.trans X1.out)
        have hcl : C.length ≤ 30 := by have := HC.out; omega
        clear x0 x1 cP hK2 hlie
        go_wp2_with (at_builtin; refine wpList_append_some (by rfl) (.tmp 44) (.tmp 49) _ (by rfl) W0.heap.size 41 i0 _ 2 16 Try.underlying33 hi0 hz0 hz1 hz2 rfl (by omega) (.slice A2 C.length c2) C.length (rowOf sendV C) (by rfl) (World.ownsRow.alloc K2'.out.c _) (some ⟨w2.heap.size, 0, none⟩) 1 1 (sendV (a, z)) (by rfl) (by rfl) (fun _ => ⟨_, rfl, World.news_of_block (cs := #[.int .i64 a, .int .i64 z]) (t := 41) (fr := (0, 0)) (heap_alloc_new w2 _)⟩) (sendV_one _) (by simp only [maxLen]; omega) (by omega) (by simp; omega) ?_; intro va wa hown hgrow hat)
        have hk := HK.out
        have hN := HNL.out
        have KA := (K2'.out.below (below_new (Below.refl _ _) _)).came (M := [(a, z)]) (OwnL.snoc hown rfl rfl) hgrow hat
        subst hN
        go_roundg (gk - 1)
        case measure => omega
        case rel => exact ⟨i + 1, C ++ [(a, z)], by omega, by omega, by go_num, by have := HC.out; simp; omega, KA⟩
      · rw [if_neg hE0] at hK2
        have K2' := hidd hK2
        clear x0 x1 cP hK2
        go_wp2_with fail
        have hk := HK.out
        have hN := HNL.out
        subst hN
        go_roundg (gk - 1)
        case measure => omega
        case rel => exact ⟨i + 1, C, by omega, by omega, by go_num, by have := HC.out; omega, K2'.out⟩
    · have z1 : ¬ (i : Int) < (L.length : Int) := by omega
      obtain ⟨A2, c2, hs7, hl2, hc2, hlie⟩ := OwnL.lie KK.out.c sendV_len
      have hcl : C.length ≤ 30 := by have := HC.out; omega
      subst hs7
      clear HL LW HK HC hlie h30
      generalize hNL : L.length = N at *
      clear hNL
      have ew : IntKind.i64.wrap ((C.length : Int) + 1) = (C.length : Int) + 1 := IntWalk.i64_in _ (by omega)
      go_wp2_with fail
      go_loopg [8, 10, 11] (C.length + 2) (fun gk s8 s10 s11 wr => ∃ (i k : Nat) (s : BM.St) (last : Int), i + gk = C.length + 2 ∧ i ≤ k ∧ k ≤ C.length ∧ s11 = .int .i64 (i : Int) ∧ s10 = .int .i64 last ∧ last ≤ s.1 ∧ s.1 ≤ 2000 * (i : Int) ∧ K2 W0.heap.size W0 h p r u m l s (C.drop k) (.slice A2 C.length c2) C s8 (C.take k) wr)
      case atStart => exact ⟨0, 0, (0, u, m), 0, by omega, by omega, by omega, rfl, rfl, by simp, by simp, KK.out⟩
      case round =>
        clear KK
        obtain ⟨j, k, s, last, hk, hjk, hkl, rfl, rfl, hla, hs1, hK⟩ := hrel
        have HK := hidd hk
        have KK := hidd hK
        obtain ⟨-, hok, hsz, hsm, hsl⟩ := hK.wf
        have HOK := hidd hok
        have cB := hidd hK.bytes
        have z2 : (j : Int) < (C.length : Int) + 1 := by omega
        clear hK hk
        by_cases hlt : k < C.length
        · have hdl : 0 < (C.drop k).length := by simp; omega
          have hpos : 0 < sumB (C.drop k) := by omega
          have hz3 : BM.sizeB m l (C.drop k)[0].2 = true := decide_eq_true (hsz _ (List.getElem_mem hdl))
          have hrt := KK.out.wf.1
          obtain ⟨t, ht⟩ := BM.when_exists hrt hok (Int.le_refl s.1) hz3
          have cX := hidd (KK.out.next1 hdl ht)
          have ht0 := ht.1
          have ht1 := ht.2.1
          have HT := hidd ht
          have hs0 := hok.1
          have hnl : ¬ t < last := by omega
          have htm : t ≤ 2147483647 := by omega
          have hask : BM.askB s t = true := decide_eq_true ⟨ht0, htm⟩
          have HASK := hidd hask
          have HSZ := hidd (hsz _ (List.getElem_mem hdl))
          have HDL := hidd hdl
          have HTB := hidd (And.intro ht0 (And.intro ht1 (And.intro hs1 htm)))
          clear hsz hsm hsl hok hz3 hrt ht hask hs1 hla hs0
          generalize sumB (C.drop k) = Bt at *
          go_wp2_with fail
          refine cB.out.mono ?_
          rintro e w2 ⟨rfl, rfl⟩
          go_wp2_with fail
          refine cX.out.mono ?_
          rintro e w2 ⟨rfl, hb2⟩
          have K2' := hidd (KK.out.below hb2)
          clear hb2
          go_wp2_with fail
          refine (K2'.out.go t HASK.out).mono ?_
          rintro e w3 ⟨k', s', A3, c3, rfl, hg, hK3, hq3, hn3⟩
          have hk0 := BM.when_goes K2'.out.wf.1 HOK.out HDL.out HSZ.out HT.out HTB.out.2.2.2 hg
          have hkle := hg.le
          rw [List.length_drop] at hkle
          have hnow : s'.1 = t := by
            rw [hg.st]
            refine BM.atK_now ?_ HTB.out.2.2.2 (by rw [List.length_drop]; omega)
            unfold BM.step
            rw [if_pos HASK.out]
            split <;> rfl
          have K3 := hidd hK3
          obtain ⟨A9, c9, e9, hl9, hm9, hlie9⟩ := hq3.lie
          have hl5 : ((C.drop k).take k').length = k' := by rw [List.length_take, List.length_drop]; omega
          have HSRC := hidd (hlie9.src (Below.refl _ _))
          injection e9 with e91 e92 e93
          subst e91
          have HL5 := hidd hl5
          obtain ⟨A5, c5, hs8, hl6, hc6, hlie6⟩ := OwnL.lie hK3.g sendV_len
          have htl : (C.take k).length = k := by rw [List.length_take]; omega
          rw [htl] at hs8 hl6
          subst hs8
          have HGO := hidd (show w3.ownsRow W0.heap.size 41 2 (.slice A5 k c5) k (rowOf sendV (C.take k)) from by have q := hK3.g; unfold OwnL at q; rw [htl] at q; exact q)
          have hkp : (0 : Int) < (k' : Int) := by omega
          have hkp2 : ¬ (k' : Int) = 0 := by omega
          have HTL := hidd htl
          have HNOW := hidd hnow
          clear hg hK3 hq3 hn3 hlie9 hlie6 hl5 htl hnow e92 e93 hl9
          go_wp2_with (at_builtin; refine wpList_append_some (by rfl) (.tmp 88) (.tmp 89) _ (by rfl) W0.heap.size 41 i0 _ 2 16 Try.underlying33 hi0 hz0 hz1 hz2 rfl (by omega) (.slice A5 k c5) k (rowOf sendV (C.take k)) (by rfl) HGO.out A3 k' c3 (rowOf sendV ((C.drop k).take k')) (by rfl) (by rw [row_len sendV_len, HL5.out]) (by have q := HSRC.out; rw [HL5.out] at q; exact q) (rowOf_one sendV_one _) (by simp only [maxLen]; omega) (by omega) (by exact K3.out.bsz) ?_; intro va wa hown hgrow hat)
          have hk := HK.out
          have htb := HTB.out
          have KA := K3.out.went (M := (C.drop k).take k') (by
            have q : OwnL sendV 2 wa W0.heap.size 41 va (C.take k ++ (C.drop k).take k') := by
              unfold OwnL
              rw [List.length_append, HL5.out, HTL.out]
              have e : rowOf sendV (C.take k ++ (C.drop k).take k') = rowOf sendV (C.take k) ++ rowOf sendV ((C.drop k).take k') := by simp [rowOf]
              rw [e]
              exact hown
            exact q) hgrow hat
          rw [List.drop_drop, ← List.take_add] at KA
          go_roundg (gk - 1)
          case measure => omega
          case rel => exact ⟨j + 1, k + k', s', t, by omega, by omega, by omega, by go_num, rfl, by rw [HNOW.out]; exact Int.le_refl _, by rw [HNOW.out]; push_cast; omega, KA⟩
        · have hkc : k = C.length := by omega
          subst hkc
          have KK2 := hidd (show K2 W0.heap.size W0 h p r u m l s [] (.slice A2 C.length c2) C _ C wr from by have q := KK.out; rw [List.drop_length, List.take_length] at q; exact q)
          have cB2 := hidd KK2.out.bytes
          have cN0 := hidd KK2.out.next0
          obtain ⟨A5, c5, hs8, hl6, hc6, hlie6⟩ := OwnL.lie KK2.out.g sendV_len
          obtain ⟨A6, c6, e6, _, _, hlie7⟩ := OwnL.lie KK2.out.c sendV_len
          injection e6 with e61 e62 e63
          subst e61
          subst e63
          subst hs8
          have cS := hidd (refSame_any A2 A5 C C c2 c5 (by omega) (by omega) wr hlie7 hlie6)
          have eS : decide (C = C) = true := decide_eq_true rfl
          rw [eS] at cS
          have HBW := hidd (B0.out.trans (KK2.out.bel.mono B0.out.size))
          have eB : sumB ([] : List (Int × Int)) = 0 := rfl
          rw [eB] at cB2
          clear KK cB hsz hsm hsl hlie6 hlie7 hla hs1 KK2
          generalize C.length = nC at *
          go_wp2_with fail
          refine cB2.out.mono ?_
          rintro e w2 ⟨rfl, rfl⟩
          go_wp2_with fail
          refine cN0.out.mono ?_
          rintro e w2 ⟨rfl, rfl⟩
          go_wp2_with fail
          refine cB2.out.mono ?_
          rintro e w2 ⟨rfl, rfl⟩
          go_wp2_with fail
          refine cS.out.mono ?_
          rintro e w2 ⟨rfl, q, hw2⟩
          have HB2 := hidd (show Below w.heap.size w w2 from by rw [hw2]; exact below_drewN HBW.out _)
          clear hw2
          go_wp2_with fail
          refine (cK.out _).mono ?_
          rintro e w3 ⟨rfl, hb3⟩
          have HB3 := hidd (below_step HB2.out hb3)
          clear hb3
          go_wp2_with fail
          go_ret
          exact ⟨rfl, HB3.out⟩
end Go.Proofs.Ytiecailfndlgoaa

/- Whatever the spec and the packets, ShaperEnds answers true: all that waits goes in the end, in the order in which it came, by Next; no conditions. -/
namespace Go.Proofs.Ytiecailfndlgoaa.shaperEnds
open Go.ChangeShapes Go.WideShapes Go.ChangeAt Go.RowKit Go.Joins Go.Proofs.Ytiecailfndlgoaa.RowK
set_option linter.unusedVariables false
set_option maxRecDepth 100000 in
theorem lifted (os : Os) (started : os.Started) (H : Type) (enc : TypeId × Value → H) :
    ReturnsInHanded {} Try.checked os 8 .any (Rows.shaperEndsSpec.pre6 enc Try.prog Try.f8 Rows.shaperEndsRow.domain false) (Rows.shaperEndsSpec.post enc Try.prog Try.f8 false true false false) := by
  refine returnsInHanded_of_change (C := Try.checked) own started (by kernel_rfl) Try.func8
    (ChangeSpec.witness6 (enc := enc) (C := Try.checked) false ⟨#[], #[.agg #[.int .i64 0, .int .i64 0, .int .i64 0, .int .i64 0, .int .i64 0], .slice none 0 0], []⟩ 8 (by kernel_rfl) (by kernel_rfl) (by kernel_rfl) (by kernel_rfl)) ?_
  intro W base args ds gs before hval0 hW hcnd _
  have hval : ∀ (j : Nat) t v, Try.f8.params[j]? = some t → args[j]? = some v → Value.okWide Try.prog W .any base t v := hval0
  have hW' := hW
  obtain ⟨p, q, hA0, hV, rfl, hfz, hnd⟩ := hW
  have hA : DataW.TrodAll enc Try.prog W 0 (fun _ => true) true Try.f8.params.toList args.toList ds p := hA0
  rw [Try.params8] at hA hval
  obtain ⟨v0, vs0, d0, ds0, p0, q0, hargs, rfl, rfl, h0, r0⟩ := trodAll_cons hA
  obtain ⟨v1, vs1, d1, ds1, p1, q1, rfl, rfl, rfl, h1, r1⟩ := trodAll_cons r0
  obtain ⟨rfl, rfl, rfl⟩ := trodAll_nil r1
  obtain rfl : args = #[v0, v1] := by cases args; simp_all
  obtain ⟨rfl, rfl⟩ := trodVars_none hV
  obtain ⟨a0, b0, c0, u0, g0, rfl⟩ := open_ints5 Try.underlying23 (by kernel_rfl) cellsSpec Try.underlying2 Try.underlying2 Try.underlying2 Try.underlying2 Try.underlying2 (hval 0 23 v0 rfl rfl) h0
  obtain ⟨A1, L1, c1, rfl, m1, l1⟩ : ∃ (A : Option Addr) (L : List (Int × Int)) (c : Nat), v1 = .slice A L.length c ∧ L.length ≤ maxLen ∧ Lie sendV 2 W W.heap.size A L := by
    obtain ⟨ptr, len, cap, rfl⟩ := okWide_slice Try.underlying33 (hval 1 33 v1 rfl rfl)
    obtain ⟨fuel, hf⟩ := h1
    obtain ⟨A, L, c, e, hh⟩ := open_waits hf
    exact ⟨A, L, c, by simpa [Value.cells] using e, hh⟩
  refine (Ytiecailfndlgoaa.ends13_walk a0 b0 c0 u0 g0 A1 L1 c1 m1 W l1).mono fun e W' ⟨he, hg⟩ => ?_
  subst he
  exact ⟨_, rfl, post_law laidOut (by rw [Try.params8]; intro t ht; simp at ht; rcases ht with rfl | rfl <;> exact ⟨by kernel_rfl, of_decide_eq_true (by kernel_rfl)⟩) hW' hA0 rfl (fun _ _ _ => (trodAll_cons_mk (shut_bool Try.underlying4 _) trodAll_mk0)) (fun _ => rfl) hg (ok_one (by kernel_rfl) rfl (okWide_bool_mk Try.underlying4 _))⟩

theorem over : Rows.shaperEndsRow.holds Try.pinned (OpenSpec.ofChange Rows.shaperEndsSpec) :=
  OpenClaim.holds_of_wide 8 Try.f8 rfl rfl rfl rfl rfl rfl rfl ⟨rfl, rfl, rfl, rfl, rfl⟩ rfl rfl rfl rfl rfl (by kernel_rfl) Try.func8 (by kernel_rfl)
    (of_decide_eq_true (by kernel_rfl)) (by unfold Func.isWrapper; first | (rw [if_pos (by decide +kernel)]; kernel_rfl) | (rw [if_neg (by decide +kernel)]; exact ⟨rfl, rfl⟩))
    (fun os started H enc _ => lifted os started H enc)
end Go.Proofs.Ytiecailfndlgoaa.shaperEnds
namespace Go.Proofs.Ytiecailfndlgoaa
/-- the given statement. -/
theorem shaperEnds_proved : Rows.ShaperEndsSaid := shaperEnds.over
end Go.Proofs.Ytiecailfndlgoaa

