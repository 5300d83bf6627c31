/- Texts that the claim hangs on, in one. -/
import Derived.Test.YthaiphkmkchhoaaMgSpD
import Derived.Test.YthaiphkmkchhoaaMgSpC
import Derived.Test.YthaiphkmkchhoaaMgSpB
import Derived.Test.YthaiphkmkchhoaaMgSpA
/- Shapers: ShaperNext's walk. -/
namespace Go.Proofs.Ythaiphkmkchhoaa
open Go.RowKit Go.Sort
set_option linter.unusedVariables false
/-- ahead of Next nothing goes. -/
theorem BM.when_none {p r u m l : Int} {s : BM.St} {L : List (Int × Int)} {t n : Int} (hr : rightB p r u m l = true) (hs : BM.Ok u m s) (hl : 0 < L.length) (ht : BM.IsWhen p r u m s s.1 L[0].2 t) (hn : BM.askB s n = true) (hlt : n < t) {k : Nat} {s' : BM.St} (hg : BM.Goes p r u m l (BM.step p r u m l s n 0).1 n L k s') : k = 0 := by
  rcases Nat.eq_zero_or_pos k with h0 | h0
  · exact h0
  · exfalso
    have hst := hg.all 0 hl h0
    have hb2 := rightB_iff hr
    obtain ⟨n0, n1⟩ := of_decide_eq_true hn
    have nofit : BM.fitB p r u m l s n 0 = false := by
      unfold BM.fitB BM.sizeB
      rw [decide_eq_false (by omega : ¬ (l ≤ 0 ∧ 0 ≤ m))]
      rfl
    have e1 : (BM.step p r u m l s n 0).1 = (n, BM.lev0 r u s n, BM.lev1 p m s n) := by unfold BM.step; rw [if_pos hn, if_neg (by rw [nofit]; simp)]
    have a0 : 0 ≤ BM.lev0 r u s n ∧ BM.lev0 r u s n ≤ u := BM.later_bd (by omega)
    have a1 : 0 ≤ BM.lev1 p m s n ∧ BM.lev1 p m s n ≤ m := BM.later_bd (by omega)
    rw [BM.atK_zero, e1] at hst
    have hask2 : BM.askB (n, BM.lev0 r u s n, BM.lev1 p m s n) n = true := decide_eq_true ⟨Int.le_refl _, n1⟩
    have l0 : BM.lev0 r u (n, BM.lev0 r u s n, BM.lev1 p m s n) n = BM.lev0 r u s n := by
      show BM.later (BM.lev0 r u s n) u r (n - n) = _
      rw [show n - n = 0 by omega, BM.later_zero a0.1 a0.2]
    have l1 : BM.lev1 p m (n, BM.lev0 r u s n, BM.lev1 p m s n) n = BM.lev1 p m s n := by
      show BM.later (BM.lev1 p m s n) m p (n - n) = _
      rw [show n - n = 0 by omega, BM.later_zero a1.1 a1.2]
    have fit : BM.fitB p r u m l (n, BM.lev0 r u s n, BM.lev1 p m s n) n L[0].2 = false := by
      unfold BM.fitB
      rw [l0, l1, decide_eq_false (ht.2.2.2 n n0 hlt), Bool.and_false]
    unfold BM.step at hst
    rw [if_pos hask2, if_neg (by rw [fit]; simp)] at hst
    cases hst
/-- a shaper beside no lists. -/
theorem K2.of {h g b : Nat} {v : Value} {p r u m l : Int} {s : BM.St} {L : List (Int × Int)} {B : Nat} {w W : World} (hS : ShAt W h g b v p r u m l s 1000000000 L) (h1 : ∀ j, ShBlk h g b v j → B ≤ j) (hb : Below B w W) (hs : B ≤ W.heap.size) : K2 B w h p r u m l s L (.slice none 0 0) [] (.slice none 0 0) [] W :=
  ⟨⟨g, b, v, hS, h1, (fun q e => by cases e), (fun q e => by cases e)⟩, OwnL.nil _ _ _, OwnL.nil _ _ _, (fun q e => by cases e), hb, hs⟩
section
variable {B : Nat} {w : World} {h : Nat} {p r u m l : Int} {s : BM.St} {L : List (Int × Int)} {cv : Value} {C : List (Int × Int)} {gv : Value} {G : List (Int × Int)} {W W' : World}
theorem K2.does (H : K2 B w h p r u m l s L cv C gv G W) (k a z : Int) : Calls Try.prog 8 #[.pointer (some ⟨h, 0, none⟩), gS 0 0 0 0 0 none 0 0 0 0 none 0 0, .agg #[.int .i64 k, .int .i64 a, .int .i64 z]] W fun e W' => (∃ v, e = .returned v) ∧ ∃ s' L', K2 B w h p r u m l s' L' cv C gv G W' := by
  obtain ⟨g, b, v, hS, h1, h2, h3⟩ := H.sh
  refine (doesZ hS k a z).mono ?_
  rintro e W' ⟨he, v', s', L', hS', hs, hn⟩
  exact ⟨he, s', L', H.turn h1 h2 h3 hS' hs hn⟩
theorem K2.copy (H : K2 B w h p r u m l s L cv C gv G W) : Calls Try.prog 11 #[.pointer (some ⟨h, 0, none⟩)] W fun e W' => ∃ h', e = .returned (.pointer (some ⟨h', 0, none⟩)) ∧ K2 W.heap.size W h' p r u m l s L (.slice none 0 0) [] (.slice none 0 0) [] W' := by
  obtain ⟨g, b, v, hS, h1, h2, h3⟩ := H.sh
  refine (shCopy_any hS).mono ?_
  rintro e W' ⟨h', g', b', v', rfl, hS', hge, hb⟩
  exact ⟨h', rfl, K2.of hS' hge hb hb.size⟩
/-- Next, where something waits. -/
theorem K2.nextW (H : K2 B w h p r u m l s L cv C gv G W) (hl : 0 < L.length) : ∃ t, BM.IsWhen p r u m s s.1 L[0].2 t ∧ Calls Try.prog 17 #[.pointer (some ⟨h, 0, none⟩)] W fun e W' => e = .returned (.tuple #[.int .i64 t, .bool true]) ∧ Below W.heap.size W W' := by
  obtain ⟨hr, hok, hsz, _, _⟩ := H.wf
  obtain ⟨t, ht⟩ := BM.when_exists hr hok (Int.le_refl _) (decide_eq_true (hsz L[0] (List.getElem_mem hl)))
  exact ⟨t, ht, H.next1 hl ht⟩
end
theorem Lie.actR {w : World} {B : Nat} {A : Option Addr} {l : List (Int × Int × Int)} (h : Lie actV 3 w B A l) (i : Nat) (hi : i < l.length) :
    ∃ ad, A = some ad ∧ ad.block < B ∧ w.cell? (ad.add (i * 3)) = some (.int .i64 l[i].1) ∧ w.cell? ⟨(ad.add (i * 3)).block, (ad.add (i * 3)).off + 1, none⟩ = some (.int .i64 l[i].2.1) ∧ w.cell? ⟨(ad.add (i * 3)).block, (ad.add (i * 3)).off + 2, none⟩ = some (.int .i64 l[i].2.2) := by
  obtain ⟨ad, e, hB, hc⟩ := h (by omega)
  have hx : l[i]? = some l[i] := List.getElem?_eq_getElem hi
  refine ⟨ad, e, hB, hc i _ hx 0 _ rfl, ?_, ?_⟩
  · have := hc i _ hx 1 _ rfl
    rw [← add_of_add] at this
    exact this
  · have := hc i _ hx 2 _ rfl
    rw [← add_of_add] at this
    exact this
end Go.Proofs.Ythaiphkmkchhoaa

/- Shapers: ShaperCopies' walk. -/
namespace Go.Proofs.Ythaiphkmkchhoaa
open Go.RowKit Go.Sort
set_option linter.unusedVariables false
def SA (ad : Addr) (i : Nat) (kd a z : Int) (W : World) : Prop := W.cell? (ad.add (i * 3)) = some (.int .i64 kd) ∧ W.cell? ⟨(ad.add (i * 3)).block, (ad.add (i * 3)).off + 1, none⟩ = some (.int .i64 a) ∧ W.cell? ⟨(ad.add (i * 3)).block, (ad.add (i * 3)).off + 2, none⟩ = some (.int .i64 z)
def SPC (D : Nat) (p r u m l : Int) (W : World) : Prop := W.cell? ⟨D, 0, none⟩ = some (.int .i64 p) ∧ W.cell? ⟨D, 1, none⟩ = some (.int .i64 r) ∧ W.cell? ⟨D, 2, none⟩ = some (.int .i64 u) ∧ W.cell? ⟨D, 3, none⟩ = some (.int .i64 m) ∧ W.cell? ⟨D, 4, none⟩ = some (.int .i64 l)
theorem PP.begin {F : Nat → Prop} {B : Nat} {w W : World} {h g b : Nat} {p r u m l room : Int} (hS : ShAt W h g b (.slice none 0 0) p r u m l (0, u, m) room []) (h1 : ∀ j, ShBlk h g b (.slice none 0 0) j → B ≤ j) (hb : Below B w W) (hB : B ≤ W.heap.size) (hF : ∀ k, F k → (B ≤ k ∧ k < W.heap.size) ∧ ¬ ShBlk h g b (.slice none 0 0) k) : PP F B w h p r u m l room (0, u, m) [] [] none none 0 0 W :=
  ⟨⟨g, b, _, hS, h1, fun hl => absurd hl (by simp), fun hl => absurd hl (by simp), fun k hk => (hF k hk).2⟩, fun hl => absurd hl (by simp), fun hl => absurd hl (by simp), BM.Inv.nil hS.rt, ⟨Nat.le_refl _, by simp [maxLen]⟩, Nat.le_refl _, hb, hB, fun k _ hl => absurd hl (by simp), fun k _ hl => absurd hl (by simp), fun k hk => (hF k hk).1⟩
theorem same_xnil {w : World} {h g : Nat} (hz : PtrAt w h (some ⟨g, 0, none⟩)) : Calls Try.prog 13 #[.pointer (some ⟨h, 0, none⟩), .pointer none] w fun e w' => e = .returned (.bool false) ∧ w = w' := by
  have c := hidd (fun W => shNone_nil W)
  have c2 := hidd (shNone_yes hz)
  clear hz
  go_enter Try.func13, Try.ntmps13
  go_wp2_with fail
  refine c2.out.mono ?_
  rintro e w' ⟨rfl, rfl⟩
  go_wp2_with fail
  refine (c.out _).mono ?_
  rintro e w' ⟨rfl, rfl⟩
  go_wp2_with fail
  refine c2.out.mono ?_
  rintro e w' ⟨rfl, rfl⟩
  go_wp2_with fail
  go_ret
  exact ⟨rfl, rfl⟩
set_option maxRecDepth 100000 in
set_option maxHeartbeats 32000000 in
theorem copies13_walk (p r u m l : Int) (A : Option Addr) (L : List (Int × Int × Int)) (ca : Nat) (A2 : Option Addr) (M : List (Int × Int × Int)) (cb : Nat) (hL : L.length ≤ 8796093022208) (hM : M.length ≤ 8796093022208) (w : World) (lL : Lie actV 3 w w.heap.size A L) (lM : Lie actV 3 w w.heap.size A2 M) :
    Calls Try.prog 4 #[.agg #[.int .i64 p, .int .i64 r, .int .i64 u, .int .i64 m, .int .i64 l], .slice A L.length ca, .slice A2 M.length cb] w fun e w' => e = .returned (.bool true) ∧ Below w.heap.size w w' := by
  have cK := hidd (fun W => known13_any W)
  have HL := hidd lL
  have HM := hidd lM
  clear lL lM
  have hwr : IntKind.i64.wrap ((L.length : Int) + (M.length : Int)) = (L.length : Int) + (M.length : Int) := by rw [IntKind.wrap_i64]; omega
  by_cases h40 : (40 : Int) < (L.length : Int) + (M.length : Int)
  · generalize hNL : L.length = N at *
    generalize hNM : M.length = N2 at *
    clear HL HM hNL hNM
    go_enter Try.func4, Try.ntmps4
    go_wp2_with fail
    refine (cK.out _).mono ?_
    rintro e w2 ⟨rfl, hb2⟩
    go_wp2_with fail
    go_ret
    exact ⟨rfl, below_step (below_new (Below.refl _ _) _) hb2⟩
  have H40 := hidd (show L.length + M.length ≤ 40 from by omega)
  have cRN := hidd (fun W => rnew_any p r u m l 5000 W)
  unfold gS at cRN
  obtain ⟨W0, hW0⟩ : ∃ W0 : World, w.alloc (.cells #[.int .i64 p, .int .i64 r, .int .i64 u, .int .i64 m, .int .i64 l] 23) = W0 := ⟨_, rfl⟩
  have HW0 := hidd hW0
  have B0 : Hid (Below w.heap.size w W0) := hidd (by rw [← hW0]; (repeat' (first | (with_reducible exact Below.refl _ _) | (with_reducible assumption) | (with_reducible apply Below.setCell) | (with_reducible apply Below.alloc) | (with_reducible apply Below.drew) | (with_reducible apply below_drewN) | (with_reducible refine Below.trans ?_ (Below.mono (by assumption) ?_)) | omega | (simp; done) | (simp; omega))))
  have SZ0 : Hid (W0.heap.size = w.heap.size + 1) := hidd (by rw [← hW0]; simp)
  have SR0 : Hid (W0.heap[w.heap.size]? = some (.cells #[.int .i64 p, .int .i64 r, .int .i64 u, .int .i64 m, .int .i64 l] 23 (0, 0))) := hidd (by rw [← hW0]; exact World.alloc_heap_new w _)
  have SK0 : Hid (∀ Y, Below W0.heap.size W0 Y → SPC w.heap.size p r u m l Y) := hidd (fun Y hb => by
    have q := (hb.block w.heap.size (by have := SZ0.out; omega)).trans SR0.out
    refine ⟨?_, ?_, ?_, ?_, ?_⟩ <;> simp [World.cell?, q])
  have LW := hidd (HL.out.below B0.out)
  have MW := hidd (HM.out.below B0.out)
  clear hW0
  cases hR : newB p r u m l 5000
  · have cN := hidd (fun W => shNew_no p r u m l 5000 hR W)
    rw [hR] at cRN
    generalize hNL : L.length = N at *
    generalize hNM : M.length = N2 at *
    clear HL LW MW HM hNL hNM hR
    go_enter Try.func4, Try.ntmps4
    go_wp2_with fail
    rw [HW0.out]
    refine (cN.out _).mono ?_
    rintro e w1 ⟨rfl, hb1⟩
    go_wp2_with fail
    refine (cK.out _).mono ?_
    rintro e w3 ⟨rfl, hb3⟩
    go_wp2_with fail
    go_ret
    exact ⟨rfl, below_step (B0.out.trans (hb1.mono B0.out.size)) hb3⟩
  have cN := hidd (fun W => shNew_yes p r u m l 5000 hR W)
  rw [hR] at cRN
  clear hR
  go_enter Try.func4, Try.ntmps4
  go_wp2_with fail
  rw [HW0.out]
  refine (cN.out _).mono ?_
  rintro e w1 ⟨h, g, b, rfl, h1, h2, h3, hS, hb1⟩
  obtain ⟨s0, s1, s2, s3, s4⟩ := SK0.out _ hb1
  have HB1 := hidd hb1
  have HSH := hidd hS
  have HGE := hidd (And.intro h1 (And.intro h2 h3))
  clear hb1 hS h1 h2 h3 cN
  go_wp2_with fail
  refine (cRN.out _).mono ?_
  rintro e w2 ⟨rfl, hb2⟩
  have HB2 := hidd hb2
  clear hb2 s0 s1 s2 s3 s4
  go_wp2_with fail
  obtain ⟨W3, hW3⟩ : ∃ W3 : World, w2.alloc (.cells #[.int .i64 p, .int .i64 r, .int .i64 u, .int .i64 m, .int .i64 l, .slice none 0 0, .int .i64 0, .int .i64 5000, .slice none 0 0] 35) = W3 := ⟨_, rfl⟩
  obtain ⟨Q, hQ⟩ : ∃ Q, w2.heap.size = Q := ⟨_, rfl⟩
  have B23 := hidd (show Below w2.heap.size w2 W3 from by rw [← hW3]; exact below_new (Below.refl _ _) _)
  have QR0 := hidd (show GQ W3 Q p r u m l none ([] : List (Int × Int)).length 0 ((0, u, m) : BM.St).1 5000 none ([] : List (Int × Int)).length 0 from by rw [← hW3, ← hQ]; exact World.alloc_heap_new w2 _)
  have HQ := hidd hQ
  have PP0 : Hid (PP (fun k => k = Q) W0.heap.size W0 h p r u m l 5000 (0, u, m) [] [] none none 0 0 W3) := hidd (by
    have b13 : Below w1.heap.size w1 W3 := HB2.out.trans (B23.out.mono HB2.out.size)
    have h1 := HB1.out.size
    have h2 := HB2.out.size
    have hge : ∀ j, ShBlk h g b (.slice none 0 0) j → W0.heap.size ≤ j := fun j hj => by
      obtain ⟨q1, q2, q3⟩ := HGE.out
      rcases hj with rfl | rfl | rfl | e
      · exact q1
      · exact q2
      · exact q3
      · cases e
    refine PP.begin (HSH.out.below b13) hge (HB1.out.trans (b13.mono h1)) (Nat.le_trans h1 b13.size) (fun k hk => ?_)
    subst hk
    refine ⟨⟨by have := HQ.out; omega, (Array.getElem?_eq_some_iff.1 QR0.out).1⟩, fun hj => ?_⟩
    have := HSH.out.lt hj
    have := HQ.out
    omega)
  rw [hW3, hQ]
  clear hW3 hQ HSH HGE
  go_loopg [11] (L.length + 1) (fun gk s11 wr => ∃ (i : Nat) (s : BM.St) (T Lw : List (Int × Int)) (TA : Option Addr) (tc : Nat) (LA : Option Addr) (lc : Nat), i ≤ L.length ∧ i + gk = L.length + 1 ∧ s11 = .int .i64 (i : Int) ∧ GQ wr Q p r u m l TA T.length tc s.1 5000 LA Lw.length lc ∧ PP (fun k => k = Q) W0.heap.size W0 h p r u m l 5000 s T Lw TA LA lc i wr)
  case atStart => exact ⟨0, (0, u, m), [], [], none, 0, none, 0, by omega, by omega, rfl, QR0.out, PP0.out⟩
  case round =>
    clear PP0 QR0 HB1 HB2 B23
    obtain ⟨i, s, T, Lw, TA, tc, LA, lc, hi, hk, rfl, hQR, hPP⟩ := hrel
    have HK := hidd hk
    have KP := hidd hPP
    have QR9 := hidd hQR
    clear hk hPP hQR
    by_cases hlt : i < L.length
    · have z1 : (i : Int) < (L.length : Int) := by omega
      have z0 : (0 : Int) ≤ (i : Int) := by omega
      have AK : Hid (∀ Y, Below wr.heap.size wr Y → Below W0.heap.size W0 Y) := hidd (fun Y hb => KP.out.bel.trans (hb.mono KP.out.bsz))
      have BK : Hid (∀ Y, Below W0.heap.size W0 Y → Below W0.heap.size W0 Y) := hidd (fun Y hb => hb)
      obtain ⟨ad, rfl, hadb, x0, x1, x2⟩ := (LW.out.keep (AK.out wr (Below.refl _ _))).actR i hlt
      obtain ⟨ad2, e2, -, x00, x01, x02⟩ := LW.out.actR i hlt
      cases e2
      have cD := hidd (fun F' Y (H : PP F' W0.heap.size W0 h p r u m l 5000 s T Lw TA LA lc (i) Y) => doesP H tc (by omega) L[i].1 L[i].2.1 L[i].2.2)
      unfold gS DoesEnd gS at cD
      generalize L[i].1 = kd at *
      generalize L[i].2.1 = a at *
      generalize L[i].2.2 = z at *
      generalize hTN : T.length = TN at *
      generalize hLN : Lw.length = LN at *
      obtain ⟨now, hnow⟩ : ∃ now, s.1 = now := ⟨_, rfl⟩
      rw [hnow] at cD
      have QR := hidd (show GQ wr Q p r u m l TA TN tc now 5000 LA LN lc from by have q := QR9.out; rw [hnow] at q; exact q)
      have QLT := hidd (KP.out.fw Q rfl).2
      have hadW : (ad.add (i * 3)).block < W0.heap.size := by rw [block_of_add]; exact hadb
      have KS : Hid (∀ Y : World, Below W0.heap.size W0 Y → SA ad i kd a z Y) := hidd (fun Y hb => ⟨(hb.cell (p := ad.add (i * 3)) hadW).trans x00, (hb.cell (p := ⟨(ad.add (i * 3)).block, (ad.add (i * 3)).off + 1, none⟩) hadW).trans x01, (hb.cell (p := ⟨(ad.add (i * 3)).block, (ad.add (i * 3)).off + 2, none⟩) hadW).trans x02⟩)
      generalize hNL : L.length = N at *
      have HNL := hidd hNL
      clear hNL hTN hLN hnow x00 x01 x02 QR9
      go_wp2_with fail
      refine wp_region_held_drew (S := (fun Y => SA ad i kd a z Y)) (by kernel_rfl) (KS.out _ (AK.out _ (Below.drew (Below.refl wr.heap.size _)))) (fun hH => ?_)
      refine wpAnyH_take (i := 0) (v := ?va0_1) (by (conv => lhs; simp only [List.getElem?_toArray, List.getElem?_cons_succ, List.getElem?_cons_zero])) (by kernel_rfl) (by kernel_rfl) (by kernel_rfl) ?hQ (Or.inl ⟨by rfl, ?hya0_1⟩) hH ?resta0_1
      case hQ => exact fun _ _ _ h => h
      case hya0_1 => (intro Y hY; obtain ⟨y0, y1, y2⟩ := hY; go_simp; try (with_reducible rfl))
      try simp only [Act.put, List.setIfInBounds_toArray, List.set_cons_zero, List.set_cons_succ]
      refine wpAnyH_take (i := 2) (v := ?va2_2) (by (conv => lhs; simp only [List.getElem?_toArray, List.getElem?_cons_succ, List.getElem?_cons_zero])) (by kernel_rfl) (by kernel_rfl) (by kernel_rfl) ?hQ (Or.inl ⟨by rfl, ?hya2_2⟩) hH ?resta2_2
      case hQ => exact fun _ _ _ h => h
      case hya2_2 => (intro Y hY; obtain ⟨y0, y1, y2⟩ := hY; go_simp; try (with_reducible rfl))
      try simp only [Act.put, List.setIfInBounds_toArray, List.set_cons_zero, List.set_cons_succ]
      refine wpAnyH_take (i := 3) (v := ?va3_3) (by (conv => lhs; simp only [List.getElem?_toArray, List.getElem?_cons_succ, List.getElem?_cons_zero])) (by kernel_rfl) (by kernel_rfl) (by kernel_rfl) ?hQ (Or.inl ⟨by rfl, ?hya3_3⟩) hH ?resta3_3
      case hQ => exact fun _ _ _ h => h
      case hya3_3 => (intro Y hY; obtain ⟨y0, y1, y2⟩ := hY; go_simp; try (with_reducible rfl))
      try simp only [Act.put, List.setIfInBounds_toArray, List.set_cons_zero, List.set_cons_succ]
      refine wpAnyH_take (i := 4) (v := ?va4_4) (by (conv => lhs; simp only [List.getElem?_toArray, List.getElem?_cons_succ, List.getElem?_cons_zero])) (by kernel_rfl) (by kernel_rfl) (by kernel_rfl) ?hQ (Or.inl ⟨by rfl, ?hya4_4⟩) hH ?resta4_4
      case hQ => exact fun _ _ _ h => h
      case hya4_4 => (intro Y hY; obtain ⟨y0, y1, y2⟩ := hY; go_simp; try (with_reducible rfl))
      try simp only [Act.put, List.setIfInBounds_toArray, List.set_cons_zero, List.set_cons_succ]
      refine wpAnyH_take (i := 5) (v := ?va5_5) (by (conv => lhs; simp only [List.getElem?_toArray, List.getElem?_cons_succ, List.getElem?_cons_zero])) (by kernel_rfl) (by kernel_rfl) (by kernel_rfl) ?hQ (Or.inl ⟨by rfl, ?hya5_5⟩) hH ?resta5_5
      case hQ => exact fun _ _ _ h => h
      case hya5_5 => (intro Y hY; obtain ⟨y0, y1, y2⟩ := hY; go_simp; try (with_reducible rfl))
      try simp only [Act.put, List.setIfInBounds_toArray, List.set_cons_zero, List.set_cons_succ]
      refine wpAnyH_ready (rs := [1]) (by kernel_rfl) (by simp) ?_
      refine AllReadyH.cons (by (conv => lhs; simp only [List.getElem?_toArray, List.getElem?_cons_succ, List.getElem?_cons_zero])) (fun K hK => ?_) AllReadyH.nil
      obtain ⟨c0, c1, c2, c3, c4, c5, c6, c7, c8⟩ := QR.out.cells
      go_simp
      refine hK.out _ _ hH (fun hH0 => ?_)
      clear hK hH c0 c1 c2 c3 c4 c5 c6 c7 c8
      try simp only [Act.put, List.setIfInBounds_toArray, List.set_cons_zero, List.set_cons_succ]
      refine wpAnyH_ready (rs := [6]) (by kernel_rfl) (by simp) ?_
      refine AllReadyH.cons (by (conv => lhs; simp only [List.getElem?_toArray, List.getElem?_cons_succ, List.getElem?_cons_zero])) (fun K hK => ?_) AllReadyH.nil
      go_simp
      go_at_call 8; refine (cD.out _ _ (KP.out.below (Below.drew (Below.refl _ _)))).mono ?_; rintro e w5 ⟨s', T', L', TA', tc', LA', lc', OA, on, oc, rfl, hP5, hF5⟩
      generalize hTN' : T'.length = TN' at *
      generalize hLN' : L'.length = LN' at *
      obtain ⟨now', hnow'⟩ : ∃ now', s'.1 = now' := ⟨_, rfl⟩
      rw [hnow']
      have HTN' := hidd hTN'
      have HLN' := hidd hLN'
      have HNOW' := hidd hnow'
      have P5 := hidd hP5
      have q5 : w5.heap[Q]? = wr.heap[Q]? := hF5 Q rfl
      have Q5 := hidd q5
      clear hP5 hF5 hTN' hLN' hnow'
      refine hK.out _ _ (KS.out _ (BK.out _ P5.out.bel)) (fun hH1 => ?_)
      clear hK hH0 q5
      try simp only [Act.put, List.setIfInBounds_toArray, List.set_cons_zero, List.set_cons_succ]
      refine wpAnyH_take (i := 7) (v := ?va7_6) (by (conv => lhs; simp only [List.getElem?_toArray, List.getElem?_cons_succ, List.getElem?_cons_zero])) (by kernel_rfl) (by kernel_rfl) (by kernel_rfl) ?hQ (Or.inl ⟨by rfl, ?hya7_6⟩) hH1 ?resta7_6
      case hQ => exact fun _ _ _ h => h
      case hya7_6 => (intro Y hY; obtain ⟨y0, y1, y2⟩ := hY; go_simp; try (with_reducible rfl))
      try simp only [Act.put, List.setIfInBounds_toArray, List.set_cons_zero, List.set_cons_succ]
      refine wpAnyH_take (i := 8) (v := ?va8_7) (by (conv => lhs; simp only [List.getElem?_toArray, List.getElem?_cons_succ, List.getElem?_cons_zero])) (by kernel_rfl) (by kernel_rfl) (by kernel_rfl) ?hQ (Or.inl ⟨by rfl, ?hya8_7⟩) hH1 ?resta8_7
      case hQ => exact fun _ _ _ h => h
      case hya8_7 => (intro Y hY; obtain ⟨y0, y1, y2⟩ := hY; go_simp; try (with_reducible rfl))
      try simp only [Act.put, List.setIfInBounds_toArray, List.set_cons_zero, List.set_cons_succ]
      refine wpAnyH_take (i := 9) (v := ?va9_8) (by (conv => lhs; simp only [List.getElem?_toArray, List.getElem?_cons_succ, List.getElem?_cons_zero])) (by kernel_rfl) (by kernel_rfl) (by kernel_rfl) ?hQ (Or.inl ⟨by rfl, ?hya9_8⟩) hH1 ?resta9_8
      case hQ => exact fun _ _ _ h => h
      case hya9_8 => (intro Y hY; obtain ⟨y0, y1, y2⟩ := hY; go_simp; try (with_reducible rfl))
      try simp only [Act.put, List.setIfInBounds_toArray, List.set_cons_zero, List.set_cons_succ]
      refine wpAnyH_take (i := 10) (v := ?va10_9) (by (conv => lhs; simp only [List.getElem?_toArray, List.getElem?_cons_succ, List.getElem?_cons_zero])) (by kernel_rfl) (by kernel_rfl) (by kernel_rfl) ?hQ (Or.inl ⟨by rfl, ?hya10_9⟩) hH1 ?resta10_9
      case hQ => exact fun _ _ _ h => h
      case hya10_9 => (intro Y hY; obtain ⟨y0, y1, y2⟩ := hY; go_simp; try (with_reducible rfl))
      try simp only [Act.put, List.setIfInBounds_toArray, List.set_cons_zero, List.set_cons_succ]
      refine wpAnyH_ready (rs := [11]) (by kernel_rfl) (by simp) ?_
      refine AllReadyH.cons (by (conv => lhs; simp only [List.getElem?_toArray, List.getElem?_cons_succ, List.getElem?_cons_zero])) (fun K hK => ?_) AllReadyH.nil
      clear hH1
      have hrow := Q5.out.trans QR.out
      unfold GQ at hrow
      rw [if_pos (by rfl)]
      refine wp_store_row 35 (.tmp 9) (.tmp 49) (by rfl) Q #[.int .i64 p, .int .i64 r, .int .i64 u, .int .i64 m, .int .i64 l, .slice TA' TN' tc', .int .i64 now', .int .i64 5000, .slice LA' LN' lc'] (by rfl) (by rfl) _ _ hrow (by kernel_rfl) (by rfl) (by simp [Value.oneCell']) ?_
      have hrow2 := setRow_heap w5 Q _ #[.int .i64 p, .int .i64 r, .int .i64 u, .int .i64 m, .int .i64 l, .slice TA' TN' tc', .int .i64 now', .int .i64 5000, .slice LA' LN' lc'] _ _ hrow
      have SR : Sav (fun k => k = Q) w5 (w5.setRow Q #[.int .i64 p, .int .i64 r, .int .i64 u, .int .i64 m, .int .i64 l, .slice TA' TN' tc', .int .i64 now', .int .i64 5000, .slice LA' LN' lc']) := Sav.row (q := Q) (Below.refl _ _)
      have P6 := hidd (P5.out.sav SR)
      have R2 := hidd (show GQ (w5.setRow Q #[.int .i64 p, .int .i64 r, .int .i64 u, .int .i64 m, .int .i64 l, .slice TA' TN' tc', .int .i64 now', .int .i64 5000, .slice LA' LN' lc']) Q p r u m l TA' TN' tc' now' 5000 LA' LN' lc' from hrow2)
      clear hrow2 SR hrow
      obtain ⟨w6, hw6⟩ : ∃ w6, w5.setRow Q #[.int .i64 p, .int .i64 r, .int .i64 u, .int .i64 m, .int .i64 l, .slice TA' TN' tc', .int .i64 now', .int .i64 5000, .slice LA' LN' lc'] = w6 := ⟨_, rfl⟩
      rw [hw6] at P6 R2
      rw [hw6]
      clear hw6
      refine hK.out _ _ (KS.out _ (BK.out _ P6.out.bel)) (fun hH3 => ?_)
      clear hK
      try simp only [Act.put]
      refine wpAnyH_done (by kernel_rfl) (?_) _
      clear hH3
      go_wp2_with fail
      have hk := HK.out
      have hN := HNL.out
      go_roundg (gk - 1)
      case measure => omega
      case rel => exact ⟨i + 1, s', T', L', TA', tc', LA', lc', by omega, by omega, by go_num, by rw [HTN'.out, HLN'.out, HNOW'.out]; exact R2.out, P6.out⟩
    · have z1 : ¬ (i : Int) < (L.length : Int) := by omega
      have hiL : i = L.length := by omega
      have HIL := hidd (show i + M.length ≤ 40 from by have := H40.out; omega)
      obtain ⟨wo, hwo⟩ : ∃ wo : World, wo = wr := ⟨_, rfl⟩
      subst hwo
      obtain ⟨gx, bx, vx, hSx, -⟩ := KP.out.sh
      have cC := hidd (shCopy_any hSx)
      unfold CopyEnd at cC
      generalize hTN : T.length = TN at *
      generalize hLN : Lw.length = LN at *
      obtain ⟨now, hnow⟩ : ∃ now, s.1 = now := ⟨_, rfl⟩
      have QR := hidd (show GQ wo Q p r u m l TA TN tc now 5000 LA LN lc from by have q := QR9.out; rw [hnow] at q; exact q)
      have HTN := hidd hTN
      have HLN := hidd hLN
      have HNOW := hidd hnow
      generalize hNL : L.length = N at *
      clear hTN hLN hnow hNL HL LW QR9 hSx HK hiL
      go_wp2_with fail
      refine cC.out.mono ?_
      rintro e w7 ⟨h', g', b', v', rfl, hSc, hgec, hb7⟩
      have HB7 := hidd hb7
      have SC := hidd hSc
      have GEC := hidd hgec
      have Q7 := hidd (show GQ w7 Q p r u m l TA TN tc now 5000 LA LN lc from (hb7.block _ (KP.out.fw Q rfl).2).trans QR.out)
      clear hb7 hSc hgec cC
      obtain ⟨c0, c1, c2, c3, c4, c5, c6, c7, c8⟩ := Q7.out.cells
      go_wp2_with fail
      obtain ⟨W8, hW8⟩ : ∃ W8 : World, w7.alloc (.cells #[.int .i64 p, .int .i64 r, .int .i64 u, .int .i64 m, .int .i64 l, .slice TA TN tc, .int .i64 now, .int .i64 5000, .slice LA LN lc] 35) = W8 := ⟨_, rfl⟩
      obtain ⟨Q2, hQ2⟩ : ∃ Q2, w7.heap.size = Q2 := ⟨_, rfl⟩
      have B78 := hidd (show Below w7.heap.size w7 W8 from by rw [← hW8]; exact below_new (Below.refl _ _) _)
      have QR2 := hidd (show GQ W8 Q2 p r u m l TA T.length tc s.1 5000 LA Lw.length lc from by rw [← hW8, ← hQ2, HTN.out, HLN.out, HNOW.out]; exact World.alloc_heap_new w7 _)
      have HQ2 := hidd hQ2
      have PP2 : Hid (PP (fun k => k = Q2) wo.heap.size wo h' p r u m l 5000 s T Lw TA LA lc (i + 0) W8) := hidd (by
        have b8 : Below wo.heap.size wo W8 := HB7.out.trans (B78.out.mono HB7.out.size)
        have h7 := HB7.out.size
        have h8 := B78.out.size
        refine ⟨⟨g', b', v', SC.out.below B78.out, GEC.out, fun hl ad e hb => ?_, fun hl ad e hb => ?_, fun k hk hb => ?_⟩, KP.out.tl.below b8, KP.out.ll.below b8, KP.out.inv, KP.out.lc, KP.out.sm, b8, b8.size, fun k hk hl ad e => ?_, fun k hk hl ad e => ?_, fun k hk => ⟨by subst hk; have := HQ2.out; omega, by subst hk; exact (Array.getElem?_eq_some_iff.1 QR2.out).1⟩⟩
        · obtain ⟨ad', e', hB, _⟩ := KP.out.tl hl
          rw [e] at e'; cases e'
          have := GEC.out _ hb; omega
        · obtain ⟨ad', e', hB, _⟩ := KP.out.ll hl
          rw [e] at e'; cases e'
          have := GEC.out _ hb; omega
        · have := SC.out.lt hb; have := HQ2.out; omega
        · obtain ⟨ad', e', hB, _⟩ := KP.out.tl hl
          rw [e] at e'; cases e'
          have := HQ2.out; omega
        · obtain ⟨ad', e', hB, _⟩ := KP.out.ll hl
          rw [e] at e'; cases e'
          have := HQ2.out; omega)
      rw [hW8, hQ2]
      have W0O := hidd KP.out.bel
      have PPA := hidd KP.out
      obtain ⟨i1, hi1⟩ : ∃ x, x = i := ⟨_, rfl⟩
      subst hi1
      obtain ⟨sA, hsA⟩ : ∃ x, x = s := ⟨_, rfl⟩
      subst hsA
      obtain ⟨TX, hTX⟩ : ∃ x, x = T := ⟨_, rfl⟩
      subst hTX
      obtain ⟨LX, hLX⟩ : ∃ x, x = Lw := ⟨_, rfl⟩
      subst hLX
      obtain ⟨TAx, hTAx⟩ : ∃ x, x = TA := ⟨_, rfl⟩
      subst hTAx
      obtain ⟨LAx, hLAx⟩ : ∃ x, x = LA := ⟨_, rfl⟩
      subst hLAx
      obtain ⟨tcx, htcx⟩ : ∃ x, x = tc := ⟨_, rfl⟩
      subst htcx
      obtain ⟨lcx, hlcx⟩ : ∃ x, x = lc := ⟨_, rfl⟩
      subst hlcx
      obtain ⟨nowx, hnowx⟩ : ∃ x, x = now := ⟨_, rfl⟩
      subst hnowx
      obtain ⟨TNx, hTNx⟩ : ∃ x, x = TN := ⟨_, rfl⟩
      subst hTNx
      obtain ⟨LNx, hLNx⟩ : ∃ x, x = LN := ⟨_, rfl⟩
      subst hLNx
      clear hW8 hQ2 SC GEC B78 HB7 c0 c1 c2 c3 c4 c5 c6 c7 c8 KP Q7
      go_loopg [14] (M.length + 1) (fun gk s14 wr => ∃ (j : Nat) (t : BM.St) (TB Lv : List (Int × Int)) (TD : Option Addr) (td : Nat) (LD : Option Addr) (ld : Nat), j ≤ M.length ∧ j + gk = M.length + 1 ∧ s14 = .int .i64 (j : Int) ∧ GQ wr Q2 p r u m l TD TB.length td t.1 5000 LD Lv.length ld ∧ PP (fun k => k = Q2) wo.heap.size wo h' p r u m l 5000 t TB Lv TD LD ld (i1 + j) wr)
      case atStart => exact ⟨0, sA, TX, LX, TAx, tcx, LAx, lcx, by omega, by omega, rfl, QR2.out, PP2.out⟩
      case round =>
        clear PP2 QR2
        obtain ⟨i, s, T, Lw, TA, tc, LA, lc, hi, hk, rfl, hQR, hPP⟩ := hrel
        have HK := hidd hk
        have KP := hidd hPP
        have QR9 := hidd hQR
        clear hk hPP hQR
        by_cases hlt : i < M.length
        · have z1 : (i : Int) < (M.length : Int) := by omega
          have z0 : (0 : Int) ≤ (i : Int) := by omega
          have AK : Hid (∀ Y, Below wr.heap.size wr Y → Below W0.heap.size W0 Y) := hidd (fun Y hb => (W0O.out.trans (KP.out.bel.mono W0O.out.size)).trans (hb.mono (Nat.le_trans W0O.out.size KP.out.bel.size)))
          have BK : Hid (∀ Y, Below wo.heap.size wo Y → Below W0.heap.size W0 Y) := hidd (fun Y hb => W0O.out.trans (hb.mono W0O.out.size))
          obtain ⟨ad, rfl, hadb, x0, x1, x2⟩ := (MW.out.keep (AK.out wr (Below.refl _ _))).actR i hlt
          obtain ⟨ad2, e2, -, x00, x01, x02⟩ := MW.out.actR i hlt
          cases e2
          have cD := hidd (fun F' Y (H : PP F' wo.heap.size wo h' p r u m l 5000 s T Lw TA LA lc (i1 + i) Y) => doesP H tc (by omega) M[i].1 M[i].2.1 M[i].2.2)
          unfold gS DoesEnd gS at cD
          generalize M[i].1 = kd at *
          generalize M[i].2.1 = a at *
          generalize M[i].2.2 = z at *
          generalize hTN : T.length = TN at *
          generalize hLN : Lw.length = LN at *
          obtain ⟨now, hnow⟩ : ∃ now, s.1 = now := ⟨_, rfl⟩
          rw [hnow] at cD
          have QR := hidd (show GQ wr Q2 p r u m l TA TN tc now 5000 LA LN lc from by have q := QR9.out; rw [hnow] at q; exact q)
          have QLT := hidd (KP.out.fw Q2 rfl).2
          have hadW : (ad.add (i * 3)).block < W0.heap.size := by rw [block_of_add]; exact hadb
          have KS : Hid (∀ Y : World, Below W0.heap.size W0 Y → SA ad i kd a z Y) := hidd (fun Y hb => ⟨(hb.cell (p := ad.add (i * 3)) hadW).trans x00, (hb.cell (p := ⟨(ad.add (i * 3)).block, (ad.add (i * 3)).off + 1, none⟩) hadW).trans x01, (hb.cell (p := ⟨(ad.add (i * 3)).block, (ad.add (i * 3)).off + 2, none⟩) hadW).trans x02⟩)
          generalize hNL : M.length = N at *
          have HNL := hidd hNL
          clear hNL hTN hLN hnow x00 x01 x02 QR9
          go_wp2_with fail
          refine wp_region_held_drew (S := (fun Y => SA ad i kd a z Y)) (by kernel_rfl) (KS.out _ (AK.out _ (Below.drew (Below.refl wr.heap.size _)))) (fun hH => ?_)
          refine wpAnyH_take (i := 0) (v := ?vb0_1) (by (conv => lhs; simp only [List.getElem?_toArray, List.getElem?_cons_succ, List.getElem?_cons_zero])) (by kernel_rfl) (by kernel_rfl) (by kernel_rfl) ?hQ (Or.inl ⟨by rfl, ?hyb0_1⟩) hH ?restb0_1
          case hQ => exact fun _ _ _ h => h
          case hyb0_1 => (intro Y hY; obtain ⟨y0, y1, y2⟩ := hY; go_simp; try (with_reducible rfl))
          try simp only [Act.put, List.setIfInBounds_toArray, List.set_cons_zero, List.set_cons_succ]
          refine wpAnyH_take (i := 2) (v := ?vb2_2) (by (conv => lhs; simp only [List.getElem?_toArray, List.getElem?_cons_succ, List.getElem?_cons_zero])) (by kernel_rfl) (by kernel_rfl) (by kernel_rfl) ?hQ (Or.inl ⟨by rfl, ?hyb2_2⟩) hH ?restb2_2
          case hQ => exact fun _ _ _ h => h
          case hyb2_2 => (intro Y hY; obtain ⟨y0, y1, y2⟩ := hY; go_simp; try (with_reducible rfl))
          try simp only [Act.put, List.setIfInBounds_toArray, List.set_cons_zero, List.set_cons_succ]
          refine wpAnyH_take (i := 3) (v := ?vb3_3) (by (conv => lhs; simp only [List.getElem?_toArray, List.getElem?_cons_succ, List.getElem?_cons_zero])) (by kernel_rfl) (by kernel_rfl) (by kernel_rfl) ?hQ (Or.inl ⟨by rfl, ?hyb3_3⟩) hH ?restb3_3
          case hQ => exact fun _ _ _ h => h
          case hyb3_3 => (intro Y hY; obtain ⟨y0, y1, y2⟩ := hY; go_simp; try (with_reducible rfl))
          try simp only [Act.put, List.setIfInBounds_toArray, List.set_cons_zero, List.set_cons_succ]
          refine wpAnyH_take (i := 4) (v := ?vb4_4) (by (conv => lhs; simp only [List.getElem?_toArray, List.getElem?_cons_succ, List.getElem?_cons_zero])) (by kernel_rfl) (by kernel_rfl) (by kernel_rfl) ?hQ (Or.inl ⟨by rfl, ?hyb4_4⟩) hH ?restb4_4
          case hQ => exact fun _ _ _ h => h
          case hyb4_4 => (intro Y hY; obtain ⟨y0, y1, y2⟩ := hY; go_simp; try (with_reducible rfl))
          try simp only [Act.put, List.setIfInBounds_toArray, List.set_cons_zero, List.set_cons_succ]
          refine wpAnyH_take (i := 5) (v := ?vb5_5) (by (conv => lhs; simp only [List.getElem?_toArray, List.getElem?_cons_succ, List.getElem?_cons_zero])) (by kernel_rfl) (by kernel_rfl) (by kernel_rfl) ?hQ (Or.inl ⟨by rfl, ?hyb5_5⟩) hH ?restb5_5
          case hQ => exact fun _ _ _ h => h
          case hyb5_5 => (intro Y hY; obtain ⟨y0, y1, y2⟩ := hY; go_simp; try (with_reducible rfl))
          try simp only [Act.put, List.setIfInBounds_toArray, List.set_cons_zero, List.set_cons_succ]
          refine wpAnyH_ready (rs := [1]) (by kernel_rfl) (by simp) ?_
          refine AllReadyH.cons (by (conv => lhs; simp only [List.getElem?_toArray, List.getElem?_cons_succ, List.getElem?_cons_zero])) (fun K hK => ?_) AllReadyH.nil
          obtain ⟨c0, c1, c2, c3, c4, c5, c6, c7, c8⟩ := QR.out.cells
          go_simp
          refine hK.out _ _ hH (fun hH0 => ?_)
          clear hK hH c0 c1 c2 c3 c4 c5 c6 c7 c8
          try simp only [Act.put, List.setIfInBounds_toArray, List.set_cons_zero, List.set_cons_succ]
          refine wpAnyH_ready (rs := [6]) (by kernel_rfl) (by simp) ?_
          refine AllReadyH.cons (by (conv => lhs; simp only [List.getElem?_toArray, List.getElem?_cons_succ, List.getElem?_cons_zero])) (fun K hK => ?_) AllReadyH.nil
          go_simp
          go_at_call 8; refine (cD.out _ _ (KP.out.below (Below.drew (Below.refl _ _)))).mono ?_; rintro e w5 ⟨s', T', L', TA', tc', LA', lc', OA, on, oc, rfl, hP5, hF5⟩
          generalize hTN' : T'.length = TN' at *
          generalize hLN' : L'.length = LN' at *
          obtain ⟨now', hnow'⟩ : ∃ now', s'.1 = now' := ⟨_, rfl⟩
          rw [hnow']
          have HTN' := hidd hTN'
          have HLN' := hidd hLN'
          have HNOW' := hidd hnow'
          have P5 := hidd hP5
          have q5 : w5.heap[Q2]? = wr.heap[Q2]? := hF5 Q2 rfl
          have Q5 := hidd q5
          clear hP5 hF5 hTN' hLN' hnow'
          refine hK.out _ _ (KS.out _ (BK.out _ P5.out.bel)) (fun hH1 => ?_)
          clear hK hH0 q5
          try simp only [Act.put, List.setIfInBounds_toArray, List.set_cons_zero, List.set_cons_succ]
          refine wpAnyH_take (i := 7) (v := ?vb7_6) (by (conv => lhs; simp only [List.getElem?_toArray, List.getElem?_cons_succ, List.getElem?_cons_zero])) (by kernel_rfl) (by kernel_rfl) (by kernel_rfl) ?hQ (Or.inl ⟨by rfl, ?hyb7_6⟩) hH1 ?restb7_6
          case hQ => exact fun _ _ _ h => h
          case hyb7_6 => (intro Y hY; obtain ⟨y0, y1, y2⟩ := hY; go_simp; try (with_reducible rfl))
          try simp only [Act.put, List.setIfInBounds_toArray, List.set_cons_zero, List.set_cons_succ]
          refine wpAnyH_take (i := 8) (v := ?vb8_7) (by (conv => lhs; simp only [List.getElem?_toArray, List.getElem?_cons_succ, List.getElem?_cons_zero])) (by kernel_rfl) (by kernel_rfl) (by kernel_rfl) ?hQ (Or.inl ⟨by rfl, ?hyb8_7⟩) hH1 ?restb8_7
          case hQ => exact fun _ _ _ h => h
          case hyb8_7 => (intro Y hY; obtain ⟨y0, y1, y2⟩ := hY; go_simp; try (with_reducible rfl))
          try simp only [Act.put, List.setIfInBounds_toArray, List.set_cons_zero, List.set_cons_succ]
          refine wpAnyH_take (i := 9) (v := ?vb9_8) (by (conv => lhs; simp only [List.getElem?_toArray, List.getElem?_cons_succ, List.getElem?_cons_zero])) (by kernel_rfl) (by kernel_rfl) (by kernel_rfl) ?hQ (Or.inl ⟨by rfl, ?hyb9_8⟩) hH1 ?restb9_8
          case hQ => exact fun _ _ _ h => h
          case hyb9_8 => (intro Y hY; obtain ⟨y0, y1, y2⟩ := hY; go_simp; try (with_reducible rfl))
          try simp only [Act.put, List.setIfInBounds_toArray, List.set_cons_zero, List.set_cons_succ]
          refine wpAnyH_take (i := 10) (v := ?vb10_9) (by (conv => lhs; simp only [List.getElem?_toArray, List.getElem?_cons_succ, List.getElem?_cons_zero])) (by kernel_rfl) (by kernel_rfl) (by kernel_rfl) ?hQ (Or.inl ⟨by rfl, ?hyb10_9⟩) hH1 ?restb10_9
          case hQ => exact fun _ _ _ h => h
          case hyb10_9 => (intro Y hY; obtain ⟨y0, y1, y2⟩ := hY; go_simp; try (with_reducible rfl))
          try simp only [Act.put, List.setIfInBounds_toArray, List.set_cons_zero, List.set_cons_succ]
          refine wpAnyH_ready (rs := [11]) (by kernel_rfl) (by simp) ?_
          refine AllReadyH.cons (by (conv => lhs; simp only [List.getElem?_toArray, List.getElem?_cons_succ, List.getElem?_cons_zero])) (fun K hK => ?_) AllReadyH.nil
          clear hH1
          have hrow := Q5.out.trans QR.out
          unfold GQ at hrow
          rw [if_pos (by rfl)]
          refine wp_store_row 35 (.tmp 13) (.tmp 69) (by rfl) Q2 #[.int .i64 p, .int .i64 r, .int .i64 u, .int .i64 m, .int .i64 l, .slice TA' TN' tc', .int .i64 now', .int .i64 5000, .slice LA' LN' lc'] (by rfl) (by rfl) _ _ hrow (by kernel_rfl) (by rfl) (by simp [Value.oneCell']) ?_
          have hrow2 := setRow_heap w5 Q2 _ #[.int .i64 p, .int .i64 r, .int .i64 u, .int .i64 m, .int .i64 l, .slice TA' TN' tc', .int .i64 now', .int .i64 5000, .slice LA' LN' lc'] _ _ hrow
          have SR : Sav (fun k => k = Q2) w5 (w5.setRow Q2 #[.int .i64 p, .int .i64 r, .int .i64 u, .int .i64 m, .int .i64 l, .slice TA' TN' tc', .int .i64 now', .int .i64 5000, .slice LA' LN' lc']) := Sav.row (q := Q2) (Below.refl _ _)
          have P6 := hidd (P5.out.sav SR)
          have R2 := hidd (show GQ (w5.setRow Q2 #[.int .i64 p, .int .i64 r, .int .i64 u, .int .i64 m, .int .i64 l, .slice TA' TN' tc', .int .i64 now', .int .i64 5000, .slice LA' LN' lc']) Q2 p r u m l TA' TN' tc' now' 5000 LA' LN' lc' from hrow2)
          clear hrow2 SR hrow
          obtain ⟨w6, hw6⟩ : ∃ w6, w5.setRow Q2 #[.int .i64 p, .int .i64 r, .int .i64 u, .int .i64 m, .int .i64 l, .slice TA' TN' tc', .int .i64 now', .int .i64 5000, .slice LA' LN' lc'] = w6 := ⟨_, rfl⟩
          rw [hw6] at P6 R2
          rw [hw6]
          clear hw6
          refine hK.out _ _ (KS.out _ (BK.out _ P6.out.bel)) (fun hH3 => ?_)
          clear hK
          try simp only [Act.put]
          refine wpAnyH_done (by kernel_rfl) (?_) _
          clear hH3
          go_wp2_with fail
          have hk := HK.out
          have hN := HNL.out
          go_roundg (gk - 1)
          case measure => omega
          case rel => exact ⟨i + 1, s', T', L', TA', tc', LA', lc', by omega, by omega, by go_num, by rw [HTN'.out, HLN'.out, HNOW'.out]; exact R2.out, P6.out⟩
        · have z1 : ¬ (i : Int) < (M.length : Int) := by omega
          clear HM MW HK H40 HIL
          generalize hNM : M.length = N3 at *
          clear hNM
          obtain ⟨gA, bA, vA, hSA, -⟩ := PPA.out.sh
          obtain ⟨gB, bB, vB, hSB, -⟩ := KP.out.sh
          have HSA := hidd (hSA.below KP.out.bel)
          have HSB := hidd hSB
          have PA := hidd (PPA.out.below KP.out.bel)
          have cS1 := hidd (fun Y (hb : Below wr.heap.size wr Y) => sameP (PA.out.below hb) tcx)
          have cS2 := hidd (fun Y (hb : Below wr.heap.size wr Y) => sameP (KP.out.below hb) tc)
          have LEN9 := hidd (show LX.length ≤ 1000000000 ∧ Lw.length ≤ 1000000000 from ⟨by have := HSA.out.len; omega, by have := HSB.out.len; omega⟩)
          have cR := hidd (fun Y (hb : Below wr.heap.size wr Y) => refSame_any LAx LA LX Lw lcx lc LEN9.out.1 LEN9.out.2 Y (PA.out.ll.below hb) (KP.out.ll.below hb))
          have cE : Hid (¬ LX = Lw → ∀ Y, Below wr.heap.size wr Y → Calls Try.prog 13 #[.pointer (some ⟨h, 0, none⟩), .pointer (some ⟨h', 0, none⟩)] Y fun e w' => e = .returned (.bool false) ∧ Below Y.heap.size Y w') := hidd (fun hne Y hb => (shSame_any (HSA.out.below hb) (HSB.out.below hb)).mono (by
            rintro e w' ⟨rfl, h9⟩
            exact ⟨by rw [decide_eq_false hne, Bool.and_false], h9⟩))
          have cC2 := hidd (fun Y (hb : Below wr.heap.size wr Y) => shCopy_any (HSA.out.below hb))
          unfold CopyEnd at cC2
          have cE2 : Hid (∀ Y, Below wr.heap.size wr Y → ∀ h5 g5 b5 v5, ShAt Y h5 g5 b5 v5 p r u m l sA 5000 LX → Calls Try.prog 13 #[.pointer (some ⟨h, 0, none⟩), .pointer (some ⟨h5, 0, none⟩)] Y fun e w' => e = .returned (.bool true) ∧ Below Y.heap.size Y w') := hidd (fun Y hb h5 g5 b5 v5 hS5 => (shSame_any (HSA.out.below hb) hS5).mono (by
            rintro e w' ⟨rfl, h9⟩
            exact ⟨by simp, h9⟩))
          have cN := hidd (fun Y (hb : Below wr.heap.size wr Y) => same_xnil (HSA.out.below hb).h0)
          have HBW := hidd (B0.out.trans ((W0O.out.trans (KP.out.bel.mono W0O.out.size)).mono B0.out.size))
          have QK : Hid (∀ Y, Below wr.heap.size wr Y → GQ Y Q p r u m l TAx TNx tcx nowx 5000 LAx LNx lcx) := hidd (fun Y hb => (hb.block _ (PA.out.fw Q rfl).2).trans ((KP.out.bel.block _ (PPA.out.fw Q rfl).2).trans QR.out))
          unfold gS at cS1 cS2
          rw [HTN.out, HLN.out, HNOW.out] at cS1
          rw [HLN.out] at cR
          generalize hTN2 : T.length = TN2 at *
          generalize hLN2 : Lw.length = LN2 at *
          obtain ⟨now2, hnow2⟩ : ∃ now2, s.1 = now2 := ⟨_, rfl⟩
          rw [hnow2] at cS2
          have QK2 : Hid (∀ Y, Below wr.heap.size wr Y → GQ Y Q2 p r u m l TA TN2 tc now2 5000 LA LN2 lc) := hidd (fun Y hb => by have q := (hb.block _ (KP.out.fw Q2 rfl).2).trans QR9.out; rw [hnow2] at q; exact q)
          clear hSA hSB hTN2 hLN2 hnow2 QR9 LEN9
          obtain ⟨RB, hRB⟩ : ∃ RB, decide (LX = Lw) = RB := ⟨_, rfl⟩
          rw [hRB] at cR
          obtain ⟨c0, c1, c2, c3, c4, c5, c6, c7, c8⟩ := (QK.out wr (Below.refl _ _)).cells
          go_wp2_with fail
          refine (cS1.out _ (Below.refl _ _)).mono ?_
          rintro e v1 ⟨rfl, hb1⟩
          have Bv1 := hidd hb1
          clear hb1 c0 c1 c2 c3 c4 c5 c6 c7 c8
          obtain ⟨d0, d1, d2, d3, d4, d5, d6, d7, d8⟩ := (QK2.out v1 Bv1.out).cells
          go_wp2_with fail
          refine (cS2.out v1 Bv1.out).mono ?_
          rintro e v2 ⟨rfl, hb2⟩
          have Bv2 := hidd (Bv1.out.trans (hb2.mono Bv1.out.size))
          clear hb2 d0 d1 d2 d3 d4 d5 d6 d7 d8
          obtain ⟨-, -, -, -, -, -, -, -, c8⟩ := (QK.out v2 Bv2.out).cells
          obtain ⟨-, -, -, -, -, -, -, -, d8⟩ := (QK2.out v2 Bv2.out).cells
          go_wp2_with fail
          refine (cR.out v2 Bv2.out).mono ?_
          rintro e v3 ⟨rfl, nq, hv3⟩
          have Bv3 := hidd (show Below wr.heap.size wr v3 from by rw [hv3]; exact below_drewN Bv2.out _)
          clear hv3 c8 d8
          cases RB
          · have cE3 := hidd (cE.out (of_decide_eq_false hRB) v3 Bv3.out)
            clear hRB
            go_wp2_with fail
            refine cE3.out.mono ?_
            rintro e v4 ⟨rfl, hb4⟩
            have Bv4 := hidd (Bv3.out.trans (hb4.mono Bv3.out.size))
            clear hb4
            go_wp2_with fail
            refine (cC2.out _ Bv4.out).mono ?_
            rintro e v5 ⟨h5, g5, b5, v5v, rfl, hS5, hge5, hb5⟩
            have Bv5 := hidd (Bv4.out.trans (hb5.mono Bv4.out.size))
            have cE5 := hidd (cE2.out v5 Bv5.out h5 g5 b5 v5v hS5)
            clear hb5 hS5 hge5
            go_wp2_with fail
            refine cE5.out.mono ?_
            rintro e v6 ⟨rfl, hb6⟩
            have Bv6 := hidd (Bv5.out.trans (hb6.mono Bv5.out.size))
            have cN6 := hidd (cN.out v6 Bv6.out)
            clear hb6
            go_wp2_with fail
            refine cN6.out.mono ?_
            rintro e v7 ⟨rfl, rfl⟩
            go_wp2_with fail
            refine (cK.out _).mono ?_
            rintro e v8 ⟨rfl, hb8⟩
            have Bv8 := hidd (Bv6.out.trans (hb8.mono Bv6.out.size))
            clear hb8
            go_wp2_with fail
            go_ret
            exact ⟨rfl, HBW.out.trans (Bv8.out.mono HBW.out.size)⟩
          · clear hRB
            go_wp2_with fail
            refine (cC2.out _ Bv3.out).mono ?_
            rintro e v5 ⟨h5, g5, b5, v5v, rfl, hS5, hge5, hb5⟩
            have Bv5 := hidd (Bv3.out.trans (hb5.mono Bv3.out.size))
            have cE5 := hidd (cE2.out v5 Bv5.out h5 g5 b5 v5v hS5)
            clear hb5 hS5 hge5
            go_wp2_with fail
            refine cE5.out.mono ?_
            rintro e v6 ⟨rfl, hb6⟩
            have Bv6 := hidd (Bv5.out.trans (hb6.mono Bv5.out.size))
            have cN6 := hidd (cN.out v6 Bv6.out)
            clear hb6
            go_wp2_with fail
            refine cN6.out.mono ?_
            rintro e v7 ⟨rfl, rfl⟩
            go_wp2_with fail
            refine (cK.out _).mono ?_
            rintro e v8 ⟨rfl, hb8⟩
            have Bv8 := hidd (Bv6.out.trans (hb8.mono Bv6.out.size))
            clear hb8
            go_wp2_with fail
            go_ret
            exact ⟨rfl, HBW.out.trans (Bv8.out.mono HBW.out.size)⟩
end Go.Proofs.Ythaiphkmkchhoaa

/- Whatever the spec and the calls ahead and behind, ShaperCopies answers true: copies go on apart, and Same tells what is the same; no conditions. -/
namespace Go.Proofs.Ythaiphkmkchhoaa.shaperCopies
open Go.ChangeShapes Go.WideShapes Go.ChangeAt Go.RowKit Go.Joins Go.Proofs.Ythaiphkmkchhoaa.RowK
set_option linter.unusedVariables false
set_option maxRecDepth 100000 in
theorem lifted (os : Os) (started : os.Started) (H : Type) (enc : TypeId × Value → H) :
    ReturnsInHanded {} Try.checked os 4 .any (Rows.shaperCopiesSpec.pre6 enc Try.prog Try.f4 Rows.shaperCopiesRow.domain false) (Rows.shaperCopiesSpec.post enc Try.prog Try.f4 false true false false) := by
  refine handed_sized (C := Try.checked) own started (by kernel_rfl) Try.func4
    (ChangeSpec.witness6 (enc := enc) (C := Try.checked) false ⟨#[], #[.agg #[.int .i64 0, .int .i64 0, .int .i64 0, .int .i64 0, .int .i64 0], .slice none 0 0, .slice none 0 0], []⟩ 8 (by kernel_rfl) (by kernel_rfl) (by kernel_rfl) (by kernel_rfl)) ?_
  intro W base args ds gs before hval0 hW hsz
  rw [Try.params4] at hsz
  have hval : ∀ (j : Nat) t v, Try.f4.params[j]? = some t → args[j]? = some v → Value.okWide Try.prog W .any base t v := hval0
  have hW' := hW
  obtain ⟨p, q, hA0, hV, rfl, hfz, hnd⟩ := hW
  have hA : DataW.TrodAll enc Try.prog W 0 (fun _ => true) true Try.f4.params.toList args.toList ds p := hA0
  rw [Try.params4] at hA hval
  obtain ⟨v0, vs0, d0, ds0, p0, q0, hargs, rfl, rfl, h0, r0⟩ := trodAll_cons hA
  obtain ⟨v1, vs1, d1, ds1, p1, q1, rfl, rfl, rfl, h1, r1⟩ := trodAll_cons r0
  obtain ⟨v2, vs2, d2, ds2, p2, q2, rfl, rfl, rfl, h2, r2⟩ := trodAll_cons r1
  obtain ⟨rfl, rfl, rfl⟩ := trodAll_nil r2
  obtain rfl : args = #[v0, v1, v2] := by cases args; simp_all
  obtain ⟨rfl, rfl⟩ := trodVars_none hV
  obtain ⟨a0, b0, c0, u0, g0, rfl⟩ := open_ints5 Try.underlying23 (by kernel_rfl) cellsSpec Try.underlying2 Try.underlying2 Try.underlying2 Try.underlying2 Try.underlying2 (hval 0 23 v0 rfl rfl) h0
  obtain ⟨A1, L1, c1, rfl, m1, l1⟩ : ∃ (A : Option Addr) (L : List (Int × Int × Int)) (c : Nat), v1 = .slice A L.length c ∧ L.length ≤ maxLen ∧ Lie actV 3 W W.heap.size A L := by
    obtain ⟨ptr, len, cap, rfl⟩ := okWide_slice Try.underlying24 (hval 1 24 v1 rfl rfl)
    obtain ⟨fuel, hf⟩ := h1
    obtain ⟨A, L, c, e, hh⟩ := open_acts hf
    exact ⟨A, L, c, by simpa [Value.cells] using e, hh⟩
  have z1 : L1.length ≤ 8796093022208 := by
    rcases Nat.eq_zero_or_pos L1.length with q | q
    · omega
    · have q1 := slice_reach hsz (j := 1) (t := 24) (e := 43) rfl rfl Try.underlying24 h1 q
      have q2 : Try.checked.prog.bytesOf 43 = 24 := by kernel_rfl
      rw [q2] at q1
      omega
  obtain ⟨A2, L2, c2, rfl, m2, l2⟩ : ∃ (A : Option Addr) (L : List (Int × Int × Int)) (c : Nat), v2 = .slice A L.length c ∧ L.length ≤ maxLen ∧ Lie actV 3 W W.heap.size A L := by
    obtain ⟨ptr, len, cap, rfl⟩ := okWide_slice Try.underlying24 (hval 2 24 v2 rfl rfl)
    obtain ⟨fuel, hf⟩ := h2
    obtain ⟨A, L, c, e, hh⟩ := open_acts hf
    exact ⟨A, L, c, by simpa [Value.cells] using e, hh⟩
  have z2 : L2.length ≤ 8796093022208 := by
    rcases Nat.eq_zero_or_pos L2.length with q | q
    · omega
    · have q1 := slice_reach hsz (j := 2) (t := 24) (e := 43) rfl rfl Try.underlying24 h2 q
      have q2 : Try.checked.prog.bytesOf 43 = 24 := by kernel_rfl
      rw [q2] at q1
      omega
  refine (Ythaiphkmkchhoaa.copies13_walk a0 b0 c0 u0 g0 A1 L1 c1 A2 L2 c2 z1 z2 W l1 l2).mono fun e W' ⟨he, hg⟩ => ?_
  subst he
  exact ⟨_, rfl, post_law laidOut (by rw [Try.params4]; intro t ht; simp at ht; rcases ht with rfl | rfl <;> exact ⟨by kernel_rfl, of_decide_eq_true (by kernel_rfl)⟩) hW' hA0 rfl (fun _ _ _ => (trodAll_cons_mk (shut_bool Try.underlying4 _) trodAll_mk0)) (fun _ => rfl) hg (ok_one (by kernel_rfl) rfl (okWide_bool_mk Try.underlying4 _))⟩

theorem over : Rows.shaperCopiesRow.holds Try.pinned (OpenSpec.ofChange Rows.shaperCopiesSpec) :=
  OpenClaim.holds_of_wide 4 Try.f4 rfl rfl rfl rfl rfl rfl rfl ⟨rfl, rfl, rfl, rfl, rfl⟩ rfl rfl rfl rfl rfl (by kernel_rfl) Try.func4 (by kernel_rfl)
    (of_decide_eq_true (by kernel_rfl)) (by unfold Func.isWrapper; first | (rw [if_pos (by decide +kernel)]; kernel_rfl) | (rw [if_neg (by decide +kernel)]; exact ⟨rfl, rfl⟩))
    (fun os started H enc _ => lifted os started H enc)
end Go.Proofs.Ythaiphkmkchhoaa.shaperCopies
namespace Go.Proofs.Ythaiphkmkchhoaa
/-- the given statement. -/
theorem shaperCopies_proved : Rows.ShaperCopiesSaid := shaperCopies.over
end Go.Proofs.Ythaiphkmkchhoaa

