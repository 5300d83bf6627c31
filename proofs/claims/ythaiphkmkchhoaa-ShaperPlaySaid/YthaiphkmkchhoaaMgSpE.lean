/- Texts that the claim hangs on, in one. -/
import Derived.Test.YthaiphkmkchhoaaMgSpD
import Derived.Test.YthaiphkmkchhoaaMgSpC
import Derived.Test.YthaiphkmkchhoaaMgSpB
import Derived.Test.YthaiphkmkchhoaaMgSpA
/- Shapers: ShaperNext's walk. -/
namespace Go.Proofs.Ythaiphkmkchhoaa
open Go.RowKit Go.Sort
set_option linter.unusedVariables false
/-- ahead of Next nothing goes. -/
theorem BM.when_none {p r u m l : Int} {s : BM.St} {L : List (Int × Int)} {t n : Int} (hr : rightB p r u m l = true) (hs : BM.Ok u m s) (hl : 0 < L.length) (ht : BM.IsWhen p r u m s s.1 L[0].2 t) (hn : BM.askB s n = true) (hlt : n < t) {k : Nat} {s' : BM.St} (hg : BM.Goes p r u m l (BM.step p r u m l s n 0).1 n L k s') : k = 0 := by
  rcases Nat.eq_zero_or_pos k with h0 | h0
  · exact h0
  · exfalso
    have hst := hg.all 0 hl h0
    have hb2 := rightB_iff hr
    obtain ⟨n0, n1⟩ := of_decide_eq_true hn
    have nofit : BM.fitB p r u m l s n 0 = false := by
      unfold BM.fitB BM.sizeB
      rw [decide_eq_false (by omega : ¬ (l ≤ 0 ∧ 0 ≤ m))]
      rfl
    have e1 : (BM.step p r u m l s n 0).1 = (n, BM.lev0 r u s n, BM.lev1 p m s n) := by unfold BM.step; rw [if_pos hn, if_neg (by rw [nofit]; simp)]
    have a0 : 0 ≤ BM.lev0 r u s n ∧ BM.lev0 r u s n ≤ u := BM.later_bd (by omega)
    have a1 : 0 ≤ BM.lev1 p m s n ∧ BM.lev1 p m s n ≤ m := BM.later_bd (by omega)
    rw [BM.atK_zero, e1] at hst
    have hask2 : BM.askB (n, BM.lev0 r u s n, BM.lev1 p m s n) n = true := decide_eq_true ⟨Int.le_refl _, n1⟩
    have l0 : BM.lev0 r u (n, BM.lev0 r u s n, BM.lev1 p m s n) n = BM.lev0 r u s n := by
      show BM.later (BM.lev0 r u s n) u r (n - n) = _
      rw [show n - n = 0 by omega, BM.later_zero a0.1 a0.2]
    have l1 : BM.lev1 p m (n, BM.lev0 r u s n, BM.lev1 p m s n) n = BM.lev1 p m s n := by
      show BM.later (BM.lev1 p m s n) m p (n - n) = _
      rw [show n - n = 0 by omega, BM.later_zero a1.1 a1.2]
    have fit : BM.fitB p r u m l (n, BM.lev0 r u s n, BM.lev1 p m s n) n L[0].2 = false := by
      unfold BM.fitB
      rw [l0, l1, decide_eq_false (ht.2.2.2 n n0 hlt), Bool.and_false]
    unfold BM.step at hst
    rw [if_pos hask2, if_neg (by rw [fit]; simp)] at hst
    cases hst
/-- a shaper beside no lists. -/
theorem K2.of {h g b : Nat} {v : Value} {p r u m l : Int} {s : BM.St} {L : List (Int × Int)} {B : Nat} {w W : World} (hS : ShAt W h g b v p r u m l s 1000000000 L) (h1 : ∀ j, ShBlk h g b v j → B ≤ j) (hb : Below B w W) (hs : B ≤ W.heap.size) : K2 B w h p r u m l s L (.slice none 0 0) [] (.slice none 0 0) [] W :=
  ⟨⟨g, b, v, hS, h1, (fun q e => by cases e), (fun q e => by cases e)⟩, OwnL.nil _ _ _, OwnL.nil _ _ _, (fun q e => by cases e), hb, hs⟩
section
variable {B : Nat} {w : World} {h : Nat} {p r u m l : Int} {s : BM.St} {L : List (Int × Int)} {cv : Value} {C : List (Int × Int)} {gv : Value} {G : List (Int × Int)} {W W' : World}
theorem K2.does (H : K2 B w h p r u m l s L cv C gv G W) (k a z : Int) : Calls Try.prog 8 #[.pointer (some ⟨h, 0, none⟩), gS 0 0 0 0 0 none 0 0 0 0 none 0 0, .agg #[.int .i64 k, .int .i64 a, .int .i64 z]] W fun e W' => (∃ v, e = .returned v) ∧ ∃ s' L', K2 B w h p r u m l s' L' cv C gv G W' := by
  obtain ⟨g, b, v, hS, h1, h2, h3⟩ := H.sh
  refine (doesZ hS k a z).mono ?_
  rintro e W' ⟨he, v', s', L', hS', hs, hn⟩
  exact ⟨he, s', L', H.turn h1 h2 h3 hS' hs hn⟩
theorem K2.copy (H : K2 B w h p r u m l s L cv C gv G W) : Calls Try.prog 11 #[.pointer (some ⟨h, 0, none⟩)] W fun e W' => ∃ h', e = .returned (.pointer (some ⟨h', 0, none⟩)) ∧ K2 W.heap.size W h' p r u m l s L (.slice none 0 0) [] (.slice none 0 0) [] W' := by
  obtain ⟨g, b, v, hS, h1, h2, h3⟩ := H.sh
  refine (shCopy_any hS).mono ?_
  rintro e W' ⟨h', g', b', v', rfl, hS', hge, hb⟩
  exact ⟨h', rfl, K2.of hS' hge hb hb.size⟩
/-- Next, where something waits. -/
theorem K2.nextW (H : K2 B w h p r u m l s L cv C gv G W) (hl : 0 < L.length) : ∃ t, BM.IsWhen p r u m s s.1 L[0].2 t ∧ Calls Try.prog 17 #[.pointer (some ⟨h, 0, none⟩)] W fun e W' => e = .returned (.tuple #[.int .i64 t, .bool true]) ∧ Below W.heap.size W W' := by
  obtain ⟨hr, hok, hsz, _, _⟩ := H.wf
  obtain ⟨t, ht⟩ := BM.when_exists hr hok (Int.le_refl _) (decide_eq_true (hsz L[0] (List.getElem_mem hl)))
  exact ⟨t, ht, H.next1 hl ht⟩
end
theorem Lie.actR {w : World} {B : Nat} {A : Option Addr} {l : List (Int × Int × Int)} (h : Lie actV 3 w B A l) (i : Nat) (hi : i < l.length) :
    ∃ ad, A = some ad ∧ ad.block < B ∧ w.cell? (ad.add (i * 3)) = some (.int .i64 l[i].1) ∧ w.cell? ⟨(ad.add (i * 3)).block, (ad.add (i * 3)).off + 1, none⟩ = some (.int .i64 l[i].2.1) ∧ w.cell? ⟨(ad.add (i * 3)).block, (ad.add (i * 3)).off + 2, none⟩ = some (.int .i64 l[i].2.2) := by
  obtain ⟨ad, e, hB, hc⟩ := h (by omega)
  have hx : l[i]? = some l[i] := List.getElem?_eq_getElem hi
  refine ⟨ad, e, hB, hc i _ hx 0 _ rfl, ?_, ?_⟩
  · have := hc i _ hx 1 _ rfl
    rw [← add_of_add] at this
    exact this
  · have := hc i _ hx 2 _ rfl
    rw [← add_of_add] at this
    exact this
end Go.Proofs.Ythaiphkmkchhoaa

/- Shapers: ShaperPlay's walk. -/
namespace Go.Proofs.Ythaiphkmkchhoaa
open Go.RowKit Go.Sort
set_option linter.unusedVariables false
theorem GQ.set9 {W : World} {q : Nat} {p r u m l : Int} {TA TA' : Option Addr} {tn tc tn' tc' : Nat} {now now' room : Int} {LA LA' : Option Addr} {ln lc ln' lc' : Nat} (h : GQ W q p r u m l TA tn tc now room LA ln lc) : GQ (((((((((W.setCell ⟨q, 0, none⟩ (.int .i64 p)).setCell ⟨q, 1, none⟩ (.int .i64 r)).setCell ⟨q, 2, none⟩ (.int .i64 u)).setCell ⟨q, 3, none⟩ (.int .i64 m)).setCell ⟨q, 4, none⟩ (.int .i64 l)).setCell ⟨q, 5, none⟩ (.slice TA' tn' tc')).setCell ⟨q, 6, none⟩ (.int .i64 now')).setCell ⟨q, 7, none⟩ (.int .i64 room)).setCell ⟨q, 8, none⟩ (.slice LA' ln' lc')) q p r u m l TA' tn' tc' now' room LA' ln' lc' := by
  unfold GQ at h ⊢
  have h0 := heap_setCell_same W q 0 _ _ (.int .i64 p) h
  simp only [List.setIfInBounds_toArray, List.set_cons_zero] at h0
  have h1 := heap_setCell_same _ q 1 _ _ (.int .i64 r) h0
  simp only [List.setIfInBounds_toArray, List.set_cons_zero, List.set_cons_succ] at h1
  have h2 := heap_setCell_same _ q 2 _ _ (.int .i64 u) h1
  simp only [List.setIfInBounds_toArray, List.set_cons_zero, List.set_cons_succ] at h2
  have h3 := heap_setCell_same _ q 3 _ _ (.int .i64 m) h2
  simp only [List.setIfInBounds_toArray, List.set_cons_zero, List.set_cons_succ] at h3
  have h4 := heap_setCell_same _ q 4 _ _ (.int .i64 l) h3
  simp only [List.setIfInBounds_toArray, List.set_cons_zero, List.set_cons_succ] at h4
  have h5 := heap_setCell_same _ q 5 _ _ (.slice TA' tn' tc') h4
  simp only [List.setIfInBounds_toArray, List.set_cons_zero, List.set_cons_succ] at h5
  have h6 := heap_setCell_same _ q 6 _ _ (.int .i64 now') h5
  simp only [List.setIfInBounds_toArray, List.set_cons_zero, List.set_cons_succ] at h6
  have h7 := heap_setCell_same _ q 7 _ _ (.int .i64 room) h6
  simp only [List.setIfInBounds_toArray, List.set_cons_zero, List.set_cons_succ] at h7
  have h8 := heap_setCell_same _ q 8 _ _ (.slice LA' ln' lc') h7
  simp only [List.setIfInBounds_toArray, List.set_cons_zero, List.set_cons_succ] at h8
  exact h8
/-- what a round of the law's looks at: the document's shaper, a call. -/
def SQ (D : Nat) (ad : Addr) (i : Nat) (p r u m l : Int) (TA : Option Addr) (tn tc : Nat) (now room : Int) (LA : Option Addr) (ln lc : Nat) (kd a z : Int) (W : World) : Prop := W.cell? ⟨D, 0, none⟩ = some (.int .i64 p) ∧ W.cell? ⟨D, 1, none⟩ = some (.int .i64 r) ∧ W.cell? ⟨D, 2, none⟩ = some (.int .i64 u) ∧ W.cell? ⟨D, 3, none⟩ = some (.int .i64 m) ∧ W.cell? ⟨D, 4, none⟩ = some (.int .i64 l) ∧ W.cell? ⟨D, 5, none⟩ = some (.slice TA tn tc) ∧ W.cell? ⟨D, 6, none⟩ = some (.int .i64 now) ∧ W.cell? ⟨D, 7, none⟩ = some (.int .i64 room) ∧ W.cell? ⟨D, 8, none⟩ = some (.slice LA ln lc) ∧ W.cell? (ad.add (i * 3)) = some (.int .i64 kd) ∧ W.cell? ⟨(ad.add (i * 3)).block, (ad.add (i * 3)).off + 1, none⟩ = some (.int .i64 a) ∧ W.cell? ⟨(ad.add (i * 3)).block, (ad.add (i * 3)).off + 2, none⟩ = some (.int .i64 z)
def SPC (D : Nat) (p r u m l : Int) (W : World) : Prop := W.cell? ⟨D, 0, none⟩ = some (.int .i64 p) ∧ W.cell? ⟨D, 1, none⟩ = some (.int .i64 r) ∧ W.cell? ⟨D, 2, none⟩ = some (.int .i64 u) ∧ W.cell? ⟨D, 3, none⟩ = some (.int .i64 m) ∧ W.cell? ⟨D, 4, none⟩ = some (.int .i64 l)
theorem spec_run13 (a0 a1 a2 a3 a4 : Int) (w : World) : (Op.equalIn 10000 23 (.agg #[.int .i64 a0, .int .i64 a1, .int .i64 a2, .int .i64 a3, .int .i64 a4]) (.agg #[.int .i64 a0, .int .i64 a1, .int .i64 a2, .int .i64 a3, .int .i64 a4])).run Try.prog w = .ok true w := by
  simp [go_sem, Op.eqFields]
theorem PP.begin {F : Nat → Prop} {B : Nat} {w W : World} {h g b : Nat} {p r u m l room : Int} (hS : ShAt W h g b (.slice none 0 0) p r u m l (0, u, m) room []) (h1 : ∀ j, ShBlk h g b (.slice none 0 0) j → B ≤ j) (hb : Below B w W) (hB : B ≤ W.heap.size) (hF : ∀ k, F k → (B ≤ k ∧ k < W.heap.size) ∧ ¬ ShBlk h g b (.slice none 0 0) k) : PP F B w h p r u m l room (0, u, m) [] [] none none 0 0 W :=
  ⟨⟨g, b, _, hS, h1, fun hl => absurd hl (by simp), fun hl => absurd hl (by simp), fun k hk => (hF k hk).2⟩, fun hl => absurd hl (by simp), fun hl => absurd hl (by simp), BM.Inv.nil hS.rt, ⟨Nat.le_refl _, by simp [maxLen]⟩, Nat.le_refl _, hb, hB, fun k _ hl => absurd hl (by simp), fun k _ hl => absurd hl (by simp), fun k hk => (hF k hk).1⟩
set_option maxRecDepth 100000 in
set_option maxHeartbeats 16000000 in
theorem play13_walk (p r u m l room : Int) (A : Option Addr) (L : List (Int × Int × Int)) (ca : Nat) (hr0 : -9223372036854775808 ≤ room) (hr1 : room ≤ 9223372036854775807) (hL : L.length ≤ maxLen) (w : World) (lL : Lie actV 3 w w.heap.size A L) :
    Calls Try.prog 3 #[.agg #[.int .i64 p, .int .i64 r, .int .i64 u, .int .i64 m, .int .i64 l], .int .i64 room, .slice A L.length ca] w fun e w' => e = .returned (.bool true) ∧ Below w.heap.size w w' := by
  have cK := hidd (fun W => known13_any W)
  have HL := hidd lL
  unfold maxLen at hL
  clear lL hr0 hr1
  by_cases h40 : (40 : Int) < (L.length : Int)
  · generalize hNL : L.length = N at *
    clear HL hNL
    go_enter Try.func3, Try.ntmps3
    go_wp2_with fail
    refine (cK.out _).mono ?_
    rintro e w2 ⟨rfl, hb2⟩
    go_wp2_with fail
    go_ret
    exact ⟨rfl, below_step (below_new (Below.refl _ _) _) hb2⟩
  have cRN := hidd (fun W => rnew_any p r u m l room W)
  unfold gS at cRN
  obtain ⟨W0, hW0⟩ : ∃ W0 : World, w.alloc (.cells #[.int .i64 p, .int .i64 r, .int .i64 u, .int .i64 m, .int .i64 l] 23) = W0 := ⟨_, rfl⟩
  have HW0 := hidd hW0
  have B0 : Hid (Below w.heap.size w W0) := hidd (by rw [← hW0]; (repeat' (first | (with_reducible exact Below.refl _ _) | (with_reducible assumption) | (with_reducible apply Below.setCell) | (with_reducible apply Below.alloc) | (with_reducible apply Below.drew) | (with_reducible apply below_drewN) | (with_reducible refine Below.trans ?_ (Below.mono (by assumption) ?_)) | omega | (simp; done) | (simp; omega))))
  have SZ0 : Hid (W0.heap.size = w.heap.size + 1) := hidd (by rw [← hW0]; simp)
  have SR0 : Hid (W0.heap[w.heap.size]? = some (.cells #[.int .i64 p, .int .i64 r, .int .i64 u, .int .i64 m, .int .i64 l] 23 (0, 0))) := hidd (by rw [← hW0]; exact World.alloc_heap_new w _)
  have SK0 : Hid (∀ Y, Below W0.heap.size W0 Y → SPC w.heap.size p r u m l Y) := hidd (fun Y hb => by
    have q := (hb.block w.heap.size (by have := SZ0.out; omega)).trans SR0.out
    refine ⟨?_, ?_, ?_, ?_, ?_⟩ <;> simp [World.cell?, q])
  have LW := hidd (HL.out.below B0.out)
  clear hW0
  cases hR : newB p r u m l room
  · have cN := hidd (fun W => shNew_no p r u m l room hR W)
    rw [hR] at cRN
    generalize hNL : L.length = N at *
    clear HL LW hNL hR
    go_enter Try.func3, Try.ntmps3
    go_wp2_with fail
    rw [HW0.out]
    refine (cN.out _).mono ?_
    rintro e w1 ⟨rfl, hb1⟩
    obtain ⟨s0, s1, s2, s3, s4⟩ := SK0.out _ hb1
    have HB1 := hidd hb1
    clear hb1
    go_wp2_with fail
    refine (cRN.out _).mono ?_
    rintro e w2 ⟨rfl, hb2⟩
    have HB2 := hidd (below_step (B0.out.trans (HB1.out.mono B0.out.size)) hb2)
    clear hb2 s0 s1 s2 s3 s4
    go_wp2_with fail
    refine (cK.out _).mono ?_
    rintro e w3 ⟨rfl, hb3⟩
    go_wp2_with fail
    go_ret
    exact ⟨rfl, below_step (below_new HB2.out _) hb3⟩
  have cN := hidd (fun W => shNew_yes p r u m l room hR W)
  rw [hR] at cRN
  clear hR
  go_enter Try.func3, Try.ntmps3
  go_wp2_with fail
  rw [HW0.out]
  refine (cN.out _).mono ?_
  rintro e w1 ⟨h, g, b, rfl, h1, h2, h3, hS, hb1⟩
  obtain ⟨s0, s1, s2, s3, s4⟩ := SK0.out _ hb1
  have HB1 := hidd hb1
  have HSH := hidd hS
  have HGE := hidd (And.intro h1 (And.intro h2 h3))
  clear hb1 hS h1 h2 h3 cN
  go_wp2_with fail
  refine (cRN.out _).mono ?_
  rintro e w2 ⟨rfl, hb2⟩
  have HB2 := hidd hb2
  clear hb2 s0 s1 s2 s3 s4
  go_wp2_with fail
  obtain ⟨W3, hW3⟩ : ∃ W3 : World, w2.alloc (.cells #[.int .i64 p, .int .i64 r, .int .i64 u, .int .i64 m, .int .i64 l, .slice none 0 0, .int .i64 0, .int .i64 room, .slice none 0 0] 35) = W3 := ⟨_, rfl⟩
  obtain ⟨Q, hQ⟩ : ∃ Q, w2.heap.size = Q := ⟨_, rfl⟩
  have B23 := hidd (show Below w2.heap.size w2 W3 from by rw [← hW3]; exact below_new (Below.refl _ _) _)
  have QR0 := hidd (show GQ W3 Q p r u m l none ([] : List (Int × Int)).length 0 ((0, u, m) : BM.St).1 room none ([] : List (Int × Int)).length 0 from by rw [← hW3, ← hQ]; exact World.alloc_heap_new w2 _)
  have HQ := hidd hQ
  have PP0 : Hid (PP (fun k => k = Q) W0.heap.size W0 h p r u m l room (0, u, m) [] [] none none 0 0 W3) := hidd (by
    have b13 : Below w1.heap.size w1 W3 := HB2.out.trans (B23.out.mono HB2.out.size)
    have h1 := HB1.out.size
    have h2 := HB2.out.size
    have hge : ∀ j, ShBlk h g b (.slice none 0 0) j → W0.heap.size ≤ j := fun j hj => by
      obtain ⟨q1, q2, q3⟩ := HGE.out
      rcases hj with rfl | rfl | rfl | e
      · exact q1
      · exact q2
      · exact q3
      · cases e
    refine PP.begin (HSH.out.below b13) hge (HB1.out.trans (b13.mono h1)) (Nat.le_trans h1 b13.size) (fun k hk => ?_)
    subst hk
    refine ⟨⟨by have := HQ.out; omega, (Array.getElem?_eq_some_iff.1 QR0.out).1⟩, fun hj => ?_⟩
    have := HSH.out.lt hj
    have := HQ.out
    omega)
  rw [hW3, hQ]
  clear hW3 hQ HSH HGE
  go_loopg [11] (L.length + 1) (fun gk s11 wr => ∃ (i : Nat) (s : BM.St) (T Lw : List (Int × Int)) (TA : Option Addr) (tc : Nat) (LA : Option Addr) (lc : Nat), i ≤ L.length ∧ i + gk = L.length + 1 ∧ s11 = .int .i64 (i : Int) ∧ GQ wr Q p r u m l TA T.length tc s.1 room LA Lw.length lc ∧ PP (fun k => k = Q) W0.heap.size W0 h p r u m l room s T Lw TA LA lc i wr)
  case atStart => exact ⟨0, (0, u, m), [], [], none, 0, none, 0, by omega, by omega, rfl, QR0.out, PP0.out⟩
  case round =>
    clear PP0 QR0 HB1 HB2 B23
    obtain ⟨i, s, T, Lw, TA, tc, LA, lc, hi, hk, rfl, hQR, hPP⟩ := hrel
    have HK := hidd hk
    have KP := hidd hPP
    have QR9 := hidd hQR
    clear hk hPP hQR
    by_cases hlt : i < L.length
    · have z1 : (i : Int) < (L.length : Int) := by omega
      have z0 : (0 : Int) ≤ (i : Int) := by omega
      obtain ⟨ad, rfl, hadb, x0, x1, x2⟩ := (LW.out.keep KP.out.bel).actR i hlt
      obtain ⟨ad2, e2, -, x00, x01, x02⟩ := LW.out.actR i hlt
      cases e2
      have cD := hidd (fun F' Y (H : PP F' W0.heap.size W0 h p r u m l room s T Lw TA LA lc i Y) => doesP H tc (by omega) L[i].1 L[i].2.1 L[i].2.2)
      unfold gS DoesEnd gS at cD
      generalize L[i].1 = kd at *
      generalize L[i].2.1 = a at *
      generalize L[i].2.2 = z at *
      generalize hTN : T.length = TN at *
      generalize hLN : Lw.length = LN at *
      obtain ⟨now, hnow⟩ : ∃ now, s.1 = now := ⟨_, rfl⟩
      rw [hnow] at cD
      have QR := hidd (show GQ wr Q p r u m l TA TN tc now room LA LN lc from by have q := QR9.out; rw [hnow] at q; exact q)
      have QLT := hidd (KP.out.fw Q rfl).2
      have hadW : (ad.add (i * 3)).block < W0.heap.size := by rw [block_of_add]; exact hadb
      have KS : Hid (∀ Y : World, Y.heap[Q]? = wr.heap[Q]? → Below W0.heap.size W0 Y → SQ Q ad i p r u m l TA TN tc now room LA LN lc kd a z Y) := hidd (fun Y e hb => by
        obtain ⟨e0, e1, e2, e3, e4, e5, e6, e7, e8⟩ := (show GQ Y Q p r u m l TA TN tc now room LA LN lc from e.trans QR.out).cells
        exact ⟨e0, e1, e2, e3, e4, e5, e6, e7, e8, (hb.cell (p := ad.add (i * 3)) hadW).trans x00, (hb.cell (p := ⟨(ad.add (i * 3)).block, (ad.add (i * 3)).off + 1, none⟩) hadW).trans x01, (hb.cell (p := ⟨(ad.add (i * 3)).block, (ad.add (i * 3)).off + 2, none⟩) hadW).trans x02⟩)
      generalize hNL : L.length = N at *
      have HNL := hidd hNL
      clear hNL hTN hLN hnow x00 x01 x02 QR9
      go_wp2_with fail
      go_cut [12, 14] (fun s12 s14 wy => ∃ (q : Nat) (s' : BM.St) (T' L' : List (Int × Int)) (TA' : Option Addr) (tc' : Nat) (LA' : Option Addr) (lc' : Nat), s12 = .pointer (some ⟨q, 0, none⟩) ∧ s14 = .bool true ∧ GQ wy q p r u m l TA' T'.length tc' s'.1 room LA' L'.length lc' ∧ PP (fun k => k = Q) W0.heap.size W0 h p r u m l room s' T' L' TA' LA' lc' (i + 1) wy ∧ GQ wy Q p r u m l TA TN tc now room LA LN lc ∧ q ≠ Q)
      case first =>
        refine wp_region_held_drew (S := (fun Y => SQ Q ad i p r u m l TA TN tc now room LA LN lc kd a z Y)) (by kernel_rfl) (KS.out _ rfl (KP.out.bel.trans ((Below.drew (Below.refl wr.heap.size _)).mono KP.out.bsz))) (fun hH => ?_)
        refine wpAnyH_take (i := 0) (v := ?va0_1) (by (conv => lhs; simp only [List.getElem?_toArray, List.getElem?_cons_succ, List.getElem?_cons_zero])) (by kernel_rfl) (by kernel_rfl) (by kernel_rfl) ?hQ (Or.inl ⟨by rfl, ?hya0_1⟩) hH ?resta0_1
        case hQ => exact fun _ _ _ h => h
        case hya0_1 => (intro Y hY; obtain ⟨y0, y1, y2, y3, y4, y5, y6, y7, y8, y9, y10, y11⟩ := hY; go_simp; try (with_reducible rfl))
        try simp only [Act.put, List.setIfInBounds_toArray, List.set_cons_zero, List.set_cons_succ]
        refine wpAnyH_take (i := 1) (v := ?va1_2) (by (conv => lhs; simp only [List.getElem?_toArray, List.getElem?_cons_succ, List.getElem?_cons_zero])) (by kernel_rfl) (by kernel_rfl) (by kernel_rfl) ?hQ (Or.inl ⟨by rfl, ?hya1_2⟩) hH ?resta1_2
        case hQ => exact fun _ _ _ h => h
        case hya1_2 => (intro Y hY; obtain ⟨y0, y1, y2, y3, y4, y5, y6, y7, y8, y9, y10, y11⟩ := hY; go_simp; try (with_reducible rfl))
        try simp only [Act.put, List.setIfInBounds_toArray, List.set_cons_zero, List.set_cons_succ]
        refine wpAnyH_take (i := 2) (v := ?va2_3) (by (conv => lhs; simp only [List.getElem?_toArray, List.getElem?_cons_succ, List.getElem?_cons_zero])) (by kernel_rfl) (by kernel_rfl) (by kernel_rfl) ?hQ (Or.inl ⟨by rfl, ?hya2_3⟩) hH ?resta2_3
        case hQ => exact fun _ _ _ h => h
        case hya2_3 => (intro Y hY; obtain ⟨y0, y1, y2, y3, y4, y5, y6, y7, y8, y9, y10, y11⟩ := hY; go_simp; try (with_reducible rfl))
        try simp only [Act.put, List.setIfInBounds_toArray, List.set_cons_zero, List.set_cons_succ]
        refine wpAnyH_take (i := 3) (v := ?va3_4) (by (conv => lhs; simp only [List.getElem?_toArray, List.getElem?_cons_succ, List.getElem?_cons_zero])) (by kernel_rfl) (by kernel_rfl) (by kernel_rfl) ?hQ (Or.inl ⟨by rfl, ?hya3_4⟩) hH ?resta3_4
        case hQ => exact fun _ _ _ h => h
        case hya3_4 => (intro Y hY; obtain ⟨y0, y1, y2, y3, y4, y5, y6, y7, y8, y9, y10, y11⟩ := hY; go_simp; try (with_reducible rfl))
        try simp only [Act.put, List.setIfInBounds_toArray, List.set_cons_zero, List.set_cons_succ]
        refine wpAnyH_take (i := 4) (v := ?va4_5) (by (conv => lhs; simp only [List.getElem?_toArray, List.getElem?_cons_succ, List.getElem?_cons_zero])) (by kernel_rfl) (by kernel_rfl) (by kernel_rfl) ?hQ (Or.inl ⟨by rfl, ?hya4_5⟩) hH ?resta4_5
        case hQ => exact fun _ _ _ h => h
        case hya4_5 => (intro Y hY; obtain ⟨y0, y1, y2, y3, y4, y5, y6, y7, y8, y9, y10, y11⟩ := hY; go_simp; try (with_reducible rfl))
        try simp only [Act.put, List.setIfInBounds_toArray, List.set_cons_zero, List.set_cons_succ]
        refine wpAnyH_take (i := 5) (v := ?va5_6) (by (conv => lhs; simp only [List.getElem?_toArray, List.getElem?_cons_succ, List.getElem?_cons_zero])) (by kernel_rfl) (by kernel_rfl) (by kernel_rfl) ?hQ (Or.inl ⟨by rfl, ?hya5_6⟩) hH ?resta5_6
        case hQ => exact fun _ _ _ h => h
        case hya5_6 => (intro Y hY; obtain ⟨y0, y1, y2, y3, y4, y5, y6, y7, y8, y9, y10, y11⟩ := hY; go_simp; try (with_reducible rfl))
        try simp only [Act.put, List.setIfInBounds_toArray, List.set_cons_zero, List.set_cons_succ]
        refine wpAnyH_ready (rs := [6, 11]) (by kernel_rfl) (by simp) ?_
        refine AllReadyH.cons (by (conv => lhs; simp only [List.getElem?_toArray, List.getElem?_cons_succ, List.getElem?_cons_zero])) (fun K hK => ?_) (AllReadyH.cons (by (conv => lhs; simp only [List.getElem?_toArray, List.getElem?_cons_succ, List.getElem?_cons_zero])) (fun K hK => ?_) AllReadyH.nil)
        · go_simp
          go_at_call 8; refine (cD.out (fun k => k = Q) _ (KP.out.below (Below.drew (Below.refl _ _)))).mono ?_; rintro e w5 ⟨s', T', L', TA', tc', LA', lc', OA, on, oc, rfl, hP5, hF5⟩
          generalize hTN' : T'.length = TN' at *
          generalize hLN' : L'.length = LN' at *
          obtain ⟨now', hnow'⟩ : ∃ now', s'.1 = now' := ⟨_, rfl⟩
          rw [hnow']
          have HTN' := hidd hTN'
          have HLN' := hidd hLN'
          have HNOW' := hidd hnow'
          have P5 := hidd hP5
          have q5 : w5.heap[Q]? = wr.heap[Q]? := hF5 Q rfl
          have Q5 := hidd q5
          clear hP5 hF5 hTN' hLN' hnow'
          refine hK.out _ _ (KS.out _ q5 P5.out.bel) (fun hH1 => ?_)
          clear hK hH q5
          try simp only [Act.put, List.setIfInBounds_toArray, List.set_cons_zero, List.set_cons_succ]
          refine wpAnyH_take (i := 7) (v := ?vb7_1) (by (conv => lhs; simp only [List.getElem?_toArray, List.getElem?_cons_succ, List.getElem?_cons_zero])) (by kernel_rfl) (by kernel_rfl) (by kernel_rfl) ?hQ (Or.inl ⟨by rfl, ?hyb7_1⟩) hH1 ?restb7_1
          case hQ => exact fun _ _ _ h => h
          case hyb7_1 => (intro Y hY; obtain ⟨y0, y1, y2, y3, y4, y5, y6, y7, y8, y9, y10, y11⟩ := hY; go_simp; try (with_reducible rfl))
          try simp only [Act.put, List.setIfInBounds_toArray, List.set_cons_zero, List.set_cons_succ]
          refine wpAnyH_take (i := 8) (v := ?vb8_2) (by (conv => lhs; simp only [List.getElem?_toArray, List.getElem?_cons_succ, List.getElem?_cons_zero])) (by kernel_rfl) (by kernel_rfl) (by kernel_rfl) ?hQ (Or.inl ⟨by rfl, ?hyb8_2⟩) hH1 ?restb8_2
          case hQ => exact fun _ _ _ h => h
          case hyb8_2 => (intro Y hY; obtain ⟨y0, y1, y2, y3, y4, y5, y6, y7, y8, y9, y10, y11⟩ := hY; go_simp; try (with_reducible rfl))
          try simp only [Act.put, List.setIfInBounds_toArray, List.set_cons_zero, List.set_cons_succ]
          refine wpAnyH_take (i := 9) (v := ?vb9_3) (by (conv => lhs; simp only [List.getElem?_toArray, List.getElem?_cons_succ, List.getElem?_cons_zero])) (by kernel_rfl) (by kernel_rfl) (by kernel_rfl) ?hQ (Or.inl ⟨by rfl, ?hyb9_3⟩) hH1 ?restb9_3
          case hQ => exact fun _ _ _ h => h
          case hyb9_3 => (intro Y hY; obtain ⟨y0, y1, y2, y3, y4, y5, y6, y7, y8, y9, y10, y11⟩ := hY; go_simp; try (with_reducible rfl))
          try simp only [Act.put, List.setIfInBounds_toArray, List.set_cons_zero, List.set_cons_succ]
          refine wpAnyH_take (i := 10) (v := ?vb10_4) (by (conv => lhs; simp only [List.getElem?_toArray, List.getElem?_cons_succ, List.getElem?_cons_zero])) (by kernel_rfl) (by kernel_rfl) (by kernel_rfl) ?hQ (Or.inl ⟨by rfl, ?hyb10_4⟩) hH1 ?restb10_4
          case hQ => exact fun _ _ _ h => h
          case hyb10_4 => (intro Y hY; obtain ⟨y0, y1, y2, y3, y4, y5, y6, y7, y8, y9, y10, y11⟩ := hY; go_simp; try (with_reducible rfl))
          try simp only [Act.put, List.setIfInBounds_toArray, List.set_cons_zero, List.set_cons_succ]
          refine wpAnyH_ready (rs := [11]) (by kernel_rfl) (by simp) ?_
          refine AllReadyH.cons (by (conv => lhs; simp only [List.getElem?_toArray, List.getElem?_cons_succ, List.getElem?_cons_zero])) (fun K hK => ?_) AllReadyH.nil
          go_simp
          refine hK.out _ _ (KS.out _ ((Below.heap_alloc _ _ _ (P5.out.fw Q rfl).2).trans Q5.out) (below_new P5.out.bel _)) (fun hH2 => ?_)
          clear hK hH1
          try simp only [Act.put, List.setIfInBounds_toArray, List.set_cons_zero, List.set_cons_succ]
          refine wpAnyH_ready (rs := [12]) (by kernel_rfl) (by simp) ?_
          refine AllReadyH.cons (by (conv => lhs; simp only [List.getElem?_toArray, List.getElem?_cons_succ, List.getElem?_cons_zero])) (fun K hK => ?_) AllReadyH.nil
          clear hH2
          go_simp
          refine hK.out _ _ (KS.out _ ((Below.heap_alloc _ _ _ (P5.out.fw Q rfl).2).trans Q5.out) (below_new P5.out.bel _)) (fun hH3 => ?_)
          clear hK
          try simp only [Act.put, List.setIfInBounds_toArray, List.set_cons_zero, List.set_cons_succ]
          refine wpAnyH_take (i := 13) (v := ?vb13_5) (by (conv => lhs; simp only [List.getElem?_toArray, List.getElem?_cons_succ, List.getElem?_cons_zero])) (by kernel_rfl) (by kernel_rfl) (by kernel_rfl) ?hQ (Or.inl ⟨by rfl, ?hyb13_5⟩) hH3 ?restb13_5
          case hQ => exact fun _ _ _ h => h
          case hyb13_5 => (intro Y hY; obtain ⟨y0, y1, y2, y3, y4, y5, y6, y7, y8, y9, y10, y11⟩ := hY; go_simp; try (with_reducible rfl))
          try simp only [Act.put, List.setIfInBounds_toArray, List.set_cons_zero, List.set_cons_succ]
          refine wpAnyH_take (i := 14) (v := ?vb14_6) (by (conv => lhs; simp only [List.getElem?_toArray, List.getElem?_cons_succ, List.getElem?_cons_zero])) (by kernel_rfl) (by kernel_rfl) (by kernel_rfl) ?hQ (Or.inl ⟨by rfl, ?hyb14_6⟩) hH3 ?restb14_6
          case hQ => exact fun _ _ _ h => h
          case hyb14_6 => (intro Y hY; obtain ⟨y0, y1, y2, y3, y4, y5, y6, y7, y8, y9, y10, y11⟩ := hY; go_simp; try (with_reducible rfl))
          try simp only [Act.put, List.setIfInBounds_toArray, List.set_cons_zero, List.set_cons_succ]
          refine wpAnyH_done (by kernel_rfl) (?_) _
          clear hH3
          go_wp2_with fail
          go_meet
          exact ⟨w5.heap.size, s', T', L', TA', tc', LA', lc', rfl, rfl, by rw [HTN'.out, HLN'.out, HNOW'.out]; exact World.alloc_heap_new w5 _, P5.out.below (below_new (Below.refl _ _) _), (Below.heap_alloc _ _ _ (P5.out.fw Q rfl).2).trans (Q5.out.trans QR.out), by have := (P5.out.fw Q rfl).2; omega⟩
        · go_simp
          refine hK.out _ _ (KS.out _ (Below.heap_alloc _ _ _ QLT.out) (KP.out.bel.trans ((below_new (Below.drew (Below.refl _ _)) _).mono KP.out.bsz))) (fun hH1 => ?_)
          clear hK hH
          try simp only [Act.put, List.setIfInBounds_toArray, List.set_cons_zero, List.set_cons_succ]
          refine wpAnyH_ready (rs := [6]) (by kernel_rfl) (by simp) ?_
          refine AllReadyH.cons (by (conv => lhs; simp only [List.getElem?_toArray, List.getElem?_cons_succ, List.getElem?_cons_zero])) (fun K hK => ?_) AllReadyH.nil
          go_simp
          go_at_call 8; refine (cD.out _ _ ((KP.out.below (Below.drew (Below.refl _ _))).more (.cells #[.int .i64 0, .int .i64 0, .int .i64 0, .int .i64 0, .int .i64 0, .slice none 0 0, .int .i64 0, .int .i64 0, .slice none 0 0] 35))).mono ?_; rintro e w5 ⟨s', T', L', TA', tc', LA', lc', OA, on, oc, rfl, hP5, hF5⟩
          generalize hTN' : T'.length = TN' at *
          generalize hLN' : L'.length = LN' at *
          obtain ⟨now', hnow'⟩ : ∃ now', s'.1 = now' := ⟨_, rfl⟩
          rw [hnow']
          have HTN' := hidd hTN'
          have HLN' := hidd hLN'
          have HNOW' := hidd hnow'
          have P5 := hidd hP5
          have q5 : w5.heap[Q]? = wr.heap[Q]? := (hF5 Q (.inl rfl)).trans (Below.heap_alloc _ _ _ QLT.out)
          have hrow : w5.heap[wr.heap.size]? = some (.cells #[.int .i64 0, .int .i64 0, .int .i64 0, .int .i64 0, .int .i64 0, .slice none 0 0, .int .i64 0, .int .i64 0, .slice none 0 0] 35 (0, 0)) := (hF5 wr.heap.size (.inr rfl)).trans (World.alloc_heap_new wr.drew _)
          have Q5 := hidd q5
          clear hP5 hF5 hTN' hLN' hnow'
          refine hK.out _ _ (KS.out _ q5 P5.out.bel) (fun hH2 => ?_)
          clear hK hH1 q5
          try simp only [Act.put, List.setIfInBounds_toArray, List.set_cons_zero, List.set_cons_succ]
          refine wpAnyH_take (i := 7) (v := ?vc7_1) (by (conv => lhs; simp only [List.getElem?_toArray, List.getElem?_cons_succ, List.getElem?_cons_zero])) (by kernel_rfl) (by kernel_rfl) (by kernel_rfl) ?hQ (Or.inl ⟨by rfl, ?hyc7_1⟩) hH2 ?restc7_1
          case hQ => exact fun _ _ _ h => h
          case hyc7_1 => (intro Y hY; obtain ⟨y0, y1, y2, y3, y4, y5, y6, y7, y8, y9, y10, y11⟩ := hY; go_simp; try (with_reducible rfl))
          try simp only [Act.put, List.setIfInBounds_toArray, List.set_cons_zero, List.set_cons_succ]
          refine wpAnyH_take (i := 8) (v := ?vc8_2) (by (conv => lhs; simp only [List.getElem?_toArray, List.getElem?_cons_succ, List.getElem?_cons_zero])) (by kernel_rfl) (by kernel_rfl) (by kernel_rfl) ?hQ (Or.inl ⟨by rfl, ?hyc8_2⟩) hH2 ?restc8_2
          case hQ => exact fun _ _ _ h => h
          case hyc8_2 => (intro Y hY; obtain ⟨y0, y1, y2, y3, y4, y5, y6, y7, y8, y9, y10, y11⟩ := hY; go_simp; try (with_reducible rfl))
          try simp only [Act.put, List.setIfInBounds_toArray, List.set_cons_zero, List.set_cons_succ]
          refine wpAnyH_take (i := 9) (v := ?vc9_3) (by (conv => lhs; simp only [List.getElem?_toArray, List.getElem?_cons_succ, List.getElem?_cons_zero])) (by kernel_rfl) (by kernel_rfl) (by kernel_rfl) ?hQ (Or.inl ⟨by rfl, ?hyc9_3⟩) hH2 ?restc9_3
          case hQ => exact fun _ _ _ h => h
          case hyc9_3 => (intro Y hY; obtain ⟨y0, y1, y2, y3, y4, y5, y6, y7, y8, y9, y10, y11⟩ := hY; go_simp; try (with_reducible rfl))
          try simp only [Act.put, List.setIfInBounds_toArray, List.set_cons_zero, List.set_cons_succ]
          refine wpAnyH_take (i := 10) (v := ?vc10_4) (by (conv => lhs; simp only [List.getElem?_toArray, List.getElem?_cons_succ, List.getElem?_cons_zero])) (by kernel_rfl) (by kernel_rfl) (by kernel_rfl) ?hQ (Or.inl ⟨by rfl, ?hyc10_4⟩) hH2 ?restc10_4
          case hQ => exact fun _ _ _ h => h
          case hyc10_4 => (intro Y hY; obtain ⟨y0, y1, y2, y3, y4, y5, y6, y7, y8, y9, y10, y11⟩ := hY; go_simp; try (with_reducible rfl))
          try simp only [Act.put, List.setIfInBounds_toArray, List.set_cons_zero, List.set_cons_succ]
          refine wpAnyH_ready (rs := [12]) (by kernel_rfl) (by simp) ?_
          refine AllReadyH.cons (by (conv => lhs; simp only [List.getElem?_toArray, List.getElem?_cons_succ, List.getElem?_cons_zero])) (fun K hK => ?_) AllReadyH.nil
          clear hH2
          rw [if_pos (by rfl)]
          refine wp_store_row 35 (.tmp 12) (.tmp 56) (by rfl) wr.heap.size #[.int .i64 p, .int .i64 r, .int .i64 u, .int .i64 m, .int .i64 l, .slice TA' TN' tc', .int .i64 now', .int .i64 room, .slice LA' LN' lc'] (by rfl) (by rfl) _ _ hrow (by kernel_rfl) (by rfl) (by simp [Value.oneCell']) ?_
          have hrow2 := setRow_heap w5 wr.heap.size _ #[.int .i64 p, .int .i64 r, .int .i64 u, .int .i64 m, .int .i64 l, .slice TA' TN' tc', .int .i64 now', .int .i64 room, .slice LA' LN' lc'] _ _ hrow
          have SR : Sav (fun k => k = Q ∨ k = wr.heap.size) w5 (w5.setRow wr.heap.size #[.int .i64 p, .int .i64 r, .int .i64 u, .int .i64 m, .int .i64 l, .slice TA' TN' tc', .int .i64 now', .int .i64 room, .slice LA' LN' lc']) := (Sav.row (q := wr.heap.size) (Below.refl _ _)).mono (fun j _ e => .inr e)
          have P6 := P5.out.sav SR
          have hqq : Q ≠ wr.heap.size := by have := QLT.out; omega
          have q6 : (w5.setRow wr.heap.size #[.int .i64 p, .int .i64 r, .int .i64 u, .int .i64 m, .int .i64 l, .slice TA' TN' tc', .int .i64 now', .int .i64 room, .slice LA' LN' lc']).heap[Q]? = wr.heap[Q]? := (setRow_other w5 _ _ _ hqq).trans Q5.out
          refine hK.out _ _ (KS.out _ q6 P6.bel) (fun hH3 => ?_)
          clear hK
          try simp only [Act.put]
          refine wpAnyH_take (i := 13) (v := ?vc13_5) (by (conv => lhs; simp only [List.getElem?_toArray, List.getElem?_cons_succ, List.getElem?_cons_zero])) (by kernel_rfl) (by kernel_rfl) (by kernel_rfl) ?hQ (Or.inl ⟨by rfl, ?hyc13_5⟩) hH3 ?restc13_5
          case hQ => exact fun _ _ _ h => h
          case hyc13_5 => (intro Y hY; obtain ⟨y0, y1, y2, y3, y4, y5, y6, y7, y8, y9, y10, y11⟩ := hY; go_simp; try (with_reducible rfl))
          try simp only [Act.put, List.setIfInBounds_toArray, List.set_cons_zero, List.set_cons_succ]
          refine wpAnyH_take (i := 14) (v := ?vc14_6) (by (conv => lhs; simp only [List.getElem?_toArray, List.getElem?_cons_succ, List.getElem?_cons_zero])) (by kernel_rfl) (by kernel_rfl) (by kernel_rfl) ?hQ (Or.inl ⟨by rfl, ?hyc14_6⟩) hH3 ?restc14_6
          case hQ => exact fun _ _ _ h => h
          case hyc14_6 => (intro Y hY; obtain ⟨y0, y1, y2, y3, y4, y5, y6, y7, y8, y9, y10, y11⟩ := hY; go_simp; try (with_reducible rfl))
          try simp only [Act.put, List.setIfInBounds_toArray, List.set_cons_zero, List.set_cons_succ]
          refine wpAnyH_done (by kernel_rfl) (?_) _
          clear hH3
          go_wp2_with fail
          go_meet
          exact ⟨wr.heap.size, s', T', L', TA', tc', LA', lc', rfl, rfl, by rw [HTN'.out, HLN'.out, HNOW'.out]; exact hrow2, P6.less (fun k e => .inl e), q6.trans QR.out, fun e => hqq e.symm⟩
      case rest =>
        rename_i hKc
        obtain ⟨w4, rfl⟩ : ∃ w4 : World, w4 = wc := ⟨_, rfl⟩
        obtain ⟨q, s', T', L', TA', tc', LA', lc', rfl, rfl, hGq, hP4, hGQ, hqQ⟩ := hcut
        have cSm := hidd (sameP hP4 tc')
        unfold gS at cSm
        generalize hTN' : T'.length = TN' at *
        generalize hLN' : L'.length = LN' at *
        obtain ⟨now', hnow'⟩ : ∃ now', s'.1 = now' := ⟨_, rfl⟩
        rw [hnow'] at cSm hGq
        have hqlt := (Array.getElem?_eq_some_iff.1 hGq).1
        have P4 := hidd hP4
        have G4 := hidd hGq
        have GQ4 := hidd hGQ
        have HTN' := hidd hTN'
        have HLN' := hidd hLN'
        have HNOW' := hidd hnow'
        obtain ⟨c0, c1, c2, c3, c4, c5, c6, c7, c8⟩ := hGq.cells
        clear x0 x1 x2 cD KS QR KP hP4 hGq hGQ hTN' hLN' hnow'
        go_wp2_with fail
        refine cSm.out.mono ?_
        rintro e w6 ⟨rfl, hb6⟩
        have G6 := hidd (show GQ w6 q p r u m l TA' TN' tc' now' room LA' LN' lc' from (hb6.block _ hqlt).trans G4.out)
        have GQ6 := hidd (show GQ w6 Q p r u m l TA TN tc now room LA LN lc from (hb6.block _ (P4.out.fw Q rfl).2).trans GQ4.out)
        have P6 := hidd (P4.out.below hb6)
        clear hb6 c0 c1 c2 c3 c4 c5 c6 c7 c8 hqlt
        obtain ⟨c0, c1, c2, c3, c4, c5, c6, c7, c8⟩ := G6.out.cells
        obtain ⟨x0, x1, x2, x3, x4, x5, x6, x7, x8⟩ := GQ6.out.cells
        have fz := GQ6.out.froz
        have f0 := fz 0
        have f1 := fz 1
        have f2 := fz 2
        have f3 := fz 3
        have f4 := fz 4
        have f5 := fz 5
        have f6 := fz 6
        have f7 := fz 7
        have f8 := fz 8
        clear fz
        go_wp2_with fail
        have hk := HK.out
        have hN := HNL.out
        go_roundg (gk - 1)
        case measure => omega
        case rel =>
          refine ⟨i + 1, s', T', L', TA', tc', LA', lc', by omega, by omega, by go_num, ?_, P6.out.sav ?_⟩
          · rw [HTN'.out, HLN'.out, HNOW'.out]
            exact GQ.set9 GQ6.out
          · repeat' (with_reducible first | exact Sav.refl _ _ | refine Sav.drewr ?_ | refine Sav.set1 ?_ _ _)
    · have z1 : ¬ (i : Int) < (L.length : Int) := by omega
      clear HL LW HK h40 QR9
      generalize hNL : L.length = N at *
      clear hNL
      obtain ⟨g2, b2, v2, hS2, -⟩ := KP.out.sh
      have cSp := hidd (fun Y (hb : Below wr.heap.size wr Y) => shSpec_any (hS2.below hb))
      have SK := hidd (fun Y (hb : Below wr.heap.size wr Y) => SK0.out Y (KP.out.bel.trans (hb.mono KP.out.bsz)))
      have HBW := hidd (B0.out.trans (KP.out.bel.mono B0.out.size))
      have eqq := fun W => spec_run13 p r u m l W
      clear hS2
      go_wp2_with fail
      refine wp_region_held_drew (S := (fun Y => SPC w.heap.size p r u m l Y)) (by kernel_rfl) (SK.out _ (Below.drew (Below.refl _ _))) (fun hH => ?_)
      refine wpAnyH_take (i := 0) (v := ?ve0_1) (by (conv => lhs; simp only [List.getElem?_toArray, List.getElem?_cons_succ, List.getElem?_cons_zero])) (by kernel_rfl) (by kernel_rfl) (by kernel_rfl) ?hQ (Or.inl ⟨by rfl, ?hye0_1⟩) hH ?reste0_1
      case hQ => exact fun _ _ _ h => h
      case hye0_1 => (intro Y hY; obtain ⟨y0, y1, y2, y3, y4⟩ := hY; go_simp; try (with_reducible rfl))
      try simp only [Act.put, List.setIfInBounds_toArray, List.set_cons_zero, List.set_cons_succ]
      refine wpAnyH_take (i := 1) (v := ?ve1_2) (by (conv => lhs; simp only [List.getElem?_toArray, List.getElem?_cons_succ, List.getElem?_cons_zero])) (by kernel_rfl) (by kernel_rfl) (by kernel_rfl) ?hQ (Or.inl ⟨by rfl, ?hye1_2⟩) hH ?reste1_2
      case hQ => exact fun _ _ _ h => h
      case hye1_2 => (intro Y hY; obtain ⟨y0, y1, y2, y3, y4⟩ := hY; go_simp; try (with_reducible rfl))
      try simp only [Act.put, List.setIfInBounds_toArray, List.set_cons_zero, List.set_cons_succ]
      refine wpAnyH_take (i := 2) (v := ?ve2_3) (by (conv => lhs; simp only [List.getElem?_toArray, List.getElem?_cons_succ, List.getElem?_cons_zero])) (by kernel_rfl) (by kernel_rfl) (by kernel_rfl) ?hQ (Or.inl ⟨by rfl, ?hye2_3⟩) hH ?reste2_3
      case hQ => exact fun _ _ _ h => h
      case hye2_3 => (intro Y hY; obtain ⟨y0, y1, y2, y3, y4⟩ := hY; go_simp; try (with_reducible rfl))
      try simp only [Act.put, List.setIfInBounds_toArray, List.set_cons_zero, List.set_cons_succ]
      refine wpAnyH_take (i := 3) (v := ?ve3_4) (by (conv => lhs; simp only [List.getElem?_toArray, List.getElem?_cons_succ, List.getElem?_cons_zero])) (by kernel_rfl) (by kernel_rfl) (by kernel_rfl) ?hQ (Or.inl ⟨by rfl, ?hye3_4⟩) hH ?reste3_4
      case hQ => exact fun _ _ _ h => h
      case hye3_4 => (intro Y hY; obtain ⟨y0, y1, y2, y3, y4⟩ := hY; go_simp; try (with_reducible rfl))
      try simp only [Act.put, List.setIfInBounds_toArray, List.set_cons_zero, List.set_cons_succ]
      refine wpAnyH_take (i := 5) (v := ?ve5_5) (by (conv => lhs; simp only [List.getElem?_toArray, List.getElem?_cons_succ, List.getElem?_cons_zero])) (by kernel_rfl) (by kernel_rfl) (by kernel_rfl) ?hQ (Or.inl ⟨by rfl, ?hye5_5⟩) hH ?reste5_5
      case hQ => exact fun _ _ _ h => h
      case hye5_5 => (intro Y hY; obtain ⟨y0, y1, y2, y3, y4⟩ := hY; go_simp; try (with_reducible rfl))
      try simp only [Act.put, List.setIfInBounds_toArray, List.set_cons_zero, List.set_cons_succ]
      refine wpAnyH_ready (rs := [4]) (by kernel_rfl) (by simp) ?_
      refine AllReadyH.cons (by (conv => lhs; simp only [List.getElem?_toArray, List.getElem?_cons_succ, List.getElem?_cons_zero])) (fun K hK => ?_) AllReadyH.nil
      go_simp
      go_at_call 10; refine (cSp.out _ (Below.drew (Below.refl _ _))).mono ?_; rintro e w5 ⟨rfl, hb5⟩
      have B5 := hidd (show Below wr.heap.size wr w5 from below_step (Below.drew (Below.refl _ _)) hb5)
      clear hb5
      refine hK.out _ _ (SK.out _ B5.out) (fun hH1 => ?_)
      clear hK hH
      try simp only [Act.put, List.setIfInBounds_toArray, List.set_cons_zero, List.set_cons_succ]
      refine wpAnyH_take (i := 6) (v := ?ve6_6) (by (conv => lhs; simp only [List.getElem?_toArray, List.getElem?_cons_succ, List.getElem?_cons_zero])) (by kernel_rfl) (by kernel_rfl) (by kernel_rfl) ?hQ (Or.inl ⟨by rfl, ?hye6_6⟩) hH1 ?reste6_6
      case hQ => exact fun _ _ _ h => h
      case hye6_6 => (intro Y hY; obtain ⟨y0, y1, y2, y3, y4⟩ := hY; go_simp; try (with_reducible rfl))
      try simp only [Act.put, List.setIfInBounds_toArray, List.set_cons_zero, List.set_cons_succ]
      refine wpAnyH_take (i := 7) (v := ?ve7_7) (by (conv => lhs; simp only [List.getElem?_toArray, List.getElem?_cons_succ, List.getElem?_cons_zero])) (by kernel_rfl) (by kernel_rfl) (by kernel_rfl) ?hQ (Or.inl ⟨by rfl, ?hye7_7⟩) hH1 ?reste7_7
      case hQ => exact fun _ _ _ h => h
      case hye7_7 => (intro Y hY; obtain ⟨y0, y1, y2, y3, y4⟩ := hY; go_simp; try (with_reducible rfl))
      try simp only [Act.put, List.setIfInBounds_toArray, List.set_cons_zero, List.set_cons_succ]
      refine wpAnyH_take (i := 8) (v := ?ve8_8) (by (conv => lhs; simp only [List.getElem?_toArray, List.getElem?_cons_succ, List.getElem?_cons_zero])) (by kernel_rfl) (by kernel_rfl) (by kernel_rfl) ?hQ (Or.inl ⟨by rfl, ?hye8_8⟩) hH1 ?reste8_8
      case hQ => exact fun _ _ _ h => h
      case hye8_8 => (intro Y hY; obtain ⟨y0, y1, y2, y3, y4⟩ := hY; go_simp; try (with_reducible rfl))
      try simp only [Act.put, List.setIfInBounds_toArray, List.set_cons_zero, List.set_cons_succ]
      refine wpAnyH_ready (rs := [9]) (by kernel_rfl) (by simp) ?_
      refine AllReadyH.cons (by (conv => lhs; simp only [List.getElem?_toArray, List.getElem?_cons_succ, List.getElem?_cons_zero])) (fun K hK => ?_) AllReadyH.nil
      go_simp
      go_at_call 5; refine (cK.out _).mono ?_; rintro e w6 ⟨rfl, hb6⟩
      have B6 := hidd (B5.out.trans (hb6.mono B5.out.size))
      clear hb6
      refine hK.out _ _ (SK.out _ B6.out) (fun hH2 => ?_)
      clear hK hH1
      try simp only [Act.put, List.setIfInBounds_toArray, List.set_cons_zero, List.set_cons_succ]
      refine wpAnyH_take (i := 10) (v := ?ve10_9) (by (conv => lhs; simp only [List.getElem?_toArray, List.getElem?_cons_succ, List.getElem?_cons_zero])) (by kernel_rfl) (by kernel_rfl) (by kernel_rfl) ?hQ (Or.inl ⟨by rfl, ?hye10_9⟩) hH2 ?reste10_9
      case hQ => exact fun _ _ _ h => h
      case hye10_9 => (intro Y hY; obtain ⟨y0, y1, y2, y3, y4⟩ := hY; go_simp; try (with_reducible rfl))
      try simp only [Act.put, List.setIfInBounds_toArray, List.set_cons_zero, List.set_cons_succ]
      refine wpAnyH_take (i := 11) (v := ?ve11_10) (by (conv => lhs; simp only [List.getElem?_toArray, List.getElem?_cons_succ, List.getElem?_cons_zero])) (by kernel_rfl) (by kernel_rfl) (by kernel_rfl) ?hQ (Or.inl ⟨by rfl, ?hye11_10⟩) hH2 ?reste11_10
      case hQ => exact fun _ _ _ h => h
      case hye11_10 => (intro Y hY; obtain ⟨y0, y1, y2, y3, y4⟩ := hY; go_simp; try (with_reducible rfl))
      try simp only [Act.put, List.setIfInBounds_toArray, List.set_cons_zero, List.set_cons_succ]
      refine wpAnyH_done (by kernel_rfl) (?_) _
      go_wp2_with fail
      go_ret
      exact ⟨rfl, HBW.out.trans (B6.out.mono HBW.out.size)⟩
end Go.Proofs.Ythaiphkmkchhoaa

/- Whatever the spec, the room and the calls, ShaperPlay answers true: behind each call the shaper holds, lets go and refuses what the document says; no conditions. -/
namespace Go.Proofs.Ythaiphkmkchhoaa.shaperPlay
open Go.ChangeShapes Go.WideShapes Go.ChangeAt Go.RowKit Go.Joins Go.Proofs.Ythaiphkmkchhoaa.RowK
set_option linter.unusedVariables false
set_option maxRecDepth 100000 in
theorem lifted (os : Os) (started : os.Started) (H : Type) (enc : TypeId × Value → H) :
    ReturnsInHanded {} Try.checked os 3 .any (Rows.shaperPlaySpec.pre6 enc Try.prog Try.f3 Rows.shaperPlayRow.domain false) (Rows.shaperPlaySpec.post enc Try.prog Try.f3 false true false false) := by
  refine returnsInHanded_of_change (C := Try.checked) own started (by kernel_rfl) Try.func3
    (ChangeSpec.witness6 (enc := enc) (C := Try.checked) false ⟨#[], #[.agg #[.int .i64 0, .int .i64 0, .int .i64 0, .int .i64 0, .int .i64 0], .int .i64 0, .slice none 0 0], []⟩ 8 (by kernel_rfl) (by kernel_rfl) (by kernel_rfl) (by kernel_rfl)) ?_
  intro W base args ds gs before hval0 hW hcnd _
  have hval : ∀ (j : Nat) t v, Try.f3.params[j]? = some t → args[j]? = some v → Value.okWide Try.prog W .any base t v := hval0
  have hW' := hW
  obtain ⟨p, q, hA0, hV, rfl, hfz, hnd⟩ := hW
  have hA : DataW.TrodAll enc Try.prog W 0 (fun _ => true) true Try.f3.params.toList args.toList ds p := hA0
  rw [Try.params3] at hA hval
  obtain ⟨v0, vs0, d0, ds0, p0, q0, hargs, rfl, rfl, h0, r0⟩ := trodAll_cons hA
  obtain ⟨v1, vs1, d1, ds1, p1, q1, rfl, rfl, rfl, h1, r1⟩ := trodAll_cons r0
  obtain ⟨v2, vs2, d2, ds2, p2, q2, rfl, rfl, rfl, h2, r2⟩ := trodAll_cons r1
  obtain ⟨rfl, rfl, rfl⟩ := trodAll_nil r2
  obtain rfl : args = #[v0, v1, v2] := by cases args; simp_all
  obtain ⟨rfl, rfl⟩ := trodVars_none hV
  obtain ⟨a0, b0, c0, u0, g0, rfl⟩ := open_ints5 Try.underlying23 (by kernel_rfl) cellsSpec Try.underlying2 Try.underlying2 Try.underlying2 Try.underlying2 Try.underlying2 (hval 0 23 v0 rfl rfl) h0
  obtain ⟨a1, rfl, e1, f1, w1⟩ := open_int Try.underlying2 (hval 1 2 v1 rfl rfl) h1
  obtain ⟨A2, L2, c2, rfl, m2, l2⟩ : ∃ (A : Option Addr) (L : List (Int × Int × Int)) (c : Nat), v2 = .slice A L.length c ∧ L.length ≤ maxLen ∧ Lie actV 3 W W.heap.size A L := by
    obtain ⟨ptr, len, cap, rfl⟩ := okWide_slice Try.underlying24 (hval 2 24 v2 rfl rfl)
    obtain ⟨fuel, hf⟩ := h2
    obtain ⟨A, L, c, e, hh⟩ := open_acts hf
    exact ⟨A, L, c, by simpa [Value.cells] using e, hh⟩
  refine (Ythaiphkmkchhoaa.play13_walk a0 b0 c0 u0 g0 a1 A2 L2 c2 (i64_bounds w1).1 (i64_bounds w1).2 m2 W l2).mono fun e W' ⟨he, hg⟩ => ?_
  subst he
  exact ⟨_, rfl, post_law laidOut (by rw [Try.params3]; intro t ht; simp at ht; rcases ht with rfl | rfl | rfl <;> exact ⟨by kernel_rfl, of_decide_eq_true (by kernel_rfl)⟩) hW' hA0 rfl (fun _ _ _ => (trodAll_cons_mk (shut_bool Try.underlying4 _) trodAll_mk0)) (fun _ => rfl) hg (ok_one (by kernel_rfl) rfl (okWide_bool_mk Try.underlying4 _))⟩

theorem over : Rows.shaperPlayRow.holds Try.pinned (OpenSpec.ofChange Rows.shaperPlaySpec) :=
  OpenClaim.holds_of_wide 3 Try.f3 rfl rfl rfl rfl rfl rfl rfl ⟨rfl, rfl, rfl, rfl, rfl⟩ rfl rfl rfl rfl rfl (by kernel_rfl) Try.func3 (by kernel_rfl)
    (of_decide_eq_true (by kernel_rfl)) (by unfold Func.isWrapper; first | (rw [if_pos (by decide +kernel)]; kernel_rfl) | (rw [if_neg (by decide +kernel)]; exact ⟨rfl, rfl⟩))
    (fun os started H enc _ => lifted os started H enc)
end Go.Proofs.Ythaiphkmkchhoaa.shaperPlay
namespace Go.Proofs.Ythaiphkmkchhoaa
/-- the given statement. -/
theorem shaperPlay_proved : Rows.ShaperPlaySaid := shaperPlay.over
end Go.Proofs.Ythaiphkmkchhoaa

