/- Texts that the claim hangs on, in one. -/
import Derived.Test.YthaiphkmkchhoaaMgSpB
import Derived.Test.YthaiphkmkchhoaaMgSpA
/- Shapers: slices.Clone of what waits, Copy. -/
namespace Go.Proofs.Ythaiphkmkchhoaa
open Go.RowKit Go.Sort
set_option linter.unusedVariables false
set_option maxRecDepth 100000 in
set_option maxHeartbeats 2000000 in
theorem cloneWaits_any (A : Option Addr) (L : List (Int × Int)) (c : Nat) (hL : L.length ≤ 1000000000) (w : World) (hA : Lie sendV 2 w w.heap.size A L) :
    Calls Try.prog 29 #[.slice A L.length c] w fun e w' => ∃ v', e = .returned v' ∧ OwnL sendV 2 w' w.heap.size 41 v' L ∧ Below w.heap.size w w' := by
  obtain ⟨i0, hi, hz0, hz1, hz2⟩ : ∃ i, Try.prog.info? 41 = some i ∧ i.zero = some (.agg #[.int .i64 0, .int .i64 0]) ∧ i.size = 2 ∧ i.bytes = 16 := by
    have q := waitInfo
    cases hi : Try.prog.info? 41 with
    | none => rw [hi] at q; cases q
    | some i => rw [hi] at q; simp at q; exact ⟨i, rfl, q.1, q.2.1, q.2.2⟩
  have q28 := hidd (fun (W : World) (a : Option Addr) (n c n' c' : Nat) => Lib.run_eql_slice_nil (P := Try.prog) W _ _ a n c n' c' Try.underlying33)
  cases A with
  | none =>
    have h0 : L.length = 0 := by
      rcases Nat.eq_zero_or_pos L.length with h | h
      · exact h
      · obtain ⟨ad, e, _⟩ := hA h; cases e
    have : L = [] := List.eq_nil_of_length_eq_zero h0
    subst this
    have q := fun W => q28.out W none 0 c 0 0
    clear hA h0
    simp only [List.length_nil]
    go_enter Try.func29, Try.ntmps29
    go_wp2_with fail
    go_ret
    exact ⟨.slice none 0 0, rfl, OwnL.nil _ _ _, by (repeat' (first | (with_reducible exact Below.refl _ _) | (with_reducible assumption) | (with_reducible apply Below.setCell) | (with_reducible apply Below.alloc) | (with_reducible apply Below.drew) | (with_reducible apply below_drewN) | (with_reducible refine Below.trans ?_ (Below.mono (by assumption) ?_)) | omega | (simp; done) | (simp; omega)))⟩
  | some ad =>
    have q := fun W => q28.out W (some ad) L.length c 0 0
    have hO : Hid ((w.alloc (.cells #[] 41)).ownsRow w.heap.size 41 2 (.slice (some ⟨w.heap.size, 0, none⟩) 0 0) 0 []) := hidd ⟨rfl, .inr ⟨w.heap.size, 0, #[], rfl, Nat.le_refl _, (MapKept.heap_alloc w _).1, Nat.le_refl _, Nat.zero_le _, rfl, rfl⟩⟩
    have hb1 : Below w.heap.size w (w.alloc (.cells #[] 41)) := by (repeat' (first | (with_reducible exact Below.refl _ _) | (with_reducible assumption) | (with_reducible apply Below.setCell) | (with_reducible apply Below.alloc) | (with_reducible apply Below.drew) | (with_reducible apply below_drewN) | (with_reducible refine Below.trans ?_ (Below.mono (by assumption) ?_)) | omega | (simp; done) | (simp; omega)))
    have hs1 := hA.below hb1
    have hsrc : Hid (0 < L.length → ∃ ad', some ad = some ad' ∧ ∀ j u, (rowOf sendV L)[j]? = some u → (w.alloc (.cells #[] 41)).cell? (ad'.add j) = some u) := hidd (fun hl => by
      obtain ⟨a2, e2, _, hc⟩ := hs1 hl
      refine ⟨a2, e2, fun j u hj => ?_⟩
      have hjl : j < (rowOf sendV L).length := (List.getElem?_eq_some_iff.1 hj).1
      rw [row_len sendV_len] at hjl
      have h1 : j / 2 < L.length := by omega
      have h2 : (sendV L[j / 2])[j % 2]? = some ((sendV L[j / 2])[j % 2]'(by rw [sendV_len]; omega)) := List.getElem?_eq_getElem _
      have h3 := row_at sendV_len L (j / 2) L[j / 2] (List.getElem?_eq_getElem h1) (j % 2) _ h2
      have e4 : j / 2 * 2 + j % 2 = j := by omega
      rw [e4, hj] at h3
      have h5 := hc (j / 2) L[j / 2] (List.getElem?_eq_getElem h1) (j % 2) _ h2
      rw [e4] at h5
      rw [h5]
      exact h3.symm)
    have HL := hidd hL
    have hmax : Hid (0 + L.length ≤ maxLen) := hidd (by unfold maxLen; omega)
    have hby : Hid ((0 + L.length) * 16 ≤ 140737488355328) := hidd (by omega)
    have HB1 := hidd hb1
    have HR := hidd (row_len sendV_len L)
    have HONE := hidd (rowOf_one sendV_one L)
    clear hA hs1 hb1 hL
    go_enter Try.func29, Try.ntmps29
    go_wp2_with (first | (at_builtin; refine wpList_append_some rfl _ _ 33 rfl w.heap.size 41 i0 (.agg #[.int .i64 0, .int .i64 0]) 2 16 Try.underlying33 hi hz0 hz1 hz2 rfl (by decide) (.slice (some ⟨w.heap.size, 0, none⟩) 0 0) 0 [] rfl hO.out (some ad) L.length c (rowOf sendV L) rfl HR.out hsrc.out HONE.out hmax.out hby.out (by simp) ?_; intro v' w1 hown' hgrow hor; have HO2 := hidd hown'; have HG := hidd hgrow; clear hown' hgrow hor) | fail)
    go_ret
    have h2 := HO2.out
    rw [Nat.zero_add, List.nil_append] at h2
    have h3 : OwnL sendV 2 w1 w.heap.size 41 v' L := h2
    exact ⟨v', rfl, h3, HB1.out.grown HG.out (by simp) (fun k hk => by simp [Value.ownBlock] at hk; omega)⟩
/-- what a copy is. -/
def CopyEnd (p r u m l : Int) (s : BM.St) (room : Int) (L : List (Int × Int)) (w : World) (e : Ending) (w' : World) : Prop :=
  ∃ h g b v, e = .returned (.pointer (some ⟨h, 0, none⟩)) ∧ ShAt w' h g b v p r u m l s room L ∧ (∀ k, ShBlk h g b v k → w.heap.size ≤ k) ∧ Below w.heap.size w w'
theorem copy_fin {p r u m l : Int} {s : BM.St} {room : Int} {L : List (Int × Int)} {w W : World} {b : Nat} {v : Value} (hR : rightB p r u m l = true) (hok : BM.Ok u m s) (hsz : Szs m l L) (hroom : 0 ≤ room ∧ room ≤ 1000000000 ∧ sumB L ≤ room)
    (hlb : w.heap.size ≤ b) (hB : BktAt W b p r u m l s) (hQ : QL W v L) (hA : ∀ q, v.ownBlock = some q → w.heap.size ≤ q ∧ q ≠ b) (bl : Below w.heap.size w W) :
    CopyEnd p r u m l s room L w (.returned (.pointer (some ⟨W.heap.size + 1, 0, none⟩))) ((W.alloc (.cells #[.pointer (some ⟨b, 0, none⟩), v, .int .i64 (sumB L), .int .i64 room] 63)).alloc (.cells #[.pointer (some ⟨W.heap.size, 0, none⟩)] 65)) := by
  have hlt := hB.lt
  have hq := fun q e => hQ.lt q e
  have hs := bl.size
  refine ⟨W.heap.size + 1, W.heap.size, b, v, rfl, ⟨(hB.below (below_new (Below.refl _ _) _)).below (below_new (Below.refl _ _) _), (hQ.below (below_new (Below.refl _ _) _)).below (below_new (Below.refl _ _) _), ?_, ?_, ?_, ?_, ?_, ?_, ?_, by omega, by omega, by omega, ?_, ?_, ?_, hR, hok, hsz, hroom.1, hroom.2.1, hroom.2.2⟩, ?_, below_new (below_new bl _) _⟩
  case refine_8 => exact fun e => by have := hq _ e; omega
  case refine_9 => exact fun e => by have := hq _ e; omega
  case refine_10 => exact fun e => (hA _ e).2 rfl
  case refine_11 =>
    intro k hk
    rcases hk with rfl | rfl | rfl | e
    · omega
    · omega
    · exact hlb
    · exact (hA k e).1
  all_goals first | (simp [go_sem]; done) | (simp [go_sem]; omega)
set_option maxRecDepth 100000 in
set_option maxHeartbeats 8000000 in
theorem shCopy_any {w : World} {h g b : Nat} {v : Value} {p r u m l : Int} {s : BM.St} {room : Int} {L : List (Int × Int)} (H : ShAt w h g b v p r u m l s room L) :
    Calls Try.prog 11 #[.pointer (some ⟨h, 0, none⟩)] w (CopyEnd p r u m l s room L w) := by
  obtain ⟨A, c, hv, _, _, hLie⟩ := H.q.lie
  subst hv
  have hlen := H.len
  have hR := hidd H.rt
  have hok := hidd H.ok
  have hsz := hidd H.sz
  have hroom := hidd (show 0 ≤ room ∧ room ≤ 1000000000 ∧ sumB L ≤ room from ⟨H.r0, H.r1, H.sm⟩)
  have cI := hidd (shNone_yes H.h0)
  have CB := hidd (fun W (hb : Below w.heap.size w W) => (bcopy_any (H.bk.below hb) (by have := rightB_iff H.rt; omega)).mono (R' := fun e w' => ∃ b', e = .returned (.pointer (some ⟨b', 0, none⟩)) ∧ W.heap.size ≤ b' ∧ BktAt w' b' p r u m l s ∧ Below W.heap.size W w') (fun e w' ⟨h1, h2, h3⟩ => ⟨_, h1, Nat.le_refl _, h2, h3⟩))
  have CC := hidd (fun W (hb : Below w.heap.size w W) => cloneWaits_any A L c (by omega) W (hLie.below hb))
  have KS : Hid (∀ Y, Below w.heap.size w Y → Y.cell? ⟨h, 0, none⟩ = some (.pointer (some ⟨g, 0, none⟩)) ∧ Y.cell? ⟨g, 0, none⟩ = some (.pointer (some ⟨b, 0, none⟩)) ∧ Y.cell? ⟨g, 1, none⟩ = some (.slice A L.length c) ∧ Y.cell? ⟨g, 2, none⟩ = some (.int .i64 (sumB L)) ∧ Y.cell? ⟨g, 3, none⟩ = some (.int .i64 room)) := hidd (fun Y hb => ⟨(hb.cell (p := ⟨h, 0, none⟩) H.hlt).trans H.h0, (hb.cell (p := ⟨g, 0, none⟩) H.glt).trans H.g0, (hb.cell (p := ⟨g, 1, none⟩) H.glt).trans H.g1, (hb.cell (p := ⟨g, 2, none⟩) H.glt).trans H.g2, (hb.cell (p := ⟨g, 3, none⟩) H.glt).trans H.g3⟩)
  clear H hLie hlen
  generalize hn : L.length = n at *
  clear hn
  go_enter Try.func11, Try.ntmps11
  go_wp2_with fail
  refine cI.out.mono ?_
  rintro e w1 ⟨rfl, rfl⟩
  go_wp2_with fail
  refine wp_region_held_drew (S := (fun Y => Y.cell? ⟨h, 0, none⟩ = some (.pointer (some ⟨g, 0, none⟩)) ∧ Y.cell? ⟨g, 0, none⟩ = some (.pointer (some ⟨b, 0, none⟩)) ∧ Y.cell? ⟨g, 1, none⟩ = some (.slice A n c) ∧ Y.cell? ⟨g, 2, none⟩ = some (.int .i64 (sumB L)) ∧ Y.cell? ⟨g, 3, none⟩ = some (.int .i64 room))) (by kernel_rfl) (KS.out _ (Below.drew (Below.refl _ _))) (fun hH => ?_)
  refine wpAnyH_take (i := 0) (v := ?vs0_1) (by (conv => lhs; simp only [List.getElem?_toArray, List.getElem?_cons_succ, List.getElem?_cons_zero])) (by kernel_rfl) (by kernel_rfl) (by kernel_rfl) ?hQ (Or.inl ⟨by rfl, ?hys0_1⟩) hH ?rests0_1
  case hQ => exact fun _ _ _ h => h
  case hys0_1 => (intro Y hY; obtain ⟨y0, y1, y2, y3, y4⟩ := hY; go_simp; try (with_reducible rfl))
  try simp only [Act.put, List.setIfInBounds_toArray, List.set_cons_zero, List.set_cons_succ]
  refine wpAnyH_take (i := 1) (v := ?vs1_2) (by (conv => lhs; simp only [List.getElem?_toArray, List.getElem?_cons_succ, List.getElem?_cons_zero])) (by kernel_rfl) (by kernel_rfl) (by kernel_rfl) ?hQ (Or.inl ⟨by rfl, ?hys1_2⟩) hH ?rests1_2
  case hQ => exact fun _ _ _ h => h
  case hys1_2 => (intro Y hY; obtain ⟨y0, y1, y2, y3, y4⟩ := hY; go_simp; try (with_reducible rfl))
  try simp only [Act.put, List.setIfInBounds_toArray, List.set_cons_zero, List.set_cons_succ]
  refine wpAnyH_take (i := 2) (v := ?vs2_3) (by (conv => lhs; simp only [List.getElem?_toArray, List.getElem?_cons_succ, List.getElem?_cons_zero])) (by kernel_rfl) (by kernel_rfl) (by kernel_rfl) ?hQ (Or.inl ⟨by rfl, ?hys2_3⟩) hH ?rests2_3
  case hQ => exact fun _ _ _ h => h
  case hys2_3 => (intro Y hY; obtain ⟨y0, y1, y2, y3, y4⟩ := hY; go_simp; try (with_reducible rfl))
  try simp only [Act.put, List.setIfInBounds_toArray, List.set_cons_zero, List.set_cons_succ]
  refine wpAnyH_take (i := 3) (v := ?vs3_4) (by (conv => lhs; simp only [List.getElem?_toArray, List.getElem?_cons_succ, List.getElem?_cons_zero])) (by kernel_rfl) (by kernel_rfl) (by kernel_rfl) ?hQ (Or.inl ⟨by rfl, ?hys3_4⟩) hH ?rests3_4
  case hQ => exact fun _ _ _ h => h
  case hys3_4 => (intro Y hY; obtain ⟨y0, y1, y2, y3, y4⟩ := hY; go_simp; try (with_reducible rfl))
  try simp only [Act.put, List.setIfInBounds_toArray, List.set_cons_zero, List.set_cons_succ]
  refine wpAnyH_take (i := 4) (v := ?vs4_5) (by (conv => lhs; simp only [List.getElem?_toArray, List.getElem?_cons_succ, List.getElem?_cons_zero])) (by kernel_rfl) (by kernel_rfl) (by kernel_rfl) ?hQ (Or.inl ⟨by rfl, ?hys4_5⟩) hH ?rests4_5
  case hQ => exact fun _ _ _ h => h
  case hys4_5 => (intro Y hY; obtain ⟨y0, y1, y2, y3, y4⟩ := hY; go_simp; try (with_reducible rfl))
  try simp only [Act.put, List.setIfInBounds_toArray, List.set_cons_zero, List.set_cons_succ]
  refine wpAnyH_take (i := 5) (v := ?vs5_6) (by (conv => lhs; simp only [List.getElem?_toArray, List.getElem?_cons_succ, List.getElem?_cons_zero])) (by kernel_rfl) (by kernel_rfl) (by kernel_rfl) ?hQ (Or.inl ⟨by rfl, ?hys5_6⟩) hH ?rests5_6
  case hQ => exact fun _ _ _ h => h
  case hys5_6 => (intro Y hY; obtain ⟨y0, y1, y2, y3, y4⟩ := hY; go_simp; try (with_reducible rfl))
  try simp only [Act.put, List.setIfInBounds_toArray, List.set_cons_zero, List.set_cons_succ]
  refine wpAnyH_take (i := 6) (v := ?vs6_7) (by (conv => lhs; simp only [List.getElem?_toArray, List.getElem?_cons_succ, List.getElem?_cons_zero])) (by kernel_rfl) (by kernel_rfl) (by kernel_rfl) ?hQ (Or.inl ⟨by rfl, ?hys6_7⟩) hH ?rests6_7
  case hQ => exact fun _ _ _ h => h
  case hys6_7 => (intro Y hY; obtain ⟨y0, y1, y2, y3, y4⟩ := hY; go_simp; try (with_reducible rfl))
  try simp only [Act.put, List.setIfInBounds_toArray, List.set_cons_zero, List.set_cons_succ]
  refine wpAnyH_take (i := 8) (v := ?vs8_8) (by (conv => lhs; simp only [List.getElem?_toArray, List.getElem?_cons_succ, List.getElem?_cons_zero])) (by kernel_rfl) (by kernel_rfl) (by kernel_rfl) ?hQ (Or.inl ⟨by rfl, ?hys8_8⟩) hH ?rests8_8
  case hQ => exact fun _ _ _ h => h
  case hys8_8 => (intro Y hY; obtain ⟨y0, y1, y2, y3, y4⟩ := hY; go_simp; try (with_reducible rfl))
  try simp only [Act.put, List.setIfInBounds_toArray, List.set_cons_zero, List.set_cons_succ]
  refine wpAnyH_take (i := 9) (v := ?vs9_9) (by (conv => lhs; simp only [List.getElem?_toArray, List.getElem?_cons_succ, List.getElem?_cons_zero])) (by kernel_rfl) (by kernel_rfl) (by kernel_rfl) ?hQ (Or.inl ⟨by rfl, ?hys9_9⟩) hH ?rests9_9
  case hQ => exact fun _ _ _ h => h
  case hys9_9 => (intro Y hY; obtain ⟨y0, y1, y2, y3, y4⟩ := hY; go_simp; try (with_reducible rfl))
  try simp only [Act.put, List.setIfInBounds_toArray, List.set_cons_zero, List.set_cons_succ]
  refine wpAnyH_take (i := 10) (v := ?vs10_10) (by (conv => lhs; simp only [List.getElem?_toArray, List.getElem?_cons_succ, List.getElem?_cons_zero])) (by kernel_rfl) (by kernel_rfl) (by kernel_rfl) ?hQ (Or.inl ⟨by rfl, ?hys10_10⟩) hH ?rests10_10
  case hQ => exact fun _ _ _ h => h
  case hys10_10 => (intro Y hY; obtain ⟨y0, y1, y2, y3, y4⟩ := hY; go_simp; try (with_reducible rfl))
  try simp only [Act.put, List.setIfInBounds_toArray, List.set_cons_zero, List.set_cons_succ]
  refine wpAnyH_take (i := 11) (v := ?vs11_11) (by (conv => lhs; simp only [List.getElem?_toArray, List.getElem?_cons_succ, List.getElem?_cons_zero])) (by kernel_rfl) (by kernel_rfl) (by kernel_rfl) ?hQ (Or.inl ⟨by rfl, ?hys11_11⟩) hH ?rests11_11
  case hQ => exact fun _ _ _ h => h
  case hys11_11 => (intro Y hY; obtain ⟨y0, y1, y2, y3, y4⟩ := hY; go_simp; try (with_reducible rfl))
  try simp only [Act.put, List.setIfInBounds_toArray, List.set_cons_zero, List.set_cons_succ]
  refine wpAnyH_take (i := 12) (v := ?vs12_12) (by (conv => lhs; simp only [List.getElem?_toArray, List.getElem?_cons_succ, List.getElem?_cons_zero])) (by kernel_rfl) (by kernel_rfl) (by kernel_rfl) ?hQ (Or.inl ⟨by rfl, ?hys12_12⟩) hH ?rests12_12
  case hQ => exact fun _ _ _ h => h
  case hys12_12 => (intro Y hY; obtain ⟨y0, y1, y2, y3, y4⟩ := hY; go_simp; try (with_reducible rfl))
  try simp only [Act.put, List.setIfInBounds_toArray, List.set_cons_zero, List.set_cons_succ]
  refine wpAnyH_take (i := 13) (v := ?vs13_13) (by (conv => lhs; simp only [List.getElem?_toArray, List.getElem?_cons_succ, List.getElem?_cons_zero])) (by kernel_rfl) (by kernel_rfl) (by kernel_rfl) ?hQ (Or.inl ⟨by rfl, ?hys13_13⟩) hH ?rests13_13
  case hQ => exact fun _ _ _ h => h
  case hys13_13 => (intro Y hY; obtain ⟨y0, y1, y2, y3, y4⟩ := hY; go_simp; try (with_reducible rfl))
  try simp only [Act.put, List.setIfInBounds_toArray, List.set_cons_zero, List.set_cons_succ]
  refine wpAnyH_take (i := 14) (v := ?vs14_14) (by (conv => lhs; simp only [List.getElem?_toArray, List.getElem?_cons_succ, List.getElem?_cons_zero])) (by kernel_rfl) (by kernel_rfl) (by kernel_rfl) ?hQ (Or.inl ⟨by rfl, ?hys14_14⟩) hH ?rests14_14
  case hQ => exact fun _ _ _ h => h
  case hys14_14 => (intro Y hY; obtain ⟨y0, y1, y2, y3, y4⟩ := hY; go_simp; try (with_reducible rfl))
  try simp only [Act.put, List.setIfInBounds_toArray, List.set_cons_zero, List.set_cons_succ]
  refine wpAnyH_take (i := 16) (v := ?vs16_15) (by (conv => lhs; simp only [List.getElem?_toArray, List.getElem?_cons_succ, List.getElem?_cons_zero])) (by kernel_rfl) (by kernel_rfl) (by kernel_rfl) ?hQ (Or.inl ⟨by rfl, ?hys16_15⟩) hH ?rests16_15
  case hQ => exact fun _ _ _ h => h
  case hys16_15 => (intro Y hY; obtain ⟨y0, y1, y2, y3, y4⟩ := hY; go_simp; try (with_reducible rfl))
  try simp only [Act.put, List.setIfInBounds_toArray, List.set_cons_zero, List.set_cons_succ]
  refine wpAnyH_take (i := 17) (v := ?vs17_16) (by (conv => lhs; simp only [List.getElem?_toArray, List.getElem?_cons_succ, List.getElem?_cons_zero])) (by kernel_rfl) (by kernel_rfl) (by kernel_rfl) ?hQ (Or.inl ⟨by rfl, ?hys17_16⟩) hH ?rests17_16
  case hQ => exact fun _ _ _ h => h
  case hys17_16 => (intro Y hY; obtain ⟨y0, y1, y2, y3, y4⟩ := hY; go_simp; try (with_reducible rfl))
  try simp only [Act.put, List.setIfInBounds_toArray, List.set_cons_zero, List.set_cons_succ]
  refine wpAnyH_take (i := 18) (v := ?vs18_17) (by (conv => lhs; simp only [List.getElem?_toArray, List.getElem?_cons_succ, List.getElem?_cons_zero])) (by kernel_rfl) (by kernel_rfl) (by kernel_rfl) ?hQ (Or.inl ⟨by rfl, ?hys18_17⟩) hH ?rests18_17
  case hQ => exact fun _ _ _ h => h
  case hys18_17 => (intro Y hY; obtain ⟨y0, y1, y2, y3, y4⟩ := hY; go_simp; try (with_reducible rfl))
  try simp only [Act.put, List.setIfInBounds_toArray, List.set_cons_zero, List.set_cons_succ]
  refine wpAnyH_take (i := 19) (v := ?vs19_18) (by (conv => lhs; simp only [List.getElem?_toArray, List.getElem?_cons_succ, List.getElem?_cons_zero])) (by kernel_rfl) (by kernel_rfl) (by kernel_rfl) ?hQ (Or.inl ⟨by rfl, ?hys19_18⟩) hH ?rests19_18
  case hQ => exact fun _ _ _ h => h
  case hys19_18 => (intro Y hY; obtain ⟨y0, y1, y2, y3, y4⟩ := hY; go_simp; try (with_reducible rfl))
  try simp only [Act.put, List.setIfInBounds_toArray, List.set_cons_zero, List.set_cons_succ]
  refine wpAnyH_take (i := 20) (v := ?vs20_19) (by (conv => lhs; simp only [List.getElem?_toArray, List.getElem?_cons_succ, List.getElem?_cons_zero])) (by kernel_rfl) (by kernel_rfl) (by kernel_rfl) ?hQ (Or.inl ⟨by rfl, ?hys20_19⟩) hH ?rests20_19
  case hQ => exact fun _ _ _ h => h
  case hys20_19 => (intro Y hY; obtain ⟨y0, y1, y2, y3, y4⟩ := hY; go_simp; try (with_reducible rfl))
  try simp only [Act.put, List.setIfInBounds_toArray, List.set_cons_zero, List.set_cons_succ]
  refine wpAnyH_take (i := 21) (v := ?vs21_20) (by (conv => lhs; simp only [List.getElem?_toArray, List.getElem?_cons_succ, List.getElem?_cons_zero])) (by kernel_rfl) (by kernel_rfl) (by kernel_rfl) ?hQ (Or.inl ⟨by rfl, ?hys21_20⟩) hH ?rests21_20
  case hQ => exact fun _ _ _ h => h
  case hys21_20 => (intro Y hY; obtain ⟨y0, y1, y2, y3, y4⟩ := hY; go_simp; try (with_reducible rfl))
  try simp only [Act.put, List.setIfInBounds_toArray, List.set_cons_zero, List.set_cons_succ]
  refine wpAnyH_take (i := 22) (v := ?vs22_21) (by (conv => lhs; simp only [List.getElem?_toArray, List.getElem?_cons_succ, List.getElem?_cons_zero])) (by kernel_rfl) (by kernel_rfl) (by kernel_rfl) ?hQ (Or.inl ⟨by rfl, ?hys22_21⟩) hH ?rests22_21
  case hQ => exact fun _ _ _ h => h
  case hys22_21 => (intro Y hY; obtain ⟨y0, y1, y2, y3, y4⟩ := hY; go_simp; try (with_reducible rfl))
  try simp only [Act.put, List.setIfInBounds_toArray, List.set_cons_zero, List.set_cons_succ]
  refine wpAnyH_take (i := 23) (v := ?vs23_22) (by (conv => lhs; simp only [List.getElem?_toArray, List.getElem?_cons_succ, List.getElem?_cons_zero])) (by kernel_rfl) (by kernel_rfl) (by kernel_rfl) ?hQ (Or.inl ⟨by rfl, ?hys23_22⟩) hH ?rests23_22
  case hQ => exact fun _ _ _ h => h
  case hys23_22 => (intro Y hY; obtain ⟨y0, y1, y2, y3, y4⟩ := hY; go_simp; try (with_reducible rfl))
  try simp only [Act.put, List.setIfInBounds_toArray, List.set_cons_zero, List.set_cons_succ]
  refine wpAnyH_take (i := 24) (v := ?vs24_23) (by (conv => lhs; simp only [List.getElem?_toArray, List.getElem?_cons_succ, List.getElem?_cons_zero])) (by kernel_rfl) (by kernel_rfl) (by kernel_rfl) ?hQ (Or.inl ⟨by rfl, ?hys24_23⟩) hH ?rests24_23
  case hQ => exact fun _ _ _ h => h
  case hys24_23 => (intro Y hY; obtain ⟨y0, y1, y2, y3, y4⟩ := hY; go_simp; try (with_reducible rfl))
  try simp only [Act.put, List.setIfInBounds_toArray, List.set_cons_zero, List.set_cons_succ]
  refine wpAnyH_take (i := 25) (v := ?vs25_24) (by (conv => lhs; simp only [List.getElem?_toArray, List.getElem?_cons_succ, List.getElem?_cons_zero])) (by kernel_rfl) (by kernel_rfl) (by kernel_rfl) ?hQ (Or.inl ⟨by rfl, ?hys25_24⟩) hH ?rests25_24
  case hQ => exact fun _ _ _ h => h
  case hys25_24 => (intro Y hY; obtain ⟨y0, y1, y2, y3, y4⟩ := hY; go_simp; try (with_reducible rfl))
  try simp only [Act.put, List.setIfInBounds_toArray, List.set_cons_zero, List.set_cons_succ]
  refine wpAnyH_take (i := 26) (v := ?vs26_25) (by (conv => lhs; simp only [List.getElem?_toArray, List.getElem?_cons_succ, List.getElem?_cons_zero])) (by kernel_rfl) (by kernel_rfl) (by kernel_rfl) ?hQ (Or.inl ⟨by rfl, ?hys26_25⟩) hH ?rests26_25
  case hQ => exact fun _ _ _ h => h
  case hys26_25 => (intro Y hY; obtain ⟨y0, y1, y2, y3, y4⟩ := hY; go_simp; try (with_reducible rfl))
  try simp only [Act.put, List.setIfInBounds_toArray, List.set_cons_zero, List.set_cons_succ]
  refine wpAnyH_take (i := 27) (v := ?vs27_26) (by (conv => lhs; simp only [List.getElem?_toArray, List.getElem?_cons_succ, List.getElem?_cons_zero])) (by kernel_rfl) (by kernel_rfl) (by kernel_rfl) ?hQ (Or.inl ⟨by rfl, ?hys27_26⟩) hH ?rests27_26
  case hQ => exact fun _ _ _ h => h
  case hys27_26 => (intro Y hY; obtain ⟨y0, y1, y2, y3, y4⟩ := hY; go_simp; try (with_reducible rfl))
  try simp only [Act.put, List.setIfInBounds_toArray, List.set_cons_zero, List.set_cons_succ]
  refine wpAnyH_take (i := 28) (v := ?vs28_27) (by (conv => lhs; simp only [List.getElem?_toArray, List.getElem?_cons_succ, List.getElem?_cons_zero])) (by kernel_rfl) (by kernel_rfl) (by kernel_rfl) ?hQ (Or.inl ⟨by rfl, ?hys28_27⟩) hH ?rests28_27
  case hQ => exact fun _ _ _ h => h
  case hys28_27 => (intro Y hY; obtain ⟨y0, y1, y2, y3, y4⟩ := hY; go_simp; try (with_reducible rfl))
  try simp only [Act.put, List.setIfInBounds_toArray, List.set_cons_zero, List.set_cons_succ]
  refine wpAnyH_take (i := 29) (v := ?vs29_28) (by (conv => lhs; simp only [List.getElem?_toArray, List.getElem?_cons_succ, List.getElem?_cons_zero])) (by kernel_rfl) (by kernel_rfl) (by kernel_rfl) ?hQ (Or.inl ⟨by rfl, ?hys29_28⟩) hH ?rests29_28
  case hQ => exact fun _ _ _ h => h
  case hys29_28 => (intro Y hY; obtain ⟨y0, y1, y2, y3, y4⟩ := hY; go_simp; try (with_reducible rfl))
  try simp only [Act.put, List.setIfInBounds_toArray, List.set_cons_zero, List.set_cons_succ]
  refine wpAnyH_ready (rs := [7]) (by kernel_rfl) (by simp) ?_
  refine AllReadyH.cons (by (conv => lhs; simp only [List.getElem?_toArray, List.getElem?_cons_succ, List.getElem?_cons_zero])) (fun K hK => ?_) AllReadyH.nil
  go_simp
  go_at_call 28; refine (CB.out _ (Below.drew (Below.refl w.heap.size w))).mono ?_; rintro e wb ⟨b', rfl, hb', hB', hwb⟩
  have HB' := hidd hB'
  have blb : Below w.heap.size w wb := below_step (Below.drew (Below.refl w.heap.size w)) hwb
  have hlb : w.heap.size ≤ b' ∧ b' < wb.heap.size := ⟨Nat.le_trans ((Below.drew (Below.refl w.heap.size w)).size) hb', hB'.lt⟩
  clear hB' hwb
  refine hK.out _ _ (KS.out _ blb) (fun hHbva => ?_)
  clear hK hH
  try simp only [Act.put, List.setIfInBounds_toArray, List.set_cons_zero, List.set_cons_succ]
  refine wpAnyH_ready (rs := [15]) (by kernel_rfl) (by simp) ?_
  refine AllReadyH.cons (by (conv => lhs; simp only [List.getElem?_toArray, List.getElem?_cons_succ, List.getElem?_cons_zero])) (fun K hK => ?_) AllReadyH.nil
  go_simp
  go_at_call 29; refine (CC.out _ blb).mono ?_; rintro e wc ⟨v', rfl, hO, hwc⟩
  have blc : Below w.heap.size w wc := below_step blb hwc
  obtain ⟨A', n', c', hv'⟩ := (QL.ofOwn hO).form
  subst hv'
  have HO := hidd (QL.ofOwn hO)
  have QO := hidd (fun q (e : (Value.slice A' n' c').ownBlock = some q) => (show w.heap.size ≤ q ∧ q < wc.heap.size from ⟨Nat.le_trans (blb.size) (hO.lt q e).1, (hO.lt q e).2⟩))
  have BF := hidd (HB'.out.below hwc)
  have AP : Hid (∀ q, (Value.slice A' n' c').ownBlock = some q → w.heap.size ≤ q ∧ q ≠ b') := hidd (fun q e => by have := (hO.lt q e).1; have h2 := QO.out q e; have h3 := hlb.2; exact ⟨h2.1, by omega⟩)
  clear hO hwc
  refine hK.out _ _ (KS.out _ blc) (fun hHcva => ?_)
  clear hK hHbva
  try simp only [Act.put, List.setIfInBounds_toArray, List.set_cons_zero, List.set_cons_succ]
  have QF := hidd HO.out
  have FIN := hidd (copy_fin hR.out hok.out hsz.out hroom.out hlb.1 BF.out QF.out AP.out blc)
  clear AP QF BF HO QO HB' hb'
  refine wpAnyH_take (i := 30) (v := ?vva30_1) (by (conv => lhs; simp only [List.getElem?_toArray, List.getElem?_cons_succ, List.getElem?_cons_zero])) (by kernel_rfl) (by kernel_rfl) (by kernel_rfl) ?hQ (Or.inl ⟨by rfl, ?hyva30_1⟩) hHcva ?restva30_1
  case hQ => exact fun _ _ _ h => h
  case hyva30_1 => (intro Y hY; obtain ⟨y0, y1, y2, y3, y4⟩ := hY; go_simp; try (with_reducible rfl))
  try simp only [Act.put, List.setIfInBounds_toArray, List.set_cons_zero, List.set_cons_succ]
  refine wpAnyH_ready (rs := [31]) (by kernel_rfl) (by simp) ?_
  refine AllReadyH.cons (by (conv => lhs; simp only [List.getElem?_toArray, List.getElem?_cons_succ, List.getElem?_cons_zero])) (fun K hK => ?_) AllReadyH.nil
  go_simp
  refine hK.out _ _ (KS.out _ (below_new blc _)) (fun hHdva => ?_)
  clear hK hHcva
  try simp only [Act.put, List.setIfInBounds_toArray, List.set_cons_zero, List.set_cons_succ]
  refine wpAnyH_take (i := 32) (v := ?vva32_2) (by (conv => lhs; simp only [List.getElem?_toArray, List.getElem?_cons_succ, List.getElem?_cons_zero])) (by kernel_rfl) (by kernel_rfl) (by kernel_rfl) ?hQ (Or.inl ⟨by rfl, ?hyva32_2⟩) hHdva ?restva32_2
  case hQ => exact fun _ _ _ h => h
  case hyva32_2 => (intro Y hY; obtain ⟨y0, y1, y2, y3, y4⟩ := hY; go_simp; try (with_reducible rfl))
  try simp only [Act.put, List.setIfInBounds_toArray, List.set_cons_zero, List.set_cons_succ]
  refine wpAnyH_ready (rs := [33]) (by kernel_rfl) (by simp) ?_
  refine AllReadyH.cons (by (conv => lhs; simp only [List.getElem?_toArray, List.getElem?_cons_succ, List.getElem?_cons_zero])) (fun K hK => ?_) AllReadyH.nil
  go_simp
  refine hK.out _ _ (KS.out _ (below_new (below_new blc _) _)) (fun hHeva => ?_)
  clear hK hHdva
  try simp only [Act.put, List.setIfInBounds_toArray, List.set_cons_zero, List.set_cons_succ]
  refine wpAnyH_take (i := 34) (v := ?vva34_3) (by (conv => lhs; simp only [List.getElem?_toArray, List.getElem?_cons_succ, List.getElem?_cons_zero])) (by kernel_rfl) (by kernel_rfl) (by kernel_rfl) ?hQ (Or.inl ⟨by rfl, ?hyva34_3⟩) hHeva ?restva34_3
  case hQ => exact fun _ _ _ h => h
  case hyva34_3 => (intro Y hY; obtain ⟨y0, y1, y2, y3, y4⟩ := hY; go_simp; try (with_reducible rfl))
  try simp only [Act.put, List.setIfInBounds_toArray, List.set_cons_zero, List.set_cons_succ]
  refine wpAnyH_done (by kernel_rfl) (?_) _
  go_wp2_with fail
  go_ret
  exact FIN.out
end Go.Proofs.Ythaiphkmkchhoaa

/- Shapers: the document's empty shaper; what the law does with it. -/
namespace Go.Proofs.Ythaiphkmkchhoaa
open Go.RowKit Go.Sort
set_option linter.unusedVariables false
/-- a call of the shaper's, whatever it is, leaves a shaper. -/
def LeftSh (h g b : Nat) (v : Value) (p r u m l room : Int) (W W' : World) : Prop :=
  ∃ v' s' L', ShAt W' h g b v' p r u m l s' room L' ∧ Sav (ShBlk h g b v) W W' ∧ ∀ k, k < W.heap.size → ShBlk h g b v' k → ShBlk h g b v k
section
variable {w w' W W' : World} {h g b : Nat} {v : Value} {p r u m l : Int} {s : BM.St} {room : Int} {L : List (Int × Int)}
theorem LeftSh.of (H : ShAt W h g b v p r u m l s room L) (hb : Below W.heap.size W W') : LeftSh h g b v p r u m l room W W' := ⟨v, s, L, H.below hb, Sav.of hb, fun _ _ q => q⟩
theorem LeftSh.ahead (hb : Below w.heap.size w W) (hl : ∀ k, ShBlk h g b v k → k < w.heap.size) (H : LeftSh h g b v p r u m l room W W') : LeftSh h g b v p r u m l room w W' := by
  obtain ⟨v', s', L', h1, h2, h3⟩ := H
  exact ⟨v', s', L', h1, (Sav.of (S := ShBlk h g b v) hb).tr h2, fun k hk hq => h3 k (Nat.lt_of_lt_of_le hk hb.size) hq⟩
/-- then a write to what the caller made. -/
theorem LeftSh.far {q : Nat} (hq : w.heap.size ≤ q) {W1 : World} (hq1 : q < W1.heap.size) (b1 : Below w.heap.size w W1) (hs : LeftSh h g b v p r u m l room W1 W) (hl : ∀ k, ShBlk h g b v k → k < w.heap.size) {W2 : World} (hW : Sav (fun j => j = q) W W2) : LeftSh h g b v p r u m l room w W2 := by
  obtain ⟨v', s', L', h1, h2, h3⟩ := hs
  have hnq : ∀ k, ShBlk h g b v' k → ¬ k = q := fun k hk e => by
    subst e
    have := hl _ (h3 _ hq1 hk)
    omega
  refine ⟨v', s', L', h1.sav hW hnq, ((Sav.of (S := ShBlk h g b v) b1).tr h2).trans hW (fun j hj e => by omega), fun k hk hq => h3 k (Nat.lt_of_lt_of_le hk b1.size) hq⟩
theorem LeftSh.block {W1 : World} (hs : LeftSh h g b v p r u m l room W1 W) (hl : ∀ k, ShBlk h g b v k → k < w.heap.size) {j : Nat} (hj : w.heap.size ≤ j) (hj1 : j < W1.heap.size) : W.heap[j]? = W1.heap[j]? := by
  obtain ⟨v', s', L', h1, h2, h3⟩ := hs
  exact h2.block j hj1 (fun hk => by have := hl _ hk; omega)
theorem LeftSh.low (H : LeftSh h g b v p r u m l room w W) (hb : Below W.heap.size W W') : LeftSh h g b v p r u m l room w W' := by
  obtain ⟨v', s', L', h1, h2, h3⟩ := H
  exact ⟨v', s', L', h1.below hb, h2.tr (Sav.of hb), h3⟩
theorem LeftSh.size {W1 : World} (hs : LeftSh h g b v p r u m l room W1 W) : W1.heap.size ≤ W.heap.size := by
  obtain ⟨v', s', L', h1, h2, h3⟩ := hs
  exact h2.size
theorem Sav.row {w W : World} {q : Nat} {cs : Array Value} (h : Below w.heap.size w W) : Sav (fun j => j = q) w (W.setRow q cs) :=
  ⟨h.os, h.tape, h.output, by rw [setRow_size]; exact h.size, fun j hj hn => (setRow_other W q j cs hn).trans (h.block j hj)⟩
theorem put_all (H : ShAt W h g b v p r u m l s room L) (i z : Int) : Calls Try.prog 15 #[.pointer (some ⟨h, 0, none⟩), .agg #[.int .i64 i, .int .i64 z]] W fun e W' => ∃ no, e = .returned (.int .i64 no) ∧ LeftSh h g b v p r u m l room W W' := by
  by_cases hi : i < 0 ∨ 4611686018427387904 < i
  · refine (put_arg H hi z).mono ?_
    rintro e W' ⟨rfl, hb⟩
    exact ⟨_, rfl, .of H hb⟩
  · cases hz : BM.sizeB m l z
    · refine (put_size H (by omega) hz).mono ?_
      rintro e W' ⟨rfl, hb⟩
      exact ⟨_, rfl, .of H hb⟩
    · by_cases hr : room < sumB L + z
      · refine (put_room H (by omega) hz hr).mono ?_
        rintro e W' ⟨rfl, hb⟩
        exact ⟨_, rfl, .of H hb⟩
      · refine (put_ok H (by omega) hz hr).mono ?_
        rintro e W' ⟨rfl, v', hS', hs, hn⟩
        exact ⟨_, rfl, v', s, _, hS', hs, hn⟩
theorem go_all (H : ShAt W h g b v p r u m l s room L) (n : Int) : Calls Try.prog 16 #[.pointer (some ⟨h, 0, none⟩), .int .i64 n] W fun e W' => ∃ A M c no, e = .returned (.tuple #[.slice A (List.length (α := Int × Int) M) c, .int .i64 no]) ∧ M.length ≤ 1000000000 ∧ Lie sendV 2 W' W'.heap.size A M ∧ LeftSh h g b v p r u m l room W W' := by
  cases hn : BM.askB s n
  · refine (go_no H n hn).mono ?_
    rintro e W' ⟨rfl, hS, hs⟩
    exact ⟨none, [], 0, 2, rfl, by simp, fun hl => absurd hl (by simp), v, s, L, hS, hs, fun _ _ q => q⟩
  · refine (go_yes H n hn).mono ?_
    rintro e W' ⟨k, s', A2, c2, v2, rfl, hg, hS', ho, hq, hqn, hs⟩
    have hk := hg.le
    have hlen := H.len
    have hkl : (L.take k).length = k := by rw [List.length_take]; omega
    obtain ⟨A3, c3, e3, _, _, hl⟩ := hq.lie
    injection e3 with e31 e32 e33
    subst e31
    exact ⟨A2, L.take k, c2, 0, by rw [hkl], by omega, hl, v2, s', _, hS', hs, fun j _ hj => by unfold ShBlk at hj ⊢; rw [ho] at hj; exact hj⟩
end
/-- the document's empty shaper takes a packet of no bytes at most. -/
theorem rputZ (i z : Int) (W : World) : Calls Try.prog 22 #[gS 0 0 0 0 0 none 0 0 0 0 none 0 0, .agg #[.int .i64 i, .int .i64 z]] W fun e W' => ∃ LA ln lc no, e = .returned (.tuple #[gS 0 0 0 0 0 none 0 0 0 0 LA ln lc, .int .i64 no]) ∧ Below W.heap.size W W' := by
  have l0 : Lie sendV 2 W W.heap.size none ([] : List (Int × Int)) := fun hl => absurd hl (by simp)
  by_cases hi : i < 0 ∨ 4611686018427387904 < i
  · refine (rput_arg 0 0 0 0 0 none 0 0 0 0 none [] 0 i z (by simp) hi W l0).mono ?_
    rintro e W' ⟨LA, lc, rfl, _, _, hb⟩
    exact ⟨_, _, _, _, rfl, hb⟩
  · by_cases hz : z < 0 ∨ 0 < z
    · refine (rput_size 0 0 0 0 0 none 0 0 0 0 none [] 0 i z (by simp) (by omega) hz W l0).mono ?_
      rintro e W' ⟨LA, lc, rfl, _, _, hb⟩
      exact ⟨_, _, _, _, rfl, hb⟩
    · refine (rput_ok 0 0 0 0 0 none 0 0 0 0 none [] 0 i z (by simp) (by simp) (by simp [sumB]) (by simp [sumB]; omega) (by omega) (by omega) (by simp [sumB]; omega) W l0).mono ?_
      rintro e W' ⟨LA, lc, rfl, _, _, hb⟩
      exact ⟨_, _, _, _, rfl, hb⟩
theorem askedZ (n : Int) (w : World) : Calls Try.prog 41 #[.agg #[.int .i64 0, .int .i64 0, .int .i64 0, .int .i64 0, .int .i64 0, .slice none 0 0, .int .i64 0], .int .i64 n] w fun e w' => e = .returned (.int .i64 (if decide (0 ≤ n ∧ n ≤ 2147483647) then 0 else 2)) ∧ w' = w.alloc (.cells #[.int .i64 0, .int .i64 0, .int .i64 0, .int .i64 0, .int .i64 0, .slice none 0 0, .int .i64 0] 32) := by
  by_cases h0 : n < 0
  · have e : decide (0 ≤ n ∧ n ≤ 2147483647) = false := decide_eq_false (by omega)
    rw [e]
    clear e
    go_enter Try.func41, Try.ntmps41
    go_wp2_with fail
    go_ret
    exact ⟨rfl, rfl⟩
  · by_cases h1 : 2147483647 < n
    · have e : decide (0 ≤ n ∧ n ≤ 2147483647) = false := decide_eq_false (by omega)
      rw [e]
      clear e
      go_enter Try.func41, Try.ntmps41
      go_wp2_with fail
      go_ret
      exact ⟨rfl, rfl⟩
    · have e : decide (0 ≤ n ∧ n ≤ 2147483647) = true := decide_eq_true (by omega)
      rw [e]
      clear e
      go_enter Try.func41, Try.ntmps41
      go_wp2_with fail
      go_ret
      exact ⟨rfl, rfl⟩
/-- what the document's Go keeps of its own: the shaper, and what it answers. -/
def RZx (q : Nat) (n : Int) (W : World) : Prop := W.cell? ⟨q, 0, none⟩ = some (.int .i64 0) ∧ W.cell? ⟨q, 1, none⟩ = some (.int .i64 0) ∧ W.cell? ⟨q, 2, none⟩ = some (.int .i64 0) ∧ W.cell? ⟨q, 3, none⟩ = some (.int .i64 0) ∧ W.cell? ⟨q, 4, none⟩ = some (.int .i64 0) ∧ W.cell? ⟨q, 5, none⟩ = some (.slice none 0 0) ∧ W.cell? ⟨q, 6, none⟩ = some (.int .i64 n) ∧ W.cell? ⟨q, 7, none⟩ = some (.int .i64 0) ∧ W.cell? ⟨q, 8, none⟩ = some (.slice none 0 0)
def RZu (q : Nat) (W : World) : Prop := W.cell? ⟨q + 1, 0, none⟩ = some (.int .i64 0) ∧ W.cell? ⟨q + 1, 1, none⟩ = some (.int .i64 0) ∧ W.cell? ⟨q + 1, 2, none⟩ = some (.int .i64 0) ∧ W.cell? ⟨q + 1, 3, none⟩ = some (.int .i64 0) ∧ W.cell? ⟨q + 1, 4, none⟩ = some (.int .i64 0) ∧ W.cell? ⟨q + 1, 5, none⟩ = some (.slice none 0 0) ∧ W.cell? ⟨q + 1, 6, none⟩ = some (.int .i64 0) ∧ W.cell? ⟨q + 1, 7, none⟩ = some (.int .i64 0) ∧ W.cell? ⟨q + 1, 8, none⟩ = some (.slice none 0 0)
def RZf (q : Nat) (W : World) : Prop := W.frozen? ⟨q + 1, 0, none⟩ = false ∧ W.frozen? ⟨q + 1, 1, none⟩ = false ∧ W.frozen? ⟨q + 1, 2, none⟩ = false ∧ W.frozen? ⟨q + 1, 3, none⟩ = false ∧ W.frozen? ⟨q + 1, 4, none⟩ = false ∧ W.frozen? ⟨q + 1, 5, none⟩ = false ∧ W.frozen? ⟨q + 1, 6, none⟩ = false ∧ W.frozen? ⟨q + 1, 7, none⟩ = false ∧ W.frozen? ⟨q + 1, 8, none⟩ = false
set_option maxRecDepth 100000 in
set_option maxHeartbeats 4000000 in
theorem rgoZ (n : Int) (w : World) : Calls Try.prog 23 #[gS 0 0 0 0 0 none 0 0 0 0 none 0 0, .int .i64 n] w fun e w' => ∃ now no, e = .returned (.tuple #[gS 0 0 0 0 0 none 0 0 now 0 none 0 0, .slice none 0 0, .int .i64 no]) ∧ Below w.heap.size w w' := by
  have cA := hidd (fun W => askedZ n W)
  unfold gS
  cases hn : decide ((0 : Int) ≤ n ∧ n ≤ 2147483647)
  · rw [hn] at cA
    clear hn
    go_enter Try.func23, Try.ntmps23
    go_wp2_with fail
    refine (cA.out _).mono ?_
    rintro e w1 ⟨rfl, rfl⟩
    simp only [Bool.false_eq_true, if_false]
    go_wp2_with fail
    refine bodyPost_ret (v := .tuple #[.agg #[.int .i64 0, .int .i64 0, .int .i64 0, .int .i64 0, .int .i64 0, .slice none 0 0, .int .i64 0, .int .i64 0, .slice none 0 0], .slice none 0 0, .int .i64 2]) (by simp [results, Try.results23, go_sem]) rfl ?_
    exact ⟨0, 2, rfl, by (repeat' (first | (with_reducible exact Below.refl _ _) | (with_reducible assumption) | (with_reducible apply Below.setCell) | (with_reducible apply Below.alloc) | (with_reducible apply Below.drew) | (with_reducible apply below_drewN) | (with_reducible refine Below.trans ?_ (Below.mono (by assumption) ?_)) | omega | (simp; done) | (simp; omega)))⟩
  · rw [hn] at cA
    clear hn
    go_enter Try.func23, Try.ntmps23
    go_wp2_with fail
    refine (cA.out _).mono ?_
    rintro e w1 ⟨rfl, rfl⟩
    simp only [if_true]
    go_wp2_with fail
    go_loopg [8] 2 (fun gk s8 wr => gk = 2 ∧ s8 = .slice none 0 0 ∧ RZx w.heap.size n wr ∧ RZu w.heap.size wr ∧ RZf w.heap.size wr ∧ Below w.heap.size w wr ∧ w.heap.size + 1 < wr.heap.size)
    case atStart =>
      refine ⟨rfl, rfl, ?_, ?_, ?_, ?_, ?_⟩
      · unfold RZx; simp [go_sem]
      · unfold RZu; simp [go_sem]
      · unfold RZf; simp [go_sem]
      · first | ((repeat' (first | (with_reducible exact Below.refl _ _) | (with_reducible assumption) | (with_reducible apply Below.setCell) | (with_reducible apply Below.alloc) | (with_reducible apply Below.drew) | (with_reducible apply below_drewN) | (with_reducible refine Below.trans ?_ (Below.mono (by assumption) ?_)) | omega | (simp; done) | (simp; omega)))) | exact (below_new (below_new (below_new (Below.refl _ _) _) _) _).set (Nat.le_refl _) _ | trace_state
      · simp [go_sem]
    case round =>
      obtain ⟨-, rfl, hx, hu, hf, hb, hsz⟩ := hrel
      have HX := hidd hx
      have HU := hidd hu
      have HF := hidd hf
      have HB := hidd hb
      have HSZ := hidd hsz
      clear hx hu hf hb hsz
      have KS : Hid (RZx w.heap.size n wr.drew) := hidd (by have q := HX.out; unfold RZx at q ⊢; simpa [go_sem] using q)
      go_wp2_with fail
      refine wp_region_held_drew (S := (fun Y => RZx w.heap.size n Y)) (by kernel_rfl) (KS.out) (fun hH => ?_)
      refine wpAnyH_take (i := 0) (v := ?vs0_1) (by (conv => lhs; simp only [List.getElem?_toArray, List.getElem?_cons_succ, List.getElem?_cons_zero])) (by kernel_rfl) (by kernel_rfl) (by kernel_rfl) ?hQ (Or.inl ⟨by rfl, ?hys0_1⟩) hH ?rests0_1
      case hQ => exact fun _ _ _ h => h
      case hys0_1 => (intro Y hY; obtain ⟨y0, y1, y2, y3, y4, y5, y6, y7, y8⟩ := hY; go_simp; try (with_reducible rfl))
      try simp only [Act.put, List.setIfInBounds_toArray, List.set_cons_zero, List.set_cons_succ]
      refine wpAnyH_take (i := 1) (v := ?vs1_2) (by (conv => lhs; simp only [List.getElem?_toArray, List.getElem?_cons_succ, List.getElem?_cons_zero])) (by kernel_rfl) (by kernel_rfl) (by kernel_rfl) ?hQ (Or.inl ⟨by rfl, ?hys1_2⟩) hH ?rests1_2
      case hQ => exact fun _ _ _ h => h
      case hys1_2 => (intro Y hY; obtain ⟨y0, y1, y2, y3, y4, y5, y6, y7, y8⟩ := hY; go_simp; try (with_reducible rfl))
      try simp only [Act.put, List.setIfInBounds_toArray, List.set_cons_zero, List.set_cons_succ]
      refine wpAnyH_take (i := 2) (v := ?vs2_3) (by (conv => lhs; simp only [List.getElem?_toArray, List.getElem?_cons_succ, List.getElem?_cons_zero])) (by kernel_rfl) (by kernel_rfl) (by kernel_rfl) ?hQ (Or.inl ⟨by rfl, ?hys2_3⟩) hH ?rests2_3
      case hQ => exact fun _ _ _ h => h
      case hys2_3 => (intro Y hY; obtain ⟨y0, y1, y2, y3, y4, y5, y6, y7, y8⟩ := hY; go_simp; try (with_reducible rfl))
      try simp only [Act.put, List.setIfInBounds_toArray, List.set_cons_zero, List.set_cons_succ]
      refine wpAnyH_take (i := 3) (v := ?vs3_4) (by (conv => lhs; simp only [List.getElem?_toArray, List.getElem?_cons_succ, List.getElem?_cons_zero])) (by kernel_rfl) (by kernel_rfl) (by kernel_rfl) ?hQ (Or.inl ⟨by rfl, ?hys3_4⟩) hH ?rests3_4
      case hQ => exact fun _ _ _ h => h
      case hys3_4 => (intro Y hY; obtain ⟨y0, y1, y2, y3, y4, y5, y6, y7, y8⟩ := hY; go_simp; try (with_reducible rfl))
      try simp only [Act.put, List.setIfInBounds_toArray, List.set_cons_zero, List.set_cons_succ]
      refine wpAnyH_take (i := 4) (v := ?vs4_5) (by (conv => lhs; simp only [List.getElem?_toArray, List.getElem?_cons_succ, List.getElem?_cons_zero])) (by kernel_rfl) (by kernel_rfl) (by kernel_rfl) ?hQ (Or.inl ⟨by rfl, ?hys4_5⟩) hH ?rests4_5
      case hQ => exact fun _ _ _ h => h
      case hys4_5 => (intro Y hY; obtain ⟨y0, y1, y2, y3, y4, y5, y6, y7, y8⟩ := hY; go_simp; try (with_reducible rfl))
      try simp only [Act.put, List.setIfInBounds_toArray, List.set_cons_zero, List.set_cons_succ]
      refine wpAnyH_take (i := 5) (v := undef) (by (conv => lhs; simp only [List.getElem?_toArray, List.getElem?_cons_succ, List.getElem?_cons_zero])) (by kernel_rfl) (by kernel_rfl) (by kernel_rfl) ?hQ (Or.inr ⟨by rfl, rfl⟩) hH ?_
      case hQ => exact fun _ _ _ h => h
      try simp only [Act.put, List.setIfInBounds_toArray, List.set_cons_zero, List.set_cons_succ]
      refine wpAnyH_take (i := 6) (v := undef) (by (conv => lhs; simp only [List.getElem?_toArray, List.getElem?_cons_succ, List.getElem?_cons_zero])) (by kernel_rfl) (by kernel_rfl) (by kernel_rfl) ?hQ (Or.inr ⟨by rfl, rfl⟩) hH ?_
      case hQ => exact fun _ _ _ h => h
      try simp only [Act.put, List.setIfInBounds_toArray, List.set_cons_zero, List.set_cons_succ]
      refine wpAnyH_take (i := 7) (v := undef) (by (conv => lhs; simp only [List.getElem?_toArray, List.getElem?_cons_succ, List.getElem?_cons_zero])) (by kernel_rfl) (by kernel_rfl) (by kernel_rfl) ?hQ (Or.inr ⟨by rfl, rfl⟩) hH ?_
      case hQ => exact fun _ _ _ h => h
      try simp only [Act.put, List.setIfInBounds_toArray, List.set_cons_zero, List.set_cons_succ]
      refine wpAnyH_take (i := 8) (v := undef) (by (conv => lhs; simp only [List.getElem?_toArray, List.getElem?_cons_succ, List.getElem?_cons_zero])) (by kernel_rfl) (by kernel_rfl) (by kernel_rfl) ?hQ (Or.inr ⟨by rfl, rfl⟩) hH ?_
      case hQ => exact fun _ _ _ h => h
      try simp only [Act.put, List.setIfInBounds_toArray, List.set_cons_zero, List.set_cons_succ]
      refine wpAnyH_take (i := 9) (v := undef) (by (conv => lhs; simp only [List.getElem?_toArray, List.getElem?_cons_succ, List.getElem?_cons_zero])) (by kernel_rfl) (by kernel_rfl) (by kernel_rfl) ?hQ (Or.inr ⟨by rfl, rfl⟩) hH ?_
      case hQ => exact fun _ _ _ h => h
      try simp only [Act.put, List.setIfInBounds_toArray, List.set_cons_zero, List.set_cons_succ]
      refine wpAnyH_take (i := 10) (v := undef) (by (conv => lhs; simp only [List.getElem?_toArray, List.getElem?_cons_succ, List.getElem?_cons_zero])) (by kernel_rfl) (by kernel_rfl) (by kernel_rfl) ?hQ (Or.inr ⟨by rfl, rfl⟩) hH ?_
      case hQ => exact fun _ _ _ h => h
      try simp only [Act.put, List.setIfInBounds_toArray, List.set_cons_zero, List.set_cons_succ]
      refine wpAnyH_take (i := 11) (v := undef) (by (conv => lhs; simp only [List.getElem?_toArray, List.getElem?_cons_succ, List.getElem?_cons_zero])) (by kernel_rfl) (by kernel_rfl) (by kernel_rfl) ?hQ (Or.inr ⟨by rfl, rfl⟩) hH ?_
      case hQ => exact fun _ _ _ h => h
      try simp only [Act.put, List.setIfInBounds_toArray, List.set_cons_zero, List.set_cons_succ]
      refine wpAnyH_take (i := 12) (v := undef) (by (conv => lhs; simp only [List.getElem?_toArray, List.getElem?_cons_succ, List.getElem?_cons_zero])) (by kernel_rfl) (by kernel_rfl) (by kernel_rfl) ?hQ (Or.inr ⟨by rfl, rfl⟩) hH ?_
      case hQ => exact fun _ _ _ h => h
      try simp only [Act.put, List.setIfInBounds_toArray, List.set_cons_zero, List.set_cons_succ]
      refine wpAnyH_take (i := 13) (v := undef) (by (conv => lhs; simp only [List.getElem?_toArray, List.getElem?_cons_succ, List.getElem?_cons_zero])) (by kernel_rfl) (by kernel_rfl) (by kernel_rfl) ?hQ (Or.inr ⟨by rfl, rfl⟩) hH ?_
      case hQ => exact fun _ _ _ h => h
      try simp only [Act.put, List.setIfInBounds_toArray, List.set_cons_zero, List.set_cons_succ]
      refine wpAnyH_take (i := 14) (v := ?vs14_6) (by (conv => lhs; simp only [List.getElem?_toArray, List.getElem?_cons_succ, List.getElem?_cons_zero])) (by kernel_rfl) (by kernel_rfl) (by kernel_rfl) ?hQ (Or.inl ⟨by rfl, ?hys14_6⟩) hH ?rests14_6
      case hQ => exact fun _ _ _ h => h
      case hys14_6 => (intro Y hY; obtain ⟨y0, y1, y2, y3, y4, y5, y6, y7, y8⟩ := hY; go_simp; try (with_reducible rfl))
      try simp only [Act.put, List.setIfInBounds_toArray, List.set_cons_zero, List.set_cons_succ]
      refine wpAnyH_done (by kernel_rfl) (?_) _
      have hx := HX.out
      have hu := HU.out
      have hf := HF.out
      unfold RZx at hx
      unfold RZu at hu
      unfold RZf at hf
      obtain ⟨x0, x1, x2, x3, x4, x5, x6, x7, x8⟩ := hx
      obtain ⟨u0, u1, u2, u3, u4, u5, u6, u7, u8⟩ := hu
      obtain ⟨f0, f1, f2, f3, f4, f5, f6, f7, f8⟩ := hf
      go_wp2_with fail
      refine bodyPost_ret (v := .tuple #[.agg #[.int .i64 0, .int .i64 0, .int .i64 0, .int .i64 0, .int .i64 0, .slice none 0 0, .int .i64 n, .int .i64 0, .slice none 0 0], .slice none 0 0, .int .i64 0]) (by simp [results, Try.results23, go_sem, *]) rfl ?_
      refine ⟨n, 0, rfl, ?_⟩
      have hb9 := HB.out
      (repeat' (first | (with_reducible exact Below.refl _ _) | (with_reducible assumption) | (with_reducible apply Below.setCell) | (with_reducible apply Below.alloc) | (with_reducible apply Below.drew) | (with_reducible apply below_drewN) | (with_reducible refine Below.trans ?_ (Below.mono (by assumption) ?_)) | omega | (simp; done) | (simp; omega)))
/-- the document's shaper lies in a block. -/
def G13 (W : World) (q : Nat) (now : Int) (LA : Option Addr) (ln lc : Nat) : Prop := W.heap[q]? = some (.cells #[.int .i64 0, .int .i64 0, .int .i64 0, .int .i64 0, .int .i64 0, .slice none 0 0, .int .i64 now, .int .i64 0, .slice LA ln lc] 35 (0, 0))
theorem G13.cells {W : World} {q : Nat} {now : Int} {LA : Option Addr} {ln lc : Nat} (h : G13 W q now LA ln lc) : W.cell? ⟨q, 0, none⟩ = some (.int .i64 0) ∧ W.cell? ⟨q, 1, none⟩ = some (.int .i64 0) ∧ W.cell? ⟨q, 2, none⟩ = some (.int .i64 0) ∧ W.cell? ⟨q, 3, none⟩ = some (.int .i64 0) ∧ W.cell? ⟨q, 4, none⟩ = some (.int .i64 0) ∧ W.cell? ⟨q, 5, none⟩ = some (.slice none 0 0) ∧ W.cell? ⟨q, 6, none⟩ = some (.int .i64 now) ∧ W.cell? ⟨q, 7, none⟩ = some (.int .i64 0) ∧ W.cell? ⟨q, 8, none⟩ = some (.slice LA ln lc) := by
  unfold G13 at h
  refine ⟨?_, ?_, ?_, ?_, ?_, ?_, ?_, ?_, ?_⟩ <;> simp [World.cell?, h]
theorem three_at (W : World) (a b c : Obj) : (((W.alloc a).alloc b).alloc c).heap[W.heap.size]? = some a ∧ (((W.alloc a).alloc b).alloc c).heap[W.heap.size + 1]? = some b ∧ (((W.alloc a).alloc b).alloc c).heap[W.heap.size + 1 + 1]? = some c := by
  have e1 := World.alloc_heap_new W a
  have e2 := World.alloc_heap_new (W.alloc a) b
  have e3 := World.alloc_heap_new ((W.alloc a).alloc b) c
  simp only [World.size_alloc] at e2 e3
  exact ⟨(Below.heap_alloc _ _ _ (by simp; omega)).trans ((Below.heap_alloc _ _ _ (by simp)).trans e1), (Below.heap_alloc _ _ _ (by simp)).trans e2, e3⟩
def DZ (D Q : Nat) (now : Int) (LA : Option Addr) (ln lc : Nat) (a z : Int) (W : World) : Prop := W.cell? ⟨D, 0, none⟩ = some (.int .i64 0) ∧ W.cell? ⟨D, 1, none⟩ = some (.int .i64 0) ∧ W.cell? ⟨D, 2, none⟩ = some (.int .i64 0) ∧ W.cell? ⟨D, 3, none⟩ = some (.int .i64 0) ∧ W.cell? ⟨D, 4, none⟩ = some (.int .i64 0) ∧ W.cell? ⟨D, 5, none⟩ = some (.slice none 0 0) ∧ W.cell? ⟨D, 6, none⟩ = some (.int .i64 now) ∧ W.cell? ⟨D, 7, none⟩ = some (.int .i64 0) ∧ W.cell? ⟨D, 8, none⟩ = some (.slice LA ln lc) ∧ W.cell? ⟨Q, 1, none⟩ = some (.int .i64 a) ∧ W.cell? ⟨Q, 2, none⟩ = some (.int .i64 z)
theorem DZ.of {D Q : Nat} {now : Int} {LA : Option Addr} {ln lc : Nat} {k a z : Int} {W : World} (h1 : G13 W D now LA ln lc) (h2 : W.heap[Q]? = some (.cells #[.int .i64 k, .int .i64 a, .int .i64 z] 43 (0, 0))) : DZ D Q now LA ln lc a z W := by
  obtain ⟨c0, c1, c2, c3, c4, c5, c6, c7, c8⟩ := h1.cells
  exact ⟨c0, c1, c2, c3, c4, c5, c6, c7, c8, by simp [World.cell?, h2], by simp [World.cell?, h2]⟩
set_option maxRecDepth 100000 in
set_option maxHeartbeats 4000000 in
theorem doesZ {W : World} {h g b : Nat} {v : Value} {p r u m l : Int} {s : BM.St} {room : Int} {L : List (Int × Int)} (H : ShAt W h g b v p r u m l s room L) (k a z : Int) : Calls Try.prog 8 #[.pointer (some ⟨h, 0, none⟩), gS 0 0 0 0 0 none 0 0 0 0 none 0 0, .agg #[.int .i64 k, .int .i64 a, .int .i64 z]] W fun e W' => (∃ v, e = .returned v) ∧ LeftSh h g b v p r u m l room W W' := by
  have HH := hidd H
  have HLT := hidd (fun k (hk : ShBlk h g b v k) => H.lt hk)
  have cP := hidd (fun W => rputZ a z W)
  have cG := hidd (fun W => rgoZ a W)
  have cS := hidd (fun Y (hb : Below W.heap.size W Y) => put_all (H.below hb) a z)
  have cO := hidd (fun Y (hb : Below W.heap.size W Y) => go_all (H.below hb) a)
  unfold gS at cP cG ⊢
  clear H
  by_cases hk1 : k = 1
  · subst hk1
    go_enter Try.func8, Try.ntmps8
    go_wp2_with fail
    refine (cP.out _).mono ?_
    rintro e w2 ⟨LA, ln, lc, no, rfl, hb2⟩
    have B2 := hidd (below_step (below_new (below_new (below_new (Below.refl _ _) _) _) _) hb2)
    have hs2 : W.heap.size + 1 + 1 + 1 ≤ w2.heap.size := by have := hb2.size; simpa using this
    have R6 : Hid (w2.heap[W.heap.size + 1 + 1]? = some (.cells #[.int .i64 0, .int .i64 0, .int .i64 0, .int .i64 0, .int .i64 0, .slice none 0 0, .int .i64 0, .int .i64 0, .slice none 0 0] 35 (0, 0))) := hidd ((hb2.block _ (by simp)).trans (three_at W _ _ _).2.2)
    have R5 : Hid (w2.heap[W.heap.size + 1]? = some (.cells #[.int .i64 1, .int .i64 a, .int .i64 z] 43 (0, 0))) := hidd ((hb2.block _ (by simp)).trans (three_at W _ _ _).2.1)
    clear hb2
    go_wp2_with fail
    obtain ⟨W3, hW3⟩ : ∃ W3, w2.alloc (.cells #[.int .i64 0, .int .i64 0, .int .i64 0, .int .i64 0, .int .i64 0, .slice none 0 0, .int .i64 0, .int .i64 0, .slice LA ln lc] 35) = W3 := ⟨_, rfl⟩
    rw [hW3]
    have HS3 := hidd (show W.heap.size + 1 + 1 < W3.heap.size ∧ w2.heap.size < W3.heap.size from by rw [← hW3]; simp; omega)
    have B3 := hidd (show Below W.heap.size W W3 from by rw [← hW3]; exact below_new B2.out _)
    have G3 := hidd (show G13 W3 w2.heap.size 0 LA ln lc from by rw [← hW3]; exact World.alloc_heap_new w2 _)
    have F3 := hidd (show W3.heap[W.heap.size + 1]? = some (.cells #[.int .i64 1, .int .i64 a, .int .i64 z] 43 (0, 0)) from by rw [← hW3]; exact (Below.heap_alloc w2 _ _ (by omega)).trans R5.out)
    have E3 := hidd (show W3.heap[W.heap.size + 1 + 1]? = some (.cells #[.int .i64 0, .int .i64 0, .int .i64 0, .int .i64 0, .int .i64 0, .slice none 0 0, .int .i64 0, .int .i64 0, .slice none 0 0] 35 (0, 0)) from by rw [← hW3]; exact (Below.heap_alloc w2 _ _ (by omega)).trans R6.out)
    have HS2 := hidd hs2
    clear hW3 R5 R6 hs2
    refine wp_region_held_drew (S := (fun Y => DZ w2.heap.size (W.heap.size + 1) 0 LA ln lc a z Y)) (by kernel_rfl) (DZ.of G3.out F3.out) (fun hH => ?_)
    refine wpAnyH_take (i := 0) (v := ?vp0_1) (by (conv => lhs; simp only [List.getElem?_toArray, List.getElem?_cons_succ, List.getElem?_cons_zero])) (by kernel_rfl) (by kernel_rfl) (by kernel_rfl) ?hQ (Or.inl ⟨by rfl, ?hyp0_1⟩) hH ?restp0_1
    case hQ => exact fun _ _ _ h => h
    case hyp0_1 => (intro Y hY; obtain ⟨y0, y1, y2, y3, y4, y5, y6, y7, y8, y9, y10⟩ := hY; go_simp; try (with_reducible rfl))
    try simp only [Act.put, List.setIfInBounds_toArray, List.set_cons_zero, List.set_cons_succ]
    refine wpAnyH_take (i := 1) (v := ?vp1_2) (by (conv => lhs; simp only [List.getElem?_toArray, List.getElem?_cons_succ, List.getElem?_cons_zero])) (by kernel_rfl) (by kernel_rfl) (by kernel_rfl) ?hQ (Or.inl ⟨by rfl, ?hyp1_2⟩) hH ?restp1_2
    case hQ => exact fun _ _ _ h => h
    case hyp1_2 => (intro Y hY; obtain ⟨y0, y1, y2, y3, y4, y5, y6, y7, y8, y9, y10⟩ := hY; go_simp; try (with_reducible rfl))
    try simp only [Act.put, List.setIfInBounds_toArray, List.set_cons_zero, List.set_cons_succ]
    refine wpAnyH_take (i := 2) (v := ?vp2_3) (by (conv => lhs; simp only [List.getElem?_toArray, List.getElem?_cons_succ, List.getElem?_cons_zero])) (by kernel_rfl) (by kernel_rfl) (by kernel_rfl) ?hQ (Or.inl ⟨by rfl, ?hyp2_3⟩) hH ?restp2_3
    case hQ => exact fun _ _ _ h => h
    case hyp2_3 => (intro Y hY; obtain ⟨y0, y1, y2, y3, y4, y5, y6, y7, y8, y9, y10⟩ := hY; go_simp; try (with_reducible rfl))
    try simp only [Act.put, List.setIfInBounds_toArray, List.set_cons_zero, List.set_cons_succ]
    refine wpAnyH_take (i := 3) (v := ?vp3_4) (by (conv => lhs; simp only [List.getElem?_toArray, List.getElem?_cons_succ, List.getElem?_cons_zero])) (by kernel_rfl) (by kernel_rfl) (by kernel_rfl) ?hQ (Or.inl ⟨by rfl, ?hyp3_4⟩) hH ?restp3_4
    case hQ => exact fun _ _ _ h => h
    case hyp3_4 => (intro Y hY; obtain ⟨y0, y1, y2, y3, y4, y5, y6, y7, y8, y9, y10⟩ := hY; go_simp; try (with_reducible rfl))
    try simp only [Act.put, List.setIfInBounds_toArray, List.set_cons_zero, List.set_cons_succ]
    refine wpAnyH_take (i := 5) (v := ?vp5_5) (by (conv => lhs; simp only [List.getElem?_toArray, List.getElem?_cons_succ, List.getElem?_cons_zero])) (by kernel_rfl) (by kernel_rfl) (by kernel_rfl) ?hQ (Or.inl ⟨by rfl, ?hyp5_5⟩) hH ?restp5_5
    case hQ => exact fun _ _ _ h => h
    case hyp5_5 => (intro Y hY; obtain ⟨y0, y1, y2, y3, y4, y5, y6, y7, y8, y9, y10⟩ := hY; go_simp; try (with_reducible rfl))
    try simp only [Act.put, List.setIfInBounds_toArray, List.set_cons_zero, List.set_cons_succ]
    refine wpAnyH_ready (rs := [4]) (by kernel_rfl) (by simp) ?_
    refine AllReadyH.cons (by (conv => lhs; simp only [List.getElem?_toArray, List.getElem?_cons_succ, List.getElem?_cons_zero])) (fun K hK => ?_) AllReadyH.nil
    go_simp
    go_at_call 15; refine (cS.out _ (Below.drew B3.out)).mono ?_; rintro e w4 ⟨n2, rfl, hL4⟩
    have G4 := hidd (show G13 w4 w2.heap.size 0 LA ln lc from (hL4.block HLT.out (by have := HS2.out; omega) HS3.out.2).trans G3.out)
    have F4 := hidd ((hL4.block HLT.out (j := W.heap.size + 1) (by omega) (by have := HS3.out.1; show _ < W3.heap.size; omega)).trans F3.out)
    have hrow := (hL4.block HLT.out (j := W.heap.size + 1 + 1) (by omega) HS3.out.1).trans E3.out
    have FIN := hidd (fun cs => LeftSh.far (q := W.heap.size + 1 + 1) (by omega) (show _ < W3.drew.heap.size from HS3.out.1) (Below.drew B3.out) hL4 HLT.out (Sav.row (cs := cs) (Below.refl _ _)))
    refine hK.out _ _ (DZ.of G4.out F4.out) (fun hH1 => ?_)
    clear hK hH hL4
    try simp only [Act.put, List.setIfInBounds_toArray, List.set_cons_zero, List.set_cons_succ]
    refine wpAnyH_take (i := 6) (v := ?vp6_6) (by (conv => lhs; simp only [List.getElem?_toArray, List.getElem?_cons_succ, List.getElem?_cons_zero])) (by kernel_rfl) (by kernel_rfl) (by kernel_rfl) ?hQ (Or.inl ⟨by rfl, ?hyp6_6⟩) hH1 ?restp6_6
    case hQ => exact fun _ _ _ h => h
    case hyp6_6 => (intro Y hY; obtain ⟨y0, y1, y2, y3, y4, y5, y6, y7, y8, y9, y10⟩ := hY; go_simp; try (with_reducible rfl))
    try simp only [Act.put, List.setIfInBounds_toArray, List.set_cons_zero, List.set_cons_succ]
    refine wpAnyH_ready (rs := [7]) (by kernel_rfl) (by simp) ?_
    refine AllReadyH.cons (by (conv => lhs; simp only [List.getElem?_toArray, List.getElem?_cons_succ, List.getElem?_cons_zero])) (fun K hK => ?_) AllReadyH.nil
    rw [if_pos (by rfl)]
    refine wp_store_row 35 (.tmp 6) (.tmp 27) (by rfl) (W.heap.size + 1 + 1) #[.int .i64 0, .int .i64 0, .int .i64 0, .int .i64 0, .int .i64 0, .slice none 0 0, .int .i64 0, .int .i64 0, .slice LA ln lc] (by rfl) (by rfl) _ _ hrow (by kernel_rfl) (by rfl) (by simp [Value.oneCell']) ?_
    have hrow2 := setRow_heap w4 (W.heap.size + 1 + 1) _ #[.int .i64 0, .int .i64 0, .int .i64 0, .int .i64 0, .int .i64 0, .slice none 0 0, .int .i64 0, .int .i64 0, .slice LA ln lc] _ _ hrow
    refine hK.out _ _ (DZ.of ((setRow_other w4 _ _ _ (by have := HS2.out; omega)).trans G4.out) ((setRow_other w4 _ _ _ (by omega)).trans F4.out)) (fun hH2 => ?_)
    clear hK hH1 hrow
    try simp only [Act.put]
    refine wpAnyH_take (i := 8) (v := ?vp8_7) (by (conv => lhs; simp only [List.getElem?_toArray, List.getElem?_cons_succ, List.getElem?_cons_zero])) (by kernel_rfl) (by kernel_rfl) (by kernel_rfl) ?hQ (Or.inl ⟨by rfl, ?hyp8_7⟩) hH2 ?restp8_7
    case hQ => exact fun _ _ _ h => h
    case hyp8_7 => (intro Y hY; obtain ⟨y0, y1, y2, y3, y4, y5, y6, y7, y8, y9, y10⟩ := hY; go_simp; try (with_reducible rfl))
    try simp only [Act.put, List.setIfInBounds_toArray, List.set_cons_zero, List.set_cons_succ]
    refine wpAnyH_take (i := 9) (v := ?vp9_8) (by (conv => lhs; simp only [List.getElem?_toArray, List.getElem?_cons_succ, List.getElem?_cons_zero])) (by kernel_rfl) (by kernel_rfl) (by kernel_rfl) ?hQ (Or.inl ⟨by rfl, ?hyp9_8⟩) hH2 ?restp9_8
    case hQ => exact fun _ _ _ h => h
    case hyp9_8 => (intro Y hY; obtain ⟨y0, y1, y2, y3, y4, y5, y6, y7, y8, y9, y10⟩ := hY; go_simp; try (with_reducible rfl))
    try simp only [Act.put, List.setIfInBounds_toArray, List.set_cons_zero, List.set_cons_succ]
    have FIN2 := hidd (FIN.out #[.int .i64 0, .int .i64 0, .int .i64 0, .int .i64 0, .int .i64 0, .slice none 0 0, .int .i64 0, .int .i64 0, .slice LA ln lc])
    have ROW := hidd (show G13 _ _ 0 LA ln lc from hrow2)
    clear FIN hrow2
    obtain ⟨wz, hwz⟩ : ∃ wz : World, w4.setRow (W.heap.size + 1 + 1) #[.int .i64 0, .int .i64 0, .int .i64 0, .int .i64 0, .int .i64 0, .slice none 0 0, .int .i64 0, .int .i64 0, .slice LA ln lc] = wz := ⟨_, rfl⟩
    rw [hwz] at FIN2 ROW hH2
    rw [hwz]
    clear hwz
    refine wpAnyH_done (by kernel_rfl) (?_) _
    clear hH2
    have FIN := FIN2
    obtain ⟨d0, d1, d2, d3, d4, d5, d6, d7, d8⟩ := ROW.out.cells
    go_wp2_with fail
    refine bodyPost_ret (v := .tuple #[.agg #[.int .i64 0, .int .i64 0, .int .i64 0, .int .i64 0, .int .i64 0, .slice none 0 0, .int .i64 0, .int .i64 0, .slice LA ln lc], .slice none 0 0, .bool (n2 == no)]) (by simp [results, Try.results8, go_sem, d0, d1, d2, d3, d4, d5, d6, d7, d8]) rfl ?_
    exact ⟨⟨_, rfl⟩, FIN.out⟩
  · by_cases hk2 : k = 2
    · subst hk2
      go_enter Try.func8, Try.ntmps8
      go_wp2_with fail
      have B1 : Hid (Below W.heap.size W (((W.alloc (.cells #[.int .i64 0, .int .i64 0, .int .i64 0, .int .i64 0, .int .i64 0, .slice none 0 0, .int .i64 0, .int .i64 0, .slice none 0 0] 35)).alloc (.cells #[.int .i64 2, .int .i64 a, .int .i64 z] 43)).alloc (.cells #[.int .i64 0, .int .i64 0, .int .i64 0, .int .i64 0, .int .i64 0, .slice none 0 0, .int .i64 0, .int .i64 0, .slice none 0 0] 35))) := hidd (by (repeat' (first | (with_reducible exact Below.refl _ _) | (with_reducible assumption) | (with_reducible apply Below.setCell) | (with_reducible apply Below.alloc) | (with_reducible apply Below.drew) | (with_reducible apply below_drewN) | (with_reducible refine Below.trans ?_ (Below.mono (by assumption) ?_)) | omega | (simp; done) | (simp; omega))))
      refine (cO.out _ B1.out).mono ?_
      rintro e w2 ⟨A, M, c, no, rfl, hM, hlm, hL2⟩
      have R4 : G13 w2 W.heap.size 0 none 0 0 := (hL2.block HLT.out (j := W.heap.size) (by omega) (by simp; omega)).trans (three_at W _ _ _).1
      have R5 : w2.heap[W.heap.size + 1]? = some (.cells #[.int .i64 2, .int .i64 a, .int .i64 z] 43 (0, 0)) := (hL2.block HLT.out (j := W.heap.size + 1) (by omega) (by simp)).trans (three_at W _ _ _).2.1
      have R6 : w2.heap[W.heap.size + 1 + 1]? = some (.cells #[.int .i64 0, .int .i64 0, .int .i64 0, .int .i64 0, .int .i64 0, .slice none 0 0, .int .i64 0, .int .i64 0, .slice none 0 0] 35 (0, 0)) := (hL2.block HLT.out (j := W.heap.size + 1 + 1) (by omega) (by simp)).trans (three_at W _ _ _).2.2
      have hs2 : W.heap.size + 1 + 1 + 1 ≤ w2.heap.size := by have := hL2.size; simpa using this
      have cSa := hidd (fun Y (hb : Below w2.heap.size w2 Y) => refSame_any A none M [] c 0 hM (by simp) Y (hlm.below hb) (fun hl => absurd hl (by simp)))
      obtain ⟨R, hR⟩ : ∃ R, decide (M = []) = R := ⟨_, rfl⟩
      rw [hR] at cSa
      generalize M.length = n at *
      have L2 := hidd hL2
      have HR5 := hidd R5
      have HR6 := hidd R6
      have HS2 := hidd hs2
      obtain ⟨x0, x1, x2, x3, x4, x5, x6, x7, x8⟩ := R4.cells
      have x9 : w2.cell? ⟨W.heap.size + 1, 1, none⟩ = some (.int .i64 a) := by simp [World.cell?, R5]
      clear hL2 hM hlm hR R4 R5 R6
      go_wp2_with fail
      refine (cG.out _).mono ?_
      rintro e w3 ⟨now, no2, rfl, hb3⟩
      have B3 := hidd (show Below w2.heap.size w2 w3 from by first | exact hb3 | exact below_step (Below.drew (Below.refl _ _)) hb3)
      clear hb3 x0 x1 x2 x3 x4 x5 x6 x7 x8 x9 hs2
      go_wp2_with fail
      obtain ⟨W4, hW4⟩ : ∃ W4, w3.alloc (.cells #[.int .i64 0, .int .i64 0, .int .i64 0, .int .i64 0, .int .i64 0, .slice none 0 0, .int .i64 now, .int .i64 0, .slice none 0 0] 35) = W4 := ⟨_, rfl⟩
      rw [hW4]
      have B4 := hidd (show Below w2.heap.size w2 W4 from by rw [← hW4]; exact below_new B3.out _)
      have HS4 := hidd (show W.heap.size + 1 + 1 < w2.heap.size ∧ w2.heap.size ≤ w3.heap.size ∧ w2.heap.size ≤ W4.heap.size from ⟨by have := HS2.out; omega, B3.out.size, B4.out.size⟩)
      have G4 := hidd (show G13 W4 w3.heap.size now none 0 0 from by rw [← hW4]; exact World.alloc_heap_new w3 _)
      have F4 := hidd ((B4.out.block (W.heap.size + 1) (by have := HS2.out; omega)).trans HR5.out)
      have E4 := hidd ((B4.out.block (W.heap.size + 1 + 1) (by have := HS2.out; omega)).trans HR6.out)
      have L4 := hidd (L2.out.low B4.out)
      clear hW4
      have FI : Hid (∀ Y, Below W4.heap.size W4 Y → ∀ cs, LeftSh h g b v p r u m l room W (Y.setRow (W.heap.size + 1 + 1) cs)) := hidd (fun Y hb cs => LeftSh.far (q := W.heap.size + 1 + 1) (by omega) (by simp) B1.out (L4.out.low hb) HLT.out (Sav.row (cs := cs) (Below.refl _ _)))
      by_cases hno : no = no2
      · subst hno
        refine wp_region_held_drew (S := (fun Y => DZ w3.heap.size (W.heap.size + 1) now none 0 0 a z Y)) (by kernel_rfl) (DZ.of G4.out F4.out) (fun hH => ?_)
        refine wpAnyH_take (i := 0) (v := ?ve0_1) (by (conv => lhs; simp only [List.getElem?_toArray, List.getElem?_cons_succ, List.getElem?_cons_zero])) (by kernel_rfl) (by kernel_rfl) (by kernel_rfl) ?hQ (Or.inl ⟨by rfl, ?hye0_1⟩) hH ?reste0_1
        case hQ => exact fun _ _ _ h => h
        case hye0_1 => (intro Y hY; obtain ⟨y0, y1, y2, y3, y4, y5, y6, y7, y8, y9, y10⟩ := hY; go_simp; try (with_reducible rfl))
        try simp only [Act.put, List.setIfInBounds_toArray, List.set_cons_zero, List.set_cons_succ]
        refine wpAnyH_take (i := 1) (v := ?ve1_2) (by (conv => lhs; simp only [List.getElem?_toArray, List.getElem?_cons_succ, List.getElem?_cons_zero])) (by kernel_rfl) (by kernel_rfl) (by kernel_rfl) ?hQ (Or.inl ⟨by rfl, ?hye1_2⟩) hH ?reste1_2
        case hQ => exact fun _ _ _ h => h
        case hye1_2 => (intro Y hY; obtain ⟨y0, y1, y2, y3, y4, y5, y6, y7, y8, y9, y10⟩ := hY; go_simp; try (with_reducible rfl))
        try simp only [Act.put, List.setIfInBounds_toArray, List.set_cons_zero, List.set_cons_succ]
        refine wpAnyH_take (i := 2) (v := ?ve2_3) (by (conv => lhs; simp only [List.getElem?_toArray, List.getElem?_cons_succ, List.getElem?_cons_zero])) (by kernel_rfl) (by kernel_rfl) (by kernel_rfl) ?hQ (Or.inl ⟨by rfl, ?hye2_3⟩) hH ?reste2_3
        case hQ => exact fun _ _ _ h => h
        case hye2_3 => (intro Y hY; obtain ⟨y0, y1, y2, y3, y4, y5, y6, y7, y8, y9, y10⟩ := hY; go_simp; try (with_reducible rfl))
        try simp only [Act.put, List.setIfInBounds_toArray, List.set_cons_zero, List.set_cons_succ]
        refine wpAnyH_take (i := 3) (v := ?ve3_4) (by (conv => lhs; simp only [List.getElem?_toArray, List.getElem?_cons_succ, List.getElem?_cons_zero])) (by kernel_rfl) (by kernel_rfl) (by kernel_rfl) ?hQ (Or.inl ⟨by rfl, ?hye3_4⟩) hH ?reste3_4
        case hQ => exact fun _ _ _ h => h
        case hye3_4 => (intro Y hY; obtain ⟨y0, y1, y2, y3, y4, y5, y6, y7, y8, y9, y10⟩ := hY; go_simp; try (with_reducible rfl))
        try simp only [Act.put, List.setIfInBounds_toArray, List.set_cons_zero, List.set_cons_succ]
        refine wpAnyH_take (i := 4) (v := ?ve4_5) (by (conv => lhs; simp only [List.getElem?_toArray, List.getElem?_cons_succ, List.getElem?_cons_zero])) (by kernel_rfl) (by kernel_rfl) (by kernel_rfl) ?hQ (Or.inl ⟨by rfl, ?hye4_5⟩) hH ?reste4_5
        case hQ => exact fun _ _ _ h => h
        case hye4_5 => (intro Y hY; obtain ⟨y0, y1, y2, y3, y4, y5, y6, y7, y8, y9, y10⟩ := hY; go_simp; try (with_reducible rfl))
        try simp only [Act.put, List.setIfInBounds_toArray, List.set_cons_zero, List.set_cons_succ]
        refine wpAnyH_take (i := 5) (v := ?ve5_6) (by (conv => lhs; simp only [List.getElem?_toArray, List.getElem?_cons_succ, List.getElem?_cons_zero])) (by kernel_rfl) (by kernel_rfl) (by kernel_rfl) ?hQ (Or.inl ⟨by rfl, ?hye5_6⟩) hH ?reste5_6
        case hQ => exact fun _ _ _ h => h
        case hye5_6 => (intro Y hY; obtain ⟨y0, y1, y2, y3, y4, y5, y6, y7, y8, y9, y10⟩ := hY; go_simp; try (with_reducible rfl))
        try simp only [Act.put, List.setIfInBounds_toArray, List.set_cons_zero, List.set_cons_succ]
        refine wpAnyH_take (i := 6) (v := ?ve6_7) (by (conv => lhs; simp only [List.getElem?_toArray, List.getElem?_cons_succ, List.getElem?_cons_zero])) (by kernel_rfl) (by kernel_rfl) (by kernel_rfl) ?hQ (Or.inl ⟨by rfl, ?hye6_7⟩) hH ?reste6_7
        case hQ => exact fun _ _ _ h => h
        case hye6_7 => (intro Y hY; obtain ⟨y0, y1, y2, y3, y4, y5, y6, y7, y8, y9, y10⟩ := hY; go_simp; try (with_reducible rfl))
        try simp only [Act.put, List.setIfInBounds_toArray, List.set_cons_zero, List.set_cons_succ]
        refine wpAnyH_take (i := 7) (v := ?ve7_8) (by (conv => lhs; simp only [List.getElem?_toArray, List.getElem?_cons_succ, List.getElem?_cons_zero])) (by kernel_rfl) (by kernel_rfl) (by kernel_rfl) ?hQ (Or.inl ⟨by rfl, ?hye7_8⟩) hH ?reste7_8
        case hQ => exact fun _ _ _ h => h
        case hye7_8 => (intro Y hY; obtain ⟨y0, y1, y2, y3, y4, y5, y6, y7, y8, y9, y10⟩ := hY; go_simp; try (with_reducible rfl))
        try simp only [Act.put, List.setIfInBounds_toArray, List.set_cons_zero, List.set_cons_succ]
        refine wpAnyH_ready (rs := [8]) (by kernel_rfl) (by simp) ?_
        refine AllReadyH.cons (by (conv => lhs; simp only [List.getElem?_toArray, List.getElem?_cons_succ, List.getElem?_cons_zero])) (fun K hK => ?_) AllReadyH.nil
        go_simp
        go_at_call 12; refine (cSa.out _ (Below.drew B4.out)).mono ?_; rintro e w5 ⟨rfl, q, hw5⟩
        have BW : Below W4.heap.size W4 w5 := by rw [hw5]; exact below_drewN (Below.drew (Below.refl _ _)) _
        have G5 := hidd (show G13 w5 w3.heap.size now none 0 0 from (BW.block _ (by have := Array.getElem?_eq_some_iff.1 G4.out; exact this.1)).trans G4.out)
        have F5 := hidd ((BW.block (W.heap.size + 1) (by have := HS4.out; omega)).trans F4.out)
        have hrow := (BW.block (W.heap.size + 1 + 1) (by have := HS4.out; omega)).trans E4.out
        have FIN := hidd (fun cs => FI.out _ BW cs)
        refine hK.out _ _ (DZ.of G5.out F5.out) (fun hH1 => ?_)
        clear hK hH hw5
        try simp only [Act.put, List.setIfInBounds_toArray, List.set_cons_zero, List.set_cons_succ]
        refine wpAnyH_take (i := 9) (v := ?ve9_9) (by (conv => lhs; simp only [List.getElem?_toArray, List.getElem?_cons_succ, List.getElem?_cons_zero])) (by kernel_rfl) (by kernel_rfl) (by kernel_rfl) ?hQ (Or.inl ⟨by rfl, ?hye9_9⟩) hH1 ?reste9_9
        case hQ => exact fun _ _ _ h => h
        case hye9_9 => (intro Y hY; obtain ⟨y0, y1, y2, y3, y4, y5, y6, y7, y8, y9, y10⟩ := hY; go_simp; try (with_reducible rfl))
        try simp only [Act.put, List.setIfInBounds_toArray, List.set_cons_zero, List.set_cons_succ]
        refine wpAnyH_ready (rs := [10]) (by kernel_rfl) (by simp) ?_
        refine AllReadyH.cons (by (conv => lhs; simp only [List.getElem?_toArray, List.getElem?_cons_succ, List.getElem?_cons_zero])) (fun K hK => ?_) AllReadyH.nil
        rw [if_pos (by rfl)]
        refine wp_store_row 35 (.tmp 6) (.tmp 53) (by rfl) (W.heap.size + 1 + 1) #[.int .i64 0, .int .i64 0, .int .i64 0, .int .i64 0, .int .i64 0, .slice none 0 0, .int .i64 now, .int .i64 0, .slice none 0 0] (by rfl) (by rfl) _ _ hrow (by kernel_rfl) (by rfl) (by simp [Value.oneCell']) ?_
        have hrow2 := setRow_heap w5 (W.heap.size + 1 + 1) _ #[.int .i64 0, .int .i64 0, .int .i64 0, .int .i64 0, .int .i64 0, .slice none 0 0, .int .i64 now, .int .i64 0, .slice none 0 0] _ _ hrow
        refine hK.out _ _ (DZ.of ((setRow_other w5 _ _ _ (by have := HS4.out; omega)).trans G5.out) ((setRow_other w5 _ _ _ (by omega)).trans F5.out)) (fun hH2 => ?_)
        clear hK hH1 hrow
        try simp only [Act.put]
        refine wpAnyH_take (i := 11) (v := ?ve11_10) (by (conv => lhs; simp only [List.getElem?_toArray, List.getElem?_cons_succ, List.getElem?_cons_zero])) (by kernel_rfl) (by kernel_rfl) (by kernel_rfl) ?hQ (Or.inl ⟨by rfl, ?hye11_10⟩) hH2 ?reste11_10
        case hQ => exact fun _ _ _ h => h
        case hye11_10 => (intro Y hY; obtain ⟨y0, y1, y2, y3, y4, y5, y6, y7, y8, y9, y10⟩ := hY; go_simp; try (with_reducible rfl))
        try simp only [Act.put, List.setIfInBounds_toArray, List.set_cons_zero, List.set_cons_succ]
        refine wpAnyH_take (i := 12) (v := ?ve12_11) (by (conv => lhs; simp only [List.getElem?_toArray, List.getElem?_cons_succ, List.getElem?_cons_zero])) (by kernel_rfl) (by kernel_rfl) (by kernel_rfl) ?hQ (Or.inl ⟨by rfl, ?hye12_11⟩) hH2 ?reste12_11
        case hQ => exact fun _ _ _ h => h
        case hye12_11 => (intro Y hY; obtain ⟨y0, y1, y2, y3, y4, y5, y6, y7, y8, y9, y10⟩ := hY; go_simp; try (with_reducible rfl))
        try simp only [Act.put, List.setIfInBounds_toArray, List.set_cons_zero, List.set_cons_succ]
        have FIN2 := hidd (FIN.out #[.int .i64 0, .int .i64 0, .int .i64 0, .int .i64 0, .int .i64 0, .slice none 0 0, .int .i64 now, .int .i64 0, .slice none 0 0])
        have ROW := hidd (show G13 _ _ now none 0 0 from hrow2)
        clear FIN hrow2
        obtain ⟨wz, hwz⟩ : ∃ wz : World, w5.setRow (W.heap.size + 1 + 1) #[.int .i64 0, .int .i64 0, .int .i64 0, .int .i64 0, .int .i64 0, .slice none 0 0, .int .i64 now, .int .i64 0, .slice none 0 0] = wz := ⟨_, rfl⟩
        rw [hwz] at FIN2 ROW hH2
        rw [hwz]
        clear hwz
        refine wpAnyH_done (by kernel_rfl) (?_) _
        clear hH2
        have FIN := FIN2
        obtain ⟨d0, d1, d2, d3, d4, d5, d6, d7, d8⟩ := ROW.out.cells
        go_wp2_with fail
        refine bodyPost_ret (v := .tuple #[.agg #[.int .i64 0, .int .i64 0, .int .i64 0, .int .i64 0, .int .i64 0, .slice none 0 0, .int .i64 now, .int .i64 0, .slice none 0 0], .slice A n c, .bool R]) (by simp [results, Try.results8, go_sem, d0, d1, d2, d3, d4, d5, d6, d7, d8]) rfl ?_
        exact ⟨⟨_, rfl⟩, FIN.out⟩
      · have hne : (no == no2) = false := by simp [hno]
        have hne2 : decide (no = no2) = false := decide_eq_false hno
        refine wp_region_held_drew (S := (fun Y => DZ w3.heap.size (W.heap.size + 1) now none 0 0 a z Y)) (by kernel_rfl) (DZ.of G4.out F4.out) (fun hH => ?_)
        refine wpAnyH_take (i := 0) (v := ?vf0_1) (by (conv => lhs; simp only [List.getElem?_toArray, List.getElem?_cons_succ, List.getElem?_cons_zero])) (by kernel_rfl) (by kernel_rfl) (by kernel_rfl) ?hQ (Or.inl ⟨by rfl, ?hyf0_1⟩) hH ?restf0_1
        case hQ => exact fun _ _ _ h => h
        case hyf0_1 => (intro Y hY; obtain ⟨y0, y1, y2, y3, y4, y5, y6, y7, y8, y9, y10⟩ := hY; go_simp; try (with_reducible rfl))
        try simp only [Act.put, List.setIfInBounds_toArray, List.set_cons_zero, List.set_cons_succ]
        refine wpAnyH_take (i := 1) (v := ?vf1_2) (by (conv => lhs; simp only [List.getElem?_toArray, List.getElem?_cons_succ, List.getElem?_cons_zero])) (by kernel_rfl) (by kernel_rfl) (by kernel_rfl) ?hQ (Or.inl ⟨by rfl, ?hyf1_2⟩) hH ?restf1_2
        case hQ => exact fun _ _ _ h => h
        case hyf1_2 => (intro Y hY; obtain ⟨y0, y1, y2, y3, y4, y5, y6, y7, y8, y9, y10⟩ := hY; go_simp; try (with_reducible rfl))
        try simp only [Act.put, List.setIfInBounds_toArray, List.set_cons_zero, List.set_cons_succ]
        refine wpAnyH_take (i := 2) (v := ?vf2_3) (by (conv => lhs; simp only [List.getElem?_toArray, List.getElem?_cons_succ, List.getElem?_cons_zero])) (by kernel_rfl) (by kernel_rfl) (by kernel_rfl) ?hQ (Or.inl ⟨by rfl, ?hyf2_3⟩) hH ?restf2_3
        case hQ => exact fun _ _ _ h => h
        case hyf2_3 => (intro Y hY; obtain ⟨y0, y1, y2, y3, y4, y5, y6, y7, y8, y9, y10⟩ := hY; go_simp; try (with_reducible rfl))
        try simp only [Act.put, List.setIfInBounds_toArray, List.set_cons_zero, List.set_cons_succ]
        refine wpAnyH_take (i := 3) (v := ?vf3_4) (by (conv => lhs; simp only [List.getElem?_toArray, List.getElem?_cons_succ, List.getElem?_cons_zero])) (by kernel_rfl) (by kernel_rfl) (by kernel_rfl) ?hQ (Or.inl ⟨by rfl, ?hyf3_4⟩) hH ?restf3_4
        case hQ => exact fun _ _ _ h => h
        case hyf3_4 => (intro Y hY; obtain ⟨y0, y1, y2, y3, y4, y5, y6, y7, y8, y9, y10⟩ := hY; go_simp; try (with_reducible rfl))
        try simp only [Act.put, List.setIfInBounds_toArray, List.set_cons_zero, List.set_cons_succ]
        refine wpAnyH_take (i := 4) (v := ?vf4_5) (by (conv => lhs; simp only [List.getElem?_toArray, List.getElem?_cons_succ, List.getElem?_cons_zero])) (by kernel_rfl) (by kernel_rfl) (by kernel_rfl) ?hQ (Or.inl ⟨by rfl, ?hyf4_5⟩) hH ?restf4_5
        case hQ => exact fun _ _ _ h => h
        case hyf4_5 => (intro Y hY; obtain ⟨y0, y1, y2, y3, y4, y5, y6, y7, y8, y9, y10⟩ := hY; go_simp; try (with_reducible rfl))
        try simp only [Act.put, List.setIfInBounds_toArray, List.set_cons_zero, List.set_cons_succ]
        refine wpAnyH_take (i := 5) (v := ?vf5_6) (by (conv => lhs; simp only [List.getElem?_toArray, List.getElem?_cons_succ, List.getElem?_cons_zero])) (by kernel_rfl) (by kernel_rfl) (by kernel_rfl) ?hQ (Or.inl ⟨by rfl, ?hyf5_6⟩) hH ?restf5_6
        case hQ => exact fun _ _ _ h => h
        case hyf5_6 => (intro Y hY; obtain ⟨y0, y1, y2, y3, y4, y5, y6, y7, y8, y9, y10⟩ := hY; go_simp; try (with_reducible rfl))
        try simp only [Act.put, List.setIfInBounds_toArray, List.set_cons_zero, List.set_cons_succ]
        refine wpAnyH_take (i := 6) (v := undef) (by (conv => lhs; simp only [List.getElem?_toArray, List.getElem?_cons_succ, List.getElem?_cons_zero])) (by kernel_rfl) (by kernel_rfl) (by kernel_rfl) ?hQ (Or.inr ⟨by rfl, rfl⟩) hH ?_
        case hQ => exact fun _ _ _ h => h
        try simp only [Act.put, List.setIfInBounds_toArray, List.set_cons_zero, List.set_cons_succ]
        refine wpAnyH_take (i := 7) (v := undef) (by (conv => lhs; simp only [List.getElem?_toArray, List.getElem?_cons_succ, List.getElem?_cons_zero])) (by kernel_rfl) (by kernel_rfl) (by kernel_rfl) ?hQ (Or.inr ⟨by rfl, rfl⟩) hH ?_
        case hQ => exact fun _ _ _ h => h
        try simp only [Act.put, List.setIfInBounds_toArray, List.set_cons_zero, List.set_cons_succ]
        refine wpAnyH_take (i := 8) (v := undef) (by (conv => lhs; simp only [List.getElem?_toArray, List.getElem?_cons_succ, List.getElem?_cons_zero])) (by kernel_rfl) (by kernel_rfl) (by kernel_rfl) ?hQ (Or.inr ⟨by rfl, rfl⟩) hH ?_
        case hQ => exact fun _ _ _ h => h
        try simp only [Act.put, List.setIfInBounds_toArray, List.set_cons_zero, List.set_cons_succ]
        refine wpAnyH_take (i := 9) (v := ?vf9_7) (by (conv => lhs; simp only [List.getElem?_toArray, List.getElem?_cons_succ, List.getElem?_cons_zero])) (by kernel_rfl) (by kernel_rfl) (by kernel_rfl) ?hQ (Or.inl ⟨by rfl, ?hyf9_7⟩) hH ?restf9_7
        case hQ => exact fun _ _ _ h => h
        case hyf9_7 => (intro Y hY; obtain ⟨y0, y1, y2, y3, y4, y5, y6, y7, y8, y9, y10⟩ := hY; go_simp; try (with_reducible rfl))
        try simp only [Act.put, List.setIfInBounds_toArray, List.set_cons_zero, List.set_cons_succ]
        refine wpAnyH_ready (rs := [10]) (by kernel_rfl) (by simp) ?_
        refine AllReadyH.cons (by (conv => lhs; simp only [List.getElem?_toArray, List.getElem?_cons_succ, List.getElem?_cons_zero])) (fun K hK => ?_) AllReadyH.nil
        obtain ⟨w5, hw5⟩ : ∃ w5, W4.drew = w5 := ⟨_, rfl⟩
        have BW : Below W4.heap.size W4 w5 := by rw [← hw5]; exact Below.drew (Below.refl _ _)
        rw [hw5]
        have G5 := hidd (show G13 w5 w3.heap.size now none 0 0 from (BW.block _ (by have := Array.getElem?_eq_some_iff.1 G4.out; exact this.1)).trans G4.out)
        have F5 := hidd ((BW.block (W.heap.size + 1) (by have := HS4.out; omega)).trans F4.out)
        have hrow := (BW.block (W.heap.size + 1 + 1) (by have := HS4.out; omega)).trans E4.out
        have FIN := hidd (fun cs => FI.out _ BW cs)
        rw [if_pos (by rfl)]
        refine wp_store_row 35 (.tmp 6) (.tmp 53) (by rfl) (W.heap.size + 1 + 1) #[.int .i64 0, .int .i64 0, .int .i64 0, .int .i64 0, .int .i64 0, .slice none 0 0, .int .i64 now, .int .i64 0, .slice none 0 0] (by rfl) (by rfl) _ _ hrow (by kernel_rfl) (by rfl) (by simp [Value.oneCell']) ?_
        have hrow2 := setRow_heap w5 (W.heap.size + 1 + 1) _ #[.int .i64 0, .int .i64 0, .int .i64 0, .int .i64 0, .int .i64 0, .slice none 0 0, .int .i64 now, .int .i64 0, .slice none 0 0] _ _ hrow
        refine hK.out _ _ (DZ.of ((setRow_other w5 _ _ _ (by have := HS4.out; omega)).trans G5.out) ((setRow_other w5 _ _ _ (by omega)).trans F5.out)) (fun hH2 => ?_)
        clear hK hH hrow
        try simp only [Act.put]
        refine wpAnyH_take (i := 11) (v := ?vf11_8) (by (conv => lhs; simp only [List.getElem?_toArray, List.getElem?_cons_succ, List.getElem?_cons_zero])) (by kernel_rfl) (by kernel_rfl) (by kernel_rfl) ?hQ (Or.inl ⟨by rfl, ?hyf11_8⟩) hH2 ?restf11_8
        case hQ => exact fun _ _ _ h => h
        case hyf11_8 => (intro Y hY; obtain ⟨y0, y1, y2, y3, y4, y5, y6, y7, y8, y9, y10⟩ := hY; go_simp; try (with_reducible rfl))
        try simp only [Act.put, List.setIfInBounds_toArray, List.set_cons_zero, List.set_cons_succ]
        refine wpAnyH_take (i := 12) (v := ?vf12_9) (by (conv => lhs; simp only [List.getElem?_toArray, List.getElem?_cons_succ, List.getElem?_cons_zero])) (by kernel_rfl) (by kernel_rfl) (by kernel_rfl) ?hQ (Or.inl ⟨by rfl, ?hyf12_9⟩) hH2 ?restf12_9
        case hQ => exact fun _ _ _ h => h
        case hyf12_9 => (intro Y hY; obtain ⟨y0, y1, y2, y3, y4, y5, y6, y7, y8, y9, y10⟩ := hY; go_simp; try (with_reducible rfl))
        try simp only [Act.put, List.setIfInBounds_toArray, List.set_cons_zero, List.set_cons_succ]
        have FIN2 := hidd (FIN.out #[.int .i64 0, .int .i64 0, .int .i64 0, .int .i64 0, .int .i64 0, .slice none 0 0, .int .i64 now, .int .i64 0, .slice none 0 0])
        have ROW := hidd (show G13 _ _ now none 0 0 from hrow2)
        clear FIN hrow2
        obtain ⟨wz, hwz⟩ : ∃ wz : World, w5.setRow (W.heap.size + 1 + 1) #[.int .i64 0, .int .i64 0, .int .i64 0, .int .i64 0, .int .i64 0, .slice none 0 0, .int .i64 now, .int .i64 0, .slice none 0 0] = wz := ⟨_, rfl⟩
        rw [hwz] at FIN2 ROW hH2
        rw [hwz]
        clear hwz
        refine wpAnyH_done (by kernel_rfl) (?_) _
        clear hH2
        have FIN := FIN2
        obtain ⟨d0, d1, d2, d3, d4, d5, d6, d7, d8⟩ := ROW.out.cells
        go_wp2_with fail
        refine bodyPost_ret (v := .tuple #[.agg #[.int .i64 0, .int .i64 0, .int .i64 0, .int .i64 0, .int .i64 0, .slice none 0 0, .int .i64 now, .int .i64 0, .slice none 0 0], .slice A n c, .bool false]) (by simp [results, Try.results8, go_sem, d0, d1, d2, d3, d4, d5, d6, d7, d8]) rfl ?_
        exact ⟨⟨_, rfl⟩, FIN.out⟩
    · go_enter Try.func8, Try.ntmps8
      go_wp2_with fail
      refine bodyPost_ret (v := .tuple #[.agg #[.int .i64 0, .int .i64 0, .int .i64 0, .int .i64 0, .int .i64 0, .slice none 0 0, .int .i64 0, .int .i64 0, .slice none 0 0], .slice none 0 0, .bool true]) (by simp [results, Try.results8, go_sem]) rfl ?_
      exact ⟨⟨_, rfl⟩, .of HH.out (by (repeat' (first | (with_reducible exact Below.refl _ _) | (with_reducible assumption) | (with_reducible apply Below.setCell) | (with_reducible apply Below.alloc) | (with_reducible apply Below.drew) | (with_reducible apply below_drewN) | (with_reducible refine Below.trans ?_ (Below.mono (by assumption) ?_)) | omega | (simp; done) | (simp; omega))))⟩
end Go.Proofs.Ythaiphkmkchhoaa

/- Shapers: the document's New. -/
namespace Go.Proofs.Ythaiphkmkchhoaa
open Go.RowKit Go.Sort
set_option linter.unusedVariables false
/-- the document's shaper lies in a block. -/
def GQ (W : World) (q : Nat) (p r u m l : Int) (TA : Option Addr) (tn tc : Nat) (now room : Int) (LA : Option Addr) (ln lc : Nat) : Prop := W.heap[q]? = some (.cells #[.int .i64 p, .int .i64 r, .int .i64 u, .int .i64 m, .int .i64 l, .slice TA tn tc, .int .i64 now, .int .i64 room, .slice LA ln lc] 35 (0, 0))
theorem GQ.cells {W : World} {q : Nat} {p r u m l : Int} {TA : Option Addr} {tn tc : Nat} {now room : Int} {LA : Option Addr} {ln lc : Nat} (h : GQ W q p r u m l TA tn tc now room LA ln lc) : W.cell? ⟨q, 0, none⟩ = some (.int .i64 p) ∧ W.cell? ⟨q, 1, none⟩ = some (.int .i64 r) ∧ W.cell? ⟨q, 2, none⟩ = some (.int .i64 u) ∧ W.cell? ⟨q, 3, none⟩ = some (.int .i64 m) ∧ W.cell? ⟨q, 4, none⟩ = some (.int .i64 l) ∧ W.cell? ⟨q, 5, none⟩ = some (.slice TA tn tc) ∧ W.cell? ⟨q, 6, none⟩ = some (.int .i64 now) ∧ W.cell? ⟨q, 7, none⟩ = some (.int .i64 room) ∧ W.cell? ⟨q, 8, none⟩ = some (.slice LA ln lc) := by
  unfold GQ at h
  refine ⟨?_, ?_, ?_, ?_, ?_, ?_, ?_, ?_, ?_⟩ <;> simp [World.cell?, h]
theorem below_row {B q : Nat} {w W : World} (h : Below B w W) (hq : B ≤ q) (cs : Array Value) : Below B w (W.setRow q cs) := ⟨h.os, h.tape, h.output, by rw [setRow_size]; exact h.size, fun j hj => (setRow_other W q j cs (by omega)).trans (h.block j hj)⟩
theorem two_at (W : World) (a b : Obj) : ((W.alloc a).alloc b).heap[W.heap.size]? = some a ∧ ((W.alloc a).alloc b).heap[W.heap.size + 1]? = some b := by
  have e1 := World.alloc_heap_new W a
  have e2 := World.alloc_heap_new (W.alloc a) b
  simp only [World.size_alloc] at e2
  exact ⟨(Below.heap_alloc _ _ _ (by simp)).trans e1, e2⟩
set_option maxRecDepth 100000 in
set_option maxHeartbeats 4000000 in
theorem rnew_any (p r u m l room : Int) (w : World) : Calls Try.prog 7 #[.agg #[.int .i64 p, .int .i64 r, .int .i64 u, .int .i64 m, .int .i64 l], .int .i64 room] w fun e w' => e = .returned (.tuple #[gS p r u m l none 0 0 0 room none 0 0, .bool (newB p r u m l room)]) ∧ Below w.heap.size w w' := by
  have cR := hidd (fun W => right_any p r u m l W)
  unfold gS
  obtain ⟨W1, hW1⟩ : ∃ W1, (w.alloc (.cells #[.int .i64 p, .int .i64 r, .int .i64 u, .int .i64 m, .int .i64 l] 23)).alloc (.cells #[.int .i64 0, .int .i64 0, .int .i64 0, .int .i64 0, .int .i64 0, .slice none 0 0, .int .i64 0, .int .i64 0, .slice none 0 0] 35) = W1 := ⟨_, rfl⟩
  have HW := hidd hW1
  have B1 := hidd (show Below w.heap.size w W1 from by rw [← hW1]; (repeat' (first | (with_reducible exact Below.refl _ _) | (with_reducible assumption) | (with_reducible apply Below.setCell) | (with_reducible apply Below.alloc) | (with_reducible apply Below.drew) | (with_reducible apply below_drewN) | (with_reducible refine Below.trans ?_ (Below.mono (by assumption) ?_)) | omega | (simp; done) | (simp; omega))))
  have HS := hidd (show w.heap.size + 1 < W1.heap.size from by rw [← hW1]; simp)
  have ROW0 := hidd (show W1.heap[w.heap.size + 1]? = some (.cells #[.int .i64 0, .int .i64 0, .int .i64 0, .int .i64 0, .int .i64 0, .slice none 0 0, .int .i64 0, .int .i64 0, .slice none 0 0] 35 (0, 0)) from by rw [← hW1]; exact (two_at w _ _).2)
  have SP := (show W1.heap[w.heap.size]? = some (.cells #[.int .i64 p, .int .i64 r, .int .i64 u, .int .i64 m, .int .i64 l] 23 (0, 0)) from by rw [← hW1]; exact (two_at w _ _).1)
  have KS : Hid (∀ Y, Below W1.heap.size W1 Y → Y.cell? ⟨w.heap.size, 0, none⟩ = some (.int .i64 p) ∧ Y.cell? ⟨w.heap.size, 1, none⟩ = some (.int .i64 r) ∧ Y.cell? ⟨w.heap.size, 2, none⟩ = some (.int .i64 u) ∧ Y.cell? ⟨w.heap.size, 3, none⟩ = some (.int .i64 m) ∧ Y.cell? ⟨w.heap.size, 4, none⟩ = some (.int .i64 l)) := hidd (fun Y hb => by
    have q := (hb.block w.heap.size (by have := HS.out; omega)).trans SP
    exact ⟨by simp [World.cell?, q], by simp [World.cell?, q], by simp [World.cell?, q], by simp [World.cell?, q], by simp [World.cell?, q]⟩)
  clear hW1 SP
  cases hr : rightB p r u m l
  · have hnb : newB p r u m l room = false := by unfold newB; rw [hr]; rfl
    rw [hr] at cR
    clear hr
    go_enter Try.func7, Try.ntmps7
    go_wp2_with fail
    rw [HW.out]
    refine wp_region_held_drew (S := (fun Y => Y.cell? ⟨w.heap.size, 0, none⟩ = some (.int .i64 p) ∧ Y.cell? ⟨w.heap.size, 1, none⟩ = some (.int .i64 r) ∧ Y.cell? ⟨w.heap.size, 2, none⟩ = some (.int .i64 u) ∧ Y.cell? ⟨w.heap.size, 3, none⟩ = some (.int .i64 m) ∧ Y.cell? ⟨w.heap.size, 4, none⟩ = some (.int .i64 l))) (by kernel_rfl) (KS.out _ (Below.drew (Below.refl _ _))) (fun hH => ?_)
    refine wpAnyH_take (i := 0) (v := ?va0_1) (by (conv => lhs; simp only [List.getElem?_toArray, List.getElem?_cons_succ, List.getElem?_cons_zero])) (by kernel_rfl) (by kernel_rfl) (by kernel_rfl) ?hQ (Or.inl ⟨by rfl, ?hya0_1⟩) hH ?resta0_1
    case hQ => exact fun _ _ _ h => h
    case hya0_1 => (intro Y hY; obtain ⟨y0, y1, y2, y3, y4⟩ := hY; go_simp; try (with_reducible rfl))
    try simp only [Act.put, List.setIfInBounds_toArray, List.set_cons_zero, List.set_cons_succ]
    refine wpAnyH_take (i := 1) (v := ?va1_2) (by (conv => lhs; simp only [List.getElem?_toArray, List.getElem?_cons_succ, List.getElem?_cons_zero])) (by kernel_rfl) (by kernel_rfl) (by kernel_rfl) ?hQ (Or.inl ⟨by rfl, ?hya1_2⟩) hH ?resta1_2
    case hQ => exact fun _ _ _ h => h
    case hya1_2 => (intro Y hY; obtain ⟨y0, y1, y2, y3, y4⟩ := hY; go_simp; try (with_reducible rfl))
    try simp only [Act.put, List.setIfInBounds_toArray, List.set_cons_zero, List.set_cons_succ]
    refine wpAnyH_take (i := 2) (v := ?va2_3) (by (conv => lhs; simp only [List.getElem?_toArray, List.getElem?_cons_succ, List.getElem?_cons_zero])) (by kernel_rfl) (by kernel_rfl) (by kernel_rfl) ?hQ (Or.inl ⟨by rfl, ?hya2_3⟩) hH ?resta2_3
    case hQ => exact fun _ _ _ h => h
    case hya2_3 => (intro Y hY; obtain ⟨y0, y1, y2, y3, y4⟩ := hY; go_simp; try (with_reducible rfl))
    try simp only [Act.put, List.setIfInBounds_toArray, List.set_cons_zero, List.set_cons_succ]
    refine wpAnyH_take (i := 3) (v := ?va3_4) (by (conv => lhs; simp only [List.getElem?_toArray, List.getElem?_cons_succ, List.getElem?_cons_zero])) (by kernel_rfl) (by kernel_rfl) (by kernel_rfl) ?hQ (Or.inl ⟨by rfl, ?hya3_4⟩) hH ?resta3_4
    case hQ => exact fun _ _ _ h => h
    case hya3_4 => (intro Y hY; obtain ⟨y0, y1, y2, y3, y4⟩ := hY; go_simp; try (with_reducible rfl))
    try simp only [Act.put, List.setIfInBounds_toArray, List.set_cons_zero, List.set_cons_succ]
    refine wpAnyH_take (i := 4) (v := ?va4_5) (by (conv => lhs; simp only [List.getElem?_toArray, List.getElem?_cons_succ, List.getElem?_cons_zero])) (by kernel_rfl) (by kernel_rfl) (by kernel_rfl) ?hQ (Or.inl ⟨by rfl, ?hya4_5⟩) hH ?resta4_5
    case hQ => exact fun _ _ _ h => h
    case hya4_5 => (intro Y hY; obtain ⟨y0, y1, y2, y3, y4⟩ := hY; go_simp; try (with_reducible rfl))
    try simp only [Act.put, List.setIfInBounds_toArray, List.set_cons_zero, List.set_cons_succ]
    refine wpAnyH_ready (rs := [5]) (by kernel_rfl) (by simp) ?_
    refine AllReadyH.cons (by (conv => lhs; simp only [List.getElem?_toArray, List.getElem?_cons_succ, List.getElem?_cons_zero])) (fun K hK => ?_) AllReadyH.nil
    go_simp
    go_at_call 21; refine (cR.out _).mono ?_; rintro e w2 ⟨rfl, hb2⟩
    have B2 := hidd (below_step (Below.drew (Below.refl _ _)) hb2)
    have hrow := (B2.out.block _ HS.out).trans ROW0.out
    refine hK.out _ _ (KS.out _ B2.out) (fun hH1 => ?_)
    clear hK hH hb2
    try simp only [Act.put, List.setIfInBounds_toArray, List.set_cons_zero, List.set_cons_succ]
    refine wpAnyH_take (i := 6) (v := ?va6_6) (by (conv => lhs; simp only [List.getElem?_toArray, List.getElem?_cons_succ, List.getElem?_cons_zero])) (by kernel_rfl) (by kernel_rfl) (by kernel_rfl) ?hQ (Or.inl ⟨by rfl, ?hya6_6⟩) hH1 ?resta6_6
    case hQ => exact fun _ _ _ h => h
    case hya6_6 => (intro Y hY; obtain ⟨y0, y1, y2, y3, y4⟩ := hY; go_simp; try (with_reducible rfl))
    try simp only [Act.put, List.setIfInBounds_toArray, List.set_cons_zero, List.set_cons_succ]
    refine wpAnyH_take (i := 7) (v := undef) (by (conv => lhs; simp only [List.getElem?_toArray, List.getElem?_cons_succ, List.getElem?_cons_zero])) (by kernel_rfl) (by kernel_rfl) (by kernel_rfl) ?hQ (Or.inr ⟨by rfl, rfl⟩) hH1 ?_
    case hQ => exact fun _ _ _ h => h
    try simp only [Act.put, List.setIfInBounds_toArray, List.set_cons_zero, List.set_cons_succ]
    refine wpAnyH_take (i := 8) (v := undef) (by (conv => lhs; simp only [List.getElem?_toArray, List.getElem?_cons_succ, List.getElem?_cons_zero])) (by kernel_rfl) (by kernel_rfl) (by kernel_rfl) ?hQ (Or.inr ⟨by rfl, rfl⟩) hH1 ?_
    case hQ => exact fun _ _ _ h => h
    try simp only [Act.put, List.setIfInBounds_toArray, List.set_cons_zero, List.set_cons_succ]
    refine wpAnyH_take (i := 9) (v := ?va9_7) (by (conv => lhs; simp only [List.getElem?_toArray, List.getElem?_cons_succ, List.getElem?_cons_zero])) (by kernel_rfl) (by kernel_rfl) (by kernel_rfl) ?hQ (Or.inl ⟨by rfl, ?hya9_7⟩) hH1 ?resta9_7
    case hQ => exact fun _ _ _ h => h
    case hya9_7 => (intro Y hY; obtain ⟨y0, y1, y2, y3, y4⟩ := hY; go_simp; try (with_reducible rfl))
    try simp only [Act.put, List.setIfInBounds_toArray, List.set_cons_zero, List.set_cons_succ]
    refine wpAnyH_take (i := 10) (v := ?va10_8) (by (conv => lhs; simp only [List.getElem?_toArray, List.getElem?_cons_succ, List.getElem?_cons_zero])) (by kernel_rfl) (by kernel_rfl) (by kernel_rfl) ?hQ (Or.inl ⟨by rfl, ?hya10_8⟩) hH1 ?resta10_8
    case hQ => exact fun _ _ _ h => h
    case hya10_8 => (intro Y hY; obtain ⟨y0, y1, y2, y3, y4⟩ := hY; go_simp; try (with_reducible rfl))
    try simp only [Act.put, List.setIfInBounds_toArray, List.set_cons_zero, List.set_cons_succ]
    refine wpAnyH_take (i := 11) (v := undef) (by (conv => lhs; simp only [List.getElem?_toArray, List.getElem?_cons_succ, List.getElem?_cons_zero])) (by kernel_rfl) (by kernel_rfl) (by kernel_rfl) ?hQ (Or.inr ⟨by rfl, rfl⟩) hH1 ?_
    case hQ => exact fun _ _ _ h => h
    try simp only [Act.put, List.setIfInBounds_toArray, List.set_cons_zero, List.set_cons_succ]
    refine wpAnyH_take (i := 12) (v := undef) (by (conv => lhs; simp only [List.getElem?_toArray, List.getElem?_cons_succ, List.getElem?_cons_zero])) (by kernel_rfl) (by kernel_rfl) (by kernel_rfl) ?hQ (Or.inr ⟨by rfl, rfl⟩) hH1 ?_
    case hQ => exact fun _ _ _ h => h
    try simp only [Act.put, List.setIfInBounds_toArray, List.set_cons_zero, List.set_cons_succ]
    refine wpAnyH_take (i := 13) (v := ?va13_9) (by (conv => lhs; simp only [List.getElem?_toArray, List.getElem?_cons_succ, List.getElem?_cons_zero])) (by kernel_rfl) (by kernel_rfl) (by kernel_rfl) ?hQ (Or.inl ⟨by rfl, ?hya13_9⟩) hH1 ?resta13_9
    case hQ => exact fun _ _ _ h => h
    case hya13_9 => (intro Y hY; obtain ⟨y0, y1, y2, y3, y4⟩ := hY; go_simp; try (with_reducible rfl))
    try simp only [Act.put, List.setIfInBounds_toArray, List.set_cons_zero, List.set_cons_succ]
    refine wpAnyH_ready (rs := [14]) (by kernel_rfl) (by simp) ?_
    refine AllReadyH.cons (by (conv => lhs; simp only [List.getElem?_toArray, List.getElem?_cons_succ, List.getElem?_cons_zero])) (fun K hK => ?_) AllReadyH.nil
    rw [if_pos (by rfl)]
    refine wp_store_row 35 (.tmp 4) (.tmp 9) (by rfl) (w.heap.size + 1) #[.int .i64 p, .int .i64 r, .int .i64 u, .int .i64 m, .int .i64 l, .slice none 0 0, .int .i64 0, .int .i64 room, .slice none 0 0] (by rfl) (by rfl) _ _ hrow (by kernel_rfl) (by rfl) (by simp [Value.oneCell']) ?_
    have hrow2 := setRow_heap w2 (w.heap.size + 1) _ #[.int .i64 p, .int .i64 r, .int .i64 u, .int .i64 m, .int .i64 l, .slice none 0 0, .int .i64 0, .int .i64 room, .slice none 0 0] _ _ hrow
    obtain ⟨z0, z1, z2, z3, z4⟩ := KS.out _ B2.out
    refine hK.out _ _ (⟨(cell_setRow_other _ _ _ _ (by simp)).trans z0, (cell_setRow_other _ _ _ _ (by simp)).trans z1, (cell_setRow_other _ _ _ _ (by simp)).trans z2, (cell_setRow_other _ _ _ _ (by simp)).trans z3, (cell_setRow_other _ _ _ _ (by simp)).trans z4⟩) (fun hH2 => ?_)
    clear hK hH1 hrow z0 z1 z2 z3 z4
    try simp only [Act.put]
    refine wpAnyH_take (i := 15) (v := ?va15_10) (by (conv => lhs; simp only [List.getElem?_toArray, List.getElem?_cons_succ, List.getElem?_cons_zero])) (by kernel_rfl) (by kernel_rfl) (by kernel_rfl) ?hQ (Or.inl ⟨by rfl, ?hya15_10⟩) hH2 ?resta15_10
    case hQ => exact fun _ _ _ h => h
    case hya15_10 => (intro Y hY; obtain ⟨y0, y1, y2, y3, y4⟩ := hY; go_simp; try (with_reducible rfl))
    try simp only [Act.put, List.setIfInBounds_toArray, List.set_cons_zero, List.set_cons_succ]
    have FIN := hidd (below_row (q := w.heap.size + 1) (B := w.heap.size) (B1.out.trans (B2.out.mono B1.out.size)) (by omega) #[.int .i64 p, .int .i64 r, .int .i64 u, .int .i64 m, .int .i64 l, .slice none 0 0, .int .i64 0, .int .i64 room, .slice none 0 0])
    have ROW := hidd (show GQ _ _ p r u m l none 0 0 0 room none 0 0 from hrow2)
    clear hrow2
    obtain ⟨wz, hwz⟩ : ∃ wz : World, w2.setRow (w.heap.size + 1) #[.int .i64 p, .int .i64 r, .int .i64 u, .int .i64 m, .int .i64 l, .slice none 0 0, .int .i64 0, .int .i64 room, .slice none 0 0] = wz := ⟨_, rfl⟩
    rw [hwz] at FIN ROW hH2
    rw [hwz]
    clear hwz
    refine wpAnyH_done (by kernel_rfl) (?_) _
    clear hH2
    obtain ⟨d0, d1, d2, d3, d4, d5, d6, d7, d8⟩ := ROW.out.cells
    go_wp2_with fail
    refine bodyPost_ret (v := .tuple #[.agg #[.int .i64 p, .int .i64 r, .int .i64 u, .int .i64 m, .int .i64 l, .slice none 0 0, .int .i64 0, .int .i64 room, .slice none 0 0], .bool false]) (by simp [results, Try.results7, go_sem, d0, d1, d2, d3, d4, d5, d6, d7, d8]) rfl ?_
    exact ⟨by rw [hnb], FIN.out⟩
  · rw [hr] at cR
    by_cases h0 : 0 ≤ room
    · have hnb : newB p r u m l room = decide (room ≤ 1000000000) := by unfold newB; rw [hr]; simp [h0]
      clear hr
      go_enter Try.func7, Try.ntmps7
      go_wp2_with fail
      rw [HW.out]
      refine wp_region_held_drew (S := (fun Y => Y.cell? ⟨w.heap.size, 0, none⟩ = some (.int .i64 p) ∧ Y.cell? ⟨w.heap.size, 1, none⟩ = some (.int .i64 r) ∧ Y.cell? ⟨w.heap.size, 2, none⟩ = some (.int .i64 u) ∧ Y.cell? ⟨w.heap.size, 3, none⟩ = some (.int .i64 m) ∧ Y.cell? ⟨w.heap.size, 4, none⟩ = some (.int .i64 l))) (by kernel_rfl) (KS.out _ (Below.drew (Below.refl _ _))) (fun hH => ?_)
      refine wpAnyH_take (i := 0) (v := ?vc0_1) (by (conv => lhs; simp only [List.getElem?_toArray, List.getElem?_cons_succ, List.getElem?_cons_zero])) (by kernel_rfl) (by kernel_rfl) (by kernel_rfl) ?hQ (Or.inl ⟨by rfl, ?hyc0_1⟩) hH ?restc0_1
      case hQ => exact fun _ _ _ h => h
      case hyc0_1 => (intro Y hY; obtain ⟨y0, y1, y2, y3, y4⟩ := hY; go_simp; try (with_reducible rfl))
      try simp only [Act.put, List.setIfInBounds_toArray, List.set_cons_zero, List.set_cons_succ]
      refine wpAnyH_take (i := 1) (v := ?vc1_2) (by (conv => lhs; simp only [List.getElem?_toArray, List.getElem?_cons_succ, List.getElem?_cons_zero])) (by kernel_rfl) (by kernel_rfl) (by kernel_rfl) ?hQ (Or.inl ⟨by rfl, ?hyc1_2⟩) hH ?restc1_2
      case hQ => exact fun _ _ _ h => h
      case hyc1_2 => (intro Y hY; obtain ⟨y0, y1, y2, y3, y4⟩ := hY; go_simp; try (with_reducible rfl))
      try simp only [Act.put, List.setIfInBounds_toArray, List.set_cons_zero, List.set_cons_succ]
      refine wpAnyH_take (i := 2) (v := ?vc2_3) (by (conv => lhs; simp only [List.getElem?_toArray, List.getElem?_cons_succ, List.getElem?_cons_zero])) (by kernel_rfl) (by kernel_rfl) (by kernel_rfl) ?hQ (Or.inl ⟨by rfl, ?hyc2_3⟩) hH ?restc2_3
      case hQ => exact fun _ _ _ h => h
      case hyc2_3 => (intro Y hY; obtain ⟨y0, y1, y2, y3, y4⟩ := hY; go_simp; try (with_reducible rfl))
      try simp only [Act.put, List.setIfInBounds_toArray, List.set_cons_zero, List.set_cons_succ]
      refine wpAnyH_take (i := 3) (v := ?vc3_4) (by (conv => lhs; simp only [List.getElem?_toArray, List.getElem?_cons_succ, List.getElem?_cons_zero])) (by kernel_rfl) (by kernel_rfl) (by kernel_rfl) ?hQ (Or.inl ⟨by rfl, ?hyc3_4⟩) hH ?restc3_4
      case hQ => exact fun _ _ _ h => h
      case hyc3_4 => (intro Y hY; obtain ⟨y0, y1, y2, y3, y4⟩ := hY; go_simp; try (with_reducible rfl))
      try simp only [Act.put, List.setIfInBounds_toArray, List.set_cons_zero, List.set_cons_succ]
      refine wpAnyH_take (i := 4) (v := ?vc4_5) (by (conv => lhs; simp only [List.getElem?_toArray, List.getElem?_cons_succ, List.getElem?_cons_zero])) (by kernel_rfl) (by kernel_rfl) (by kernel_rfl) ?hQ (Or.inl ⟨by rfl, ?hyc4_5⟩) hH ?restc4_5
      case hQ => exact fun _ _ _ h => h
      case hyc4_5 => (intro Y hY; obtain ⟨y0, y1, y2, y3, y4⟩ := hY; go_simp; try (with_reducible rfl))
      try simp only [Act.put, List.setIfInBounds_toArray, List.set_cons_zero, List.set_cons_succ]
      refine wpAnyH_ready (rs := [5]) (by kernel_rfl) (by simp) ?_
      refine AllReadyH.cons (by (conv => lhs; simp only [List.getElem?_toArray, List.getElem?_cons_succ, List.getElem?_cons_zero])) (fun K hK => ?_) AllReadyH.nil
      go_simp
      go_at_call 21; refine (cR.out _).mono ?_; rintro e w2 ⟨rfl, hb2⟩
      have B2 := hidd (below_step (Below.drew (Below.refl _ _)) hb2)
      have hrow := (B2.out.block _ HS.out).trans ROW0.out
      refine hK.out _ _ (KS.out _ B2.out) (fun hH1 => ?_)
      clear hK hH hb2
      try simp only [Act.put, List.setIfInBounds_toArray, List.set_cons_zero, List.set_cons_succ]
      refine wpAnyH_take (i := 6) (v := ?vc6_6) (by (conv => lhs; simp only [List.getElem?_toArray, List.getElem?_cons_succ, List.getElem?_cons_zero])) (by kernel_rfl) (by kernel_rfl) (by kernel_rfl) ?hQ (Or.inl ⟨by rfl, ?hyc6_6⟩) hH1 ?restc6_6
      case hQ => exact fun _ _ _ h => h
      case hyc6_6 => (intro Y hY; obtain ⟨y0, y1, y2, y3, y4⟩ := hY; go_simp; try (with_reducible rfl))
      try simp only [Act.put, List.setIfInBounds_toArray, List.set_cons_zero, List.set_cons_succ]
      refine wpAnyH_take (i := 7) (v := ?vc7_7) (by (conv => lhs; simp only [List.getElem?_toArray, List.getElem?_cons_succ, List.getElem?_cons_zero])) (by kernel_rfl) (by kernel_rfl) (by kernel_rfl) ?hQ (Or.inl ⟨by rfl, ?hyc7_7⟩) hH1 ?restc7_7
      case hQ => exact fun _ _ _ h => h
      case hyc7_7 => (intro Y hY; obtain ⟨y0, y1, y2, y3, y4⟩ := hY; go_simp; try (with_reducible rfl))
      try simp only [Act.put, List.setIfInBounds_toArray, List.set_cons_zero, List.set_cons_succ]
      refine wpAnyH_take (i := 8) (v := ?vc8_8) (by (conv => lhs; simp only [List.getElem?_toArray, List.getElem?_cons_succ, List.getElem?_cons_zero])) (by kernel_rfl) (by kernel_rfl) (by kernel_rfl) ?hQ (Or.inl ⟨by rfl, ?hyc8_8⟩) hH1 ?restc8_8
      case hQ => exact fun _ _ _ h => h
      case hyc8_8 => (intro Y hY; obtain ⟨y0, y1, y2, y3, y4⟩ := hY; go_simp; try (with_reducible rfl))
      try simp only [Act.put, List.setIfInBounds_toArray, List.set_cons_zero, List.set_cons_succ]
      refine wpAnyH_take (i := 9) (v := ?vc9_9) (by (conv => lhs; simp only [List.getElem?_toArray, List.getElem?_cons_succ, List.getElem?_cons_zero])) (by kernel_rfl) (by kernel_rfl) (by kernel_rfl) ?hQ (Or.inl ⟨by rfl, ?hyc9_9⟩) hH1 ?restc9_9
      case hQ => exact fun _ _ _ h => h
      case hyc9_9 => (intro Y hY; obtain ⟨y0, y1, y2, y3, y4⟩ := hY; go_simp; try (with_reducible rfl))
      try simp only [Act.put, List.setIfInBounds_toArray, List.set_cons_zero, List.set_cons_succ]
      refine wpAnyH_take (i := 10) (v := ?vc10_10) (by (conv => lhs; simp only [List.getElem?_toArray, List.getElem?_cons_succ, List.getElem?_cons_zero])) (by kernel_rfl) (by kernel_rfl) (by kernel_rfl) ?hQ (Or.inl ⟨by rfl, ?hyc10_10⟩) hH1 ?restc10_10
      case hQ => exact fun _ _ _ h => h
      case hyc10_10 => (intro Y hY; obtain ⟨y0, y1, y2, y3, y4⟩ := hY; go_simp; try (with_reducible rfl))
      try simp only [Act.put, List.setIfInBounds_toArray, List.set_cons_zero, List.set_cons_succ]
      refine wpAnyH_take (i := 11) (v := ?vc11_11) (by (conv => lhs; simp only [List.getElem?_toArray, List.getElem?_cons_succ, List.getElem?_cons_zero])) (by kernel_rfl) (by kernel_rfl) (by kernel_rfl) ?hQ (Or.inl ⟨by rfl, ?hyc11_11⟩) hH1 ?restc11_11
      case hQ => exact fun _ _ _ h => h
      case hyc11_11 => (intro Y hY; obtain ⟨y0, y1, y2, y3, y4⟩ := hY; go_simp; try (with_reducible rfl))
      try simp only [Act.put, List.setIfInBounds_toArray, List.set_cons_zero, List.set_cons_succ]
      refine wpAnyH_take (i := 12) (v := ?vc12_12) (by (conv => lhs; simp only [List.getElem?_toArray, List.getElem?_cons_succ, List.getElem?_cons_zero])) (by kernel_rfl) (by kernel_rfl) (by kernel_rfl) ?hQ (Or.inl ⟨by rfl, ?hyc12_12⟩) hH1 ?restc12_12
      case hQ => exact fun _ _ _ h => h
      case hyc12_12 => (intro Y hY; obtain ⟨y0, y1, y2, y3, y4⟩ := hY; go_simp; try (with_reducible rfl))
      try simp only [Act.put, List.setIfInBounds_toArray, List.set_cons_zero, List.set_cons_succ]
      refine wpAnyH_take (i := 13) (v := ?vc13_13) (by (conv => lhs; simp only [List.getElem?_toArray, List.getElem?_cons_succ, List.getElem?_cons_zero])) (by kernel_rfl) (by kernel_rfl) (by kernel_rfl) ?hQ (Or.inl ⟨by rfl, ?hyc13_13⟩) hH1 ?restc13_13
      case hQ => exact fun _ _ _ h => h
      case hyc13_13 => (intro Y hY; obtain ⟨y0, y1, y2, y3, y4⟩ := hY; go_simp; try (with_reducible rfl))
      try simp only [Act.put, List.setIfInBounds_toArray, List.set_cons_zero, List.set_cons_succ]
      refine wpAnyH_ready (rs := [14]) (by kernel_rfl) (by simp) ?_
      refine AllReadyH.cons (by (conv => lhs; simp only [List.getElem?_toArray, List.getElem?_cons_succ, List.getElem?_cons_zero])) (fun K hK => ?_) AllReadyH.nil
      rw [if_pos (by rfl)]
      refine wp_store_row 35 (.tmp 4) (.tmp 9) (by rfl) (w.heap.size + 1) #[.int .i64 p, .int .i64 r, .int .i64 u, .int .i64 m, .int .i64 l, .slice none 0 0, .int .i64 0, .int .i64 room, .slice none 0 0] (by rfl) (by rfl) _ _ hrow (by kernel_rfl) (by rfl) (by simp [Value.oneCell']) ?_
      have hrow2 := setRow_heap w2 (w.heap.size + 1) _ #[.int .i64 p, .int .i64 r, .int .i64 u, .int .i64 m, .int .i64 l, .slice none 0 0, .int .i64 0, .int .i64 room, .slice none 0 0] _ _ hrow
      obtain ⟨z0, z1, z2, z3, z4⟩ := KS.out _ B2.out
      refine hK.out _ _ (⟨(cell_setRow_other _ _ _ _ (by simp)).trans z0, (cell_setRow_other _ _ _ _ (by simp)).trans z1, (cell_setRow_other _ _ _ _ (by simp)).trans z2, (cell_setRow_other _ _ _ _ (by simp)).trans z3, (cell_setRow_other _ _ _ _ (by simp)).trans z4⟩) (fun hH2 => ?_)
      clear hK hH1 hrow z0 z1 z2 z3 z4
      try simp only [Act.put]
      refine wpAnyH_take (i := 15) (v := ?vc15_14) (by (conv => lhs; simp only [List.getElem?_toArray, List.getElem?_cons_succ, List.getElem?_cons_zero])) (by kernel_rfl) (by kernel_rfl) (by kernel_rfl) ?hQ (Or.inl ⟨by rfl, ?hyc15_14⟩) hH2 ?restc15_14
      case hQ => exact fun _ _ _ h => h
      case hyc15_14 => (intro Y hY; obtain ⟨y0, y1, y2, y3, y4⟩ := hY; go_simp; try (with_reducible rfl))
      try simp only [Act.put, List.setIfInBounds_toArray, List.set_cons_zero, List.set_cons_succ]
      have FIN := hidd (below_row (q := w.heap.size + 1) (B := w.heap.size) (B1.out.trans (B2.out.mono B1.out.size)) (by omega) #[.int .i64 p, .int .i64 r, .int .i64 u, .int .i64 m, .int .i64 l, .slice none 0 0, .int .i64 0, .int .i64 room, .slice none 0 0])
      have ROW := hidd (show GQ _ _ p r u m l none 0 0 0 room none 0 0 from hrow2)
      clear hrow2
      obtain ⟨wz, hwz⟩ : ∃ wz : World, w2.setRow (w.heap.size + 1) #[.int .i64 p, .int .i64 r, .int .i64 u, .int .i64 m, .int .i64 l, .slice none 0 0, .int .i64 0, .int .i64 room, .slice none 0 0] = wz := ⟨_, rfl⟩
      rw [hwz] at FIN ROW hH2
      rw [hwz]
      clear hwz
      refine wpAnyH_done (by kernel_rfl) (?_) _
      clear hH2
      obtain ⟨d0, d1, d2, d3, d4, d5, d6, d7, d8⟩ := ROW.out.cells
      go_wp2_with fail
      refine bodyPost_ret (v := .tuple #[.agg #[.int .i64 p, .int .i64 r, .int .i64 u, .int .i64 m, .int .i64 l, .slice none 0 0, .int .i64 0, .int .i64 room, .slice none 0 0], .bool (decide (room ≤ 1000000000))]) (by simp [results, Try.results7, go_sem, d0, d1, d2, d3, d4, d5, d6, d7, d8]) rfl ?_
      exact ⟨by rw [hnb], FIN.out⟩
    · have hnb : newB p r u m l room = false := by unfold newB; rw [hr]; simp [h0]
      have h00 : decide (0 ≤ room) = false := decide_eq_false h0
      clear hr
      go_enter Try.func7, Try.ntmps7
      go_wp2_with fail
      rw [HW.out]
      refine wp_region_held_drew (S := (fun Y => Y.cell? ⟨w.heap.size, 0, none⟩ = some (.int .i64 p) ∧ Y.cell? ⟨w.heap.size, 1, none⟩ = some (.int .i64 r) ∧ Y.cell? ⟨w.heap.size, 2, none⟩ = some (.int .i64 u) ∧ Y.cell? ⟨w.heap.size, 3, none⟩ = some (.int .i64 m) ∧ Y.cell? ⟨w.heap.size, 4, none⟩ = some (.int .i64 l))) (by kernel_rfl) (KS.out _ (Below.drew (Below.refl _ _))) (fun hH => ?_)
      refine wpAnyH_take (i := 0) (v := ?vb0_1) (by (conv => lhs; simp only [List.getElem?_toArray, List.getElem?_cons_succ, List.getElem?_cons_zero])) (by kernel_rfl) (by kernel_rfl) (by kernel_rfl) ?hQ (Or.inl ⟨by rfl, ?hyb0_1⟩) hH ?restb0_1
      case hQ => exact fun _ _ _ h => h
      case hyb0_1 => (intro Y hY; obtain ⟨y0, y1, y2, y3, y4⟩ := hY; go_simp; try (with_reducible rfl))
      try simp only [Act.put, List.setIfInBounds_toArray, List.set_cons_zero, List.set_cons_succ]
      refine wpAnyH_take (i := 1) (v := ?vb1_2) (by (conv => lhs; simp only [List.getElem?_toArray, List.getElem?_cons_succ, List.getElem?_cons_zero])) (by kernel_rfl) (by kernel_rfl) (by kernel_rfl) ?hQ (Or.inl ⟨by rfl, ?hyb1_2⟩) hH ?restb1_2
      case hQ => exact fun _ _ _ h => h
      case hyb1_2 => (intro Y hY; obtain ⟨y0, y1, y2, y3, y4⟩ := hY; go_simp; try (with_reducible rfl))
      try simp only [Act.put, List.setIfInBounds_toArray, List.set_cons_zero, List.set_cons_succ]
      refine wpAnyH_take (i := 2) (v := ?vb2_3) (by (conv => lhs; simp only [List.getElem?_toArray, List.getElem?_cons_succ, List.getElem?_cons_zero])) (by kernel_rfl) (by kernel_rfl) (by kernel_rfl) ?hQ (Or.inl ⟨by rfl, ?hyb2_3⟩) hH ?restb2_3
      case hQ => exact fun _ _ _ h => h
      case hyb2_3 => (intro Y hY; obtain ⟨y0, y1, y2, y3, y4⟩ := hY; go_simp; try (with_reducible rfl))
      try simp only [Act.put, List.setIfInBounds_toArray, List.set_cons_zero, List.set_cons_succ]
      refine wpAnyH_take (i := 3) (v := ?vb3_4) (by (conv => lhs; simp only [List.getElem?_toArray, List.getElem?_cons_succ, List.getElem?_cons_zero])) (by kernel_rfl) (by kernel_rfl) (by kernel_rfl) ?hQ (Or.inl ⟨by rfl, ?hyb3_4⟩) hH ?restb3_4
      case hQ => exact fun _ _ _ h => h
      case hyb3_4 => (intro Y hY; obtain ⟨y0, y1, y2, y3, y4⟩ := hY; go_simp; try (with_reducible rfl))
      try simp only [Act.put, List.setIfInBounds_toArray, List.set_cons_zero, List.set_cons_succ]
      refine wpAnyH_take (i := 4) (v := ?vb4_5) (by (conv => lhs; simp only [List.getElem?_toArray, List.getElem?_cons_succ, List.getElem?_cons_zero])) (by kernel_rfl) (by kernel_rfl) (by kernel_rfl) ?hQ (Or.inl ⟨by rfl, ?hyb4_5⟩) hH ?restb4_5
      case hQ => exact fun _ _ _ h => h
      case hyb4_5 => (intro Y hY; obtain ⟨y0, y1, y2, y3, y4⟩ := hY; go_simp; try (with_reducible rfl))
      try simp only [Act.put, List.setIfInBounds_toArray, List.set_cons_zero, List.set_cons_succ]
      refine wpAnyH_ready (rs := [5]) (by kernel_rfl) (by simp) ?_
      refine AllReadyH.cons (by (conv => lhs; simp only [List.getElem?_toArray, List.getElem?_cons_succ, List.getElem?_cons_zero])) (fun K hK => ?_) AllReadyH.nil
      go_simp
      go_at_call 21; refine (cR.out _).mono ?_; rintro e w2 ⟨rfl, hb2⟩
      have B2 := hidd (below_step (Below.drew (Below.refl _ _)) hb2)
      have hrow := (B2.out.block _ HS.out).trans ROW0.out
      refine hK.out _ _ (KS.out _ B2.out) (fun hH1 => ?_)
      clear hK hH hb2
      try simp only [Act.put, List.setIfInBounds_toArray, List.set_cons_zero, List.set_cons_succ]
      refine wpAnyH_take (i := 6) (v := ?vb6_6) (by (conv => lhs; simp only [List.getElem?_toArray, List.getElem?_cons_succ, List.getElem?_cons_zero])) (by kernel_rfl) (by kernel_rfl) (by kernel_rfl) ?hQ (Or.inl ⟨by rfl, ?hyb6_6⟩) hH1 ?restb6_6
      case hQ => exact fun _ _ _ h => h
      case hyb6_6 => (intro Y hY; obtain ⟨y0, y1, y2, y3, y4⟩ := hY; go_simp; try (with_reducible rfl))
      try simp only [Act.put, List.setIfInBounds_toArray, List.set_cons_zero, List.set_cons_succ]
      refine wpAnyH_take (i := 7) (v := ?vb7_7) (by (conv => lhs; simp only [List.getElem?_toArray, List.getElem?_cons_succ, List.getElem?_cons_zero])) (by kernel_rfl) (by kernel_rfl) (by kernel_rfl) ?hQ (Or.inl ⟨by rfl, ?hyb7_7⟩) hH1 ?restb7_7
      case hQ => exact fun _ _ _ h => h
      case hyb7_7 => (intro Y hY; obtain ⟨y0, y1, y2, y3, y4⟩ := hY; go_simp; try (with_reducible rfl))
      try simp only [Act.put, List.setIfInBounds_toArray, List.set_cons_zero, List.set_cons_succ]
      refine wpAnyH_take (i := 8) (v := ?vb8_8) (by (conv => lhs; simp only [List.getElem?_toArray, List.getElem?_cons_succ, List.getElem?_cons_zero])) (by kernel_rfl) (by kernel_rfl) (by kernel_rfl) ?hQ (Or.inl ⟨by rfl, ?hyb8_8⟩) hH1 ?restb8_8
      case hQ => exact fun _ _ _ h => h
      case hyb8_8 => (intro Y hY; obtain ⟨y0, y1, y2, y3, y4⟩ := hY; go_simp; try (with_reducible rfl))
      try simp only [Act.put, List.setIfInBounds_toArray, List.set_cons_zero, List.set_cons_succ]
      refine wpAnyH_take (i := 9) (v := ?vb9_9) (by (conv => lhs; simp only [List.getElem?_toArray, List.getElem?_cons_succ, List.getElem?_cons_zero])) (by kernel_rfl) (by kernel_rfl) (by kernel_rfl) ?hQ (Or.inl ⟨by rfl, ?hyb9_9⟩) hH1 ?restb9_9
      case hQ => exact fun _ _ _ h => h
      case hyb9_9 => (intro Y hY; obtain ⟨y0, y1, y2, y3, y4⟩ := hY; go_simp; try (with_reducible rfl))
      try simp only [Act.put, List.setIfInBounds_toArray, List.set_cons_zero, List.set_cons_succ]
      refine wpAnyH_take (i := 10) (v := ?vb10_10) (by (conv => lhs; simp only [List.getElem?_toArray, List.getElem?_cons_succ, List.getElem?_cons_zero])) (by kernel_rfl) (by kernel_rfl) (by kernel_rfl) ?hQ (Or.inl ⟨by rfl, ?hyb10_10⟩) hH1 ?restb10_10
      case hQ => exact fun _ _ _ h => h
      case hyb10_10 => (intro Y hY; obtain ⟨y0, y1, y2, y3, y4⟩ := hY; go_simp; try (with_reducible rfl))
      try simp only [Act.put, List.setIfInBounds_toArray, List.set_cons_zero, List.set_cons_succ]
      refine wpAnyH_take (i := 11) (v := undef) (by (conv => lhs; simp only [List.getElem?_toArray, List.getElem?_cons_succ, List.getElem?_cons_zero])) (by kernel_rfl) (by kernel_rfl) (by kernel_rfl) ?hQ (Or.inr ⟨by rfl, rfl⟩) hH1 ?_
      case hQ => exact fun _ _ _ h => h
      try simp only [Act.put, List.setIfInBounds_toArray, List.set_cons_zero, List.set_cons_succ]
      refine wpAnyH_take (i := 12) (v := undef) (by (conv => lhs; simp only [List.getElem?_toArray, List.getElem?_cons_succ, List.getElem?_cons_zero])) (by kernel_rfl) (by kernel_rfl) (by kernel_rfl) ?hQ (Or.inr ⟨by rfl, rfl⟩) hH1 ?_
      case hQ => exact fun _ _ _ h => h
      try simp only [Act.put, List.setIfInBounds_toArray, List.set_cons_zero, List.set_cons_succ]
      refine wpAnyH_take (i := 13) (v := ?vb13_11) (by (conv => lhs; simp only [List.getElem?_toArray, List.getElem?_cons_succ, List.getElem?_cons_zero])) (by kernel_rfl) (by kernel_rfl) (by kernel_rfl) ?hQ (Or.inl ⟨by rfl, ?hyb13_11⟩) hH1 ?restb13_11
      case hQ => exact fun _ _ _ h => h
      case hyb13_11 => (intro Y hY; obtain ⟨y0, y1, y2, y3, y4⟩ := hY; go_simp; try (with_reducible rfl))
      try simp only [Act.put, List.setIfInBounds_toArray, List.set_cons_zero, List.set_cons_succ]
      refine wpAnyH_ready (rs := [14]) (by kernel_rfl) (by simp) ?_
      refine AllReadyH.cons (by (conv => lhs; simp only [List.getElem?_toArray, List.getElem?_cons_succ, List.getElem?_cons_zero])) (fun K hK => ?_) AllReadyH.nil
      rw [if_pos (by rfl)]
      refine wp_store_row 35 (.tmp 4) (.tmp 9) (by rfl) (w.heap.size + 1) #[.int .i64 p, .int .i64 r, .int .i64 u, .int .i64 m, .int .i64 l, .slice none 0 0, .int .i64 0, .int .i64 room, .slice none 0 0] (by rfl) (by rfl) _ _ hrow (by kernel_rfl) (by rfl) (by simp [Value.oneCell']) ?_
      have hrow2 := setRow_heap w2 (w.heap.size + 1) _ #[.int .i64 p, .int .i64 r, .int .i64 u, .int .i64 m, .int .i64 l, .slice none 0 0, .int .i64 0, .int .i64 room, .slice none 0 0] _ _ hrow
      obtain ⟨z0, z1, z2, z3, z4⟩ := KS.out _ B2.out
      refine hK.out _ _ (⟨(cell_setRow_other _ _ _ _ (by simp)).trans z0, (cell_setRow_other _ _ _ _ (by simp)).trans z1, (cell_setRow_other _ _ _ _ (by simp)).trans z2, (cell_setRow_other _ _ _ _ (by simp)).trans z3, (cell_setRow_other _ _ _ _ (by simp)).trans z4⟩) (fun hH2 => ?_)
      clear hK hH1 hrow z0 z1 z2 z3 z4
      try simp only [Act.put]
      refine wpAnyH_take (i := 15) (v := ?vb15_12) (by (conv => lhs; simp only [List.getElem?_toArray, List.getElem?_cons_succ, List.getElem?_cons_zero])) (by kernel_rfl) (by kernel_rfl) (by kernel_rfl) ?hQ (Or.inl ⟨by rfl, ?hyb15_12⟩) hH2 ?restb15_12
      case hQ => exact fun _ _ _ h => h
      case hyb15_12 => (intro Y hY; obtain ⟨y0, y1, y2, y3, y4⟩ := hY; go_simp; try (with_reducible rfl))
      try simp only [Act.put, List.setIfInBounds_toArray, List.set_cons_zero, List.set_cons_succ]
      have FIN := hidd (below_row (q := w.heap.size + 1) (B := w.heap.size) (B1.out.trans (B2.out.mono B1.out.size)) (by omega) #[.int .i64 p, .int .i64 r, .int .i64 u, .int .i64 m, .int .i64 l, .slice none 0 0, .int .i64 0, .int .i64 room, .slice none 0 0])
      have ROW := hidd (show GQ _ _ p r u m l none 0 0 0 room none 0 0 from hrow2)
      clear hrow2
      obtain ⟨wz, hwz⟩ : ∃ wz : World, w2.setRow (w.heap.size + 1) #[.int .i64 p, .int .i64 r, .int .i64 u, .int .i64 m, .int .i64 l, .slice none 0 0, .int .i64 0, .int .i64 room, .slice none 0 0] = wz := ⟨_, rfl⟩
      rw [hwz] at FIN ROW hH2
      rw [hwz]
      clear hwz
      refine wpAnyH_done (by kernel_rfl) (?_) _
      clear hH2
      obtain ⟨d0, d1, d2, d3, d4, d5, d6, d7, d8⟩ := ROW.out.cells
      go_wp2_with fail
      refine bodyPost_ret (v := .tuple #[.agg #[.int .i64 p, .int .i64 r, .int .i64 u, .int .i64 m, .int .i64 l, .slice none 0 0, .int .i64 0, .int .i64 room, .slice none 0 0], .bool false]) (by simp [results, Try.results7, go_sem, d0, d1, d2, d3, d4, d5, d6, d7, d8]) rfl ?_
      exact ⟨by rw [hnb], FIN.out⟩
end Go.Proofs.Ythaiphkmkchhoaa

/- Shapers: slices.Equal of what waits, Same. -/
namespace Go.Proofs.Ythaiphkmkchhoaa
open Go.RowKit Go.Sort
set_option linter.unusedVariables false
set_option maxRecDepth 100000 in
set_option maxHeartbeats 4000000 in
theorem eqWaits_any (A B : Option Addr) (L M : List (Int × Int)) (c d : Nat) (hL : L.length ≤ 1000000000) (hM : M.length ≤ 1000000000) (w : World) (hA : Lie sendV 2 w w.heap.size A L) (hB : Lie sendV 2 w w.heap.size B M) :
    Calls Try.prog 31 #[.slice A L.length c, .slice B M.length d] w fun e w' => e = .returned (.bool (decide (L = M))) ∧ ∃ q, w' = w.drewN q := by
  have HA := hidd hA
  have HB := hidd hB
  obtain ⟨R, hR⟩ : ∃ R, decide (L = M) = R := ⟨_, rfl⟩
  rw [hR]
  have HR := hidd hR
  clear hA hB hR
  by_cases hn : L.length = M.length
  · have HN := hidd hn
    obtain ⟨n, hln⟩ : ∃ n, L.length = n := ⟨_, rfl⟩
    have HLN := hidd hln
    rw [← hn, hln]
    rw [hln] at hL
    clear hn hln hM
    go_enter Try.func31, Try.ntmps31
    go_wp2_with fail
    go_loopg [5, 13] (n + 1) (fun g s5 s wr => ∃ (i q : Nat), i ≤ n ∧ i + g = n + 1 ∧ s = .int .i64 (i : Int) ∧ (∀ j (hj : j < L.length) (hj2 : j < M.length), j < i → L[j] = M[j]) ∧ wr = w.drewN q)
    case atStart => exact ⟨0, 0, by omega, by omega, rfl, fun j _ _ hj => absurd hj (by omega), rfl⟩
    case round =>
      obtain ⟨i, q, hi, hg, rfl, hs, rfl⟩ := hrel
      have HG := hidd hg
      have HS := hidd hs
      clear hg hs
      by_cases hin : i < n
      · have hi1 : i < L.length := by rw [HLN.out]; exact hin
        have hi2 : i < M.length := by rw [← HN.out]; exact hi1
        obtain ⟨ad, rfl, ha, x0, x1⟩ := HA.out.send i hi1
        obtain ⟨bd, rfl, hb, y0, y1⟩ := HB.out.send i hi2
        have hin2 : (i : Int) < (n : Int) := by omega
        have hi0 : (0 : Int) ≤ (i : Int) := by omega
        have HNO := hidd (fun (h : decide (L[i] = M[i]) = false) => (show R = false from by
          rw [← HR.out]
          refine decide_eq_false (fun e => ?_)
          subst e
          exact absurd rfl (of_decide_eq_false h)))
        have HST := hidd (fun (h : decide (L[i] = M[i]) = true) => (show ∀ j (hj : j < L.length) (hj2 : j < M.length), j < i + 1 → L[j] = M[j] from fun j hj hj2 h3 => by
          by_cases e : j = i
          · subst e; exact of_decide_eq_true h
          · exact HS.out j hj hj2 (by omega)))
        have eqq := fun W => wait_run L[i].1 L[i].2 M[i].1 M[i].2 W
        rw [Prod.eta, Prod.eta] at eqq
        generalize decide (L[i] = M[i]) = EQ at *
        generalize L[i].1 = a0 at *
        generalize L[i].2 = a1 at *
        generalize M[i].1 = b0 at *
        generalize M[i].2 = b1 at *
        cases EQ
        case true =>
          have HN1 := hidd (HST.out rfl)
          clear HNO HST
          go_wp2_with fail
          go_quiet (fail)
          go_wp2_with fail
          have hg := HG.out
          go_roundg (gk - 1)
          case measure => omega
          case rel => exact ⟨i + 1, _, by omega, by omega, by go_num, HN1.out, by first | rfl | exact World.drewN_drewN _ _ _ | simp⟩
        case false =>
          have HN1 := hidd (HNO.out rfl)
          clear HNO HST
          go_wp2_with fail
          go_quiet (fail)
          go_wp2_with fail
          go_ret
          exact ⟨by rw [HN1.out]; rfl, _, by first | rfl | exact World.drewN_drewN _ _ _ | simp⟩
      · have hin2 : ¬ (i : Int) < (n : Int) := by omega
        have hyes : R = true := by
          rw [← HR.out]
          refine decide_eq_true (List.ext_getElem HN.out fun j h1 h2 => HS.out j h1 h2 (by have := HLN.out; omega))
        have HY := hidd hyes
        clear hyes
        go_wp2_with fail
        go_ret
        exact ⟨by rw [HY.out]; rfl, q, rfl⟩
  · have hne : R = false := by
      rw [← HR.out]
      exact decide_eq_false (fun e => hn (by rw [e]))
    have HNE := hidd hne
    have h2 : ¬ (L.length : Int) = (M.length : Int) := by omega
    have h3 : ((L.length : Int) != (M.length : Int)) = true := by simp [bne, h2]
    have h4 : ((L.length : Int) == (M.length : Int)) = false := by simp [h2]
    generalize L.length = n at *
    generalize M.length = k at *
    clear hne
    go_enter Try.func31, Try.ntmps31
    go_wp2_with fail
    go_ret
    exact ⟨by rw [HNE.out]; rfl, 0, rfl⟩
theorem two_any (d : Nat) (x y x' y' : Int) (w : World) : (Op.equalIn (d + 1 + 1) 85 (.agg #[.int .i64 x, .int .i64 y]) (.agg #[.int .i64 x', .int .i64 y'])).run Try.prog w = .ok (decide (x = x' ∧ y = y')) w := by
  have hi : (Try.prog.info? 2).isSome = true := by kernel_rfl
  obtain ⟨i, hi⟩ := Option.isSome_iff_exists.1 hi
  have hc : Try.prog.cellsOf 2 = 1 := by kernel_rfl
  rw [run_equalIn_array w (d + 1) _ _ (n := 2) (e := 2) Try.underlying85 hi, hc]
  have e2 : List.range 2 = [0, 1] := rfl
  rw [e2]
  by_cases h0 : x = x' <;> by_cases h1 : y = y' <;> simp [Op.eqItems, part, go_sem, *]
theorem bkt_any (p r u m l t x y t' x' y' : Int) (w : World) :
    (Op.equalIn 10000 87 (.agg #[.int .i64 p, .int .i64 r, .int .i64 u, .int .i64 m, .int .i64 l, .int .i64 t, .int .i64 x, .int .i64 y]) (.agg #[.int .i64 p, .int .i64 r, .int .i64 u, .int .i64 m, .int .i64 l, .int .i64 t', .int .i64 x', .int .i64 y'])).run Try.prog w = .ok (decide ((t, x, y) = (t', x', y'))) w := by
  by_cases h0 : t = t'
  · have h := fun w => two_any 9997 x y x' y' w
    simp [go_sem, Op.eqFields, h, h0]
    by_cases h1 : x = x' <;> by_cases h2 : y = y' <;> simp [h1, h2]
  · simp [go_sem, Op.eqFields, h0]
theorem bkt_any_bin (p r u m l t x y t' x' y' : Int) (w : World) :
    (binOp .eql 87 (.agg #[.int .i64 p, .int .i64 r, .int .i64 u, .int .i64 m, .int .i64 l, .int .i64 t, .int .i64 x, .int .i64 y]) (.agg #[.int .i64 p, .int .i64 r, .int .i64 u, .int .i64 m, .int .i64 l, .int .i64 t', .int .i64 x', .int .i64 y'])).run Try.prog w = .ok (.bool (decide ((t, x, y) = (t', x', y')))) w := by
  rw [run_eql_struct, bkt_any]; rfl
theorem bsame_any {a b : Nat} {p r u m l : Int} {s s' : BM.St} {w : World} (hA : BktAt w a p r u m l s) (hB : BktAt w b p r u m l s') (hp : 1 ≤ p) : Calls Try.prog 30 #[.pointer (some ⟨a, 0, none⟩), .pointer (some ⟨b, 0, none⟩)] w fun e w' => e = .returned (.bool (decide (s = s'))) ∧ ∃ q, w' = w.drewN q := by
  have ca := hidd (isNone_yes hA hp)
  have cb := hidd (isNone_yes hB hp)
  obtain ⟨lt, c0, c1, c2, c3, c4, c5, c6, c7, f5, f6, f7⟩ := hA
  obtain ⟨lt', d0, d1, d2, d3, d4, d5, d6, d7, f5', f6', f7'⟩ := hB
  obtain ⟨t0, t1, t2⟩ := s
  obtain ⟨u0, u1, u2⟩ := s'
  dsimp only at *
  obtain ⟨R, hR⟩ : ∃ R, decide ((t0, t1, t2) = (u0, u1, u2)) = R := ⟨_, rfl⟩
  have h1 := fun w => bkt_any p r u m l t0 t1 t2 u0 u1 u2 w
  have h2 := fun w => bkt_any_bin p r u m l t0 t1 t2 u0 u1 u2 w
  rw [hR] at h1 h2
  rw [hR]
  clear hp f5 f6 f7 f5' f6' f7' hR
  go_enter Try.func30, Try.ntmps30
  go_wp2_with fail
  refine ca.out.mono ?_
  rintro e w' ⟨rfl, rfl⟩
  go_wp2_with fail
  refine cb.out.mono ?_
  rintro e w' ⟨rfl, rfl⟩
  go_wp2_with fail
  go_quiet (fail)
  go_wp2_with fail
  go_ret
  exact ⟨rfl, _, rfl⟩
set_option maxRecDepth 100000 in
set_option maxHeartbeats 8000000 in
theorem shSame_any {w : World} {h g b h' g' b' : Nat} {v v' : Value} {p r u m l : Int} {s s' : BM.St} {room : Int} {L L' : List (Int × Int)} (H : ShAt w h g b v p r u m l s room L) (H' : ShAt w h' g' b' v' p r u m l s' room L') :
    Calls Try.prog 13 #[.pointer (some ⟨h, 0, none⟩), .pointer (some ⟨h', 0, none⟩)] w fun e w' => e = .returned (.bool (decide (s = s') && decide (L = L'))) ∧ Below w.heap.size w w' := by
  obtain ⟨A, c, hv, _, _, hLie⟩ := H.q.lie
  obtain ⟨A', c', hv', _, _, hLie'⟩ := H'.q.lie
  subst hv
  subst hv'
  have hlen := H.len
  have hlen' := H'.len
  have cI := hidd (shNone_yes H.h0)
  have cI' := hidd (shNone_yes H'.h0)
  have CB := hidd (fun W (hb : Below w.heap.size w W) => bsame_any (H.bk.below hb) (H'.bk.below hb) (by have := rightB_iff H.rt; omega))
  have CE := hidd (fun W (hb : Below w.heap.size w W) => eqWaits_any A A' L L' c c' (by omega) (by omega) W (hLie.below hb) (hLie'.below hb))
  have KS : Hid (∀ Y, Below w.heap.size w Y → Y.cell? ⟨h, 0, none⟩ = some (.pointer (some ⟨g, 0, none⟩)) ∧ Y.cell? ⟨g, 0, none⟩ = some (.pointer (some ⟨b, 0, none⟩)) ∧ Y.cell? ⟨g, 1, none⟩ = some (.slice A L.length c) ∧ Y.cell? ⟨g, 3, none⟩ = some (.int .i64 room) ∧ Y.cell? ⟨h', 0, none⟩ = some (.pointer (some ⟨g', 0, none⟩)) ∧ Y.cell? ⟨g', 0, none⟩ = some (.pointer (some ⟨b', 0, none⟩)) ∧ Y.cell? ⟨g', 1, none⟩ = some (.slice A' L'.length c') ∧ Y.cell? ⟨g', 3, none⟩ = some (.int .i64 room)) := hidd (fun Y hb => ⟨(hb.cell (p := ⟨h, 0, none⟩) H.hlt).trans H.h0, (hb.cell (p := ⟨g, 0, none⟩) H.glt).trans H.g0, (hb.cell (p := ⟨g, 1, none⟩) H.glt).trans H.g1, (hb.cell (p := ⟨g, 3, none⟩) H.glt).trans H.g3, (hb.cell (p := ⟨h', 0, none⟩) H'.hlt).trans H'.h0, (hb.cell (p := ⟨g', 0, none⟩) H'.glt).trans H'.g0, (hb.cell (p := ⟨g', 1, none⟩) H'.glt).trans H'.g1, (hb.cell (p := ⟨g', 3, none⟩) H'.glt).trans H'.g3⟩)
  clear H H' hLie hLie' hlen hlen'
  generalize hE : decide (L = L') = E at *
  clear hE
  generalize hn : L.length = n at *
  generalize hn' : L'.length = n' at *
  clear hn hn'
  go_enter Try.func13, Try.ntmps13
  go_wp2_with fail
  refine cI.out.mono ?_
  rintro e w1 ⟨rfl, rfl⟩
  go_wp2_with fail
  refine cI'.out.mono ?_
  rintro e w1 ⟨rfl, rfl⟩
  go_wp2_with fail
  cases hD : decide (s = s')
  · rw [hD] at CB
    have HD := hidd hD
    clear hD
    refine wp_region_held_drew (S := (fun Y => Y.cell? ⟨h, 0, none⟩ = some (.pointer (some ⟨g, 0, none⟩)) ∧ Y.cell? ⟨g, 0, none⟩ = some (.pointer (some ⟨b, 0, none⟩)) ∧ Y.cell? ⟨g, 1, none⟩ = some (.slice A n c) ∧ Y.cell? ⟨g, 3, none⟩ = some (.int .i64 room) ∧ Y.cell? ⟨h', 0, none⟩ = some (.pointer (some ⟨g', 0, none⟩)) ∧ Y.cell? ⟨g', 0, none⟩ = some (.pointer (some ⟨b', 0, none⟩)) ∧ Y.cell? ⟨g', 1, none⟩ = some (.slice A' n' c') ∧ Y.cell? ⟨g', 3, none⟩ = some (.int .i64 room))) (by kernel_rfl) (KS.out _ (Below.drew (Below.refl _ _))) (fun hH => ?_)
    refine wpAnyH_take (i := 0) (v := ?vf0_1) (by (conv => lhs; simp only [List.getElem?_toArray, List.getElem?_cons_succ, List.getElem?_cons_zero])) (by kernel_rfl) (by kernel_rfl) (by kernel_rfl) ?hQ (Or.inl ⟨by rfl, ?hyf0_1⟩) hH ?restf0_1
    case hQ => exact fun _ _ _ h => h
    case hyf0_1 => (intro Y hY; obtain ⟨y0, y1, y2, y3, y4, y5, y6, y7⟩ := hY; go_simp; try (with_reducible rfl))
    try simp only [Act.put, List.setIfInBounds_toArray, List.set_cons_zero, List.set_cons_succ]
    refine wpAnyH_take (i := 1) (v := ?vf1_2) (by (conv => lhs; simp only [List.getElem?_toArray, List.getElem?_cons_succ, List.getElem?_cons_zero])) (by kernel_rfl) (by kernel_rfl) (by kernel_rfl) ?hQ (Or.inl ⟨by rfl, ?hyf1_2⟩) hH ?restf1_2
    case hQ => exact fun _ _ _ h => h
    case hyf1_2 => (intro Y hY; obtain ⟨y0, y1, y2, y3, y4, y5, y6, y7⟩ := hY; go_simp; try (with_reducible rfl))
    try simp only [Act.put, List.setIfInBounds_toArray, List.set_cons_zero, List.set_cons_succ]
    refine wpAnyH_take (i := 2) (v := ?vf2_3) (by (conv => lhs; simp only [List.getElem?_toArray, List.getElem?_cons_succ, List.getElem?_cons_zero])) (by kernel_rfl) (by kernel_rfl) (by kernel_rfl) ?hQ (Or.inl ⟨by rfl, ?hyf2_3⟩) hH ?restf2_3
    case hQ => exact fun _ _ _ h => h
    case hyf2_3 => (intro Y hY; obtain ⟨y0, y1, y2, y3, y4, y5, y6, y7⟩ := hY; go_simp; try (with_reducible rfl))
    try simp only [Act.put, List.setIfInBounds_toArray, List.set_cons_zero, List.set_cons_succ]
    refine wpAnyH_take (i := 3) (v := ?vf3_4) (by (conv => lhs; simp only [List.getElem?_toArray, List.getElem?_cons_succ, List.getElem?_cons_zero])) (by kernel_rfl) (by kernel_rfl) (by kernel_rfl) ?hQ (Or.inl ⟨by rfl, ?hyf3_4⟩) hH ?restf3_4
    case hQ => exact fun _ _ _ h => h
    case hyf3_4 => (intro Y hY; obtain ⟨y0, y1, y2, y3, y4, y5, y6, y7⟩ := hY; go_simp; try (with_reducible rfl))
    try simp only [Act.put, List.setIfInBounds_toArray, List.set_cons_zero, List.set_cons_succ]
    refine wpAnyH_take (i := 4) (v := ?vf4_5) (by (conv => lhs; simp only [List.getElem?_toArray, List.getElem?_cons_succ, List.getElem?_cons_zero])) (by kernel_rfl) (by kernel_rfl) (by kernel_rfl) ?hQ (Or.inl ⟨by rfl, ?hyf4_5⟩) hH ?restf4_5
    case hQ => exact fun _ _ _ h => h
    case hyf4_5 => (intro Y hY; obtain ⟨y0, y1, y2, y3, y4, y5, y6, y7⟩ := hY; go_simp; try (with_reducible rfl))
    try simp only [Act.put, List.setIfInBounds_toArray, List.set_cons_zero, List.set_cons_succ]
    refine wpAnyH_take (i := 5) (v := ?vf5_6) (by (conv => lhs; simp only [List.getElem?_toArray, List.getElem?_cons_succ, List.getElem?_cons_zero])) (by kernel_rfl) (by kernel_rfl) (by kernel_rfl) ?hQ (Or.inl ⟨by rfl, ?hyf5_6⟩) hH ?restf5_6
    case hQ => exact fun _ _ _ h => h
    case hyf5_6 => (intro Y hY; obtain ⟨y0, y1, y2, y3, y4, y5, y6, y7⟩ := hY; go_simp; try (with_reducible rfl))
    try simp only [Act.put, List.setIfInBounds_toArray, List.set_cons_zero, List.set_cons_succ]
    refine wpAnyH_take (i := 6) (v := ?vf6_7) (by (conv => lhs; simp only [List.getElem?_toArray, List.getElem?_cons_succ, List.getElem?_cons_zero])) (by kernel_rfl) (by kernel_rfl) (by kernel_rfl) ?hQ (Or.inl ⟨by rfl, ?hyf6_7⟩) hH ?restf6_7
    case hQ => exact fun _ _ _ h => h
    case hyf6_7 => (intro Y hY; obtain ⟨y0, y1, y2, y3, y4, y5, y6, y7⟩ := hY; go_simp; try (with_reducible rfl))
    try simp only [Act.put, List.setIfInBounds_toArray, List.set_cons_zero, List.set_cons_succ]
    refine wpAnyH_take (i := 7) (v := ?vf7_8) (by (conv => lhs; simp only [List.getElem?_toArray, List.getElem?_cons_succ, List.getElem?_cons_zero])) (by kernel_rfl) (by kernel_rfl) (by kernel_rfl) ?hQ (Or.inl ⟨by rfl, ?hyf7_8⟩) hH ?restf7_8
    case hQ => exact fun _ _ _ h => h
    case hyf7_8 => (intro Y hY; obtain ⟨y0, y1, y2, y3, y4, y5, y6, y7⟩ := hY; go_simp; try (with_reducible rfl))
    try simp only [Act.put, List.setIfInBounds_toArray, List.set_cons_zero, List.set_cons_succ]
    refine wpAnyH_take (i := 8) (v := ?vf8_9) (by (conv => lhs; simp only [List.getElem?_toArray, List.getElem?_cons_succ, List.getElem?_cons_zero])) (by kernel_rfl) (by kernel_rfl) (by kernel_rfl) ?hQ (Or.inl ⟨by rfl, ?hyf8_9⟩) hH ?restf8_9
    case hQ => exact fun _ _ _ h => h
    case hyf8_9 => (intro Y hY; obtain ⟨y0, y1, y2, y3, y4, y5, y6, y7⟩ := hY; go_simp; try (with_reducible rfl))
    try simp only [Act.put, List.setIfInBounds_toArray, List.set_cons_zero, List.set_cons_succ]
    refine wpAnyH_take (i := 9) (v := ?vf9_10) (by (conv => lhs; simp only [List.getElem?_toArray, List.getElem?_cons_succ, List.getElem?_cons_zero])) (by kernel_rfl) (by kernel_rfl) (by kernel_rfl) ?hQ (Or.inl ⟨by rfl, ?hyf9_10⟩) hH ?restf9_10
    case hQ => exact fun _ _ _ h => h
    case hyf9_10 => (intro Y hY; obtain ⟨y0, y1, y2, y3, y4, y5, y6, y7⟩ := hY; go_simp; try (with_reducible rfl))
    try simp only [Act.put, List.setIfInBounds_toArray, List.set_cons_zero, List.set_cons_succ]
    refine wpAnyH_take (i := 10) (v := ?vf10_11) (by (conv => lhs; simp only [List.getElem?_toArray, List.getElem?_cons_succ, List.getElem?_cons_zero])) (by kernel_rfl) (by kernel_rfl) (by kernel_rfl) ?hQ (Or.inl ⟨by rfl, ?hyf10_11⟩) hH ?restf10_11
    case hQ => exact fun _ _ _ h => h
    case hyf10_11 => (intro Y hY; obtain ⟨y0, y1, y2, y3, y4, y5, y6, y7⟩ := hY; go_simp; try (with_reducible rfl))
    try simp only [Act.put, List.setIfInBounds_toArray, List.set_cons_zero, List.set_cons_succ]
    refine wpAnyH_take (i := 11) (v := ?vf11_12) (by (conv => lhs; simp only [List.getElem?_toArray, List.getElem?_cons_succ, List.getElem?_cons_zero])) (by kernel_rfl) (by kernel_rfl) (by kernel_rfl) ?hQ (Or.inl ⟨by rfl, ?hyf11_12⟩) hH ?restf11_12
    case hQ => exact fun _ _ _ h => h
    case hyf11_12 => (intro Y hY; obtain ⟨y0, y1, y2, y3, y4, y5, y6, y7⟩ := hY; go_simp; try (with_reducible rfl))
    try simp only [Act.put, List.setIfInBounds_toArray, List.set_cons_zero, List.set_cons_succ]
    refine wpAnyH_take (i := 12) (v := ?vf12_13) (by (conv => lhs; simp only [List.getElem?_toArray, List.getElem?_cons_succ, List.getElem?_cons_zero])) (by kernel_rfl) (by kernel_rfl) (by kernel_rfl) ?hQ (Or.inl ⟨by rfl, ?hyf12_13⟩) hH ?restf12_13
    case hQ => exact fun _ _ _ h => h
    case hyf12_13 => (intro Y hY; obtain ⟨y0, y1, y2, y3, y4, y5, y6, y7⟩ := hY; go_simp; try (with_reducible rfl))
    try simp only [Act.put, List.setIfInBounds_toArray, List.set_cons_zero, List.set_cons_succ]
    refine wpAnyH_take (i := 13) (v := ?vf13_14) (by (conv => lhs; simp only [List.getElem?_toArray, List.getElem?_cons_succ, List.getElem?_cons_zero])) (by kernel_rfl) (by kernel_rfl) (by kernel_rfl) ?hQ (Or.inl ⟨by rfl, ?hyf13_14⟩) hH ?restf13_14
    case hQ => exact fun _ _ _ h => h
    case hyf13_14 => (intro Y hY; obtain ⟨y0, y1, y2, y3, y4, y5, y6, y7⟩ := hY; go_simp; try (with_reducible rfl))
    try simp only [Act.put, List.setIfInBounds_toArray, List.set_cons_zero, List.set_cons_succ]
    refine wpAnyH_ready (rs := [14]) (by kernel_rfl) (by simp) ?_
    refine AllReadyH.cons (by (conv => lhs; simp only [List.getElem?_toArray, List.getElem?_cons_succ, List.getElem?_cons_zero])) (fun K hK => ?_) AllReadyH.nil
    go_simp
    go_at_call 30; refine (CB.out _ (Below.drew (Below.refl _ _))).mono ?_; rintro e w2 ⟨rfl, q, hw2⟩
    have B2 := hidd (show Below w.heap.size w w2 from by rw [hw2]; exact below_drewN (Below.drew (Below.refl _ _)) _)
    refine hK.out _ _ (KS.out _ B2.out) (fun hH1 => ?_)
    clear hK hH hw2
    try simp only [Act.put, List.setIfInBounds_toArray, List.set_cons_zero, List.set_cons_succ]
    refine wpAnyH_take (i := 15) (v := ?vf15_15) (by (conv => lhs; simp only [List.getElem?_toArray, List.getElem?_cons_succ, List.getElem?_cons_zero])) (by kernel_rfl) (by kernel_rfl) (by kernel_rfl) ?hQ (Or.inl ⟨by rfl, ?hyf15_15⟩) hH1 ?restf15_15
    case hQ => exact fun _ _ _ h => h
    case hyf15_15 => (intro Y hY; obtain ⟨y0, y1, y2, y3, y4, y5, y6, y7⟩ := hY; go_simp; try (with_reducible rfl))
    try simp only [Act.put, List.setIfInBounds_toArray, List.set_cons_zero, List.set_cons_succ]
    refine wpAnyH_take (i := 16) (v := undef) (by (conv => lhs; simp only [List.getElem?_toArray, List.getElem?_cons_succ, List.getElem?_cons_zero])) (by kernel_rfl) (by kernel_rfl) (by kernel_rfl) ?hQ (Or.inr ⟨by rfl, rfl⟩) hH1 ?_
    case hQ => exact fun _ _ _ h => h
    try simp only [Act.put, List.setIfInBounds_toArray, List.set_cons_zero, List.set_cons_succ]
    refine wpAnyH_take (i := 17) (v := undef) (by (conv => lhs; simp only [List.getElem?_toArray, List.getElem?_cons_succ, List.getElem?_cons_zero])) (by kernel_rfl) (by kernel_rfl) (by kernel_rfl) ?hQ (Or.inr ⟨by rfl, rfl⟩) hH1 ?_
    case hQ => exact fun _ _ _ h => h
    try simp only [Act.put, List.setIfInBounds_toArray, List.set_cons_zero, List.set_cons_succ]
    refine wpAnyH_take (i := 18) (v := undef) (by (conv => lhs; simp only [List.getElem?_toArray, List.getElem?_cons_succ, List.getElem?_cons_zero])) (by kernel_rfl) (by kernel_rfl) (by kernel_rfl) ?hQ (Or.inr ⟨by rfl, rfl⟩) hH1 ?_
    case hQ => exact fun _ _ _ h => h
    try simp only [Act.put, List.setIfInBounds_toArray, List.set_cons_zero, List.set_cons_succ]
    refine wpAnyH_take (i := 19) (v := undef) (by (conv => lhs; simp only [List.getElem?_toArray, List.getElem?_cons_succ, List.getElem?_cons_zero])) (by kernel_rfl) (by kernel_rfl) (by kernel_rfl) ?hQ (Or.inr ⟨by rfl, rfl⟩) hH1 ?_
    case hQ => exact fun _ _ _ h => h
    try simp only [Act.put, List.setIfInBounds_toArray, List.set_cons_zero, List.set_cons_succ]
    refine wpAnyH_take (i := 20) (v := undef) (by (conv => lhs; simp only [List.getElem?_toArray, List.getElem?_cons_succ, List.getElem?_cons_zero])) (by kernel_rfl) (by kernel_rfl) (by kernel_rfl) ?hQ (Or.inr ⟨by rfl, rfl⟩) hH1 ?_
    case hQ => exact fun _ _ _ h => h
    try simp only [Act.put, List.setIfInBounds_toArray, List.set_cons_zero, List.set_cons_succ]
    refine wpAnyH_take (i := 21) (v := undef) (by (conv => lhs; simp only [List.getElem?_toArray, List.getElem?_cons_succ, List.getElem?_cons_zero])) (by kernel_rfl) (by kernel_rfl) (by kernel_rfl) ?hQ (Or.inr ⟨by rfl, rfl⟩) hH1 ?_
    case hQ => exact fun _ _ _ h => h
    try simp only [Act.put, List.setIfInBounds_toArray, List.set_cons_zero, List.set_cons_succ]
    refine wpAnyH_take (i := 22) (v := undef) (by (conv => lhs; simp only [List.getElem?_toArray, List.getElem?_cons_succ, List.getElem?_cons_zero])) (by kernel_rfl) (by kernel_rfl) (by kernel_rfl) ?hQ (Or.inr ⟨by rfl, rfl⟩) hH1 ?_
    case hQ => exact fun _ _ _ h => h
    try simp only [Act.put, List.setIfInBounds_toArray, List.set_cons_zero, List.set_cons_succ]
    refine wpAnyH_take (i := 23) (v := undef) (by (conv => lhs; simp only [List.getElem?_toArray, List.getElem?_cons_succ, List.getElem?_cons_zero])) (by kernel_rfl) (by kernel_rfl) (by kernel_rfl) ?hQ (Or.inr ⟨by rfl, rfl⟩) hH1 ?_
    case hQ => exact fun _ _ _ h => h
    try simp only [Act.put, List.setIfInBounds_toArray, List.set_cons_zero, List.set_cons_succ]
    refine wpAnyH_take (i := 24) (v := undef) (by (conv => lhs; simp only [List.getElem?_toArray, List.getElem?_cons_succ, List.getElem?_cons_zero])) (by kernel_rfl) (by kernel_rfl) (by kernel_rfl) ?hQ (Or.inr ⟨by rfl, rfl⟩) hH1 ?_
    case hQ => exact fun _ _ _ h => h
    try simp only [Act.put, List.setIfInBounds_toArray, List.set_cons_zero, List.set_cons_succ]
    refine wpAnyH_take (i := 25) (v := undef) (by (conv => lhs; simp only [List.getElem?_toArray, List.getElem?_cons_succ, List.getElem?_cons_zero])) (by kernel_rfl) (by kernel_rfl) (by kernel_rfl) ?hQ (Or.inr ⟨by rfl, rfl⟩) hH1 ?_
    case hQ => exact fun _ _ _ h => h
    try simp only [Act.put, List.setIfInBounds_toArray, List.set_cons_zero, List.set_cons_succ]
    refine wpAnyH_take (i := 26) (v := undef) (by (conv => lhs; simp only [List.getElem?_toArray, List.getElem?_cons_succ, List.getElem?_cons_zero])) (by kernel_rfl) (by kernel_rfl) (by kernel_rfl) ?hQ (Or.inr ⟨by rfl, rfl⟩) hH1 ?_
    case hQ => exact fun _ _ _ h => h
    try simp only [Act.put, List.setIfInBounds_toArray, List.set_cons_zero, List.set_cons_succ]
    refine wpAnyH_take (i := 27) (v := undef) (by (conv => lhs; simp only [List.getElem?_toArray, List.getElem?_cons_succ, List.getElem?_cons_zero])) (by kernel_rfl) (by kernel_rfl) (by kernel_rfl) ?hQ (Or.inr ⟨by rfl, rfl⟩) hH1 ?_
    case hQ => exact fun _ _ _ h => h
    try simp only [Act.put, List.setIfInBounds_toArray, List.set_cons_zero, List.set_cons_succ]
    refine wpAnyH_take (i := 28) (v := undef) (by (conv => lhs; simp only [List.getElem?_toArray, List.getElem?_cons_succ, List.getElem?_cons_zero])) (by kernel_rfl) (by kernel_rfl) (by kernel_rfl) ?hQ (Or.inr ⟨by rfl, rfl⟩) hH1 ?_
    case hQ => exact fun _ _ _ h => h
    try simp only [Act.put, List.setIfInBounds_toArray, List.set_cons_zero, List.set_cons_succ]
    refine wpAnyH_take (i := 29) (v := undef) (by (conv => lhs; simp only [List.getElem?_toArray, List.getElem?_cons_succ, List.getElem?_cons_zero])) (by kernel_rfl) (by kernel_rfl) (by kernel_rfl) ?hQ (Or.inr ⟨by rfl, rfl⟩) hH1 ?_
    case hQ => exact fun _ _ _ h => h
    try simp only [Act.put, List.setIfInBounds_toArray, List.set_cons_zero, List.set_cons_succ]
    refine wpAnyH_take (i := 30) (v := undef) (by (conv => lhs; simp only [List.getElem?_toArray, List.getElem?_cons_succ, List.getElem?_cons_zero])) (by kernel_rfl) (by kernel_rfl) (by kernel_rfl) ?hQ (Or.inr ⟨by rfl, rfl⟩) hH1 ?_
    case hQ => exact fun _ _ _ h => h
    try simp only [Act.put, List.setIfInBounds_toArray, List.set_cons_zero, List.set_cons_succ]
    refine wpAnyH_take (i := 31) (v := ?vf31_16) (by (conv => lhs; simp only [List.getElem?_toArray, List.getElem?_cons_succ, List.getElem?_cons_zero])) (by kernel_rfl) (by kernel_rfl) (by kernel_rfl) ?hQ (Or.inl ⟨by rfl, ?hyf31_16⟩) hH1 ?restf31_16
    case hQ => exact fun _ _ _ h => h
    case hyf31_16 => (intro Y hY; obtain ⟨y0, y1, y2, y3, y4, y5, y6, y7⟩ := hY; go_simp; try (with_reducible rfl))
    try simp only [Act.put, List.setIfInBounds_toArray, List.set_cons_zero, List.set_cons_succ]
    refine wpAnyH_take (i := 32) (v := ?vf32_17) (by (conv => lhs; simp only [List.getElem?_toArray, List.getElem?_cons_succ, List.getElem?_cons_zero])) (by kernel_rfl) (by kernel_rfl) (by kernel_rfl) ?hQ (Or.inl ⟨by rfl, ?hyf32_17⟩) hH1 ?restf32_17
    case hQ => exact fun _ _ _ h => h
    case hyf32_17 => (intro Y hY; obtain ⟨y0, y1, y2, y3, y4, y5, y6, y7⟩ := hY; go_simp; try (with_reducible rfl))
    try simp only [Act.put, List.setIfInBounds_toArray, List.set_cons_zero, List.set_cons_succ]
    refine wpAnyH_take (i := 33) (v := undef) (by (conv => lhs; simp only [List.getElem?_toArray, List.getElem?_cons_succ, List.getElem?_cons_zero])) (by kernel_rfl) (by kernel_rfl) (by kernel_rfl) ?hQ (Or.inr ⟨by rfl, rfl⟩) hH1 ?_
    case hQ => exact fun _ _ _ h => h
    try simp only [Act.put, List.setIfInBounds_toArray, List.set_cons_zero, List.set_cons_succ]
    refine wpAnyH_take (i := 34) (v := undef) (by (conv => lhs; simp only [List.getElem?_toArray, List.getElem?_cons_succ, List.getElem?_cons_zero])) (by kernel_rfl) (by kernel_rfl) (by kernel_rfl) ?hQ (Or.inr ⟨by rfl, rfl⟩) hH1 ?_
    case hQ => exact fun _ _ _ h => h
    try simp only [Act.put, List.setIfInBounds_toArray, List.set_cons_zero, List.set_cons_succ]
    refine wpAnyH_take (i := 35) (v := undef) (by (conv => lhs; simp only [List.getElem?_toArray, List.getElem?_cons_succ, List.getElem?_cons_zero])) (by kernel_rfl) (by kernel_rfl) (by kernel_rfl) ?hQ (Or.inr ⟨by rfl, rfl⟩) hH1 ?_
    case hQ => exact fun _ _ _ h => h
    try simp only [Act.put, List.setIfInBounds_toArray, List.set_cons_zero, List.set_cons_succ]
    refine wpAnyH_take (i := 36) (v := undef) (by (conv => lhs; simp only [List.getElem?_toArray, List.getElem?_cons_succ, List.getElem?_cons_zero])) (by kernel_rfl) (by kernel_rfl) (by kernel_rfl) ?hQ (Or.inr ⟨by rfl, rfl⟩) hH1 ?_
    case hQ => exact fun _ _ _ h => h
    try simp only [Act.put, List.setIfInBounds_toArray, List.set_cons_zero, List.set_cons_succ]
    refine wpAnyH_take (i := 37) (v := undef) (by (conv => lhs; simp only [List.getElem?_toArray, List.getElem?_cons_succ, List.getElem?_cons_zero])) (by kernel_rfl) (by kernel_rfl) (by kernel_rfl) ?hQ (Or.inr ⟨by rfl, rfl⟩) hH1 ?_
    case hQ => exact fun _ _ _ h => h
    try simp only [Act.put, List.setIfInBounds_toArray, List.set_cons_zero, List.set_cons_succ]
    refine wpAnyH_take (i := 38) (v := undef) (by (conv => lhs; simp only [List.getElem?_toArray, List.getElem?_cons_succ, List.getElem?_cons_zero])) (by kernel_rfl) (by kernel_rfl) (by kernel_rfl) ?hQ (Or.inr ⟨by rfl, rfl⟩) hH1 ?_
    case hQ => exact fun _ _ _ h => h
    try simp only [Act.put, List.setIfInBounds_toArray, List.set_cons_zero, List.set_cons_succ]
    refine wpAnyH_take (i := 39) (v := undef) (by (conv => lhs; simp only [List.getElem?_toArray, List.getElem?_cons_succ, List.getElem?_cons_zero])) (by kernel_rfl) (by kernel_rfl) (by kernel_rfl) ?hQ (Or.inr ⟨by rfl, rfl⟩) hH1 ?_
    case hQ => exact fun _ _ _ h => h
    try simp only [Act.put, List.setIfInBounds_toArray, List.set_cons_zero, List.set_cons_succ]
    refine wpAnyH_take (i := 40) (v := undef) (by (conv => lhs; simp only [List.getElem?_toArray, List.getElem?_cons_succ, List.getElem?_cons_zero])) (by kernel_rfl) (by kernel_rfl) (by kernel_rfl) ?hQ (Or.inr ⟨by rfl, rfl⟩) hH1 ?_
    case hQ => exact fun _ _ _ h => h
    try simp only [Act.put, List.setIfInBounds_toArray, List.set_cons_zero, List.set_cons_succ]
    refine wpAnyH_take (i := 41) (v := undef) (by (conv => lhs; simp only [List.getElem?_toArray, List.getElem?_cons_succ, List.getElem?_cons_zero])) (by kernel_rfl) (by kernel_rfl) (by kernel_rfl) ?hQ (Or.inr ⟨by rfl, rfl⟩) hH1 ?_
    case hQ => exact fun _ _ _ h => h
    try simp only [Act.put, List.setIfInBounds_toArray, List.set_cons_zero, List.set_cons_succ]
    refine wpAnyH_take (i := 42) (v := undef) (by (conv => lhs; simp only [List.getElem?_toArray, List.getElem?_cons_succ, List.getElem?_cons_zero])) (by kernel_rfl) (by kernel_rfl) (by kernel_rfl) ?hQ (Or.inr ⟨by rfl, rfl⟩) hH1 ?_
    case hQ => exact fun _ _ _ h => h
    try simp only [Act.put, List.setIfInBounds_toArray, List.set_cons_zero, List.set_cons_succ]
    refine wpAnyH_take (i := 43) (v := undef) (by (conv => lhs; simp only [List.getElem?_toArray, List.getElem?_cons_succ, List.getElem?_cons_zero])) (by kernel_rfl) (by kernel_rfl) (by kernel_rfl) ?hQ (Or.inr ⟨by rfl, rfl⟩) hH1 ?_
    case hQ => exact fun _ _ _ h => h
    try simp only [Act.put, List.setIfInBounds_toArray, List.set_cons_zero, List.set_cons_succ]
    refine wpAnyH_take (i := 44) (v := undef) (by (conv => lhs; simp only [List.getElem?_toArray, List.getElem?_cons_succ, List.getElem?_cons_zero])) (by kernel_rfl) (by kernel_rfl) (by kernel_rfl) ?hQ (Or.inr ⟨by rfl, rfl⟩) hH1 ?_
    case hQ => exact fun _ _ _ h => h
    try simp only [Act.put, List.setIfInBounds_toArray, List.set_cons_zero, List.set_cons_succ]
    refine wpAnyH_take (i := 45) (v := undef) (by (conv => lhs; simp only [List.getElem?_toArray, List.getElem?_cons_succ, List.getElem?_cons_zero])) (by kernel_rfl) (by kernel_rfl) (by kernel_rfl) ?hQ (Or.inr ⟨by rfl, rfl⟩) hH1 ?_
    case hQ => exact fun _ _ _ h => h
    try simp only [Act.put, List.setIfInBounds_toArray, List.set_cons_zero, List.set_cons_succ]
    refine wpAnyH_take (i := 46) (v := undef) (by (conv => lhs; simp only [List.getElem?_toArray, List.getElem?_cons_succ, List.getElem?_cons_zero])) (by kernel_rfl) (by kernel_rfl) (by kernel_rfl) ?hQ (Or.inr ⟨by rfl, rfl⟩) hH1 ?_
    case hQ => exact fun _ _ _ h => h
    try simp only [Act.put, List.setIfInBounds_toArray, List.set_cons_zero, List.set_cons_succ]
    refine wpAnyH_take (i := 47) (v := undef) (by (conv => lhs; simp only [List.getElem?_toArray, List.getElem?_cons_succ, List.getElem?_cons_zero])) (by kernel_rfl) (by kernel_rfl) (by kernel_rfl) ?hQ (Or.inr ⟨by rfl, rfl⟩) hH1 ?_
    case hQ => exact fun _ _ _ h => h
    try simp only [Act.put, List.setIfInBounds_toArray, List.set_cons_zero, List.set_cons_succ]
    refine wpAnyH_take (i := 48) (v := ?vf48_18) (by (conv => lhs; simp only [List.getElem?_toArray, List.getElem?_cons_succ, List.getElem?_cons_zero])) (by kernel_rfl) (by kernel_rfl) (by kernel_rfl) ?hQ (Or.inl ⟨by rfl, ?hyf48_18⟩) hH1 ?restf48_18
    case hQ => exact fun _ _ _ h => h
    case hyf48_18 => (intro Y hY; obtain ⟨y0, y1, y2, y3, y4, y5, y6, y7⟩ := hY; go_simp; try (with_reducible rfl))
    try simp only [Act.put, List.setIfInBounds_toArray, List.set_cons_zero, List.set_cons_succ]
    refine wpAnyH_take (i := 49) (v := ?vf49_19) (by (conv => lhs; simp only [List.getElem?_toArray, List.getElem?_cons_succ, List.getElem?_cons_zero])) (by kernel_rfl) (by kernel_rfl) (by kernel_rfl) ?hQ (Or.inl ⟨by rfl, ?hyf49_19⟩) hH1 ?restf49_19
    case hQ => exact fun _ _ _ h => h
    case hyf49_19 => (intro Y hY; obtain ⟨y0, y1, y2, y3, y4, y5, y6, y7⟩ := hY; go_simp; try (with_reducible rfl))
    try simp only [Act.put, List.setIfInBounds_toArray, List.set_cons_zero, List.set_cons_succ]
    refine wpAnyH_done (by kernel_rfl) (?_) _
    go_wp2_with fail
    go_ret
    exact ⟨by rw [HD.out]; rfl, B2.out⟩
  · rw [hD] at CB
    have HD := hidd hD
    clear hD
    refine wp_region_held_drew (S := (fun Y => Y.cell? ⟨h, 0, none⟩ = some (.pointer (some ⟨g, 0, none⟩)) ∧ Y.cell? ⟨g, 0, none⟩ = some (.pointer (some ⟨b, 0, none⟩)) ∧ Y.cell? ⟨g, 1, none⟩ = some (.slice A n c) ∧ Y.cell? ⟨g, 3, none⟩ = some (.int .i64 room) ∧ Y.cell? ⟨h', 0, none⟩ = some (.pointer (some ⟨g', 0, none⟩)) ∧ Y.cell? ⟨g', 0, none⟩ = some (.pointer (some ⟨b', 0, none⟩)) ∧ Y.cell? ⟨g', 1, none⟩ = some (.slice A' n' c') ∧ Y.cell? ⟨g', 3, none⟩ = some (.int .i64 room))) (by kernel_rfl) (KS.out _ (Below.drew (Below.refl _ _))) (fun hH => ?_)
    refine wpAnyH_take (i := 0) (v := ?ve0_1) (by (conv => lhs; simp only [List.getElem?_toArray, List.getElem?_cons_succ, List.getElem?_cons_zero])) (by kernel_rfl) (by kernel_rfl) (by kernel_rfl) ?hQ (Or.inl ⟨by rfl, ?hye0_1⟩) hH ?reste0_1
    case hQ => exact fun _ _ _ h => h
    case hye0_1 => (intro Y hY; obtain ⟨y0, y1, y2, y3, y4, y5, y6, y7⟩ := hY; go_simp; try (with_reducible rfl))
    try simp only [Act.put, List.setIfInBounds_toArray, List.set_cons_zero, List.set_cons_succ]
    refine wpAnyH_take (i := 1) (v := ?ve1_2) (by (conv => lhs; simp only [List.getElem?_toArray, List.getElem?_cons_succ, List.getElem?_cons_zero])) (by kernel_rfl) (by kernel_rfl) (by kernel_rfl) ?hQ (Or.inl ⟨by rfl, ?hye1_2⟩) hH ?reste1_2
    case hQ => exact fun _ _ _ h => h
    case hye1_2 => (intro Y hY; obtain ⟨y0, y1, y2, y3, y4, y5, y6, y7⟩ := hY; go_simp; try (with_reducible rfl))
    try simp only [Act.put, List.setIfInBounds_toArray, List.set_cons_zero, List.set_cons_succ]
    refine wpAnyH_take (i := 2) (v := ?ve2_3) (by (conv => lhs; simp only [List.getElem?_toArray, List.getElem?_cons_succ, List.getElem?_cons_zero])) (by kernel_rfl) (by kernel_rfl) (by kernel_rfl) ?hQ (Or.inl ⟨by rfl, ?hye2_3⟩) hH ?reste2_3
    case hQ => exact fun _ _ _ h => h
    case hye2_3 => (intro Y hY; obtain ⟨y0, y1, y2, y3, y4, y5, y6, y7⟩ := hY; go_simp; try (with_reducible rfl))
    try simp only [Act.put, List.setIfInBounds_toArray, List.set_cons_zero, List.set_cons_succ]
    refine wpAnyH_take (i := 3) (v := ?ve3_4) (by (conv => lhs; simp only [List.getElem?_toArray, List.getElem?_cons_succ, List.getElem?_cons_zero])) (by kernel_rfl) (by kernel_rfl) (by kernel_rfl) ?hQ (Or.inl ⟨by rfl, ?hye3_4⟩) hH ?reste3_4
    case hQ => exact fun _ _ _ h => h
    case hye3_4 => (intro Y hY; obtain ⟨y0, y1, y2, y3, y4, y5, y6, y7⟩ := hY; go_simp; try (with_reducible rfl))
    try simp only [Act.put, List.setIfInBounds_toArray, List.set_cons_zero, List.set_cons_succ]
    refine wpAnyH_take (i := 4) (v := ?ve4_5) (by (conv => lhs; simp only [List.getElem?_toArray, List.getElem?_cons_succ, List.getElem?_cons_zero])) (by kernel_rfl) (by kernel_rfl) (by kernel_rfl) ?hQ (Or.inl ⟨by rfl, ?hye4_5⟩) hH ?reste4_5
    case hQ => exact fun _ _ _ h => h
    case hye4_5 => (intro Y hY; obtain ⟨y0, y1, y2, y3, y4, y5, y6, y7⟩ := hY; go_simp; try (with_reducible rfl))
    try simp only [Act.put, List.setIfInBounds_toArray, List.set_cons_zero, List.set_cons_succ]
    refine wpAnyH_take (i := 5) (v := ?ve5_6) (by (conv => lhs; simp only [List.getElem?_toArray, List.getElem?_cons_succ, List.getElem?_cons_zero])) (by kernel_rfl) (by kernel_rfl) (by kernel_rfl) ?hQ (Or.inl ⟨by rfl, ?hye5_6⟩) hH ?reste5_6
    case hQ => exact fun _ _ _ h => h
    case hye5_6 => (intro Y hY; obtain ⟨y0, y1, y2, y3, y4, y5, y6, y7⟩ := hY; go_simp; try (with_reducible rfl))
    try simp only [Act.put, List.setIfInBounds_toArray, List.set_cons_zero, List.set_cons_succ]
    refine wpAnyH_take (i := 6) (v := ?ve6_7) (by (conv => lhs; simp only [List.getElem?_toArray, List.getElem?_cons_succ, List.getElem?_cons_zero])) (by kernel_rfl) (by kernel_rfl) (by kernel_rfl) ?hQ (Or.inl ⟨by rfl, ?hye6_7⟩) hH ?reste6_7
    case hQ => exact fun _ _ _ h => h
    case hye6_7 => (intro Y hY; obtain ⟨y0, y1, y2, y3, y4, y5, y6, y7⟩ := hY; go_simp; try (with_reducible rfl))
    try simp only [Act.put, List.setIfInBounds_toArray, List.set_cons_zero, List.set_cons_succ]
    refine wpAnyH_take (i := 7) (v := ?ve7_8) (by (conv => lhs; simp only [List.getElem?_toArray, List.getElem?_cons_succ, List.getElem?_cons_zero])) (by kernel_rfl) (by kernel_rfl) (by kernel_rfl) ?hQ (Or.inl ⟨by rfl, ?hye7_8⟩) hH ?reste7_8
    case hQ => exact fun _ _ _ h => h
    case hye7_8 => (intro Y hY; obtain ⟨y0, y1, y2, y3, y4, y5, y6, y7⟩ := hY; go_simp; try (with_reducible rfl))
    try simp only [Act.put, List.setIfInBounds_toArray, List.set_cons_zero, List.set_cons_succ]
    refine wpAnyH_take (i := 8) (v := ?ve8_9) (by (conv => lhs; simp only [List.getElem?_toArray, List.getElem?_cons_succ, List.getElem?_cons_zero])) (by kernel_rfl) (by kernel_rfl) (by kernel_rfl) ?hQ (Or.inl ⟨by rfl, ?hye8_9⟩) hH ?reste8_9
    case hQ => exact fun _ _ _ h => h
    case hye8_9 => (intro Y hY; obtain ⟨y0, y1, y2, y3, y4, y5, y6, y7⟩ := hY; go_simp; try (with_reducible rfl))
    try simp only [Act.put, List.setIfInBounds_toArray, List.set_cons_zero, List.set_cons_succ]
    refine wpAnyH_take (i := 9) (v := ?ve9_10) (by (conv => lhs; simp only [List.getElem?_toArray, List.getElem?_cons_succ, List.getElem?_cons_zero])) (by kernel_rfl) (by kernel_rfl) (by kernel_rfl) ?hQ (Or.inl ⟨by rfl, ?hye9_10⟩) hH ?reste9_10
    case hQ => exact fun _ _ _ h => h
    case hye9_10 => (intro Y hY; obtain ⟨y0, y1, y2, y3, y4, y5, y6, y7⟩ := hY; go_simp; try (with_reducible rfl))
    try simp only [Act.put, List.setIfInBounds_toArray, List.set_cons_zero, List.set_cons_succ]
    refine wpAnyH_take (i := 10) (v := ?ve10_11) (by (conv => lhs; simp only [List.getElem?_toArray, List.getElem?_cons_succ, List.getElem?_cons_zero])) (by kernel_rfl) (by kernel_rfl) (by kernel_rfl) ?hQ (Or.inl ⟨by rfl, ?hye10_11⟩) hH ?reste10_11
    case hQ => exact fun _ _ _ h => h
    case hye10_11 => (intro Y hY; obtain ⟨y0, y1, y2, y3, y4, y5, y6, y7⟩ := hY; go_simp; try (with_reducible rfl))
    try simp only [Act.put, List.setIfInBounds_toArray, List.set_cons_zero, List.set_cons_succ]
    refine wpAnyH_take (i := 11) (v := ?ve11_12) (by (conv => lhs; simp only [List.getElem?_toArray, List.getElem?_cons_succ, List.getElem?_cons_zero])) (by kernel_rfl) (by kernel_rfl) (by kernel_rfl) ?hQ (Or.inl ⟨by rfl, ?hye11_12⟩) hH ?reste11_12
    case hQ => exact fun _ _ _ h => h
    case hye11_12 => (intro Y hY; obtain ⟨y0, y1, y2, y3, y4, y5, y6, y7⟩ := hY; go_simp; try (with_reducible rfl))
    try simp only [Act.put, List.setIfInBounds_toArray, List.set_cons_zero, List.set_cons_succ]
    refine wpAnyH_take (i := 12) (v := ?ve12_13) (by (conv => lhs; simp only [List.getElem?_toArray, List.getElem?_cons_succ, List.getElem?_cons_zero])) (by kernel_rfl) (by kernel_rfl) (by kernel_rfl) ?hQ (Or.inl ⟨by rfl, ?hye12_13⟩) hH ?reste12_13
    case hQ => exact fun _ _ _ h => h
    case hye12_13 => (intro Y hY; obtain ⟨y0, y1, y2, y3, y4, y5, y6, y7⟩ := hY; go_simp; try (with_reducible rfl))
    try simp only [Act.put, List.setIfInBounds_toArray, List.set_cons_zero, List.set_cons_succ]
    refine wpAnyH_take (i := 13) (v := ?ve13_14) (by (conv => lhs; simp only [List.getElem?_toArray, List.getElem?_cons_succ, List.getElem?_cons_zero])) (by kernel_rfl) (by kernel_rfl) (by kernel_rfl) ?hQ (Or.inl ⟨by rfl, ?hye13_14⟩) hH ?reste13_14
    case hQ => exact fun _ _ _ h => h
    case hye13_14 => (intro Y hY; obtain ⟨y0, y1, y2, y3, y4, y5, y6, y7⟩ := hY; go_simp; try (with_reducible rfl))
    try simp only [Act.put, List.setIfInBounds_toArray, List.set_cons_zero, List.set_cons_succ]
    refine wpAnyH_ready (rs := [14]) (by kernel_rfl) (by simp) ?_
    refine AllReadyH.cons (by (conv => lhs; simp only [List.getElem?_toArray, List.getElem?_cons_succ, List.getElem?_cons_zero])) (fun K hK => ?_) AllReadyH.nil
    go_simp
    go_at_call 30; refine (CB.out _ (Below.drew (Below.refl _ _))).mono ?_; rintro e w2 ⟨rfl, q, hw2⟩
    have B2 := hidd (show Below w.heap.size w w2 from by rw [hw2]; exact below_drewN (Below.drew (Below.refl _ _)) _)
    refine hK.out _ _ (KS.out _ B2.out) (fun hH1 => ?_)
    clear hK hH hw2
    try simp only [Act.put, List.setIfInBounds_toArray, List.set_cons_zero, List.set_cons_succ]
    refine wpAnyH_take (i := 15) (v := ?ve15_15) (by (conv => lhs; simp only [List.getElem?_toArray, List.getElem?_cons_succ, List.getElem?_cons_zero])) (by kernel_rfl) (by kernel_rfl) (by kernel_rfl) ?hQ (Or.inl ⟨by rfl, ?hye15_15⟩) hH1 ?reste15_15
    case hQ => exact fun _ _ _ h => h
    case hye15_15 => (intro Y hY; obtain ⟨y0, y1, y2, y3, y4, y5, y6, y7⟩ := hY; go_simp; try (with_reducible rfl))
    try simp only [Act.put, List.setIfInBounds_toArray, List.set_cons_zero, List.set_cons_succ]
    refine wpAnyH_take (i := 16) (v := ?ve16_16) (by (conv => lhs; simp only [List.getElem?_toArray, List.getElem?_cons_succ, List.getElem?_cons_zero])) (by kernel_rfl) (by kernel_rfl) (by kernel_rfl) ?hQ (Or.inl ⟨by rfl, ?hye16_16⟩) hH1 ?reste16_16
    case hQ => exact fun _ _ _ h => h
    case hye16_16 => (intro Y hY; obtain ⟨y0, y1, y2, y3, y4, y5, y6, y7⟩ := hY; go_simp; try (with_reducible rfl))
    try simp only [Act.put, List.setIfInBounds_toArray, List.set_cons_zero, List.set_cons_succ]
    refine wpAnyH_take (i := 17) (v := ?ve17_17) (by (conv => lhs; simp only [List.getElem?_toArray, List.getElem?_cons_succ, List.getElem?_cons_zero])) (by kernel_rfl) (by kernel_rfl) (by kernel_rfl) ?hQ (Or.inl ⟨by rfl, ?hye17_17⟩) hH1 ?reste17_17
    case hQ => exact fun _ _ _ h => h
    case hye17_17 => (intro Y hY; obtain ⟨y0, y1, y2, y3, y4, y5, y6, y7⟩ := hY; go_simp; try (with_reducible rfl))
    try simp only [Act.put, List.setIfInBounds_toArray, List.set_cons_zero, List.set_cons_succ]
    refine wpAnyH_take (i := 18) (v := ?ve18_18) (by (conv => lhs; simp only [List.getElem?_toArray, List.getElem?_cons_succ, List.getElem?_cons_zero])) (by kernel_rfl) (by kernel_rfl) (by kernel_rfl) ?hQ (Or.inl ⟨by rfl, ?hye18_18⟩) hH1 ?reste18_18
    case hQ => exact fun _ _ _ h => h
    case hye18_18 => (intro Y hY; obtain ⟨y0, y1, y2, y3, y4, y5, y6, y7⟩ := hY; go_simp; try (with_reducible rfl))
    try simp only [Act.put, List.setIfInBounds_toArray, List.set_cons_zero, List.set_cons_succ]
    refine wpAnyH_take (i := 19) (v := ?ve19_19) (by (conv => lhs; simp only [List.getElem?_toArray, List.getElem?_cons_succ, List.getElem?_cons_zero])) (by kernel_rfl) (by kernel_rfl) (by kernel_rfl) ?hQ (Or.inl ⟨by rfl, ?hye19_19⟩) hH1 ?reste19_19
    case hQ => exact fun _ _ _ h => h
    case hye19_19 => (intro Y hY; obtain ⟨y0, y1, y2, y3, y4, y5, y6, y7⟩ := hY; go_simp; try (with_reducible rfl))
    try simp only [Act.put, List.setIfInBounds_toArray, List.set_cons_zero, List.set_cons_succ]
    refine wpAnyH_take (i := 20) (v := ?ve20_20) (by (conv => lhs; simp only [List.getElem?_toArray, List.getElem?_cons_succ, List.getElem?_cons_zero])) (by kernel_rfl) (by kernel_rfl) (by kernel_rfl) ?hQ (Or.inl ⟨by rfl, ?hye20_20⟩) hH1 ?reste20_20
    case hQ => exact fun _ _ _ h => h
    case hye20_20 => (intro Y hY; obtain ⟨y0, y1, y2, y3, y4, y5, y6, y7⟩ := hY; go_simp; try (with_reducible rfl))
    try simp only [Act.put, List.setIfInBounds_toArray, List.set_cons_zero, List.set_cons_succ]
    refine wpAnyH_take (i := 21) (v := ?ve21_21) (by (conv => lhs; simp only [List.getElem?_toArray, List.getElem?_cons_succ, List.getElem?_cons_zero])) (by kernel_rfl) (by kernel_rfl) (by kernel_rfl) ?hQ (Or.inl ⟨by rfl, ?hye21_21⟩) hH1 ?reste21_21
    case hQ => exact fun _ _ _ h => h
    case hye21_21 => (intro Y hY; obtain ⟨y0, y1, y2, y3, y4, y5, y6, y7⟩ := hY; go_simp; try (with_reducible rfl))
    try simp only [Act.put, List.setIfInBounds_toArray, List.set_cons_zero, List.set_cons_succ]
    refine wpAnyH_take (i := 22) (v := ?ve22_22) (by (conv => lhs; simp only [List.getElem?_toArray, List.getElem?_cons_succ, List.getElem?_cons_zero])) (by kernel_rfl) (by kernel_rfl) (by kernel_rfl) ?hQ (Or.inl ⟨by rfl, ?hye22_22⟩) hH1 ?reste22_22
    case hQ => exact fun _ _ _ h => h
    case hye22_22 => (intro Y hY; obtain ⟨y0, y1, y2, y3, y4, y5, y6, y7⟩ := hY; go_simp; try (with_reducible rfl))
    try simp only [Act.put, List.setIfInBounds_toArray, List.set_cons_zero, List.set_cons_succ]
    refine wpAnyH_take (i := 23) (v := ?ve23_23) (by (conv => lhs; simp only [List.getElem?_toArray, List.getElem?_cons_succ, List.getElem?_cons_zero])) (by kernel_rfl) (by kernel_rfl) (by kernel_rfl) ?hQ (Or.inl ⟨by rfl, ?hye23_23⟩) hH1 ?reste23_23
    case hQ => exact fun _ _ _ h => h
    case hye23_23 => (intro Y hY; obtain ⟨y0, y1, y2, y3, y4, y5, y6, y7⟩ := hY; go_simp; try (with_reducible rfl))
    try simp only [Act.put, List.setIfInBounds_toArray, List.set_cons_zero, List.set_cons_succ]
    refine wpAnyH_take (i := 24) (v := ?ve24_24) (by (conv => lhs; simp only [List.getElem?_toArray, List.getElem?_cons_succ, List.getElem?_cons_zero])) (by kernel_rfl) (by kernel_rfl) (by kernel_rfl) ?hQ (Or.inl ⟨by rfl, ?hye24_24⟩) hH1 ?reste24_24
    case hQ => exact fun _ _ _ h => h
    case hye24_24 => (intro Y hY; obtain ⟨y0, y1, y2, y3, y4, y5, y6, y7⟩ := hY; go_simp; try (with_reducible rfl))
    try simp only [Act.put, List.setIfInBounds_toArray, List.set_cons_zero, List.set_cons_succ]
    refine wpAnyH_take (i := 25) (v := ?ve25_25) (by (conv => lhs; simp only [List.getElem?_toArray, List.getElem?_cons_succ, List.getElem?_cons_zero])) (by kernel_rfl) (by kernel_rfl) (by kernel_rfl) ?hQ (Or.inl ⟨by rfl, ?hye25_25⟩) hH1 ?reste25_25
    case hQ => exact fun _ _ _ h => h
    case hye25_25 => (intro Y hY; obtain ⟨y0, y1, y2, y3, y4, y5, y6, y7⟩ := hY; go_simp; try (with_reducible rfl))
    try simp only [Act.put, List.setIfInBounds_toArray, List.set_cons_zero, List.set_cons_succ]
    refine wpAnyH_take (i := 26) (v := ?ve26_26) (by (conv => lhs; simp only [List.getElem?_toArray, List.getElem?_cons_succ, List.getElem?_cons_zero])) (by kernel_rfl) (by kernel_rfl) (by kernel_rfl) ?hQ (Or.inl ⟨by rfl, ?hye26_26⟩) hH1 ?reste26_26
    case hQ => exact fun _ _ _ h => h
    case hye26_26 => (intro Y hY; obtain ⟨y0, y1, y2, y3, y4, y5, y6, y7⟩ := hY; go_simp; try (with_reducible rfl))
    try simp only [Act.put, List.setIfInBounds_toArray, List.set_cons_zero, List.set_cons_succ]
    refine wpAnyH_take (i := 27) (v := ?ve27_27) (by (conv => lhs; simp only [List.getElem?_toArray, List.getElem?_cons_succ, List.getElem?_cons_zero])) (by kernel_rfl) (by kernel_rfl) (by kernel_rfl) ?hQ (Or.inl ⟨by rfl, ?hye27_27⟩) hH1 ?reste27_27
    case hQ => exact fun _ _ _ h => h
    case hye27_27 => (intro Y hY; obtain ⟨y0, y1, y2, y3, y4, y5, y6, y7⟩ := hY; go_simp; try (with_reducible rfl))
    try simp only [Act.put, List.setIfInBounds_toArray, List.set_cons_zero, List.set_cons_succ]
    refine wpAnyH_take (i := 28) (v := ?ve28_28) (by (conv => lhs; simp only [List.getElem?_toArray, List.getElem?_cons_succ, List.getElem?_cons_zero])) (by kernel_rfl) (by kernel_rfl) (by kernel_rfl) ?hQ (Or.inl ⟨by rfl, ?hye28_28⟩) hH1 ?reste28_28
    case hQ => exact fun _ _ _ h => h
    case hye28_28 => (intro Y hY; obtain ⟨y0, y1, y2, y3, y4, y5, y6, y7⟩ := hY; go_simp; try (with_reducible rfl))
    try simp only [Act.put, List.setIfInBounds_toArray, List.set_cons_zero, List.set_cons_succ]
    refine wpAnyH_take (i := 29) (v := ?ve29_29) (by (conv => lhs; simp only [List.getElem?_toArray, List.getElem?_cons_succ, List.getElem?_cons_zero])) (by kernel_rfl) (by kernel_rfl) (by kernel_rfl) ?hQ (Or.inl ⟨by rfl, ?hye29_29⟩) hH1 ?reste29_29
    case hQ => exact fun _ _ _ h => h
    case hye29_29 => (intro Y hY; obtain ⟨y0, y1, y2, y3, y4, y5, y6, y7⟩ := hY; go_simp; try (with_reducible rfl))
    try simp only [Act.put, List.setIfInBounds_toArray, List.set_cons_zero, List.set_cons_succ]
    refine wpAnyH_take (i := 30) (v := ?ve30_30) (by (conv => lhs; simp only [List.getElem?_toArray, List.getElem?_cons_succ, List.getElem?_cons_zero])) (by kernel_rfl) (by kernel_rfl) (by kernel_rfl) ?hQ (Or.inl ⟨by rfl, ?hye30_30⟩) hH1 ?reste30_30
    case hQ => exact fun _ _ _ h => h
    case hye30_30 => (intro Y hY; obtain ⟨y0, y1, y2, y3, y4, y5, y6, y7⟩ := hY; go_simp; try (with_reducible rfl))
    try simp only [Act.put, List.setIfInBounds_toArray, List.set_cons_zero, List.set_cons_succ]
    refine wpAnyH_take (i := 31) (v := ?ve31_31) (by (conv => lhs; simp only [List.getElem?_toArray, List.getElem?_cons_succ, List.getElem?_cons_zero])) (by kernel_rfl) (by kernel_rfl) (by kernel_rfl) ?hQ (Or.inl ⟨by rfl, ?hye31_31⟩) hH1 ?reste31_31
    case hQ => exact fun _ _ _ h => h
    case hye31_31 => (intro Y hY; obtain ⟨y0, y1, y2, y3, y4, y5, y6, y7⟩ := hY; go_simp; try (with_reducible rfl))
    try simp only [Act.put, List.setIfInBounds_toArray, List.set_cons_zero, List.set_cons_succ]
    refine wpAnyH_take (i := 32) (v := ?ve32_32) (by (conv => lhs; simp only [List.getElem?_toArray, List.getElem?_cons_succ, List.getElem?_cons_zero])) (by kernel_rfl) (by kernel_rfl) (by kernel_rfl) ?hQ (Or.inl ⟨by rfl, ?hye32_32⟩) hH1 ?reste32_32
    case hQ => exact fun _ _ _ h => h
    case hye32_32 => (intro Y hY; obtain ⟨y0, y1, y2, y3, y4, y5, y6, y7⟩ := hY; go_simp; try (with_reducible rfl))
    try simp only [Act.put, List.setIfInBounds_toArray, List.set_cons_zero, List.set_cons_succ]
    refine wpAnyH_take (i := 33) (v := ?ve33_33) (by (conv => lhs; simp only [List.getElem?_toArray, List.getElem?_cons_succ, List.getElem?_cons_zero])) (by kernel_rfl) (by kernel_rfl) (by kernel_rfl) ?hQ (Or.inl ⟨by rfl, ?hye33_33⟩) hH1 ?reste33_33
    case hQ => exact fun _ _ _ h => h
    case hye33_33 => (intro Y hY; obtain ⟨y0, y1, y2, y3, y4, y5, y6, y7⟩ := hY; go_simp; try (with_reducible rfl))
    try simp only [Act.put, List.setIfInBounds_toArray, List.set_cons_zero, List.set_cons_succ]
    refine wpAnyH_take (i := 34) (v := ?ve34_34) (by (conv => lhs; simp only [List.getElem?_toArray, List.getElem?_cons_succ, List.getElem?_cons_zero])) (by kernel_rfl) (by kernel_rfl) (by kernel_rfl) ?hQ (Or.inl ⟨by rfl, ?hye34_34⟩) hH1 ?reste34_34
    case hQ => exact fun _ _ _ h => h
    case hye34_34 => (intro Y hY; obtain ⟨y0, y1, y2, y3, y4, y5, y6, y7⟩ := hY; go_simp; try (with_reducible rfl))
    try simp only [Act.put, List.setIfInBounds_toArray, List.set_cons_zero, List.set_cons_succ]
    refine wpAnyH_take (i := 35) (v := ?ve35_35) (by (conv => lhs; simp only [List.getElem?_toArray, List.getElem?_cons_succ, List.getElem?_cons_zero])) (by kernel_rfl) (by kernel_rfl) (by kernel_rfl) ?hQ (Or.inl ⟨by rfl, ?hye35_35⟩) hH1 ?reste35_35
    case hQ => exact fun _ _ _ h => h
    case hye35_35 => (intro Y hY; obtain ⟨y0, y1, y2, y3, y4, y5, y6, y7⟩ := hY; go_simp; try (with_reducible rfl))
    try simp only [Act.put, List.setIfInBounds_toArray, List.set_cons_zero, List.set_cons_succ]
    refine wpAnyH_take (i := 36) (v := ?ve36_36) (by (conv => lhs; simp only [List.getElem?_toArray, List.getElem?_cons_succ, List.getElem?_cons_zero])) (by kernel_rfl) (by kernel_rfl) (by kernel_rfl) ?hQ (Or.inl ⟨by rfl, ?hye36_36⟩) hH1 ?reste36_36
    case hQ => exact fun _ _ _ h => h
    case hye36_36 => (intro Y hY; obtain ⟨y0, y1, y2, y3, y4, y5, y6, y7⟩ := hY; go_simp; try (with_reducible rfl))
    try simp only [Act.put, List.setIfInBounds_toArray, List.set_cons_zero, List.set_cons_succ]
    refine wpAnyH_take (i := 37) (v := ?ve37_37) (by (conv => lhs; simp only [List.getElem?_toArray, List.getElem?_cons_succ, List.getElem?_cons_zero])) (by kernel_rfl) (by kernel_rfl) (by kernel_rfl) ?hQ (Or.inl ⟨by rfl, ?hye37_37⟩) hH1 ?reste37_37
    case hQ => exact fun _ _ _ h => h
    case hye37_37 => (intro Y hY; obtain ⟨y0, y1, y2, y3, y4, y5, y6, y7⟩ := hY; go_simp; try (with_reducible rfl))
    try simp only [Act.put, List.setIfInBounds_toArray, List.set_cons_zero, List.set_cons_succ]
    refine wpAnyH_take (i := 38) (v := ?ve38_38) (by (conv => lhs; simp only [List.getElem?_toArray, List.getElem?_cons_succ, List.getElem?_cons_zero])) (by kernel_rfl) (by kernel_rfl) (by kernel_rfl) ?hQ (Or.inl ⟨by rfl, ?hye38_38⟩) hH1 ?reste38_38
    case hQ => exact fun _ _ _ h => h
    case hye38_38 => (intro Y hY; obtain ⟨y0, y1, y2, y3, y4, y5, y6, y7⟩ := hY; go_simp; try (with_reducible rfl))
    try simp only [Act.put, List.setIfInBounds_toArray, List.set_cons_zero, List.set_cons_succ]
    refine wpAnyH_take (i := 39) (v := ?ve39_39) (by (conv => lhs; simp only [List.getElem?_toArray, List.getElem?_cons_succ, List.getElem?_cons_zero])) (by kernel_rfl) (by kernel_rfl) (by kernel_rfl) ?hQ (Or.inl ⟨by rfl, ?hye39_39⟩) hH1 ?reste39_39
    case hQ => exact fun _ _ _ h => h
    case hye39_39 => (intro Y hY; obtain ⟨y0, y1, y2, y3, y4, y5, y6, y7⟩ := hY; go_simp; try (with_reducible rfl))
    try simp only [Act.put, List.setIfInBounds_toArray, List.set_cons_zero, List.set_cons_succ]
    refine wpAnyH_take (i := 40) (v := ?ve40_40) (by (conv => lhs; simp only [List.getElem?_toArray, List.getElem?_cons_succ, List.getElem?_cons_zero])) (by kernel_rfl) (by kernel_rfl) (by kernel_rfl) ?hQ (Or.inl ⟨by rfl, ?hye40_40⟩) hH1 ?reste40_40
    case hQ => exact fun _ _ _ h => h
    case hye40_40 => (intro Y hY; obtain ⟨y0, y1, y2, y3, y4, y5, y6, y7⟩ := hY; go_simp; try (with_reducible rfl))
    try simp only [Act.put, List.setIfInBounds_toArray, List.set_cons_zero, List.set_cons_succ]
    refine wpAnyH_take (i := 41) (v := ?ve41_41) (by (conv => lhs; simp only [List.getElem?_toArray, List.getElem?_cons_succ, List.getElem?_cons_zero])) (by kernel_rfl) (by kernel_rfl) (by kernel_rfl) ?hQ (Or.inl ⟨by rfl, ?hye41_41⟩) hH1 ?reste41_41
    case hQ => exact fun _ _ _ h => h
    case hye41_41 => (intro Y hY; obtain ⟨y0, y1, y2, y3, y4, y5, y6, y7⟩ := hY; go_simp; try (with_reducible rfl))
    try simp only [Act.put, List.setIfInBounds_toArray, List.set_cons_zero, List.set_cons_succ]
    refine wpAnyH_take (i := 42) (v := ?ve42_42) (by (conv => lhs; simp only [List.getElem?_toArray, List.getElem?_cons_succ, List.getElem?_cons_zero])) (by kernel_rfl) (by kernel_rfl) (by kernel_rfl) ?hQ (Or.inl ⟨by rfl, ?hye42_42⟩) hH1 ?reste42_42
    case hQ => exact fun _ _ _ h => h
    case hye42_42 => (intro Y hY; obtain ⟨y0, y1, y2, y3, y4, y5, y6, y7⟩ := hY; go_simp; try (with_reducible rfl))
    try simp only [Act.put, List.setIfInBounds_toArray, List.set_cons_zero, List.set_cons_succ]
    refine wpAnyH_take (i := 43) (v := ?ve43_43) (by (conv => lhs; simp only [List.getElem?_toArray, List.getElem?_cons_succ, List.getElem?_cons_zero])) (by kernel_rfl) (by kernel_rfl) (by kernel_rfl) ?hQ (Or.inl ⟨by rfl, ?hye43_43⟩) hH1 ?reste43_43
    case hQ => exact fun _ _ _ h => h
    case hye43_43 => (intro Y hY; obtain ⟨y0, y1, y2, y3, y4, y5, y6, y7⟩ := hY; go_simp; try (with_reducible rfl))
    try simp only [Act.put, List.setIfInBounds_toArray, List.set_cons_zero, List.set_cons_succ]
    refine wpAnyH_take (i := 44) (v := ?ve44_44) (by (conv => lhs; simp only [List.getElem?_toArray, List.getElem?_cons_succ, List.getElem?_cons_zero])) (by kernel_rfl) (by kernel_rfl) (by kernel_rfl) ?hQ (Or.inl ⟨by rfl, ?hye44_44⟩) hH1 ?reste44_44
    case hQ => exact fun _ _ _ h => h
    case hye44_44 => (intro Y hY; obtain ⟨y0, y1, y2, y3, y4, y5, y6, y7⟩ := hY; go_simp; try (with_reducible rfl))
    try simp only [Act.put, List.setIfInBounds_toArray, List.set_cons_zero, List.set_cons_succ]
    refine wpAnyH_take (i := 45) (v := ?ve45_45) (by (conv => lhs; simp only [List.getElem?_toArray, List.getElem?_cons_succ, List.getElem?_cons_zero])) (by kernel_rfl) (by kernel_rfl) (by kernel_rfl) ?hQ (Or.inl ⟨by rfl, ?hye45_45⟩) hH1 ?reste45_45
    case hQ => exact fun _ _ _ h => h
    case hye45_45 => (intro Y hY; obtain ⟨y0, y1, y2, y3, y4, y5, y6, y7⟩ := hY; go_simp; try (with_reducible rfl))
    try simp only [Act.put, List.setIfInBounds_toArray, List.set_cons_zero, List.set_cons_succ]
    refine wpAnyH_take (i := 46) (v := ?ve46_46) (by (conv => lhs; simp only [List.getElem?_toArray, List.getElem?_cons_succ, List.getElem?_cons_zero])) (by kernel_rfl) (by kernel_rfl) (by kernel_rfl) ?hQ (Or.inl ⟨by rfl, ?hye46_46⟩) hH1 ?reste46_46
    case hQ => exact fun _ _ _ h => h
    case hye46_46 => (intro Y hY; obtain ⟨y0, y1, y2, y3, y4, y5, y6, y7⟩ := hY; go_simp; try (with_reducible rfl))
    try simp only [Act.put, List.setIfInBounds_toArray, List.set_cons_zero, List.set_cons_succ]
    refine wpAnyH_ready (rs := [47]) (by kernel_rfl) (by simp) ?_
    refine AllReadyH.cons (by (conv => lhs; simp only [List.getElem?_toArray, List.getElem?_cons_succ, List.getElem?_cons_zero])) (fun K hK => ?_) AllReadyH.nil
    go_simp
    go_at_call 31; refine (CE.out _ B2.out).mono ?_; rintro e w3 ⟨rfl, q, hw3⟩
    have B3 := hidd (show Below w.heap.size w w3 from by rw [hw3]; exact below_drewN B2.out _)
    refine hK.out _ _ (KS.out _ B3.out) (fun hH2 => ?_)
    clear hK hH1 hw3
    try simp only [Act.put, List.setIfInBounds_toArray, List.set_cons_zero, List.set_cons_succ]
    refine wpAnyH_take (i := 48) (v := ?ve48_47) (by (conv => lhs; simp only [List.getElem?_toArray, List.getElem?_cons_succ, List.getElem?_cons_zero])) (by kernel_rfl) (by kernel_rfl) (by kernel_rfl) ?hQ (Or.inl ⟨by rfl, ?hye48_47⟩) hH2 ?reste48_47
    case hQ => exact fun _ _ _ h => h
    case hye48_47 => (intro Y hY; obtain ⟨y0, y1, y2, y3, y4, y5, y6, y7⟩ := hY; go_simp; try (with_reducible rfl))
    try simp only [Act.put, List.setIfInBounds_toArray, List.set_cons_zero, List.set_cons_succ]
    refine wpAnyH_take (i := 49) (v := ?ve49_48) (by (conv => lhs; simp only [List.getElem?_toArray, List.getElem?_cons_succ, List.getElem?_cons_zero])) (by kernel_rfl) (by kernel_rfl) (by kernel_rfl) ?hQ (Or.inl ⟨by rfl, ?hye49_48⟩) hH2 ?reste49_48
    case hQ => exact fun _ _ _ h => h
    case hye49_48 => (intro Y hY; obtain ⟨y0, y1, y2, y3, y4, y5, y6, y7⟩ := hY; go_simp; try (with_reducible rfl))
    try simp only [Act.put, List.setIfInBounds_toArray, List.set_cons_zero, List.set_cons_succ]
    refine wpAnyH_done (by kernel_rfl) (?_) _
    go_wp2_with fail
    go_ret
    exact ⟨by rw [HD.out]; rfl, B3.out⟩
end Go.Proofs.Ythaiphkmkchhoaa

/- Shapers: a shaper beside three lists of the law's own: what came, what went, what was sent; what goes keeps to the spec. -/
namespace Go.Proofs.Ythaiphkmkchhoaa
open Go.RowKit Go.Sort
set_option linter.unusedVariables false
/-- a shaper with a list each of what came and what went. -/
structure K3 (B : Nat) (w : World) (h : Nat) (p r u m l : Int) (s : BM.St) (L : List (Int × Int)) (cv : Value) (C : List (Int × Int)) (gv : Value) (G : List (Int × Int)) (sv : Value) (T : List (Int × Int)) (W : World) : Prop where
  sh : ∃ g b v, ShAt W h g b v p r u m l s 1000000000 L ∧ (∀ j, ShBlk h g b v j → B ≤ j) ∧ (∀ q, cv.ownBlock = some q → ¬ ShBlk h g b v q) ∧ (∀ q, gv.ownBlock = some q → ¬ ShBlk h g b v q) ∧ (∀ q, sv.ownBlock = some q → ¬ ShBlk h g b v q)
  c : OwnL sendV 2 W B 41 cv C
  g : OwnL sendV 2 W B 41 gv G
  se : OwnL sendV 2 W B 107 sv T
  cs : ∀ q, cv.ownBlock = some q → sv.ownBlock ≠ some q
  gs : ∀ q, gv.ownBlock = some q → sv.ownBlock ≠ some q
  cg : ∀ q, cv.ownBlock = some q → gv.ownBlock ≠ some q
  bel : Below B w W
  bsz : B ≤ W.heap.size
section
variable {B : Nat} {w : World} {h : Nat} {p r u m l : Int} {s : BM.St} {L : List (Int × Int)} {cv : Value} {C : List (Int × Int)} {gv : Value} {G : List (Int × Int)} {sv : Value} {T : List (Int × Int)} {W W' : World}
theorem K3.below (H : K3 B w h p r u m l s L cv C gv G sv T W) (hb : Below W.heap.size W W') : K3 B w h p r u m l s L cv C gv G sv T W' := by
  obtain ⟨g, b, v, hS, h1, h2, h3, h4⟩ := H.sh
  exact ⟨⟨g, b, v, hS.below hb, h1, h2, h3, h4⟩, H.c.below hb, H.g.below hb, H.se.below hb, H.cs, H.gs, H.cg, H.bel.trans (hb.mono H.bsz), Nat.le_trans H.bsz hb.size⟩
theorem K3.drew (H : K3 B w h p r u m l s L cv C gv G sv T W) : K3 B w h p r u m l s L cv C gv G sv T W.drew := H.below (Below.drew (Below.refl _ _))
/-- what a call of the shaper's leaves. -/
theorem K3.turn (H : K3 B w h p r u m l s L cv C gv G sv T W) {g b : Nat} {v v' : Value} {s' : BM.St} {L' : List (Int × Int)} (h1 : ∀ j, ShBlk h g b v j → B ≤ j) (h2 : ∀ q, cv.ownBlock = some q → ¬ ShBlk h g b v q) (h3 : ∀ q, gv.ownBlock = some q → ¬ ShBlk h g b v q) (h4 : ∀ q, sv.ownBlock = some q → ¬ ShBlk h g b v q)
    (hS : ShAt W' h g b v' p r u m l s' 1000000000 L') (hs : Sav (ShBlk h g b v) W W') (hn : ∀ j, j < W.heap.size → ShBlk h g b v' j → ShBlk h g b v j) : K3 B w h p r u m l s' L' cv C gv G sv T W' := by
  have hB := H.bsz
  refine ⟨⟨g, b, v', hS, fun j hj => ?_, fun q e hq => ?_, fun q e hq => ?_, fun q e hq => ?_⟩, H.c.keep1 (fun q e => hs.block q (H.c.lt q e).2 (h2 q e)), H.g.keep1 (fun q e => hs.block q (H.g.lt q e).2 (h3 q e)), H.se.keep1 (fun q e => hs.block q (H.se.lt q e).2 (h4 q e)), H.cs, H.gs, H.cg, H.bel.trans (hs.below hB h1), Nat.le_trans hB hs.size⟩
  · rcases Nat.lt_or_ge j W.heap.size with q | q
    · exact h1 j (hn j q hj)
    · exact Nat.le_trans hB q
  · exact h2 q e (hn q (H.c.lt q e).2 hq)
  · exact h3 q e (hn q (H.g.lt q e).2 hq)
  · exact h4 q e (hn q (H.se.lt q e).2 hq)
theorem K3.put (H : K3 B w h p r u m l s L cv C gv G sv T W) (i z : Int) : Calls Try.prog 15 #[.pointer (some ⟨h, 0, none⟩), .agg #[.int .i64 i, .int .i64 z]] W fun e W' => e = .returned (.int .i64 (putE m l 1000000000 L i z)) ∧ K3 B w h p r u m l s (if putE m l 1000000000 L i z = 0 then L ++ [(i, z)] else L) cv C gv G sv T W' := by
  obtain ⟨g, b, v, hS, h1, h2, h3, h4⟩ := H.sh
  unfold putE
  by_cases hi : i < 0 ∨ 4611686018427387904 < i
  · rw [if_pos hi]
    refine (put_arg hS hi z).mono ?_
    rintro e W' ⟨rfl, hb⟩
    exact ⟨rfl, by rw [if_neg (by omega)]; exact H.below hb⟩
  · rw [if_neg hi]
    cases hz : BM.sizeB m l z
    · simp only [Bool.false_eq_true, if_false]
      refine (put_size hS (by omega) hz).mono ?_
      rintro e W' ⟨rfl, hb⟩
      exact ⟨rfl, by rw [if_neg (by omega)]; exact H.below hb⟩
    · simp only [if_true]
      by_cases hr : 1000000000 < sumB L + z
      · rw [if_pos hr]
        refine (put_room hS (by omega) hz hr).mono ?_
        rintro e W' ⟨rfl, hb⟩
        exact ⟨rfl, by rw [if_neg (by omega)]; exact H.below hb⟩
      · rw [if_neg hr]
        refine (put_ok hS (by omega) hz hr).mono ?_
        rintro e W' ⟨rfl, v', hS', hs, hn⟩
        exact ⟨rfl, by rw [if_pos rfl]; exact H.turn h1 h2 h3 h4 hS' hs hn⟩
/-- behind Go, as the law sees it. -/
def GoK3 (B : Nat) (w : World) (h : Nat) (p r u m l : Int) (s : BM.St) (L : List (Int × Int)) (cv : Value) (C : List (Int × Int)) (gv : Value) (G : List (Int × Int)) (sv : Value) (T : List (Int × Int)) (W : World) (n : Int) (e : Ending) (W' : World) : Prop :=
  ∃ (k : Nat) (s' : BM.St) (A2 : Option Addr) (c2 : Nat), e = .returned (.tuple #[.slice A2 k c2, .int .i64 0]) ∧ BM.Goes p r u m l (BM.step p r u m l s n 0).1 n L k s' ∧ K3 B w h p r u m l s' (L.drop k) cv C gv G sv T W' ∧ QL W' (.slice A2 k c2) (L.take k) ∧
    ∀ q, (Value.slice A2 k c2).ownBlock = some q → W.heap.size ≤ q
theorem K3.go (H : K3 B w h p r u m l s L cv C gv G sv T W) (n : Int) (hn : BM.askB s n = true) : Calls Try.prog 16 #[.pointer (some ⟨h, 0, none⟩), .int .i64 n] W (GoK3 B w h p r u m l s L cv C gv G sv T W n) := by
  obtain ⟨g, b, v, hS, h1, h2, h3, h4⟩ := H.sh
  refine (go_yes hS n hn).mono ?_
  rintro e W' ⟨k, s', A2, c2, v2, rfl, hg, hS', ho, hq, hqn, hs⟩
  exact ⟨k, s', A2, c2, rfl, hg, H.turn h1 h2 h3 h4 hS' hs (fun j _ hj => by unfold ShBlk at hj ⊢; rw [ho] at hj; exact hj), hq, hqn⟩
theorem K3.go_no (H : K3 B w h p r u m l s L cv C gv G sv T W) (n : Int) (hn : BM.askB s n = false) : Calls Try.prog 16 #[.pointer (some ⟨h, 0, none⟩), .int .i64 n] W fun e W' => e = .returned (.tuple #[.slice none 0 0, .int .i64 2]) ∧ K3 B w h p r u m l s L cv C gv G sv T W' := by
  obtain ⟨g, b, v, hS, h1, h2, h3, h4⟩ := H.sh
  refine (_root_.Go.Proofs.Ythaiphkmkchhoaa.go_no hS n hn).mono ?_
  rintro e W' ⟨rfl, hS', hs⟩
  exact ⟨rfl, H.turn h1 h2 h3 h4 hS' hs (fun j _ hj => hj)⟩
theorem K3.bytes (H : K3 B w h p r u m l s L cv C gv G sv T W) : Calls Try.prog 18 #[.pointer (some ⟨h, 0, none⟩)] W fun e W' => e = .returned (.int .i64 (sumB L)) ∧ W = W' := by
  obtain ⟨g, b, v, hS, _⟩ := H.sh
  exact bytes_any hS
theorem K3.wf (H : K3 B w h p r u m l s L cv C gv G sv T W) : rightB p r u m l = true ∧ BM.Ok u m s ∧ Szs m l L ∧ sumB L ≤ 1000000000 ∧ (L.length : Int) ≤ sumB L := by
  obtain ⟨g, b, v, hS, _⟩ := H.sh
  exact ⟨hS.rt, hS.ok, hS.sz, hS.sm, hS.sz.sum (by have := rightB_iff hS.rt; omega)⟩
theorem K3.next0 (H : K3 B w h p r u m l s [] cv C gv G sv T W) : Calls Try.prog 17 #[.pointer (some ⟨h, 0, none⟩)] W fun e W' => e = .returned (.tuple #[.int .i64 0, .bool false]) ∧ W = W' := by
  obtain ⟨g, b, v, hS, _⟩ := H.sh
  exact next_none hS
theorem K3.next1 (H : K3 B w h p r u m l s L cv C gv G sv T W) (hl : 0 < L.length) {t : Int} (ht : BM.IsWhen p r u m s s.1 L[0].2 t) : Calls Try.prog 17 #[.pointer (some ⟨h, 0, none⟩)] W fun e W' => e = .returned (.tuple #[.int .i64 t, .bool true]) ∧ Below W.heap.size W W' := by
  obtain ⟨g, b, v, hS, _⟩ := H.sh
  match L, hl with
  | x :: L, _ => exact next_some hS ht
/-- a list of the law's own is longer by some. -/
theorem K3.came (H : K3 B w h p r u m l s L cv C gv G sv T W) {cv' : Value} {M : List (Int × Int)} (hO : OwnL sendV 2 W' B 41 cv' (C ++ M)) (hg : W.grownBy W' cv.ownBlock) (ha : cv'.ownBlock = cv.ownBlock ∨ cv'.ownBlock = some W.heap.size) : K3 B w h p r u m l s L cv' (C ++ M) gv G sv T W' := by
  obtain ⟨g, b, v, hS, h1, h2, h3, h4⟩ := H.sh
  have hB := H.bsz
  refine ⟨⟨g, b, v, hS.keep hg.size (fun j hj => hg.block j (hS.lt hj) (fun e => h2 j e.symm hj)), h1, fun q e hq => ?_, h3, h4⟩, hO, H.g.keep1 (fun q e => hg.block q (H.g.lt q e).2 (fun e2 => H.cg q e2.symm e)), H.se.keep1 (fun q e => hg.block q (H.se.lt q e).2 (fun e2 => H.cs q e2.symm e)), fun q e e2 => ?_, H.gs, fun q e e2 => ?_, H.bel.grown hg hB (fun k e => (H.c.lt k e).1), Nat.le_trans hB hg.size⟩
  · rcases ha with a | a
    · exact h2 q (a.symm.trans e) hq
    · rw [a] at e; cases e; have := hS.lt hq; omega
  · rcases ha with a | a
    · exact H.cs q (a.symm.trans e) e2
    · rw [a] at e; cases e; have := (H.se.lt _ e2).2; omega
  · rcases ha with a | a
    · exact H.cg q (a.symm.trans e) e2
    · rw [a] at e; cases e; have := (H.g.lt _ e2).2; omega
theorem K3.went (H : K3 B w h p r u m l s L cv C gv G sv T W) {gv' : Value} {M : List (Int × Int)} (hO : OwnL sendV 2 W' B 41 gv' (G ++ M)) (hg : W.grownBy W' gv.ownBlock) (ha : gv'.ownBlock = gv.ownBlock ∨ gv'.ownBlock = some W.heap.size) : K3 B w h p r u m l s L cv C gv' (G ++ M) sv T W' := by
  obtain ⟨g, b, v, hS, h1, h2, h3, h4⟩ := H.sh
  have hB := H.bsz
  refine ⟨⟨g, b, v, hS.keep hg.size (fun j hj => hg.block j (hS.lt hj) (fun e => h3 j e.symm hj)), h1, h2, fun q e hq => ?_, h4⟩, H.c.keep1 (fun q e => hg.block q (H.c.lt q e).2 (fun e2 => H.cg q e e2.symm)), hO, H.se.keep1 (fun q e => hg.block q (H.se.lt q e).2 (fun e2 => H.gs q e2.symm e)), H.cs, fun q e e2 => ?_, fun q e e2 => ?_, H.bel.grown hg hB (fun k e => (H.g.lt k e).1), Nat.le_trans hB hg.size⟩
  · rcases ha with a | a
    · exact h3 q (a.symm.trans e) hq
    · rw [a] at e; cases e; have := hS.lt hq; omega
  · rcases ha with a | a
    · exact H.gs q (a.symm.trans e) e2
    · rw [a] at e; cases e; have := (H.se.lt _ e2).2; omega
  · rcases ha with a | a
    · exact H.cg q e (a.symm.trans e2)
    · rw [a] at e2; cases e2; have := (H.c.lt _ e).2; omega
theorem K3.sent (H : K3 B w h p r u m l s L cv C gv G sv T W) {sv' : Value} {M : List (Int × Int)} (hO : OwnL sendV 2 W' B 107 sv' (T ++ M)) (hg : W.grownBy W' sv.ownBlock) (ha : sv'.ownBlock = sv.ownBlock ∨ sv'.ownBlock = some W.heap.size) : K3 B w h p r u m l s L cv C gv G sv' (T ++ M) W' := by
  obtain ⟨g, b, v, hS, h1, h2, h3, h4⟩ := H.sh
  have hB := H.bsz
  refine ⟨⟨g, b, v, hS.keep hg.size (fun j hj => hg.block j (hS.lt hj) (fun e => h4 j e.symm hj)), h1, h2, h3, fun q e hq => ?_⟩, H.c.keep1 (fun q e => hg.block q (H.c.lt q e).2 (fun e2 => H.cs q e e2.symm)), H.g.keep1 (fun q e => hg.block q (H.g.lt q e).2 (fun e2 => H.gs q e e2.symm)), hO, fun q e e2 => ?_, fun q e e2 => ?_, H.cg, H.bel.grown hg hB (fun k e => (H.se.lt k e).1), Nat.le_trans hB hg.size⟩
  · rcases ha with a | a
    · exact h4 q (a.symm.trans e) hq
    · rw [a] at e; cases e; have := hS.lt hq; omega
  · rcases ha with a | a
    · exact H.cs q e (a.symm.trans e2)
    · rw [a] at e2; cases e2; have := (H.c.lt _ e).2; omega
  · rcases ha with a | a
    · exact H.gs q e (a.symm.trans e2)
    · rw [a] at e2; cases e2; have := (H.g.lt _ e).2; omega
theorem K3.fresh (H : K3 B w h p r u m l s L cv C gv G sv T W) {q : Nat} (hq : W.heap.size ≤ q) : gv.ownBlock ≠ some q ∧ sv.ownBlock ≠ some q := ⟨fun e => by have := (H.g.lt q e).2; omega, fun e => by have := (H.se.lt q e).2; omega⟩
theorem K3.new {g b : Nat} (hw : Below B w W) (hW : B ≤ W.heap.size) (hS : ShAt W h g b (.slice none 0 0) p r u m l (0, u, m) 1000000000 []) (h1 : B ≤ h) (h2 : B ≤ g) (h3 : B ≤ b) : K3 B w h p r u m l (0, u, m) [] (.slice none 0 0) [] (.slice none 0 0) [] (.slice none 0 0) [] W := by
  refine ⟨⟨g, b, _, hS, fun j hj => ?_, fun q e => ?_, fun q e => ?_, fun q e => ?_⟩, OwnL.nil _ _ _, OwnL.nil _ _ _, OwnL.nil _ _ _, fun q e => ?_, fun q e => ?_, fun q e => ?_, hw, hW⟩
  · rcases hj with rfl | rfl | rfl | e
    · exact h1
    · exact h2
    · exact h3
    · cases e
  · cases e
  · cases e
  · cases e
  · cases e
  · cases e
  · cases e
end
namespace BM
theorem Inv.atK {p r u m l : Int} {T : List (Int × Int)} {s : St} (h : Inv p r u m l T s) (hp : 0 ≤ p) (hr : 0 ≤ r) (hl : 1 ≤ l) (hs : Ok u m s) {n : Int} {L : List (Int × Int)} : ∀ {k : Nat}, k ≤ L.length → (∀ i (hi : i < L.length), i < k → (BM.step p r u m l (BM.atK p r u m l s n L i) n L[i].2).2.1 = true) → Inv p r u m l (T ++ (L.take k).map fun x => (n, x.2)) (BM.atK p r u m l s n L k)
  | 0, _, _ => by rw [atK_zero]; simpa using h
  | k + 1, hk, ha => by
    have hk' : k < L.length := by omega
    have ih := Inv.atK h hp hr hl hs (n := n) (show k ≤ L.length by omega) (fun i hi h2 => ha i hi (by omega))
    have st := ih.step hp hr (by omega) (atK_ok hl hs) n L[k].2
    rw [ha k hk' (by omega)] at st
    rw [atK_succ _ _ _ _ _ _ _ hk', List.take_succ_eq_append_getElem hk', List.map_append, List.map_singleton, ← List.append_assoc]
    exact st
/-- a tick gone to takes nothing. -/
theorem Inv.move {p r u m l : Int} {T : List (Int × Int)} {s : St} (h : Inv p r u m l T s) (hp : 0 ≤ p) (hr : 0 ≤ r) (hl : 1 ≤ l) (hs : Ok u m s) (n : Int) : Inv p r u m l T (BM.step p r u m l s n 0).1 := by
  have st := h.step hp hr (by omega) hs n 0
  have e : (BM.step p r u m l s n 0).2.1 = false := by
    have nofit : fitB p r u m l s n 0 = false := by
      unfold fitB sizeB
      rw [decide_eq_false (by omega : ¬ (l ≤ 0 ∧ 0 ≤ m))]
      rfl
    unfold BM.step
    split
    · rw [if_neg (by rw [nofit]; simp)]
    · rfl
  rw [e] at st
  exact st
/-- what does not go does not keep to the spec. -/
theorem Inv.stop {p r u m l : Int} {T : List (Int × Int)} {s : St} (h : Inv p r u m l T s) (hp : 0 ≤ p) (hr : 0 ≤ r) (hs : Ok u m s) {n z : Int} (ha : askB s n = true) (hz : (BM.step p r u m l s n z).2.1 = false) : ¬ Keep p r u m l (T ++ [(n, z)]) := fun hk => by
  have := (step_is h hp hr hs n z).2 ⟨ha, hk⟩
  rw [hz] at this
  cases this
end BM
end Go.Proofs.Ythaiphkmkchhoaa

