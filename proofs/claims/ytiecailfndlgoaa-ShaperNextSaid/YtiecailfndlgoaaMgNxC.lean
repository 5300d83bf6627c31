/- Texts that the claim hangs on, in one. -/
import Derived.Test.YtiecailfndlgoaaMgEnA
import Derived.Test.YtiecailfndlgoaaMgEnB
/- Shapers: slices.Clone of what waits, Copy. -/
namespace Go.Proofs.Ytiecailfndlgoaa
open Go.RowKit Go.Sort
set_option linter.unusedVariables false
set_option maxRecDepth 100000 in
set_option maxHeartbeats 2000000 in
theorem cloneWaits_any (A : Option Addr) (L : List (Int × Int)) (c : Nat) (hL : L.length ≤ 1000000000) (w : World) (hA : Lie sendV 2 w w.heap.size A L) :
    Calls Try.prog 42 #[.slice A L.length c] w fun e w' => ∃ v', e = .returned v' ∧ OwnL sendV 2 w' w.heap.size 41 v' L ∧ Below w.heap.size w w' := by
  obtain ⟨i0, hi, hz0, hz1, hz2⟩ : ∃ i, Try.prog.info? 41 = some i ∧ i.zero = some (.agg #[.int .i64 0, .int .i64 0]) ∧ i.size = 2 ∧ i.bytes = 16 := by
    have q := waitInfo
    cases hi : Try.prog.info? 41 with
    | none => rw [hi] at q; cases q
    | some i => rw [hi] at q; simp at q; exact ⟨i, rfl, q.1, q.2.1, q.2.2⟩
  have q28 := hidd (fun (W : World) (a : Option Addr) (n c n' c' : Nat) => Lib.run_eql_slice_nil (P := Try.prog) W _ _ a n c n' c' Try.underlying33)
  cases A with
  | none =>
    have h0 : L.length = 0 := by
      rcases Nat.eq_zero_or_pos L.length with h | h
      · exact h
      · obtain ⟨ad, e, _⟩ := hA h; cases e
    have : L = [] := List.eq_nil_of_length_eq_zero h0
    subst this
    have q := fun W => q28.out W none 0 c 0 0
    clear hA h0
    simp only [List.length_nil]
    go_enter Try.func42, Try.ntmps42
    go_wp2_with fail
    go_ret
    exact ⟨.slice none 0 0, rfl, OwnL.nil _ _ _, by (repeat' (first | (with_reducible exact Below.refl _ _) | (with_reducible assumption) | (with_reducible apply Below.setCell) | (with_reducible apply Below.alloc) | (with_reducible apply Below.drew) | (with_reducible apply below_drewN) | (with_reducible refine Below.trans ?_ (Below.mono (by assumption) ?_)) | omega | (simp; done) | (simp; omega)))⟩
  | some ad =>
    have q := fun W => q28.out W (some ad) L.length c 0 0
    have hO : Hid ((w.alloc (.cells #[] 41)).ownsRow w.heap.size 41 2 (.slice (some ⟨w.heap.size, 0, none⟩) 0 0) 0 []) := hidd ⟨rfl, .inr ⟨w.heap.size, 0, #[], rfl, Nat.le_refl _, (MapKept.heap_alloc w _).1, Nat.le_refl _, Nat.zero_le _, rfl, rfl⟩⟩
    have hb1 : Below w.heap.size w (w.alloc (.cells #[] 41)) := by (repeat' (first | (with_reducible exact Below.refl _ _) | (with_reducible assumption) | (with_reducible apply Below.setCell) | (with_reducible apply Below.alloc) | (with_reducible apply Below.drew) | (with_reducible apply below_drewN) | (with_reducible refine Below.trans ?_ (Below.mono (by assumption) ?_)) | omega | (simp; done) | (simp; omega)))
    have hs1 := hA.below hb1
    have hsrc : Hid (0 < L.length → ∃ ad', some ad = some ad' ∧ ∀ j u, (rowOf sendV L)[j]? = some u → (w.alloc (.cells #[] 41)).cell? (ad'.add j) = some u) := hidd (fun hl => by
      obtain ⟨a2, e2, _, hc⟩ := hs1 hl
      refine ⟨a2, e2, fun j u hj => ?_⟩
      have hjl : j < (rowOf sendV L).length := (List.getElem?_eq_some_iff.1 hj).1
      rw [row_len sendV_len] at hjl
      have h1 : j / 2 < L.length := by omega
      have h2 : (sendV L[j / 2])[j % 2]? = some ((sendV L[j / 2])[j % 2]'(by rw [sendV_len]; omega)) := List.getElem?_eq_getElem _
      have h3 := row_at sendV_len L (j / 2) L[j / 2] (List.getElem?_eq_getElem h1) (j % 2) _ h2
      have e4 : j / 2 * 2 + j % 2 = j := by omega
      rw [e4, hj] at h3
      have h5 := hc (j / 2) L[j / 2] (List.getElem?_eq_getElem h1) (j % 2) _ h2
      rw [e4] at h5
      rw [h5]
      exact h3.symm)
    have HL := hidd hL
    have hmax : Hid (0 + L.length ≤ maxLen) := hidd (by unfold maxLen; omega)
    have hby : Hid ((0 + L.length) * 16 ≤ 140737488355328) := hidd (by omega)
    have HB1 := hidd hb1
    have HR := hidd (row_len sendV_len L)
    have HONE := hidd (rowOf_one sendV_one L)
    clear hA hs1 hb1 hL
    go_enter Try.func42, Try.ntmps42
    go_wp2_with (first | (at_builtin; refine wpList_append_some rfl _ _ 33 rfl w.heap.size 41 i0 (.agg #[.int .i64 0, .int .i64 0]) 2 16 Try.underlying33 hi hz0 hz1 hz2 rfl (by decide) (.slice (some ⟨w.heap.size, 0, none⟩) 0 0) 0 [] rfl hO.out (some ad) L.length c (rowOf sendV L) rfl HR.out hsrc.out HONE.out hmax.out hby.out (by simp) ?_; intro v' w1 hown' hgrow hor; have HO2 := hidd hown'; have HG := hidd hgrow; clear hown' hgrow hor) | fail)
    go_ret
    have h2 := HO2.out
    rw [Nat.zero_add, List.nil_append] at h2
    have h3 : OwnL sendV 2 w1 w.heap.size 41 v' L := h2
    exact ⟨v', rfl, h3, HB1.out.grown HG.out (by simp) (fun k hk => by simp [Value.ownBlock] at hk; omega)⟩
/-- what a copy is. -/
def CopyEnd (p r u m l : Int) (s : BM.St) (room : Int) (L : List (Int × Int)) (w : World) (e : Ending) (w' : World) : Prop :=
  ∃ h g b v, e = .returned (.pointer (some ⟨h, 0, none⟩)) ∧ ShAt w' h g b v p r u m l s room L ∧ (∀ k, ShBlk h g b v k → w.heap.size ≤ k) ∧ Below w.heap.size w w'
theorem copy_fin {p r u m l : Int} {s : BM.St} {room : Int} {L : List (Int × Int)} {w W : World} {b : Nat} {v : Value} (hR : rightB p r u m l = true) (hok : BM.Ok u m s) (hsz : Szs m l L) (hroom : 0 ≤ room ∧ room ≤ 1000000000 ∧ sumB L ≤ room)
    (hlb : w.heap.size ≤ b) (hB : BktAt W b p r u m l s) (hQ : QL W v L) (hA : ∀ q, v.ownBlock = some q → w.heap.size ≤ q ∧ q ≠ b) (bl : Below w.heap.size w W) :
    CopyEnd p r u m l s room L w (.returned (.pointer (some ⟨W.heap.size + 1, 0, none⟩))) ((W.alloc (.cells #[.pointer (some ⟨b, 0, none⟩), v, .int .i64 (sumB L), .int .i64 room] 75)).alloc (.cells #[.pointer (some ⟨W.heap.size, 0, none⟩)] 64)) := by
  have hlt := hB.lt
  have hq := fun q e => hQ.lt q e
  have hs := bl.size
  refine ⟨W.heap.size + 1, W.heap.size, b, v, rfl, ⟨(hB.below (below_new (Below.refl _ _) _)).below (below_new (Below.refl _ _) _), (hQ.below (below_new (Below.refl _ _) _)).below (below_new (Below.refl _ _) _), ?_, ?_, ?_, ?_, ?_, ?_, ?_, by omega, by omega, by omega, ?_, ?_, ?_, hR, hok, hsz, hroom.1, hroom.2.1, hroom.2.2⟩, ?_, below_new (below_new bl _) _⟩
  case refine_8 => exact fun e => by have := hq _ e; omega
  case refine_9 => exact fun e => by have := hq _ e; omega
  case refine_10 => exact fun e => (hA _ e).2 rfl
  case refine_11 =>
    intro k hk
    rcases hk with rfl | rfl | rfl | e
    · omega
    · omega
    · exact hlb
    · exact (hA k e).1
  all_goals first | (simp [go_sem]; done) | (simp [go_sem]; omega)
set_option maxRecDepth 100000 in
set_option maxHeartbeats 8000000 in
theorem shCopy_any {w : World} {h g b : Nat} {v : Value} {p r u m l : Int} {s : BM.St} {room : Int} {L : List (Int × Int)} (H : ShAt w h g b v p r u m l s room L) :
    Calls Try.prog 21 #[.pointer (some ⟨h, 0, none⟩)] w (CopyEnd p r u m l s room L w) := by
  obtain ⟨A, c, hv, _, _, hLie⟩ := H.q.lie
  subst hv
  have hlen := H.len
  have hR := hidd H.rt
  have hok := hidd H.ok
  have hsz := hidd H.sz
  have hroom := hidd (show 0 ≤ room ∧ room ≤ 1000000000 ∧ sumB L ≤ room from ⟨H.r0, H.r1, H.sm⟩)
  have cI := hidd (shNone_yes H.h0)
  have CB := hidd (fun W (hb : Below w.heap.size w W) => (bcopy_any (H.bk.below hb) (by have := rightB_iff H.rt; omega)).mono (R' := fun e w' => ∃ b', e = .returned (.pointer (some ⟨b', 0, none⟩)) ∧ W.heap.size ≤ b' ∧ BktAt w' b' p r u m l s ∧ Below W.heap.size W w') (fun e w' ⟨h1, h2, h3⟩ => ⟨_, h1, Nat.le_refl _, h2, h3⟩))
  have CC := hidd (fun W (hb : Below w.heap.size w W) => cloneWaits_any A L c (by omega) W (hLie.below hb))
  have KS : Hid (∀ Y, Below w.heap.size w Y → Y.cell? ⟨h, 0, none⟩ = some (.pointer (some ⟨g, 0, none⟩)) ∧ Y.cell? ⟨g, 0, none⟩ = some (.pointer (some ⟨b, 0, none⟩)) ∧ Y.cell? ⟨g, 1, none⟩ = some (.slice A L.length c) ∧ Y.cell? ⟨g, 2, none⟩ = some (.int .i64 (sumB L)) ∧ Y.cell? ⟨g, 3, none⟩ = some (.int .i64 room)) := hidd (fun Y hb => ⟨(hb.cell (p := ⟨h, 0, none⟩) H.hlt).trans H.h0, (hb.cell (p := ⟨g, 0, none⟩) H.glt).trans H.g0, (hb.cell (p := ⟨g, 1, none⟩) H.glt).trans H.g1, (hb.cell (p := ⟨g, 2, none⟩) H.glt).trans H.g2, (hb.cell (p := ⟨g, 3, none⟩) H.glt).trans H.g3⟩)
  clear H hLie hlen
  generalize hn : L.length = n at *
  clear hn
  go_enter Try.func21, Try.ntmps21
  go_wp2_with fail
  refine cI.out.mono ?_
  rintro e w1 ⟨rfl, rfl⟩
  go_wp2_with fail
  refine wp_region_held_drew (S := (fun Y => Y.cell? ⟨h, 0, none⟩ = some (.pointer (some ⟨g, 0, none⟩)) ∧ Y.cell? ⟨g, 0, none⟩ = some (.pointer (some ⟨b, 0, none⟩)) ∧ Y.cell? ⟨g, 1, none⟩ = some (.slice A n c) ∧ Y.cell? ⟨g, 2, none⟩ = some (.int .i64 (sumB L)) ∧ Y.cell? ⟨g, 3, none⟩ = some (.int .i64 room))) (by kernel_rfl) (KS.out _ (Below.drew (Below.refl _ _))) (fun hH => ?_)
  refine wpAnyH_take (i := 0) (v := ?vs0_1) (by (conv => lhs; simp only [List.getElem?_toArray, List.getElem?_cons_succ, List.getElem?_cons_zero])) (by kernel_rfl) (by kernel_rfl) (by kernel_rfl) ?hQ (Or.inl ⟨by rfl, ?hys0_1⟩) hH ?rests0_1
  case hQ => exact fun _ _ _ h => h
  case hys0_1 => (intro Y hY; obtain ⟨y0, y1, y2, y3, y4⟩ := hY; go_simp; try (with_reducible rfl))
  try simp only [Act.put, List.setIfInBounds_toArray, List.set_cons_zero, List.set_cons_succ]
  refine wpAnyH_take (i := 1) (v := ?vs1_2) (by (conv => lhs; simp only [List.getElem?_toArray, List.getElem?_cons_succ, List.getElem?_cons_zero])) (by kernel_rfl) (by kernel_rfl) (by kernel_rfl) ?hQ (Or.inl ⟨by rfl, ?hys1_2⟩) hH ?rests1_2
  case hQ => exact fun _ _ _ h => h
  case hys1_2 => (intro Y hY; obtain ⟨y0, y1, y2, y3, y4⟩ := hY; go_simp; try (with_reducible rfl))
  try simp only [Act.put, List.setIfInBounds_toArray, List.set_cons_zero, List.set_cons_succ]
  refine wpAnyH_take (i := 2) (v := ?vs2_3) (by (conv => lhs; simp only [List.getElem?_toArray, List.getElem?_cons_succ, List.getElem?_cons_zero])) (by kernel_rfl) (by kernel_rfl) (by kernel_rfl) ?hQ (Or.inl ⟨by rfl, ?hys2_3⟩) hH ?rests2_3
  case hQ => exact fun _ _ _ h => h
  case hys2_3 => (intro Y hY; obtain ⟨y0, y1, y2, y3, y4⟩ := hY; go_simp; try (with_reducible rfl))
  try simp only [Act.put, List.setIfInBounds_toArray, List.set_cons_zero, List.set_cons_succ]
  refine wpAnyH_take (i := 3) (v := ?vs3_4) (by (conv => lhs; simp only [List.getElem?_toArray, List.getElem?_cons_succ, List.getElem?_cons_zero])) (by kernel_rfl) (by kernel_rfl) (by kernel_rfl) ?hQ (Or.inl ⟨by rfl, ?hys3_4⟩) hH ?rests3_4
  case hQ => exact fun _ _ _ h => h
  case hys3_4 => (intro Y hY; obtain ⟨y0, y1, y2, y3, y4⟩ := hY; go_simp; try (with_reducible rfl))
  try simp only [Act.put, List.setIfInBounds_toArray, List.set_cons_zero, List.set_cons_succ]
  refine wpAnyH_take (i := 4) (v := ?vs4_5) (by (conv => lhs; simp only [List.getElem?_toArray, List.getElem?_cons_succ, List.getElem?_cons_zero])) (by kernel_rfl) (by kernel_rfl) (by kernel_rfl) ?hQ (Or.inl ⟨by rfl, ?hys4_5⟩) hH ?rests4_5
  case hQ => exact fun _ _ _ h => h
  case hys4_5 => (intro Y hY; obtain ⟨y0, y1, y2, y3, y4⟩ := hY; go_simp; try (with_reducible rfl))
  try simp only [Act.put, List.setIfInBounds_toArray, List.set_cons_zero, List.set_cons_succ]
  refine wpAnyH_take (i := 5) (v := ?vs5_6) (by (conv => lhs; simp only [List.getElem?_toArray, List.getElem?_cons_succ, List.getElem?_cons_zero])) (by kernel_rfl) (by kernel_rfl) (by kernel_rfl) ?hQ (Or.inl ⟨by rfl, ?hys5_6⟩) hH ?rests5_6
  case hQ => exact fun _ _ _ h => h
  case hys5_6 => (intro Y hY; obtain ⟨y0, y1, y2, y3, y4⟩ := hY; go_simp; try (with_reducible rfl))
  try simp only [Act.put, List.setIfInBounds_toArray, List.set_cons_zero, List.set_cons_succ]
  refine wpAnyH_take (i := 6) (v := ?vs6_7) (by (conv => lhs; simp only [List.getElem?_toArray, List.getElem?_cons_succ, List.getElem?_cons_zero])) (by kernel_rfl) (by kernel_rfl) (by kernel_rfl) ?hQ (Or.inl ⟨by rfl, ?hys6_7⟩) hH ?rests6_7
  case hQ => exact fun _ _ _ h => h
  case hys6_7 => (intro Y hY; obtain ⟨y0, y1, y2, y3, y4⟩ := hY; go_simp; try (with_reducible rfl))
  try simp only [Act.put, List.setIfInBounds_toArray, List.set_cons_zero, List.set_cons_succ]
  refine wpAnyH_take (i := 8) (v := ?vs8_8) (by (conv => lhs; simp only [List.getElem?_toArray, List.getElem?_cons_succ, List.getElem?_cons_zero])) (by kernel_rfl) (by kernel_rfl) (by kernel_rfl) ?hQ (Or.inl ⟨by rfl, ?hys8_8⟩) hH ?rests8_8
  case hQ => exact fun _ _ _ h => h
  case hys8_8 => (intro Y hY; obtain ⟨y0, y1, y2, y3, y4⟩ := hY; go_simp; try (with_reducible rfl))
  try simp only [Act.put, List.setIfInBounds_toArray, List.set_cons_zero, List.set_cons_succ]
  refine wpAnyH_take (i := 9) (v := ?vs9_9) (by (conv => lhs; simp only [List.getElem?_toArray, List.getElem?_cons_succ, List.getElem?_cons_zero])) (by kernel_rfl) (by kernel_rfl) (by kernel_rfl) ?hQ (Or.inl ⟨by rfl, ?hys9_9⟩) hH ?rests9_9
  case hQ => exact fun _ _ _ h => h
  case hys9_9 => (intro Y hY; obtain ⟨y0, y1, y2, y3, y4⟩ := hY; go_simp; try (with_reducible rfl))
  try simp only [Act.put, List.setIfInBounds_toArray, List.set_cons_zero, List.set_cons_succ]
  refine wpAnyH_take (i := 10) (v := ?vs10_10) (by (conv => lhs; simp only [List.getElem?_toArray, List.getElem?_cons_succ, List.getElem?_cons_zero])) (by kernel_rfl) (by kernel_rfl) (by kernel_rfl) ?hQ (Or.inl ⟨by rfl, ?hys10_10⟩) hH ?rests10_10
  case hQ => exact fun _ _ _ h => h
  case hys10_10 => (intro Y hY; obtain ⟨y0, y1, y2, y3, y4⟩ := hY; go_simp; try (with_reducible rfl))
  try simp only [Act.put, List.setIfInBounds_toArray, List.set_cons_zero, List.set_cons_succ]
  refine wpAnyH_take (i := 11) (v := ?vs11_11) (by (conv => lhs; simp only [List.getElem?_toArray, List.getElem?_cons_succ, List.getElem?_cons_zero])) (by kernel_rfl) (by kernel_rfl) (by kernel_rfl) ?hQ (Or.inl ⟨by rfl, ?hys11_11⟩) hH ?rests11_11
  case hQ => exact fun _ _ _ h => h
  case hys11_11 => (intro Y hY; obtain ⟨y0, y1, y2, y3, y4⟩ := hY; go_simp; try (with_reducible rfl))
  try simp only [Act.put, List.setIfInBounds_toArray, List.set_cons_zero, List.set_cons_succ]
  refine wpAnyH_take (i := 12) (v := ?vs12_12) (by (conv => lhs; simp only [List.getElem?_toArray, List.getElem?_cons_succ, List.getElem?_cons_zero])) (by kernel_rfl) (by kernel_rfl) (by kernel_rfl) ?hQ (Or.inl ⟨by rfl, ?hys12_12⟩) hH ?rests12_12
  case hQ => exact fun _ _ _ h => h
  case hys12_12 => (intro Y hY; obtain ⟨y0, y1, y2, y3, y4⟩ := hY; go_simp; try (with_reducible rfl))
  try simp only [Act.put, List.setIfInBounds_toArray, List.set_cons_zero, List.set_cons_succ]
  refine wpAnyH_take (i := 13) (v := ?vs13_13) (by (conv => lhs; simp only [List.getElem?_toArray, List.getElem?_cons_succ, List.getElem?_cons_zero])) (by kernel_rfl) (by kernel_rfl) (by kernel_rfl) ?hQ (Or.inl ⟨by rfl, ?hys13_13⟩) hH ?rests13_13
  case hQ => exact fun _ _ _ h => h
  case hys13_13 => (intro Y hY; obtain ⟨y0, y1, y2, y3, y4⟩ := hY; go_simp; try (with_reducible rfl))
  try simp only [Act.put, List.setIfInBounds_toArray, List.set_cons_zero, List.set_cons_succ]
  refine wpAnyH_take (i := 14) (v := ?vs14_14) (by (conv => lhs; simp only [List.getElem?_toArray, List.getElem?_cons_succ, List.getElem?_cons_zero])) (by kernel_rfl) (by kernel_rfl) (by kernel_rfl) ?hQ (Or.inl ⟨by rfl, ?hys14_14⟩) hH ?rests14_14
  case hQ => exact fun _ _ _ h => h
  case hys14_14 => (intro Y hY; obtain ⟨y0, y1, y2, y3, y4⟩ := hY; go_simp; try (with_reducible rfl))
  try simp only [Act.put, List.setIfInBounds_toArray, List.set_cons_zero, List.set_cons_succ]
  refine wpAnyH_take (i := 16) (v := ?vs16_15) (by (conv => lhs; simp only [List.getElem?_toArray, List.getElem?_cons_succ, List.getElem?_cons_zero])) (by kernel_rfl) (by kernel_rfl) (by kernel_rfl) ?hQ (Or.inl ⟨by rfl, ?hys16_15⟩) hH ?rests16_15
  case hQ => exact fun _ _ _ h => h
  case hys16_15 => (intro Y hY; obtain ⟨y0, y1, y2, y3, y4⟩ := hY; go_simp; try (with_reducible rfl))
  try simp only [Act.put, List.setIfInBounds_toArray, List.set_cons_zero, List.set_cons_succ]
  refine wpAnyH_take (i := 17) (v := ?vs17_16) (by (conv => lhs; simp only [List.getElem?_toArray, List.getElem?_cons_succ, List.getElem?_cons_zero])) (by kernel_rfl) (by kernel_rfl) (by kernel_rfl) ?hQ (Or.inl ⟨by rfl, ?hys17_16⟩) hH ?rests17_16
  case hQ => exact fun _ _ _ h => h
  case hys17_16 => (intro Y hY; obtain ⟨y0, y1, y2, y3, y4⟩ := hY; go_simp; try (with_reducible rfl))
  try simp only [Act.put, List.setIfInBounds_toArray, List.set_cons_zero, List.set_cons_succ]
  refine wpAnyH_take (i := 18) (v := ?vs18_17) (by (conv => lhs; simp only [List.getElem?_toArray, List.getElem?_cons_succ, List.getElem?_cons_zero])) (by kernel_rfl) (by kernel_rfl) (by kernel_rfl) ?hQ (Or.inl ⟨by rfl, ?hys18_17⟩) hH ?rests18_17
  case hQ => exact fun _ _ _ h => h
  case hys18_17 => (intro Y hY; obtain ⟨y0, y1, y2, y3, y4⟩ := hY; go_simp; try (with_reducible rfl))
  try simp only [Act.put, List.setIfInBounds_toArray, List.set_cons_zero, List.set_cons_succ]
  refine wpAnyH_take (i := 19) (v := ?vs19_18) (by (conv => lhs; simp only [List.getElem?_toArray, List.getElem?_cons_succ, List.getElem?_cons_zero])) (by kernel_rfl) (by kernel_rfl) (by kernel_rfl) ?hQ (Or.inl ⟨by rfl, ?hys19_18⟩) hH ?rests19_18
  case hQ => exact fun _ _ _ h => h
  case hys19_18 => (intro Y hY; obtain ⟨y0, y1, y2, y3, y4⟩ := hY; go_simp; try (with_reducible rfl))
  try simp only [Act.put, List.setIfInBounds_toArray, List.set_cons_zero, List.set_cons_succ]
  refine wpAnyH_take (i := 20) (v := ?vs20_19) (by (conv => lhs; simp only [List.getElem?_toArray, List.getElem?_cons_succ, List.getElem?_cons_zero])) (by kernel_rfl) (by kernel_rfl) (by kernel_rfl) ?hQ (Or.inl ⟨by rfl, ?hys20_19⟩) hH ?rests20_19
  case hQ => exact fun _ _ _ h => h
  case hys20_19 => (intro Y hY; obtain ⟨y0, y1, y2, y3, y4⟩ := hY; go_simp; try (with_reducible rfl))
  try simp only [Act.put, List.setIfInBounds_toArray, List.set_cons_zero, List.set_cons_succ]
  refine wpAnyH_take (i := 21) (v := ?vs21_20) (by (conv => lhs; simp only [List.getElem?_toArray, List.getElem?_cons_succ, List.getElem?_cons_zero])) (by kernel_rfl) (by kernel_rfl) (by kernel_rfl) ?hQ (Or.inl ⟨by rfl, ?hys21_20⟩) hH ?rests21_20
  case hQ => exact fun _ _ _ h => h
  case hys21_20 => (intro Y hY; obtain ⟨y0, y1, y2, y3, y4⟩ := hY; go_simp; try (with_reducible rfl))
  try simp only [Act.put, List.setIfInBounds_toArray, List.set_cons_zero, List.set_cons_succ]
  refine wpAnyH_take (i := 22) (v := ?vs22_21) (by (conv => lhs; simp only [List.getElem?_toArray, List.getElem?_cons_succ, List.getElem?_cons_zero])) (by kernel_rfl) (by kernel_rfl) (by kernel_rfl) ?hQ (Or.inl ⟨by rfl, ?hys22_21⟩) hH ?rests22_21
  case hQ => exact fun _ _ _ h => h
  case hys22_21 => (intro Y hY; obtain ⟨y0, y1, y2, y3, y4⟩ := hY; go_simp; try (with_reducible rfl))
  try simp only [Act.put, List.setIfInBounds_toArray, List.set_cons_zero, List.set_cons_succ]
  refine wpAnyH_take (i := 23) (v := ?vs23_22) (by (conv => lhs; simp only [List.getElem?_toArray, List.getElem?_cons_succ, List.getElem?_cons_zero])) (by kernel_rfl) (by kernel_rfl) (by kernel_rfl) ?hQ (Or.inl ⟨by rfl, ?hys23_22⟩) hH ?rests23_22
  case hQ => exact fun _ _ _ h => h
  case hys23_22 => (intro Y hY; obtain ⟨y0, y1, y2, y3, y4⟩ := hY; go_simp; try (with_reducible rfl))
  try simp only [Act.put, List.setIfInBounds_toArray, List.set_cons_zero, List.set_cons_succ]
  refine wpAnyH_take (i := 24) (v := ?vs24_23) (by (conv => lhs; simp only [List.getElem?_toArray, List.getElem?_cons_succ, List.getElem?_cons_zero])) (by kernel_rfl) (by kernel_rfl) (by kernel_rfl) ?hQ (Or.inl ⟨by rfl, ?hys24_23⟩) hH ?rests24_23
  case hQ => exact fun _ _ _ h => h
  case hys24_23 => (intro Y hY; obtain ⟨y0, y1, y2, y3, y4⟩ := hY; go_simp; try (with_reducible rfl))
  try simp only [Act.put, List.setIfInBounds_toArray, List.set_cons_zero, List.set_cons_succ]
  refine wpAnyH_take (i := 25) (v := ?vs25_24) (by (conv => lhs; simp only [List.getElem?_toArray, List.getElem?_cons_succ, List.getElem?_cons_zero])) (by kernel_rfl) (by kernel_rfl) (by kernel_rfl) ?hQ (Or.inl ⟨by rfl, ?hys25_24⟩) hH ?rests25_24
  case hQ => exact fun _ _ _ h => h
  case hys25_24 => (intro Y hY; obtain ⟨y0, y1, y2, y3, y4⟩ := hY; go_simp; try (with_reducible rfl))
  try simp only [Act.put, List.setIfInBounds_toArray, List.set_cons_zero, List.set_cons_succ]
  refine wpAnyH_take (i := 26) (v := ?vs26_25) (by (conv => lhs; simp only [List.getElem?_toArray, List.getElem?_cons_succ, List.getElem?_cons_zero])) (by kernel_rfl) (by kernel_rfl) (by kernel_rfl) ?hQ (Or.inl ⟨by rfl, ?hys26_25⟩) hH ?rests26_25
  case hQ => exact fun _ _ _ h => h
  case hys26_25 => (intro Y hY; obtain ⟨y0, y1, y2, y3, y4⟩ := hY; go_simp; try (with_reducible rfl))
  try simp only [Act.put, List.setIfInBounds_toArray, List.set_cons_zero, List.set_cons_succ]
  refine wpAnyH_take (i := 27) (v := ?vs27_26) (by (conv => lhs; simp only [List.getElem?_toArray, List.getElem?_cons_succ, List.getElem?_cons_zero])) (by kernel_rfl) (by kernel_rfl) (by kernel_rfl) ?hQ (Or.inl ⟨by rfl, ?hys27_26⟩) hH ?rests27_26
  case hQ => exact fun _ _ _ h => h
  case hys27_26 => (intro Y hY; obtain ⟨y0, y1, y2, y3, y4⟩ := hY; go_simp; try (with_reducible rfl))
  try simp only [Act.put, List.setIfInBounds_toArray, List.set_cons_zero, List.set_cons_succ]
  refine wpAnyH_take (i := 28) (v := ?vs28_27) (by (conv => lhs; simp only [List.getElem?_toArray, List.getElem?_cons_succ, List.getElem?_cons_zero])) (by kernel_rfl) (by kernel_rfl) (by kernel_rfl) ?hQ (Or.inl ⟨by rfl, ?hys28_27⟩) hH ?rests28_27
  case hQ => exact fun _ _ _ h => h
  case hys28_27 => (intro Y hY; obtain ⟨y0, y1, y2, y3, y4⟩ := hY; go_simp; try (with_reducible rfl))
  try simp only [Act.put, List.setIfInBounds_toArray, List.set_cons_zero, List.set_cons_succ]
  refine wpAnyH_take (i := 29) (v := ?vs29_28) (by (conv => lhs; simp only [List.getElem?_toArray, List.getElem?_cons_succ, List.getElem?_cons_zero])) (by kernel_rfl) (by kernel_rfl) (by kernel_rfl) ?hQ (Or.inl ⟨by rfl, ?hys29_28⟩) hH ?rests29_28
  case hQ => exact fun _ _ _ h => h
  case hys29_28 => (intro Y hY; obtain ⟨y0, y1, y2, y3, y4⟩ := hY; go_simp; try (with_reducible rfl))
  try simp only [Act.put, List.setIfInBounds_toArray, List.set_cons_zero, List.set_cons_succ]
  refine wpAnyH_ready (rs := [7]) (by kernel_rfl) (by simp) ?_
  refine AllReadyH.cons (by (conv => lhs; simp only [List.getElem?_toArray, List.getElem?_cons_succ, List.getElem?_cons_zero])) (fun K hK => ?_) AllReadyH.nil
  go_simp
  go_at_call 41; refine (CB.out _ (Below.drew (Below.refl w.heap.size w))).mono ?_; rintro e wb ⟨b', rfl, hb', hB', hwb⟩
  have HB' := hidd hB'
  have blb : Below w.heap.size w wb := below_step (Below.drew (Below.refl w.heap.size w)) hwb
  have hlb : w.heap.size ≤ b' ∧ b' < wb.heap.size := ⟨Nat.le_trans ((Below.drew (Below.refl w.heap.size w)).size) hb', hB'.lt⟩
  clear hB' hwb
  refine hK.out _ _ (KS.out _ blb) (fun hHbva => ?_)
  clear hK hH
  try simp only [Act.put, List.setIfInBounds_toArray, List.set_cons_zero, List.set_cons_succ]
  refine wpAnyH_ready (rs := [15]) (by kernel_rfl) (by simp) ?_
  refine AllReadyH.cons (by (conv => lhs; simp only [List.getElem?_toArray, List.getElem?_cons_succ, List.getElem?_cons_zero])) (fun K hK => ?_) AllReadyH.nil
  go_simp
  go_at_call 42; refine (CC.out _ blb).mono ?_; rintro e wc ⟨v', rfl, hO, hwc⟩
  have blc : Below w.heap.size w wc := below_step blb hwc
  obtain ⟨A', n', c', hv'⟩ := (QL.ofOwn hO).form
  subst hv'
  have HO := hidd (QL.ofOwn hO)
  have QO := hidd (fun q (e : (Value.slice A' n' c').ownBlock = some q) => (show w.heap.size ≤ q ∧ q < wc.heap.size from ⟨Nat.le_trans (blb.size) (hO.lt q e).1, (hO.lt q e).2⟩))
  have BF := hidd (HB'.out.below hwc)
  have AP : Hid (∀ q, (Value.slice A' n' c').ownBlock = some q → w.heap.size ≤ q ∧ q ≠ b') := hidd (fun q e => by have := (hO.lt q e).1; have h2 := QO.out q e; have h3 := hlb.2; exact ⟨h2.1, by omega⟩)
  clear hO hwc
  refine hK.out _ _ (KS.out _ blc) (fun hHcva => ?_)
  clear hK hHbva
  try simp only [Act.put, List.setIfInBounds_toArray, List.set_cons_zero, List.set_cons_succ]
  have QF := hidd HO.out
  have FIN := hidd (copy_fin hR.out hok.out hsz.out hroom.out hlb.1 BF.out QF.out AP.out blc)
  clear AP QF BF HO QO HB' hb'
  refine wpAnyH_take (i := 30) (v := ?vva30_1) (by (conv => lhs; simp only [List.getElem?_toArray, List.getElem?_cons_succ, List.getElem?_cons_zero])) (by kernel_rfl) (by kernel_rfl) (by kernel_rfl) ?hQ (Or.inl ⟨by rfl, ?hyva30_1⟩) hHcva ?restva30_1
  case hQ => exact fun _ _ _ h => h
  case hyva30_1 => (intro Y hY; obtain ⟨y0, y1, y2, y3, y4⟩ := hY; go_simp; try (with_reducible rfl))
  try simp only [Act.put, List.setIfInBounds_toArray, List.set_cons_zero, List.set_cons_succ]
  refine wpAnyH_ready (rs := [31]) (by kernel_rfl) (by simp) ?_
  refine AllReadyH.cons (by (conv => lhs; simp only [List.getElem?_toArray, List.getElem?_cons_succ, List.getElem?_cons_zero])) (fun K hK => ?_) AllReadyH.nil
  go_simp
  refine hK.out _ _ (KS.out _ (below_new blc _)) (fun hHdva => ?_)
  clear hK hHcva
  try simp only [Act.put, List.setIfInBounds_toArray, List.set_cons_zero, List.set_cons_succ]
  refine wpAnyH_take (i := 32) (v := ?vva32_2) (by (conv => lhs; simp only [List.getElem?_toArray, List.getElem?_cons_succ, List.getElem?_cons_zero])) (by kernel_rfl) (by kernel_rfl) (by kernel_rfl) ?hQ (Or.inl ⟨by rfl, ?hyva32_2⟩) hHdva ?restva32_2
  case hQ => exact fun _ _ _ h => h
  case hyva32_2 => (intro Y hY; obtain ⟨y0, y1, y2, y3, y4⟩ := hY; go_simp; try (with_reducible rfl))
  try simp only [Act.put, List.setIfInBounds_toArray, List.set_cons_zero, List.set_cons_succ]
  refine wpAnyH_ready (rs := [33]) (by kernel_rfl) (by simp) ?_
  refine AllReadyH.cons (by (conv => lhs; simp only [List.getElem?_toArray, List.getElem?_cons_succ, List.getElem?_cons_zero])) (fun K hK => ?_) AllReadyH.nil
  go_simp
  refine hK.out _ _ (KS.out _ (below_new (below_new blc _) _)) (fun hHeva => ?_)
  clear hK hHdva
  try simp only [Act.put, List.setIfInBounds_toArray, List.set_cons_zero, List.set_cons_succ]
  refine wpAnyH_take (i := 34) (v := ?vva34_3) (by (conv => lhs; simp only [List.getElem?_toArray, List.getElem?_cons_succ, List.getElem?_cons_zero])) (by kernel_rfl) (by kernel_rfl) (by kernel_rfl) ?hQ (Or.inl ⟨by rfl, ?hyva34_3⟩) hHeva ?restva34_3
  case hQ => exact fun _ _ _ h => h
  case hyva34_3 => (intro Y hY; obtain ⟨y0, y1, y2, y3, y4⟩ := hY; go_simp; try (with_reducible rfl))
  try simp only [Act.put, List.setIfInBounds_toArray, List.set_cons_zero, List.set_cons_succ]
  refine wpAnyH_done (by kernel_rfl) (?_) _
  go_wp2_with fail
  go_ret
  exact FIN.out
end Go.Proofs.Ytiecailfndlgoaa

/- Shapers: the document's empty shaper; what the law does with it. -/
namespace Go.Proofs.Ytiecailfndlgoaa
open Go.RowKit Go.Sort
set_option linter.unusedVariables false
/-- a call of the shaper's, whatever it is, leaves a shaper. -/
def LeftSh (h g b : Nat) (v : Value) (p r u m l room : Int) (W W' : World) : Prop :=
  ∃ v' s' L', ShAt W' h g b v' p r u m l s' room L' ∧ Sav (ShBlk h g b v) W W' ∧ ∀ k, k < W.heap.size → ShBlk h g b v' k → ShBlk h g b v k
section
variable {w w' W W' : World} {h g b : Nat} {v : Value} {p r u m l : Int} {s : BM.St} {room : Int} {L : List (Int × Int)}
theorem LeftSh.of (H : ShAt W h g b v p r u m l s room L) (hb : Below W.heap.size W W') : LeftSh h g b v p r u m l room W W' := ⟨v, s, L, H.below hb, Sav.of hb, fun _ _ q => q⟩
theorem LeftSh.ahead (hb : Below w.heap.size w W) (hl : ∀ k, ShBlk h g b v k → k < w.heap.size) (H : LeftSh h g b v p r u m l room W W') : LeftSh h g b v p r u m l room w W' := by
  obtain ⟨v', s', L', h1, h2, h3⟩ := H
  exact ⟨v', s', L', h1, (Sav.of (S := ShBlk h g b v) hb).tr h2, fun k hk hq => h3 k (Nat.lt_of_lt_of_le hk hb.size) hq⟩
/-- then a write to what the caller made. -/
theorem LeftSh.far {q : Nat} (hq : w.heap.size ≤ q) {W1 : World} (hq1 : q < W1.heap.size) (b1 : Below w.heap.size w W1) (hs : LeftSh h g b v p r u m l room W1 W) (hl : ∀ k, ShBlk h g b v k → k < w.heap.size) {W2 : World} (hW : Sav (fun j => j = q) W W2) : LeftSh h g b v p r u m l room w W2 := by
  obtain ⟨v', s', L', h1, h2, h3⟩ := hs
  have hnq : ∀ k, ShBlk h g b v' k → ¬ k = q := fun k hk e => by
    subst e
    have := hl _ (h3 _ hq1 hk)
    omega
  refine ⟨v', s', L', h1.sav hW hnq, ((Sav.of (S := ShBlk h g b v) b1).tr h2).trans hW (fun j hj e => by omega), fun k hk hq => h3 k (Nat.lt_of_lt_of_le hk b1.size) hq⟩
theorem LeftSh.block {W1 : World} (hs : LeftSh h g b v p r u m l room W1 W) (hl : ∀ k, ShBlk h g b v k → k < w.heap.size) {j : Nat} (hj : w.heap.size ≤ j) (hj1 : j < W1.heap.size) : W.heap[j]? = W1.heap[j]? := by
  obtain ⟨v', s', L', h1, h2, h3⟩ := hs
  exact h2.block j hj1 (fun hk => by have := hl _ hk; omega)
theorem LeftSh.low (H : LeftSh h g b v p r u m l room w W) (hb : Below W.heap.size W W') : LeftSh h g b v p r u m l room w W' := by
  obtain ⟨v', s', L', h1, h2, h3⟩ := H
  exact ⟨v', s', L', h1.below hb, h2.tr (Sav.of hb), h3⟩
theorem LeftSh.size {W1 : World} (hs : LeftSh h g b v p r u m l room W1 W) : W1.heap.size ≤ W.heap.size := by
  obtain ⟨v', s', L', h1, h2, h3⟩ := hs
  exact h2.size
theorem Sav.row {w W : World} {q : Nat} {cs : Array Value} (h : Below w.heap.size w W) : Sav (fun j => j = q) w (W.setRow q cs) :=
  ⟨h.os, h.tape, h.output, by rw [setRow_size]; exact h.size, fun j hj hn => (setRow_other W q j cs hn).trans (h.block j hj)⟩
theorem put_all (H : ShAt W h g b v p r u m l s room L) (i z : Int) : Calls Try.prog 15 #[.pointer (some ⟨h, 0, none⟩), .agg #[.int .i64 i, .int .i64 z]] W fun e W' => ∃ no, e = .returned (.int .i64 no) ∧ LeftSh h g b v p r u m l room W W' := by
  by_cases hi : i < 0 ∨ 4611686018427387904 < i
  · refine (put_arg H hi z).mono ?_
    rintro e W' ⟨rfl, hb⟩
    exact ⟨_, rfl, .of H hb⟩
  · cases hz : BM.sizeB m l z
    · refine (put_size H (by omega) hz).mono ?_
      rintro e W' ⟨rfl, hb⟩
      exact ⟨_, rfl, .of H hb⟩
    · by_cases hr : room < sumB L + z
      · refine (put_room H (by omega) hz hr).mono ?_
        rintro e W' ⟨rfl, hb⟩
        exact ⟨_, rfl, .of H hb⟩
      · refine (put_ok H (by omega) hz hr).mono ?_
        rintro e W' ⟨rfl, v', hS', hs, hn⟩
        exact ⟨_, rfl, v', s, _, hS', hs, hn⟩
theorem go_all (H : ShAt W h g b v p r u m l s room L) (n : Int) : Calls Try.prog 16 #[.pointer (some ⟨h, 0, none⟩), .int .i64 n] W fun e W' => ∃ A M c no, e = .returned (.tuple #[.slice A (List.length (α := Int × Int) M) c, .int .i64 no]) ∧ M.length ≤ 1000000000 ∧ Lie sendV 2 W' W'.heap.size A M ∧ LeftSh h g b v p r u m l room W W' := by
  cases hn : BM.askB s n
  · refine (go_no H n hn).mono ?_
    rintro e W' ⟨rfl, hS, hs⟩
    exact ⟨none, [], 0, 2, rfl, by simp, fun hl => absurd hl (by simp), v, s, L, hS, hs, fun _ _ q => q⟩
  · refine (go_yes H n hn).mono ?_
    rintro e W' ⟨k, s', A2, c2, v2, rfl, hg, hS', ho, hq, hqn, hs⟩
    have hk := hg.le
    have hlen := H.len
    have hkl : (L.take k).length = k := by rw [List.length_take]; omega
    obtain ⟨A3, c3, e3, _, _, hl⟩ := hq.lie
    injection e3 with e31 e32 e33
    subst e31
    exact ⟨A2, L.take k, c2, 0, by rw [hkl], by omega, hl, v2, s', _, hS', hs, fun j _ hj => by unfold ShBlk at hj ⊢; rw [ho] at hj; exact hj⟩
end
/-- the document's empty shaper takes a packet of no bytes at most. -/
theorem rputZ (i z : Int) (W : World) : Calls Try.prog 28 #[gS 0 0 0 0 0 none 0 0 0 0 none 0 0, .agg #[.int .i64 i, .int .i64 z]] W fun e W' => ∃ LA ln lc no, e = .returned (.tuple #[gS 0 0 0 0 0 none 0 0 0 0 LA ln lc, .int .i64 no]) ∧ Below W.heap.size W W' := by
  have l0 : Lie sendV 2 W W.heap.size none ([] : List (Int × Int)) := fun hl => absurd hl (by simp)
  by_cases hi : i < 0 ∨ 4611686018427387904 < i
  · refine (rput_arg 0 0 0 0 0 none 0 0 0 0 none [] 0 i z (by simp) hi W l0).mono ?_
    rintro e W' ⟨LA, lc, rfl, _, _, hb⟩
    exact ⟨_, _, _, _, rfl, hb⟩
  · by_cases hz : z < 0 ∨ 0 < z
    · refine (rput_size 0 0 0 0 0 none 0 0 0 0 none [] 0 i z (by simp) (by omega) hz W l0).mono ?_
      rintro e W' ⟨LA, lc, rfl, _, _, hb⟩
      exact ⟨_, _, _, _, rfl, hb⟩
    · refine (rput_ok 0 0 0 0 0 none 0 0 0 0 none [] 0 i z (by simp) (by simp) (by simp [sumB]) (by simp [sumB]; omega) (by omega) (by omega) (by simp [sumB]; omega) W l0).mono ?_
      rintro e W' ⟨LA, lc, rfl, _, _, hb⟩
      exact ⟨_, _, _, _, rfl, hb⟩
theorem askedZ (n : Int) (w : World) : Calls Try.prog 48 #[.agg #[.int .i64 0, .int .i64 0, .int .i64 0, .int .i64 0, .int .i64 0, .slice none 0 0, .int .i64 0], .int .i64 n] w fun e w' => e = .returned (.int .i64 (if decide (0 ≤ n ∧ n ≤ 2147483647) then 0 else 2)) ∧ w' = w.alloc (.cells #[.int .i64 0, .int .i64 0, .int .i64 0, .int .i64 0, .int .i64 0, .slice none 0 0, .int .i64 0] 32) := by
  by_cases h0 : n < 0
  · have e : decide (0 ≤ n ∧ n ≤ 2147483647) = false := decide_eq_false (by omega)
    rw [e]
    clear e
    go_enter Try.func48, Try.ntmps48
    go_wp2_with fail
    go_ret
    exact ⟨rfl, rfl⟩
  · by_cases h1 : 2147483647 < n
    · have e : decide (0 ≤ n ∧ n ≤ 2147483647) = false := decide_eq_false (by omega)
      rw [e]
      clear e
      go_enter Try.func48, Try.ntmps48
      go_wp2_with fail
      go_ret
      exact ⟨rfl, rfl⟩
    · have e : decide (0 ≤ n ∧ n ≤ 2147483647) = true := decide_eq_true (by omega)
      rw [e]
      clear e
      go_enter Try.func48, Try.ntmps48
      go_wp2_with fail
      go_ret
      exact ⟨rfl, rfl⟩
/-- what the document's Go keeps of its own: the shaper, and what it answers. -/
def RZx (q : Nat) (n : Int) (W : World) : Prop := W.cell? ⟨q, 0, none⟩ = some (.int .i64 0) ∧ W.cell? ⟨q, 1, none⟩ = some (.int .i64 0) ∧ W.cell? ⟨q, 2, none⟩ = some (.int .i64 0) ∧ W.cell? ⟨q, 3, none⟩ = some (.int .i64 0) ∧ W.cell? ⟨q, 4, none⟩ = some (.int .i64 0) ∧ W.cell? ⟨q, 5, none⟩ = some (.slice none 0 0) ∧ W.cell? ⟨q, 6, none⟩ = some (.int .i64 n) ∧ W.cell? ⟨q, 7, none⟩ = some (.int .i64 0) ∧ W.cell? ⟨q, 8, none⟩ = some (.slice none 0 0)
def RZu (q : Nat) (W : World) : Prop := W.cell? ⟨q + 1, 0, none⟩ = some (.int .i64 0) ∧ W.cell? ⟨q + 1, 1, none⟩ = some (.int .i64 0) ∧ W.cell? ⟨q + 1, 2, none⟩ = some (.int .i64 0) ∧ W.cell? ⟨q + 1, 3, none⟩ = some (.int .i64 0) ∧ W.cell? ⟨q + 1, 4, none⟩ = some (.int .i64 0) ∧ W.cell? ⟨q + 1, 5, none⟩ = some (.slice none 0 0) ∧ W.cell? ⟨q + 1, 6, none⟩ = some (.int .i64 0) ∧ W.cell? ⟨q + 1, 7, none⟩ = some (.int .i64 0) ∧ W.cell? ⟨q + 1, 8, none⟩ = some (.slice none 0 0)
def RZf (q : Nat) (W : World) : Prop := W.frozen? ⟨q + 1, 0, none⟩ = false ∧ W.frozen? ⟨q + 1, 1, none⟩ = false ∧ W.frozen? ⟨q + 1, 2, none⟩ = false ∧ W.frozen? ⟨q + 1, 3, none⟩ = false ∧ W.frozen? ⟨q + 1, 4, none⟩ = false ∧ W.frozen? ⟨q + 1, 5, none⟩ = false ∧ W.frozen? ⟨q + 1, 6, none⟩ = false ∧ W.frozen? ⟨q + 1, 7, none⟩ = false ∧ W.frozen? ⟨q + 1, 8, none⟩ = false
set_option maxRecDepth 100000 in
set_option maxHeartbeats 4000000 in
theorem rgoZ (n : Int) (w : World) : Calls Try.prog 29 #[gS 0 0 0 0 0 none 0 0 0 0 none 0 0, .int .i64 n] w fun e w' => ∃ now no, e = .returned (.tuple #[gS 0 0 0 0 0 none 0 0 now 0 none 0 0, .slice none 0 0, .int .i64 no]) ∧ Below w.heap.size w w' := by
  have cA := hidd (fun W => askedZ n W)
  unfold gS
  cases hn : decide ((0 : Int) ≤ n ∧ n ≤ 2147483647)
  · rw [hn] at cA
    clear hn
    go_enter Try.func29, Try.ntmps29
    go_wp2_with fail
    refine (cA.out _).mono ?_
    rintro e w1 ⟨rfl, rfl⟩
    simp only [Bool.false_eq_true, if_false]
    go_wp2_with fail
    refine bodyPost_ret (v := .tuple #[.agg #[.int .i64 0, .int .i64 0, .int .i64 0, .int .i64 0, .int .i64 0, .slice none 0 0, .int .i64 0, .int .i64 0, .slice none 0 0], .slice none 0 0, .int .i64 2]) (by simp [results, Try.results29, go_sem]) rfl ?_
    exact ⟨0, 2, rfl, by (repeat' (first | (with_reducible exact Below.refl _ _) | (with_reducible assumption) | (with_reducible apply Below.setCell) | (with_reducible apply Below.alloc) | (with_reducible apply Below.drew) | (with_reducible apply below_drewN) | (with_reducible refine Below.trans ?_ (Below.mono (by assumption) ?_)) | omega | (simp; done) | (simp; omega)))⟩
  · rw [hn] at cA
    clear hn
    go_enter Try.func29, Try.ntmps29
    go_wp2_with fail
    refine (cA.out _).mono ?_
    rintro e w1 ⟨rfl, rfl⟩
    simp only [if_true]
    go_wp2_with fail
    go_loopg [8] 2 (fun gk s8 wr => gk = 2 ∧ s8 = .slice none 0 0 ∧ RZx w.heap.size n wr ∧ RZu w.heap.size wr ∧ RZf w.heap.size wr ∧ Below w.heap.size w wr ∧ w.heap.size + 1 < wr.heap.size)
    case atStart =>
      refine ⟨rfl, rfl, ?_, ?_, ?_, ?_, ?_⟩
      · unfold RZx; simp [go_sem]
      · unfold RZu; simp [go_sem]
      · unfold RZf; simp [go_sem]
      · first | ((repeat' (first | (with_reducible exact Below.refl _ _) | (with_reducible assumption) | (with_reducible apply Below.setCell) | (with_reducible apply Below.alloc) | (with_reducible apply Below.drew) | (with_reducible apply below_drewN) | (with_reducible refine Below.trans ?_ (Below.mono (by assumption) ?_)) | omega | (simp; done) | (simp; omega)))) | exact (below_new (below_new (below_new (Below.refl _ _) _) _) _).set (Nat.le_refl _) _ | trace_state
      · simp [go_sem]
    case round =>
      obtain ⟨-, rfl, hx, hu, hf, hb, hsz⟩ := hrel
      have HX := hidd hx
      have HU := hidd hu
      have HF := hidd hf
      have HB := hidd hb
      have HSZ := hidd hsz
      clear hx hu hf hb hsz
      have KS : Hid (RZx w.heap.size n wr.drew) := hidd (by have q := HX.out; unfold RZx at q ⊢; simpa [go_sem] using q)
      go_wp2_with fail
      refine wp_region_held_drew (S := (fun Y => RZx w.heap.size n Y)) (by kernel_rfl) (KS.out) (fun hH => ?_)
      refine wpAnyH_take (i := 0) (v := ?vs0_1) (by (conv => lhs; simp only [List.getElem?_toArray, List.getElem?_cons_succ, List.getElem?_cons_zero])) (by kernel_rfl) (by kernel_rfl) (by kernel_rfl) ?hQ (Or.inl ⟨by rfl, ?hys0_1⟩) hH ?rests0_1
      case hQ => exact fun _ _ _ h => h
      case hys0_1 => (intro Y hY; obtain ⟨y0, y1, y2, y3, y4, y5, y6, y7, y8⟩ := hY; go_simp; try (with_reducible rfl))
      try simp only [Act.put, List.setIfInBounds_toArray, List.set_cons_zero, List.set_cons_succ]
      refine wpAnyH_take (i := 1) (v := ?vs1_2) (by (conv => lhs; simp only [List.getElem?_toArray, List.getElem?_cons_succ, List.getElem?_cons_zero])) (by kernel_rfl) (by kernel_rfl) (by kernel_rfl) ?hQ (Or.inl ⟨by rfl, ?hys1_2⟩) hH ?rests1_2
      case hQ => exact fun _ _ _ h => h
      case hys1_2 => (intro Y hY; obtain ⟨y0, y1, y2, y3, y4, y5, y6, y7, y8⟩ := hY; go_simp; try (with_reducible rfl))
      try simp only [Act.put, List.setIfInBounds_toArray, List.set_cons_zero, List.set_cons_succ]
      refine wpAnyH_take (i := 2) (v := ?vs2_3) (by (conv => lhs; simp only [List.getElem?_toArray, List.getElem?_cons_succ, List.getElem?_cons_zero])) (by kernel_rfl) (by kernel_rfl) (by kernel_rfl) ?hQ (Or.inl ⟨by rfl, ?hys2_3⟩) hH ?rests2_3
      case hQ => exact fun _ _ _ h => h
      case hys2_3 => (intro Y hY; obtain ⟨y0, y1, y2, y3, y4, y5, y6, y7, y8⟩ := hY; go_simp; try (with_reducible rfl))
      try simp only [Act.put, List.setIfInBounds_toArray, List.set_cons_zero, List.set_cons_succ]
      refine wpAnyH_take (i := 3) (v := ?vs3_4) (by (conv => lhs; simp only [List.getElem?_toArray, List.getElem?_cons_succ, List.getElem?_cons_zero])) (by kernel_rfl) (by kernel_rfl) (by kernel_rfl) ?hQ (Or.inl ⟨by rfl, ?hys3_4⟩) hH ?rests3_4
      case hQ => exact fun _ _ _ h => h
      case hys3_4 => (intro Y hY; obtain ⟨y0, y1, y2, y3, y4, y5, y6, y7, y8⟩ := hY; go_simp; try (with_reducible rfl))
      try simp only [Act.put, List.setIfInBounds_toArray, List.set_cons_zero, List.set_cons_succ]
      refine wpAnyH_take (i := 4) (v := ?vs4_5) (by (conv => lhs; simp only [List.getElem?_toArray, List.getElem?_cons_succ, List.getElem?_cons_zero])) (by kernel_rfl) (by kernel_rfl) (by kernel_rfl) ?hQ (Or.inl ⟨by rfl, ?hys4_5⟩) hH ?rests4_5
      case hQ => exact fun _ _ _ h => h
      case hys4_5 => (intro Y hY; obtain ⟨y0, y1, y2, y3, y4, y5, y6, y7, y8⟩ := hY; go_simp; try (with_reducible rfl))
      try simp only [Act.put, List.setIfInBounds_toArray, List.set_cons_zero, List.set_cons_succ]
      refine wpAnyH_take (i := 5) (v := undef) (by (conv => lhs; simp only [List.getElem?_toArray, List.getElem?_cons_succ, List.getElem?_cons_zero])) (by kernel_rfl) (by kernel_rfl) (by kernel_rfl) ?hQ (Or.inr ⟨by rfl, rfl⟩) hH ?_
      case hQ => exact fun _ _ _ h => h
      try simp only [Act.put, List.setIfInBounds_toArray, List.set_cons_zero, List.set_cons_succ]
      refine wpAnyH_take (i := 6) (v := undef) (by (conv => lhs; simp only [List.getElem?_toArray, List.getElem?_cons_succ, List.getElem?_cons_zero])) (by kernel_rfl) (by kernel_rfl) (by kernel_rfl) ?hQ (Or.inr ⟨by rfl, rfl⟩) hH ?_
      case hQ => exact fun _ _ _ h => h
      try simp only [Act.put, List.setIfInBounds_toArray, List.set_cons_zero, List.set_cons_succ]
      refine wpAnyH_take (i := 7) (v := undef) (by (conv => lhs; simp only [List.getElem?_toArray, List.getElem?_cons_succ, List.getElem?_cons_zero])) (by kernel_rfl) (by kernel_rfl) (by kernel_rfl) ?hQ (Or.inr ⟨by rfl, rfl⟩) hH ?_
      case hQ => exact fun _ _ _ h => h
      try simp only [Act.put, List.setIfInBounds_toArray, List.set_cons_zero, List.set_cons_succ]
      refine wpAnyH_take (i := 8) (v := undef) (by (conv => lhs; simp only [List.getElem?_toArray, List.getElem?_cons_succ, List.getElem?_cons_zero])) (by kernel_rfl) (by kernel_rfl) (by kernel_rfl) ?hQ (Or.inr ⟨by rfl, rfl⟩) hH ?_
      case hQ => exact fun _ _ _ h => h
      try simp only [Act.put, List.setIfInBounds_toArray, List.set_cons_zero, List.set_cons_succ]
      refine wpAnyH_take (i := 9) (v := undef) (by (conv => lhs; simp only [List.getElem?_toArray, List.getElem?_cons_succ, List.getElem?_cons_zero])) (by kernel_rfl) (by kernel_rfl) (by kernel_rfl) ?hQ (Or.inr ⟨by rfl, rfl⟩) hH ?_
      case hQ => exact fun _ _ _ h => h
      try simp only [Act.put, List.setIfInBounds_toArray, List.set_cons_zero, List.set_cons_succ]
      refine wpAnyH_take (i := 10) (v := undef) (by (conv => lhs; simp only [List.getElem?_toArray, List.getElem?_cons_succ, List.getElem?_cons_zero])) (by kernel_rfl) (by kernel_rfl) (by kernel_rfl) ?hQ (Or.inr ⟨by rfl, rfl⟩) hH ?_
      case hQ => exact fun _ _ _ h => h
      try simp only [Act.put, List.setIfInBounds_toArray, List.set_cons_zero, List.set_cons_succ]
      refine wpAnyH_take (i := 11) (v := undef) (by (conv => lhs; simp only [List.getElem?_toArray, List.getElem?_cons_succ, List.getElem?_cons_zero])) (by kernel_rfl) (by kernel_rfl) (by kernel_rfl) ?hQ (Or.inr ⟨by rfl, rfl⟩) hH ?_
      case hQ => exact fun _ _ _ h => h
      try simp only [Act.put, List.setIfInBounds_toArray, List.set_cons_zero, List.set_cons_succ]
      refine wpAnyH_take (i := 12) (v := undef) (by (conv => lhs; simp only [List.getElem?_toArray, List.getElem?_cons_succ, List.getElem?_cons_zero])) (by kernel_rfl) (by kernel_rfl) (by kernel_rfl) ?hQ (Or.inr ⟨by rfl, rfl⟩) hH ?_
      case hQ => exact fun _ _ _ h => h
      try simp only [Act.put, List.setIfInBounds_toArray, List.set_cons_zero, List.set_cons_succ]
      refine wpAnyH_take (i := 13) (v := undef) (by (conv => lhs; simp only [List.getElem?_toArray, List.getElem?_cons_succ, List.getElem?_cons_zero])) (by kernel_rfl) (by kernel_rfl) (by kernel_rfl) ?hQ (Or.inr ⟨by rfl, rfl⟩) hH ?_
      case hQ => exact fun _ _ _ h => h
      try simp only [Act.put, List.setIfInBounds_toArray, List.set_cons_zero, List.set_cons_succ]
      refine wpAnyH_take (i := 14) (v := ?vs14_6) (by (conv => lhs; simp only [List.getElem?_toArray, List.getElem?_cons_succ, List.getElem?_cons_zero])) (by kernel_rfl) (by kernel_rfl) (by kernel_rfl) ?hQ (Or.inl ⟨by rfl, ?hys14_6⟩) hH ?rests14_6
      case hQ => exact fun _ _ _ h => h
      case hys14_6 => (intro Y hY; obtain ⟨y0, y1, y2, y3, y4, y5, y6, y7, y8⟩ := hY; go_simp; try (with_reducible rfl))
      try simp only [Act.put, List.setIfInBounds_toArray, List.set_cons_zero, List.set_cons_succ]
      refine wpAnyH_done (by kernel_rfl) (?_) _
      have hx := HX.out
      have hu := HU.out
      have hf := HF.out
      unfold RZx at hx
      unfold RZu at hu
      unfold RZf at hf
      obtain ⟨x0, x1, x2, x3, x4, x5, x6, x7, x8⟩ := hx
      obtain ⟨u0, u1, u2, u3, u4, u5, u6, u7, u8⟩ := hu
      obtain ⟨f0, f1, f2, f3, f4, f5, f6, f7, f8⟩ := hf
      go_wp2_with fail
      refine bodyPost_ret (v := .tuple #[.agg #[.int .i64 0, .int .i64 0, .int .i64 0, .int .i64 0, .int .i64 0, .slice none 0 0, .int .i64 n, .int .i64 0, .slice none 0 0], .slice none 0 0, .int .i64 0]) (by simp [results, Try.results29, go_sem, *]) rfl ?_
      refine ⟨n, 0, rfl, ?_⟩
      have hb9 := HB.out
      (repeat' (first | (with_reducible exact Below.refl _ _) | (with_reducible assumption) | (with_reducible apply Below.setCell) | (with_reducible apply Below.alloc) | (with_reducible apply Below.drew) | (with_reducible apply below_drewN) | (with_reducible refine Below.trans ?_ (Below.mono (by assumption) ?_)) | omega | (simp; done) | (simp; omega)))
/-- the document's shaper lies in a block. -/
def G13 (W : World) (q : Nat) (now : Int) (LA : Option Addr) (ln lc : Nat) : Prop := W.heap[q]? = some (.cells #[.int .i64 0, .int .i64 0, .int .i64 0, .int .i64 0, .int .i64 0, .slice none 0 0, .int .i64 now, .int .i64 0, .slice LA ln lc] 35 (0, 0))
theorem G13.cells {W : World} {q : Nat} {now : Int} {LA : Option Addr} {ln lc : Nat} (h : G13 W q now LA ln lc) : W.cell? ⟨q, 0, none⟩ = some (.int .i64 0) ∧ W.cell? ⟨q, 1, none⟩ = some (.int .i64 0) ∧ W.cell? ⟨q, 2, none⟩ = some (.int .i64 0) ∧ W.cell? ⟨q, 3, none⟩ = some (.int .i64 0) ∧ W.cell? ⟨q, 4, none⟩ = some (.int .i64 0) ∧ W.cell? ⟨q, 5, none⟩ = some (.slice none 0 0) ∧ W.cell? ⟨q, 6, none⟩ = some (.int .i64 now) ∧ W.cell? ⟨q, 7, none⟩ = some (.int .i64 0) ∧ W.cell? ⟨q, 8, none⟩ = some (.slice LA ln lc) := by
  unfold G13 at h
  refine ⟨?_, ?_, ?_, ?_, ?_, ?_, ?_, ?_, ?_⟩ <;> simp [World.cell?, h]
theorem three_at (W : World) (a b c : Obj) : (((W.alloc a).alloc b).alloc c).heap[W.heap.size]? = some a ∧ (((W.alloc a).alloc b).alloc c).heap[W.heap.size + 1]? = some b ∧ (((W.alloc a).alloc b).alloc c).heap[W.heap.size + 1 + 1]? = some c := by
  have e1 := World.alloc_heap_new W a
  have e2 := World.alloc_heap_new (W.alloc a) b
  have e3 := World.alloc_heap_new ((W.alloc a).alloc b) c
  simp only [World.size_alloc] at e2 e3
  exact ⟨(Below.heap_alloc _ _ _ (by simp; omega)).trans ((Below.heap_alloc _ _ _ (by simp)).trans e1), (Below.heap_alloc _ _ _ (by simp)).trans e2, e3⟩
def DZ (D Q : Nat) (now : Int) (LA : Option Addr) (ln lc : Nat) (a z : Int) (W : World) : Prop := W.cell? ⟨D, 0, none⟩ = some (.int .i64 0) ∧ W.cell? ⟨D, 1, none⟩ = some (.int .i64 0) ∧ W.cell? ⟨D, 2, none⟩ = some (.int .i64 0) ∧ W.cell? ⟨D, 3, none⟩ = some (.int .i64 0) ∧ W.cell? ⟨D, 4, none⟩ = some (.int .i64 0) ∧ W.cell? ⟨D, 5, none⟩ = some (.slice none 0 0) ∧ W.cell? ⟨D, 6, none⟩ = some (.int .i64 now) ∧ W.cell? ⟨D, 7, none⟩ = some (.int .i64 0) ∧ W.cell? ⟨D, 8, none⟩ = some (.slice LA ln lc) ∧ W.cell? ⟨Q, 1, none⟩ = some (.int .i64 a) ∧ W.cell? ⟨Q, 2, none⟩ = some (.int .i64 z)
theorem DZ.of {D Q : Nat} {now : Int} {LA : Option Addr} {ln lc : Nat} {k a z : Int} {W : World} (h1 : G13 W D now LA ln lc) (h2 : W.heap[Q]? = some (.cells #[.int .i64 k, .int .i64 a, .int .i64 z] 43 (0, 0))) : DZ D Q now LA ln lc a z W := by
  obtain ⟨c0, c1, c2, c3, c4, c5, c6, c7, c8⟩ := h1.cells
  exact ⟨c0, c1, c2, c3, c4, c5, c6, c7, c8, by simp [World.cell?, h2], by simp [World.cell?, h2]⟩
set_option maxRecDepth 100000 in
set_option maxHeartbeats 4000000 in
theorem doesZ {W : World} {h g b : Nat} {v : Value} {p r u m l : Int} {s : BM.St} {room : Int} {L : List (Int × Int)} (H : ShAt W h g b v p r u m l s room L) (k a z : Int) : Calls Try.prog 12 #[.pointer (some ⟨h, 0, none⟩), gS 0 0 0 0 0 none 0 0 0 0 none 0 0, .agg #[.int .i64 k, .int .i64 a, .int .i64 z]] W fun e W' => (∃ v, e = .returned v) ∧ LeftSh h g b v p r u m l room W W' := by
  have HH := hidd H
  have HLT := hidd (fun k (hk : ShBlk h g b v k) => H.lt hk)
  have cP := hidd (fun W => rputZ a z W)
  have cG := hidd (fun W => rgoZ a W)
  have cS := hidd (fun Y (hb : Below W.heap.size W Y) => put_all (H.below hb) a z)
  have cO := hidd (fun Y (hb : Below W.heap.size W Y) => go_all (H.below hb) a)
  unfold gS at cP cG ⊢
  clear H
  by_cases hk1 : k = 1
  · subst hk1
    go_enter Try.func12, Try.ntmps12
    go_wp2_with fail
    refine (cP.out _).mono ?_
    rintro e w2 ⟨LA, ln, lc, no, rfl, hb2⟩
    have B2 := hidd (below_step (below_new (below_new (below_new (Below.refl _ _) _) _) _) hb2)
    have hs2 : W.heap.size + 1 + 1 + 1 ≤ w2.heap.size := by have := hb2.size; simpa using this
    have R6 : Hid (w2.heap[W.heap.size + 1 + 1]? = some (.cells #[.int .i64 0, .int .i64 0, .int .i64 0, .int .i64 0, .int .i64 0, .slice none 0 0, .int .i64 0, .int .i64 0, .slice none 0 0] 35 (0, 0))) := hidd ((hb2.block _ (by simp)).trans (three_at W _ _ _).2.2)
    have R5 : Hid (w2.heap[W.heap.size + 1]? = some (.cells #[.int .i64 1, .int .i64 a, .int .i64 z] 43 (0, 0))) := hidd ((hb2.block _ (by simp)).trans (three_at W _ _ _).2.1)
    clear hb2
    go_wp2_with fail
    obtain ⟨W3, hW3⟩ : ∃ W3, w2.alloc (.cells #[.int .i64 0, .int .i64 0, .int .i64 0, .int .i64 0, .int .i64 0, .slice none 0 0, .int .i64 0, .int .i64 0, .slice LA ln lc] 35) = W3 := ⟨_, rfl⟩
    rw [hW3]
    have HS3 := hidd (show W.heap.size + 1 + 1 < W3.heap.size ∧ w2.heap.size < W3.heap.size from by rw [← hW3]; simp; omega)
    have B3 := hidd (show Below W.heap.size W W3 from by rw [← hW3]; exact below_new B2.out _)
    have G3 := hidd (show G13 W3 w2.heap.size 0 LA ln lc from by rw [← hW3]; exact World.alloc_heap_new w2 _)
    have F3 := hidd (show W3.heap[W.heap.size + 1]? = some (.cells #[.int .i64 1, .int .i64 a, .int .i64 z] 43 (0, 0)) from by rw [← hW3]; exact (Below.heap_alloc w2 _ _ (by omega)).trans R5.out)
    have E3 := hidd (show W3.heap[W.heap.size + 1 + 1]? = some (.cells #[.int .i64 0, .int .i64 0, .int .i64 0, .int .i64 0, .int .i64 0, .slice none 0 0, .int .i64 0, .int .i64 0, .slice none 0 0] 35 (0, 0)) from by rw [← hW3]; exact (Below.heap_alloc w2 _ _ (by omega)).trans R6.out)
    have HS2 := hidd hs2
    clear hW3 R5 R6 hs2
    refine wp_region_held_drew (S := (fun Y => DZ w2.heap.size (W.heap.size + 1) 0 LA ln lc a z Y)) (by kernel_rfl) (DZ.of G3.out F3.out) (fun hH => ?_)
    refine wpAnyH_take (i := 0) (v := ?vp0_1) (by (conv => lhs; simp only [List.getElem?_toArray, List.getElem?_cons_succ, List.getElem?_cons_zero])) (by kernel_rfl) (by kernel_rfl) (by kernel_rfl) ?hQ (Or.inl ⟨by rfl, ?hyp0_1⟩) hH ?restp0_1
    case hQ => exact fun _ _ _ h => h
    case hyp0_1 => (intro Y hY; obtain ⟨y0, y1, y2, y3, y4, y5, y6, y7, y8, y9, y10⟩ := hY; go_simp; try (with_reducible rfl))
    try simp only [Act.put, List.setIfInBounds_toArray, List.set_cons_zero, List.set_cons_succ]
    refine wpAnyH_take (i := 1) (v := ?vp1_2) (by (conv => lhs; simp only [List.getElem?_toArray, List.getElem?_cons_succ, List.getElem?_cons_zero])) (by kernel_rfl) (by kernel_rfl) (by kernel_rfl) ?hQ (Or.inl ⟨by rfl, ?hyp1_2⟩) hH ?restp1_2
    case hQ => exact fun _ _ _ h => h
    case hyp1_2 => (intro Y hY; obtain ⟨y0, y1, y2, y3, y4, y5, y6, y7, y8, y9, y10⟩ := hY; go_simp; try (with_reducible rfl))
    try simp only [Act.put, List.setIfInBounds_toArray, List.set_cons_zero, List.set_cons_succ]
    refine wpAnyH_take (i := 2) (v := ?vp2_3) (by (conv => lhs; simp only [List.getElem?_toArray, List.getElem?_cons_succ, List.getElem?_cons_zero])) (by kernel_rfl) (by kernel_rfl) (by kernel_rfl) ?hQ (Or.inl ⟨by rfl, ?hyp2_3⟩) hH ?restp2_3
    case hQ => exact fun _ _ _ h => h
    case hyp2_3 => (intro Y hY; obtain ⟨y0, y1, y2, y3, y4, y5, y6, y7, y8, y9, y10⟩ := hY; go_simp; try (with_reducible rfl))
    try simp only [Act.put, List.setIfInBounds_toArray, List.set_cons_zero, List.set_cons_succ]
    refine wpAnyH_take (i := 3) (v := ?vp3_4) (by (conv => lhs; simp only [List.getElem?_toArray, List.getElem?_cons_succ, List.getElem?_cons_zero])) (by kernel_rfl) (by kernel_rfl) (by kernel_rfl) ?hQ (Or.inl ⟨by rfl, ?hyp3_4⟩) hH ?restp3_4
    case hQ => exact fun _ _ _ h => h
    case hyp3_4 => (intro Y hY; obtain ⟨y0, y1, y2, y3, y4, y5, y6, y7, y8, y9, y10⟩ := hY; go_simp; try (with_reducible rfl))
    try simp only [Act.put, List.setIfInBounds_toArray, List.set_cons_zero, List.set_cons_succ]
    refine wpAnyH_take (i := 5) (v := ?vp5_5) (by (conv => lhs; simp only [List.getElem?_toArray, List.getElem?_cons_succ, List.getElem?_cons_zero])) (by kernel_rfl) (by kernel_rfl) (by kernel_rfl) ?hQ (Or.inl ⟨by rfl, ?hyp5_5⟩) hH ?restp5_5
    case hQ => exact fun _ _ _ h => h
    case hyp5_5 => (intro Y hY; obtain ⟨y0, y1, y2, y3, y4, y5, y6, y7, y8, y9, y10⟩ := hY; go_simp; try (with_reducible rfl))
    try simp only [Act.put, List.setIfInBounds_toArray, List.set_cons_zero, List.set_cons_succ]
    refine wpAnyH_ready (rs := [4]) (by kernel_rfl) (by simp) ?_
    refine AllReadyH.cons (by (conv => lhs; simp only [List.getElem?_toArray, List.getElem?_cons_succ, List.getElem?_cons_zero])) (fun K hK => ?_) AllReadyH.nil
    go_simp
    go_at_call 15; refine (cS.out _ (Below.drew B3.out)).mono ?_; rintro e w4 ⟨n2, rfl, hL4⟩
    have G4 := hidd (show G13 w4 w2.heap.size 0 LA ln lc from (hL4.block HLT.out (by have := HS2.out; omega) HS3.out.2).trans G3.out)
    have F4 := hidd ((hL4.block HLT.out (j := W.heap.size + 1) (by omega) (by have := HS3.out.1; show _ < W3.heap.size; omega)).trans F3.out)
    have hrow := (hL4.block HLT.out (j := W.heap.size + 1 + 1) (by omega) HS3.out.1).trans E3.out
    have FIN := hidd (fun cs => LeftSh.far (q := W.heap.size + 1 + 1) (by omega) (show _ < W3.drew.heap.size from HS3.out.1) (Below.drew B3.out) hL4 HLT.out (Sav.row (cs := cs) (Below.refl _ _)))
    refine hK.out _ _ (DZ.of G4.out F4.out) (fun hH1 => ?_)
    clear hK hH hL4
    try simp only [Act.put, List.setIfInBounds_toArray, List.set_cons_zero, List.set_cons_succ]
    refine wpAnyH_take (i := 6) (v := ?vp6_6) (by (conv => lhs; simp only [List.getElem?_toArray, List.getElem?_cons_succ, List.getElem?_cons_zero])) (by kernel_rfl) (by kernel_rfl) (by kernel_rfl) ?hQ (Or.inl ⟨by rfl, ?hyp6_6⟩) hH1 ?restp6_6
    case hQ => exact fun _ _ _ h => h
    case hyp6_6 => (intro Y hY; obtain ⟨y0, y1, y2, y3, y4, y5, y6, y7, y8, y9, y10⟩ := hY; go_simp; try (with_reducible rfl))
    try simp only [Act.put, List.setIfInBounds_toArray, List.set_cons_zero, List.set_cons_succ]
    refine wpAnyH_ready (rs := [7]) (by kernel_rfl) (by simp) ?_
    refine AllReadyH.cons (by (conv => lhs; simp only [List.getElem?_toArray, List.getElem?_cons_succ, List.getElem?_cons_zero])) (fun K hK => ?_) AllReadyH.nil
    rw [if_pos (by rfl)]
    refine wp_store_row 35 (.tmp 6) (.tmp 27) (by rfl) (W.heap.size + 1 + 1) #[.int .i64 0, .int .i64 0, .int .i64 0, .int .i64 0, .int .i64 0, .slice none 0 0, .int .i64 0, .int .i64 0, .slice LA ln lc] (by rfl) (by rfl) _ _ hrow (by kernel_rfl) (by rfl) (by simp [Value.oneCell']) ?_
    have hrow2 := setRow_heap w4 (W.heap.size + 1 + 1) _ #[.int .i64 0, .int .i64 0, .int .i64 0, .int .i64 0, .int .i64 0, .slice none 0 0, .int .i64 0, .int .i64 0, .slice LA ln lc] _ _ hrow
    refine hK.out _ _ (DZ.of ((setRow_other w4 _ _ _ (by have := HS2.out; omega)).trans G4.out) ((setRow_other w4 _ _ _ (by omega)).trans F4.out)) (fun hH2 => ?_)
    clear hK hH1 hrow
    try simp only [Act.put]
    refine wpAnyH_take (i := 8) (v := ?vp8_7) (by (conv => lhs; simp only [List.getElem?_toArray, List.getElem?_cons_succ, List.getElem?_cons_zero])) (by kernel_rfl) (by kernel_rfl) (by kernel_rfl) ?hQ (Or.inl ⟨by rfl, ?hyp8_7⟩) hH2 ?restp8_7
    case hQ => exact fun _ _ _ h => h
    case hyp8_7 => (intro Y hY; obtain ⟨y0, y1, y2, y3, y4, y5, y6, y7, y8, y9, y10⟩ := hY; go_simp; try (with_reducible rfl))
    try simp only [Act.put, List.setIfInBounds_toArray, List.set_cons_zero, List.set_cons_succ]
    refine wpAnyH_take (i := 9) (v := ?vp9_8) (by (conv => lhs; simp only [List.getElem?_toArray, List.getElem?_cons_succ, List.getElem?_cons_zero])) (by kernel_rfl) (by kernel_rfl) (by kernel_rfl) ?hQ (Or.inl ⟨by rfl, ?hyp9_8⟩) hH2 ?restp9_8
    case hQ => exact fun _ _ _ h => h
    case hyp9_8 => (intro Y hY; obtain ⟨y0, y1, y2, y3, y4, y5, y6, y7, y8, y9, y10⟩ := hY; go_simp; try (with_reducible rfl))
    try simp only [Act.put, List.setIfInBounds_toArray, List.set_cons_zero, List.set_cons_succ]
    have FIN2 := hidd (FIN.out #[.int .i64 0, .int .i64 0, .int .i64 0, .int .i64 0, .int .i64 0, .slice none 0 0, .int .i64 0, .int .i64 0, .slice LA ln lc])
    have ROW := hidd (show G13 _ _ 0 LA ln lc from hrow2)
    clear FIN hrow2
    obtain ⟨wz, hwz⟩ : ∃ wz : World, w4.setRow (W.heap.size + 1 + 1) #[.int .i64 0, .int .i64 0, .int .i64 0, .int .i64 0, .int .i64 0, .slice none 0 0, .int .i64 0, .int .i64 0, .slice LA ln lc] = wz := ⟨_, rfl⟩
    rw [hwz] at FIN2 ROW hH2
    rw [hwz]
    clear hwz
    refine wpAnyH_done (by kernel_rfl) (?_) _
    clear hH2
    have FIN := FIN2
    obtain ⟨d0, d1, d2, d3, d4, d5, d6, d7, d8⟩ := ROW.out.cells
    go_wp2_with fail
    refine bodyPost_ret (v := .tuple #[.agg #[.int .i64 0, .int .i64 0, .int .i64 0, .int .i64 0, .int .i64 0, .slice none 0 0, .int .i64 0, .int .i64 0, .slice LA ln lc], .slice none 0 0, .bool (n2 == no)]) (by simp [results, Try.results12, go_sem, d0, d1, d2, d3, d4, d5, d6, d7, d8]) rfl ?_
    exact ⟨⟨_, rfl⟩, FIN.out⟩
  · by_cases hk2 : k = 2
    · subst hk2
      go_enter Try.func12, Try.ntmps12
      go_wp2_with fail
      have B1 : Hid (Below W.heap.size W (((W.alloc (.cells #[.int .i64 0, .int .i64 0, .int .i64 0, .int .i64 0, .int .i64 0, .slice none 0 0, .int .i64 0, .int .i64 0, .slice none 0 0] 35)).alloc (.cells #[.int .i64 2, .int .i64 a, .int .i64 z] 43)).alloc (.cells #[.int .i64 0, .int .i64 0, .int .i64 0, .int .i64 0, .int .i64 0, .slice none 0 0, .int .i64 0, .int .i64 0, .slice none 0 0] 35))) := hidd (by (repeat' (first | (with_reducible exact Below.refl _ _) | (with_reducible assumption) | (with_reducible apply Below.setCell) | (with_reducible apply Below.alloc) | (with_reducible apply Below.drew) | (with_reducible apply below_drewN) | (with_reducible refine Below.trans ?_ (Below.mono (by assumption) ?_)) | omega | (simp; done) | (simp; omega))))
      refine (cO.out _ B1.out).mono ?_
      rintro e w2 ⟨A, M, c, no, rfl, hM, hlm, hL2⟩
      have R4 : G13 w2 W.heap.size 0 none 0 0 := (hL2.block HLT.out (j := W.heap.size) (by omega) (by simp; omega)).trans (three_at W _ _ _).1
      have R5 : w2.heap[W.heap.size + 1]? = some (.cells #[.int .i64 2, .int .i64 a, .int .i64 z] 43 (0, 0)) := (hL2.block HLT.out (j := W.heap.size + 1) (by omega) (by simp)).trans (three_at W _ _ _).2.1
      have R6 : w2.heap[W.heap.size + 1 + 1]? = some (.cells #[.int .i64 0, .int .i64 0, .int .i64 0, .int .i64 0, .int .i64 0, .slice none 0 0, .int .i64 0, .int .i64 0, .slice none 0 0] 35 (0, 0)) := (hL2.block HLT.out (j := W.heap.size + 1 + 1) (by omega) (by simp)).trans (three_at W _ _ _).2.2
      have hs2 : W.heap.size + 1 + 1 + 1 ≤ w2.heap.size := by have := hL2.size; simpa using this
      have cSa := hidd (fun Y (hb : Below w2.heap.size w2 Y) => refSame_any A none M [] c 0 hM (by simp) Y (hlm.below hb) (fun hl => absurd hl (by simp)))
      obtain ⟨R, hR⟩ : ∃ R, decide (M = []) = R := ⟨_, rfl⟩
      rw [hR] at cSa
      generalize M.length = n at *
      have L2 := hidd hL2
      have HR5 := hidd R5
      have HR6 := hidd R6
      have HS2 := hidd hs2
      obtain ⟨x0, x1, x2, x3, x4, x5, x6, x7, x8⟩ := R4.cells
      have x9 : w2.cell? ⟨W.heap.size + 1, 1, none⟩ = some (.int .i64 a) := by simp [World.cell?, R5]
      clear hL2 hM hlm hR R4 R5 R6
      go_wp2_with fail
      refine (cG.out _).mono ?_
      rintro e w3 ⟨now, no2, rfl, hb3⟩
      have B3 := hidd (show Below w2.heap.size w2 w3 from by first | exact hb3 | exact below_step (Below.drew (Below.refl _ _)) hb3)
      clear hb3 x0 x1 x2 x3 x4 x5 x6 x7 x8 x9 hs2
      go_wp2_with fail
      obtain ⟨W4, hW4⟩ : ∃ W4, w3.alloc (.cells #[.int .i64 0, .int .i64 0, .int .i64 0, .int .i64 0, .int .i64 0, .slice none 0 0, .int .i64 now, .int .i64 0, .slice none 0 0] 35) = W4 := ⟨_, rfl⟩
      rw [hW4]
      have B4 := hidd (show Below w2.heap.size w2 W4 from by rw [← hW4]; exact below_new B3.out _)
      have HS4 := hidd (show W.heap.size + 1 + 1 < w2.heap.size ∧ w2.heap.size ≤ w3.heap.size ∧ w2.heap.size ≤ W4.heap.size from ⟨by have := HS2.out; omega, B3.out.size, B4.out.size⟩)
      have G4 := hidd (show G13 W4 w3.heap.size now none 0 0 from by rw [← hW4]; exact World.alloc_heap_new w3 _)
      have F4 := hidd ((B4.out.block (W.heap.size + 1) (by have := HS2.out; omega)).trans HR5.out)
      have E4 := hidd ((B4.out.block (W.heap.size + 1 + 1) (by have := HS2.out; omega)).trans HR6.out)
      have L4 := hidd (L2.out.low B4.out)
      clear hW4
      have FI : Hid (∀ Y, Below W4.heap.size W4 Y → ∀ cs, LeftSh h g b v p r u m l room W (Y.setRow (W.heap.size + 1 + 1) cs)) := hidd (fun Y hb cs => LeftSh.far (q := W.heap.size + 1 + 1) (by omega) (by simp) B1.out (L4.out.low hb) HLT.out (Sav.row (cs := cs) (Below.refl _ _)))
      by_cases hno : no = no2
      · subst hno
        refine wp_region_held_drew (S := (fun Y => DZ w3.heap.size (W.heap.size + 1) now none 0 0 a z Y)) (by kernel_rfl) (DZ.of G4.out F4.out) (fun hH => ?_)
        refine wpAnyH_take (i := 0) (v := ?ve0_1) (by (conv => lhs; simp only [List.getElem?_toArray, List.getElem?_cons_succ, List.getElem?_cons_zero])) (by kernel_rfl) (by kernel_rfl) (by kernel_rfl) ?hQ (Or.inl ⟨by rfl, ?hye0_1⟩) hH ?reste0_1
        case hQ => exact fun _ _ _ h => h
        case hye0_1 => (intro Y hY; obtain ⟨y0, y1, y2, y3, y4, y5, y6, y7, y8, y9, y10⟩ := hY; go_simp; try (with_reducible rfl))
        try simp only [Act.put, List.setIfInBounds_toArray, List.set_cons_zero, List.set_cons_succ]
        refine wpAnyH_take (i := 1) (v := ?ve1_2) (by (conv => lhs; simp only [List.getElem?_toArray, List.getElem?_cons_succ, List.getElem?_cons_zero])) (by kernel_rfl) (by kernel_rfl) (by kernel_rfl) ?hQ (Or.inl ⟨by rfl, ?hye1_2⟩) hH ?reste1_2
        case hQ => exact fun _ _ _ h => h
        case hye1_2 => (intro Y hY; obtain ⟨y0, y1, y2, y3, y4, y5, y6, y7, y8, y9, y10⟩ := hY; go_simp; try (with_reducible rfl))
        try simp only [Act.put, List.setIfInBounds_toArray, List.set_cons_zero, List.set_cons_succ]
        refine wpAnyH_take (i := 2) (v := ?ve2_3) (by (conv => lhs; simp only [List.getElem?_toArray, List.getElem?_cons_succ, List.getElem?_cons_zero])) (by kernel_rfl) (by kernel_rfl) (by kernel_rfl) ?hQ (Or.inl ⟨by rfl, ?hye2_3⟩) hH ?reste2_3
        case hQ => exact fun _ _ _ h => h
        case hye2_3 => (intro Y hY; obtain ⟨y0, y1, y2, y3, y4, y5, y6, y7, y8, y9, y10⟩ := hY; go_simp; try (with_reducible rfl))
        try simp only [Act.put, List.setIfInBounds_toArray, List.set_cons_zero, List.set_cons_succ]
        refine wpAnyH_take (i := 3) (v := ?ve3_4) (by (conv => lhs; simp only [List.getElem?_toArray, List.getElem?_cons_succ, List.getElem?_cons_zero])) (by kernel_rfl) (by kernel_rfl) (by kernel_rfl) ?hQ (Or.inl ⟨by rfl, ?hye3_4⟩) hH ?reste3_4
        case hQ => exact fun _ _ _ h => h
        case hye3_4 => (intro Y hY; obtain ⟨y0, y1, y2, y3, y4, y5, y6, y7, y8, y9, y10⟩ := hY; go_simp; try (with_reducible rfl))
        try simp only [Act.put, List.setIfInBounds_toArray, List.set_cons_zero, List.set_cons_succ]
        refine wpAnyH_take (i := 4) (v := ?ve4_5) (by (conv => lhs; simp only [List.getElem?_toArray, List.getElem?_cons_succ, List.getElem?_cons_zero])) (by kernel_rfl) (by kernel_rfl) (by kernel_rfl) ?hQ (Or.inl ⟨by rfl, ?hye4_5⟩) hH ?reste4_5
        case hQ => exact fun _ _ _ h => h
        case hye4_5 => (intro Y hY; obtain ⟨y0, y1, y2, y3, y4, y5, y6, y7, y8, y9, y10⟩ := hY; go_simp; try (with_reducible rfl))
        try simp only [Act.put, List.setIfInBounds_toArray, List.set_cons_zero, List.set_cons_succ]
        refine wpAnyH_take (i := 5) (v := ?ve5_6) (by (conv => lhs; simp only [List.getElem?_toArray, List.getElem?_cons_succ, List.getElem?_cons_zero])) (by kernel_rfl) (by kernel_rfl) (by kernel_rfl) ?hQ (Or.inl ⟨by rfl, ?hye5_6⟩) hH ?reste5_6
        case hQ => exact fun _ _ _ h => h
        case hye5_6 => (intro Y hY; obtain ⟨y0, y1, y2, y3, y4, y5, y6, y7, y8, y9, y10⟩ := hY; go_simp; try (with_reducible rfl))
        try simp only [Act.put, List.setIfInBounds_toArray, List.set_cons_zero, List.set_cons_succ]
        refine wpAnyH_take (i := 6) (v := ?ve6_7) (by (conv => lhs; simp only [List.getElem?_toArray, List.getElem?_cons_succ, List.getElem?_cons_zero])) (by kernel_rfl) (by kernel_rfl) (by kernel_rfl) ?hQ (Or.inl ⟨by rfl, ?hye6_7⟩) hH ?reste6_7
        case hQ => exact fun _ _ _ h => h
        case hye6_7 => (intro Y hY; obtain ⟨y0, y1, y2, y3, y4, y5, y6, y7, y8, y9, y10⟩ := hY; go_simp; try (with_reducible rfl))
        try simp only [Act.put, List.setIfInBounds_toArray, List.set_cons_zero, List.set_cons_succ]
        refine wpAnyH_take (i := 7) (v := ?ve7_8) (by (conv => lhs; simp only [List.getElem?_toArray, List.getElem?_cons_succ, List.getElem?_cons_zero])) (by kernel_rfl) (by kernel_rfl) (by kernel_rfl) ?hQ (Or.inl ⟨by rfl, ?hye7_8⟩) hH ?reste7_8
        case hQ => exact fun _ _ _ h => h
        case hye7_8 => (intro Y hY; obtain ⟨y0, y1, y2, y3, y4, y5, y6, y7, y8, y9, y10⟩ := hY; go_simp; try (with_reducible rfl))
        try simp only [Act.put, List.setIfInBounds_toArray, List.set_cons_zero, List.set_cons_succ]
        refine wpAnyH_ready (rs := [8]) (by kernel_rfl) (by simp) ?_
        refine AllReadyH.cons (by (conv => lhs; simp only [List.getElem?_toArray, List.getElem?_cons_succ, List.getElem?_cons_zero])) (fun K hK => ?_) AllReadyH.nil
        go_simp
        go_at_call 18; refine (cSa.out _ (Below.drew B4.out)).mono ?_; rintro e w5 ⟨rfl, q, hw5⟩
        have BW : Below W4.heap.size W4 w5 := by rw [hw5]; exact below_drewN (Below.drew (Below.refl _ _)) _
        have G5 := hidd (show G13 w5 w3.heap.size now none 0 0 from (BW.block _ (by have := Array.getElem?_eq_some_iff.1 G4.out; exact this.1)).trans G4.out)
        have F5 := hidd ((BW.block (W.heap.size + 1) (by have := HS4.out; omega)).trans F4.out)
        have hrow := (BW.block (W.heap.size + 1 + 1) (by have := HS4.out; omega)).trans E4.out
        have FIN := hidd (fun cs => FI.out _ BW cs)
        refine hK.out _ _ (DZ.of G5.out F5.out) (fun hH1 => ?_)
        clear hK hH hw5
        try simp only [Act.put, List.setIfInBounds_toArray, List.set_cons_zero, List.set_cons_succ]
        refine wpAnyH_take (i := 9) (v := ?ve9_9) (by (conv => lhs; simp only [List.getElem?_toArray, List.getElem?_cons_succ, List.getElem?_cons_zero])) (by kernel_rfl) (by kernel_rfl) (by kernel_rfl) ?hQ (Or.inl ⟨by rfl, ?hye9_9⟩) hH1 ?reste9_9
        case hQ => exact fun _ _ _ h => h
        case hye9_9 => (intro Y hY; obtain ⟨y0, y1, y2, y3, y4, y5, y6, y7, y8, y9, y10⟩ := hY; go_simp; try (with_reducible rfl))
        try simp only [Act.put, List.setIfInBounds_toArray, List.set_cons_zero, List.set_cons_succ]
        refine wpAnyH_ready (rs := [10]) (by kernel_rfl) (by simp) ?_
        refine AllReadyH.cons (by (conv => lhs; simp only [List.getElem?_toArray, List.getElem?_cons_succ, List.getElem?_cons_zero])) (fun K hK => ?_) AllReadyH.nil
        rw [if_pos (by rfl)]
        refine wp_store_row 35 (.tmp 6) (.tmp 53) (by rfl) (W.heap.size + 1 + 1) #[.int .i64 0, .int .i64 0, .int .i64 0, .int .i64 0, .int .i64 0, .slice none 0 0, .int .i64 now, .int .i64 0, .slice none 0 0] (by rfl) (by rfl) _ _ hrow (by kernel_rfl) (by rfl) (by simp [Value.oneCell']) ?_
        have hrow2 := setRow_heap w5 (W.heap.size + 1 + 1) _ #[.int .i64 0, .int .i64 0, .int .i64 0, .int .i64 0, .int .i64 0, .slice none 0 0, .int .i64 now, .int .i64 0, .slice none 0 0] _ _ hrow
        refine hK.out _ _ (DZ.of ((setRow_other w5 _ _ _ (by have := HS4.out; omega)).trans G5.out) ((setRow_other w5 _ _ _ (by omega)).trans F5.out)) (fun hH2 => ?_)
        clear hK hH1 hrow
        try simp only [Act.put]
        refine wpAnyH_take (i := 11) (v := ?ve11_10) (by (conv => lhs; simp only [List.getElem?_toArray, List.getElem?_cons_succ, List.getElem?_cons_zero])) (by kernel_rfl) (by kernel_rfl) (by kernel_rfl) ?hQ (Or.inl ⟨by rfl, ?hye11_10⟩) hH2 ?reste11_10
        case hQ => exact fun _ _ _ h => h
        case hye11_10 => (intro Y hY; obtain ⟨y0, y1, y2, y3, y4, y5, y6, y7, y8, y9, y10⟩ := hY; go_simp; try (with_reducible rfl))
        try simp only [Act.put, List.setIfInBounds_toArray, List.set_cons_zero, List.set_cons_succ]
        refine wpAnyH_take (i := 12) (v := ?ve12_11) (by (conv => lhs; simp only [List.getElem?_toArray, List.getElem?_cons_succ, List.getElem?_cons_zero])) (by kernel_rfl) (by kernel_rfl) (by kernel_rfl) ?hQ (Or.inl ⟨by rfl, ?hye12_11⟩) hH2 ?reste12_11
        case hQ => exact fun _ _ _ h => h
        case hye12_11 => (intro Y hY; obtain ⟨y0, y1, y2, y3, y4, y5, y6, y7, y8, y9, y10⟩ := hY; go_simp; try (with_reducible rfl))
        try simp only [Act.put, List.setIfInBounds_toArray, List.set_cons_zero, List.set_cons_succ]
        have FIN2 := hidd (FIN.out #[.int .i64 0, .int .i64 0, .int .i64 0, .int .i64 0, .int .i64 0, .slice none 0 0, .int .i64 now, .int .i64 0, .slice none 0 0])
        have ROW := hidd (show G13 _ _ now none 0 0 from hrow2)
        clear FIN hrow2
        obtain ⟨wz, hwz⟩ : ∃ wz : World, w5.setRow (W.heap.size + 1 + 1) #[.int .i64 0, .int .i64 0, .int .i64 0, .int .i64 0, .int .i64 0, .slice none 0 0, .int .i64 now, .int .i64 0, .slice none 0 0] = wz := ⟨_, rfl⟩
        rw [hwz] at FIN2 ROW hH2
        rw [hwz]
        clear hwz
        refine wpAnyH_done (by kernel_rfl) (?_) _
        clear hH2
        have FIN := FIN2
        obtain ⟨d0, d1, d2, d3, d4, d5, d6, d7, d8⟩ := ROW.out.cells
        go_wp2_with fail
        refine bodyPost_ret (v := .tuple #[.agg #[.int .i64 0, .int .i64 0, .int .i64 0, .int .i64 0, .int .i64 0, .slice none 0 0, .int .i64 now, .int .i64 0, .slice none 0 0], .slice A n c, .bool R]) (by simp [results, Try.results12, go_sem, d0, d1, d2, d3, d4, d5, d6, d7, d8]) rfl ?_
        exact ⟨⟨_, rfl⟩, FIN.out⟩
      · have hne : (no == no2) = false := by simp [hno]
        have hne2 : decide (no = no2) = false := decide_eq_false hno
        refine wp_region_held_drew (S := (fun Y => DZ w3.heap.size (W.heap.size + 1) now none 0 0 a z Y)) (by kernel_rfl) (DZ.of G4.out F4.out) (fun hH => ?_)
        refine wpAnyH_take (i := 0) (v := ?vf0_1) (by (conv => lhs; simp only [List.getElem?_toArray, List.getElem?_cons_succ, List.getElem?_cons_zero])) (by kernel_rfl) (by kernel_rfl) (by kernel_rfl) ?hQ (Or.inl ⟨by rfl, ?hyf0_1⟩) hH ?restf0_1
        case hQ => exact fun _ _ _ h => h
        case hyf0_1 => (intro Y hY; obtain ⟨y0, y1, y2, y3, y4, y5, y6, y7, y8, y9, y10⟩ := hY; go_simp; try (with_reducible rfl))
        try simp only [Act.put, List.setIfInBounds_toArray, List.set_cons_zero, List.set_cons_succ]
        refine wpAnyH_take (i := 1) (v := ?vf1_2) (by (conv => lhs; simp only [List.getElem?_toArray, List.getElem?_cons_succ, List.getElem?_cons_zero])) (by kernel_rfl) (by kernel_rfl) (by kernel_rfl) ?hQ (Or.inl ⟨by rfl, ?hyf1_2⟩) hH ?restf1_2
        case hQ => exact fun _ _ _ h => h
        case hyf1_2 => (intro Y hY; obtain ⟨y0, y1, y2, y3, y4, y5, y6, y7, y8, y9, y10⟩ := hY; go_simp; try (with_reducible rfl))
        try simp only [Act.put, List.setIfInBounds_toArray, List.set_cons_zero, List.set_cons_succ]
        refine wpAnyH_take (i := 2) (v := ?vf2_3) (by (conv => lhs; simp only [List.getElem?_toArray, List.getElem?_cons_succ, List.getElem?_cons_zero])) (by kernel_rfl) (by kernel_rfl) (by kernel_rfl) ?hQ (Or.inl ⟨by rfl, ?hyf2_3⟩) hH ?restf2_3
        case hQ => exact fun _ _ _ h => h
        case hyf2_3 => (intro Y hY; obtain ⟨y0, y1, y2, y3, y4, y5, y6, y7, y8, y9, y10⟩ := hY; go_simp; try (with_reducible rfl))
        try simp only [Act.put, List.setIfInBounds_toArray, List.set_cons_zero, List.set_cons_succ]
        refine wpAnyH_take (i := 3) (v := ?vf3_4) (by (conv => lhs; simp only [List.getElem?_toArray, List.getElem?_cons_succ, List.getElem?_cons_zero])) (by kernel_rfl) (by kernel_rfl) (by kernel_rfl) ?hQ (Or.inl ⟨by rfl, ?hyf3_4⟩) hH ?restf3_4
        case hQ => exact fun _ _ _ h => h
        case hyf3_4 => (intro Y hY; obtain ⟨y0, y1, y2, y3, y4, y5, y6, y7, y8, y9, y10⟩ := hY; go_simp; try (with_reducible rfl))
        try simp only [Act.put, List.setIfInBounds_toArray, List.set_cons_zero, List.set_cons_succ]
        refine wpAnyH_take (i := 4) (v := ?vf4_5) (by (conv => lhs; simp only [List.getElem?_toArray, List.getElem?_cons_succ, List.getElem?_cons_zero])) (by kernel_rfl) (by kernel_rfl) (by kernel_rfl) ?hQ (Or.inl ⟨by rfl, ?hyf4_5⟩) hH ?restf4_5
        case hQ => exact fun _ _ _ h => h
        case hyf4_5 => (intro Y hY; obtain ⟨y0, y1, y2, y3, y4, y5, y6, y7, y8, y9, y10⟩ := hY; go_simp; try (with_reducible rfl))
        try simp only [Act.put, List.setIfInBounds_toArray, List.set_cons_zero, List.set_cons_succ]
        refine wpAnyH_take (i := 5) (v := ?vf5_6) (by (conv => lhs; simp only [List.getElem?_toArray, List.getElem?_cons_succ, List.getElem?_cons_zero])) (by kernel_rfl) (by kernel_rfl) (by kernel_rfl) ?hQ (Or.inl ⟨by rfl, ?hyf5_6⟩) hH ?restf5_6
        case hQ => exact fun _ _ _ h => h
        case hyf5_6 => (intro Y hY; obtain ⟨y0, y1, y2, y3, y4, y5, y6, y7, y8, y9, y10⟩ := hY; go_simp; try (with_reducible rfl))
        try simp only [Act.put, List.setIfInBounds_toArray, List.set_cons_zero, List.set_cons_succ]
        refine wpAnyH_take (i := 6) (v := undef) (by (conv => lhs; simp only [List.getElem?_toArray, List.getElem?_cons_succ, List.getElem?_cons_zero])) (by kernel_rfl) (by kernel_rfl) (by kernel_rfl) ?hQ (Or.inr ⟨by rfl, rfl⟩) hH ?_
        case hQ => exact fun _ _ _ h => h
        try simp only [Act.put, List.setIfInBounds_toArray, List.set_cons_zero, List.set_cons_succ]
        refine wpAnyH_take (i := 7) (v := undef) (by (conv => lhs; simp only [List.getElem?_toArray, List.getElem?_cons_succ, List.getElem?_cons_zero])) (by kernel_rfl) (by kernel_rfl) (by kernel_rfl) ?hQ (Or.inr ⟨by rfl, rfl⟩) hH ?_
        case hQ => exact fun _ _ _ h => h
        try simp only [Act.put, List.setIfInBounds_toArray, List.set_cons_zero, List.set_cons_succ]
        refine wpAnyH_take (i := 8) (v := undef) (by (conv => lhs; simp only [List.getElem?_toArray, List.getElem?_cons_succ, List.getElem?_cons_zero])) (by kernel_rfl) (by kernel_rfl) (by kernel_rfl) ?hQ (Or.inr ⟨by rfl, rfl⟩) hH ?_
        case hQ => exact fun _ _ _ h => h
        try simp only [Act.put, List.setIfInBounds_toArray, List.set_cons_zero, List.set_cons_succ]
        refine wpAnyH_take (i := 9) (v := ?vf9_7) (by (conv => lhs; simp only [List.getElem?_toArray, List.getElem?_cons_succ, List.getElem?_cons_zero])) (by kernel_rfl) (by kernel_rfl) (by kernel_rfl) ?hQ (Or.inl ⟨by rfl, ?hyf9_7⟩) hH ?restf9_7
        case hQ => exact fun _ _ _ h => h
        case hyf9_7 => (intro Y hY; obtain ⟨y0, y1, y2, y3, y4, y5, y6, y7, y8, y9, y10⟩ := hY; go_simp; try (with_reducible rfl))
        try simp only [Act.put, List.setIfInBounds_toArray, List.set_cons_zero, List.set_cons_succ]
        refine wpAnyH_ready (rs := [10]) (by kernel_rfl) (by simp) ?_
        refine AllReadyH.cons (by (conv => lhs; simp only [List.getElem?_toArray, List.getElem?_cons_succ, List.getElem?_cons_zero])) (fun K hK => ?_) AllReadyH.nil
        obtain ⟨w5, hw5⟩ : ∃ w5, W4.drew = w5 := ⟨_, rfl⟩
        have BW : Below W4.heap.size W4 w5 := by rw [← hw5]; exact Below.drew (Below.refl _ _)
        rw [hw5]
        have G5 := hidd (show G13 w5 w3.heap.size now none 0 0 from (BW.block _ (by have := Array.getElem?_eq_some_iff.1 G4.out; exact this.1)).trans G4.out)
        have F5 := hidd ((BW.block (W.heap.size + 1) (by have := HS4.out; omega)).trans F4.out)
        have hrow := (BW.block (W.heap.size + 1 + 1) (by have := HS4.out; omega)).trans E4.out
        have FIN := hidd (fun cs => FI.out _ BW cs)
        rw [if_pos (by rfl)]
        refine wp_store_row 35 (.tmp 6) (.tmp 53) (by rfl) (W.heap.size + 1 + 1) #[.int .i64 0, .int .i64 0, .int .i64 0, .int .i64 0, .int .i64 0, .slice none 0 0, .int .i64 now, .int .i64 0, .slice none 0 0] (by rfl) (by rfl) _ _ hrow (by kernel_rfl) (by rfl) (by simp [Value.oneCell']) ?_
        have hrow2 := setRow_heap w5 (W.heap.size + 1 + 1) _ #[.int .i64 0, .int .i64 0, .int .i64 0, .int .i64 0, .int .i64 0, .slice none 0 0, .int .i64 now, .int .i64 0, .slice none 0 0] _ _ hrow
        refine hK.out _ _ (DZ.of ((setRow_other w5 _ _ _ (by have := HS4.out; omega)).trans G5.out) ((setRow_other w5 _ _ _ (by omega)).trans F5.out)) (fun hH2 => ?_)
        clear hK hH hrow
        try simp only [Act.put]
        refine wpAnyH_take (i := 11) (v := ?vf11_8) (by (conv => lhs; simp only [List.getElem?_toArray, List.getElem?_cons_succ, List.getElem?_cons_zero])) (by kernel_rfl) (by kernel_rfl) (by kernel_rfl) ?hQ (Or.inl ⟨by rfl, ?hyf11_8⟩) hH2 ?restf11_8
        case hQ => exact fun _ _ _ h => h
        case hyf11_8 => (intro Y hY; obtain ⟨y0, y1, y2, y3, y4, y5, y6, y7, y8, y9, y10⟩ := hY; go_simp; try (with_reducible rfl))
        try simp only [Act.put, List.setIfInBounds_toArray, List.set_cons_zero, List.set_cons_succ]
        refine wpAnyH_take (i := 12) (v := ?vf12_9) (by (conv => lhs; simp only [List.getElem?_toArray, List.getElem?_cons_succ, List.getElem?_cons_zero])) (by kernel_rfl) (by kernel_rfl) (by kernel_rfl) ?hQ (Or.inl ⟨by rfl, ?hyf12_9⟩) hH2 ?restf12_9
        case hQ => exact fun _ _ _ h => h
        case hyf12_9 => (intro Y hY; obtain ⟨y0, y1, y2, y3, y4, y5, y6, y7, y8, y9, y10⟩ := hY; go_simp; try (with_reducible rfl))
        try simp only [Act.put, List.setIfInBounds_toArray, List.set_cons_zero, List.set_cons_succ]
        have FIN2 := hidd (FIN.out #[.int .i64 0, .int .i64 0, .int .i64 0, .int .i64 0, .int .i64 0, .slice none 0 0, .int .i64 now, .int .i64 0, .slice none 0 0])
        have ROW := hidd (show G13 _ _ now none 0 0 from hrow2)
        clear FIN hrow2
        obtain ⟨wz, hwz⟩ : ∃ wz : World, w5.setRow (W.heap.size + 1 + 1) #[.int .i64 0, .int .i64 0, .int .i64 0, .int .i64 0, .int .i64 0, .slice none 0 0, .int .i64 now, .int .i64 0, .slice none 0 0] = wz := ⟨_, rfl⟩
        rw [hwz] at FIN2 ROW hH2
        rw [hwz]
        clear hwz
        refine wpAnyH_done (by kernel_rfl) (?_) _
        clear hH2
        have FIN := FIN2
        obtain ⟨d0, d1, d2, d3, d4, d5, d6, d7, d8⟩ := ROW.out.cells
        go_wp2_with fail
        refine bodyPost_ret (v := .tuple #[.agg #[.int .i64 0, .int .i64 0, .int .i64 0, .int .i64 0, .int .i64 0, .slice none 0 0, .int .i64 now, .int .i64 0, .slice none 0 0], .slice A n c, .bool false]) (by simp [results, Try.results12, go_sem, d0, d1, d2, d3, d4, d5, d6, d7, d8]) rfl ?_
        exact ⟨⟨_, rfl⟩, FIN.out⟩
    · go_enter Try.func12, Try.ntmps12
      go_wp2_with fail
      refine bodyPost_ret (v := .tuple #[.agg #[.int .i64 0, .int .i64 0, .int .i64 0, .int .i64 0, .int .i64 0, .slice none 0 0, .int .i64 0, .int .i64 0, .slice none 0 0], .slice none 0 0, .bool true]) (by simp [results, Try.results12, go_sem]) rfl ?_
      exact ⟨⟨_, rfl⟩, .of HH.out (by (repeat' (first | (with_reducible exact Below.refl _ _) | (with_reducible assumption) | (with_reducible apply Below.setCell) | (with_reducible apply Below.alloc) | (with_reducible apply Below.drew) | (with_reducible apply below_drewN) | (with_reducible refine Below.trans ?_ (Below.mono (by assumption) ?_)) | omega | (simp; done) | (simp; omega))))⟩
end Go.Proofs.Ytiecailfndlgoaa

/- Shapers: ShaperNext's walk. -/
namespace Go.Proofs.Ytiecailfndlgoaa
open Go.RowKit Go.Sort
set_option linter.unusedVariables false
/-- ahead of Next nothing goes. -/
theorem BM.when_none {p r u m l : Int} {s : BM.St} {L : List (Int × Int)} {t n : Int} (hr : rightB p r u m l = true) (hs : BM.Ok u m s) (hl : 0 < L.length) (ht : BM.IsWhen p r u m s s.1 L[0].2 t) (hn : BM.askB s n = true) (hlt : n < t) {k : Nat} {s' : BM.St} (hg : BM.Goes p r u m l (BM.step p r u m l s n 0).1 n L k s') : k = 0 := by
  rcases Nat.eq_zero_or_pos k with h0 | h0
  · exact h0
  · exfalso
    have hst := hg.all 0 hl h0
    have hb2 := rightB_iff hr
    obtain ⟨n0, n1⟩ := of_decide_eq_true hn
    have nofit : BM.fitB p r u m l s n 0 = false := by
      unfold BM.fitB BM.sizeB
      rw [decide_eq_false (by omega : ¬ (l ≤ 0 ∧ 0 ≤ m))]
      rfl
    have e1 : (BM.step p r u m l s n 0).1 = (n, BM.lev0 r u s n, BM.lev1 p m s n) := by unfold BM.step; rw [if_pos hn, if_neg (by rw [nofit]; simp)]
    have a0 : 0 ≤ BM.lev0 r u s n ∧ BM.lev0 r u s n ≤ u := BM.later_bd (by omega)
    have a1 : 0 ≤ BM.lev1 p m s n ∧ BM.lev1 p m s n ≤ m := BM.later_bd (by omega)
    rw [BM.atK_zero, e1] at hst
    have hask2 : BM.askB (n, BM.lev0 r u s n, BM.lev1 p m s n) n = true := decide_eq_true ⟨Int.le_refl _, n1⟩
    have l0 : BM.lev0 r u (n, BM.lev0 r u s n, BM.lev1 p m s n) n = BM.lev0 r u s n := by
      show BM.later (BM.lev0 r u s n) u r (n - n) = _
      rw [show n - n = 0 by omega, BM.later_zero a0.1 a0.2]
    have l1 : BM.lev1 p m (n, BM.lev0 r u s n, BM.lev1 p m s n) n = BM.lev1 p m s n := by
      show BM.later (BM.lev1 p m s n) m p (n - n) = _
      rw [show n - n = 0 by omega, BM.later_zero a1.1 a1.2]
    have fit : BM.fitB p r u m l (n, BM.lev0 r u s n, BM.lev1 p m s n) n L[0].2 = false := by
      unfold BM.fitB
      rw [l0, l1, decide_eq_false (ht.2.2.2 n n0 hlt), Bool.and_false]
    unfold BM.step at hst
    rw [if_pos hask2, if_neg (by rw [fit]; simp)] at hst
    cases hst
/-- a shaper beside no lists. -/
theorem K2.of {h g b : Nat} {v : Value} {p r u m l : Int} {s : BM.St} {L : List (Int × Int)} {B : Nat} {w W : World} (hS : ShAt W h g b v p r u m l s 1000000000 L) (h1 : ∀ j, ShBlk h g b v j → B ≤ j) (hb : Below B w W) (hs : B ≤ W.heap.size) : K2 B w h p r u m l s L (.slice none 0 0) [] (.slice none 0 0) [] W :=
  ⟨⟨g, b, v, hS, h1, (fun q e => by cases e), (fun q e => by cases e)⟩, OwnL.nil _ _ _, OwnL.nil _ _ _, (fun q e => by cases e), hb, hs⟩
section
variable {B : Nat} {w : World} {h : Nat} {p r u m l : Int} {s : BM.St} {L : List (Int × Int)} {cv : Value} {C : List (Int × Int)} {gv : Value} {G : List (Int × Int)} {W W' : World}
theorem K2.does (H : K2 B w h p r u m l s L cv C gv G W) (k a z : Int) : Calls Try.prog 12 #[.pointer (some ⟨h, 0, none⟩), gS 0 0 0 0 0 none 0 0 0 0 none 0 0, .agg #[.int .i64 k, .int .i64 a, .int .i64 z]] W fun e W' => (∃ v, e = .returned v) ∧ ∃ s' L', K2 B w h p r u m l s' L' cv C gv G W' := by
  obtain ⟨g, b, v, hS, h1, h2, h3⟩ := H.sh
  refine (doesZ hS k a z).mono ?_
  rintro e W' ⟨he, v', s', L', hS', hs, hn⟩
  exact ⟨he, s', L', H.turn h1 h2 h3 hS' hs hn⟩
theorem K2.copy (H : K2 B w h p r u m l s L cv C gv G W) : Calls Try.prog 21 #[.pointer (some ⟨h, 0, none⟩)] W fun e W' => ∃ h', e = .returned (.pointer (some ⟨h', 0, none⟩)) ∧ K2 W.heap.size W h' p r u m l s L (.slice none 0 0) [] (.slice none 0 0) [] W' := by
  obtain ⟨g, b, v, hS, h1, h2, h3⟩ := H.sh
  refine (shCopy_any hS).mono ?_
  rintro e W' ⟨h', g', b', v', rfl, hS', hge, hb⟩
  exact ⟨h', rfl, K2.of hS' hge hb hb.size⟩
/-- Next, where something waits. -/
theorem K2.nextW (H : K2 B w h p r u m l s L cv C gv G W) (hl : 0 < L.length) : ∃ t, BM.IsWhen p r u m s s.1 L[0].2 t ∧ Calls Try.prog 19 #[.pointer (some ⟨h, 0, none⟩)] W fun e W' => e = .returned (.tuple #[.int .i64 t, .bool true]) ∧ Below W.heap.size W W' := by
  obtain ⟨hr, hok, hsz, _, _⟩ := H.wf
  obtain ⟨t, ht⟩ := BM.when_exists hr hok (Int.le_refl _) (decide_eq_true (hsz L[0] (List.getElem_mem hl)))
  exact ⟨t, ht, H.next1 hl ht⟩
end
theorem Lie.actR {w : World} {B : Nat} {A : Option Addr} {l : List (Int × Int × Int)} (h : Lie actV 3 w B A l) (i : Nat) (hi : i < l.length) :
    ∃ ad, A = some ad ∧ ad.block < B ∧ w.cell? (ad.add (i * 3)) = some (.int .i64 l[i].1) ∧ w.cell? ⟨(ad.add (i * 3)).block, (ad.add (i * 3)).off + 1, none⟩ = some (.int .i64 l[i].2.1) ∧ w.cell? ⟨(ad.add (i * 3)).block, (ad.add (i * 3)).off + 2, none⟩ = some (.int .i64 l[i].2.2) := by
  obtain ⟨ad, e, hB, hc⟩ := h (by omega)
  have hx : l[i]? = some l[i] := List.getElem?_eq_getElem hi
  refine ⟨ad, e, hB, hc i _ hx 0 _ rfl, ?_, ?_⟩
  · have := hc i _ hx 1 _ rfl
    rw [← add_of_add] at this
    exact this
  · have := hc i _ hx 2 _ rfl
    rw [← add_of_add] at this
    exact this
set_option maxRecDepth 100000 in
set_option maxHeartbeats 8000000 in
theorem next13_walk (p r u m l : Int) (A : Option Addr) (L : List (Int × Int × Int)) (ca : Nat) (now : Int) (hL : L.length ≤ maxLen) (hn0 : -9223372036854775808 ≤ now) (hn1 : now ≤ 9223372036854775807) (w : World) (lL : Lie actV 3 w w.heap.size A L) :
    Calls Try.prog 5 #[.agg #[.int .i64 p, .int .i64 r, .int .i64 u, .int .i64 m, .int .i64 l], .slice A L.length ca, .int .i64 now] w fun e w' => e = .returned (.bool true) ∧ Below w.heap.size w w' := by
  have cK := hidd (fun W => known13_any W)
  have HL := hidd lL
  unfold maxLen at hL
  clear lL hn0 hn1
  by_cases h40 : (40 : Int) < (L.length : Int)
  · generalize hNL : L.length = N at *
    clear HL hNL
    go_enter Try.func5, Try.ntmps5
    go_wp2_with fail
    refine (cK.out _).mono ?_
    rintro e w2 ⟨rfl, hb2⟩
    go_wp2_with fail
    go_ret
    exact ⟨rfl, below_step (below_new (Below.refl _ _) _) hb2⟩
  cases hR : newB p r u m l 1000000000
  · have cN := hidd (fun W => shNew_no p r u m l 1000000000 hR W)
    generalize hNL : L.length = N at *
    clear HL hNL hR
    go_enter Try.func5, Try.ntmps5
    go_wp2_with fail
    refine (cN.out _).mono ?_
    rintro e w1 ⟨rfl, hb1⟩
    go_wp2_with fail
    refine (cK.out _).mono ?_
    rintro e w2 ⟨rfl, hb2⟩
    go_wp2_with fail
    go_ret
    exact ⟨rfl, below_step (below_step (below_new (Below.refl _ _) _) hb1) hb2⟩
  have cN := hidd (fun W => shNew_yes p r u m l 1000000000 hR W)
  clear hR
  obtain ⟨W0, hW0⟩ : ∃ W0 : World, w.alloc (.cells #[.int .i64 p, .int .i64 r, .int .i64 u, .int .i64 m, .int .i64 l] 23) = W0 := ⟨_, rfl⟩
  have HW0 := hidd hW0
  have B0 : Hid (Below w.heap.size w W0) := hidd (by rw [← hW0]; (repeat' (first | (with_reducible exact Below.refl _ _) | (with_reducible assumption) | (with_reducible apply Below.setCell) | (with_reducible apply Below.alloc) | (with_reducible apply Below.drew) | (with_reducible apply below_drewN) | (with_reducible refine Below.trans ?_ (Below.mono (by assumption) ?_)) | omega | (simp; done) | (simp; omega))))
  have LW := hidd (HL.out.below B0.out)
  clear hW0
  go_enter Try.func5, Try.ntmps5
  go_wp2_with fail
  rw [HW0.out]
  refine (cN.out _).mono ?_
  rintro e w1 ⟨h, g, b, rfl, h1, h2, h3, hS, hb1⟩
  have K0 := hidd (K2.new (w := W0) hb1 hb1.size hS h1 h2 h3)
  clear hb1 hS h1 h2 h3 cN
  go_wp2_with fail
  go_loopg [9] (L.length + 1) (fun gk s9 wr => ∃ (i : Nat) (s : BM.St) (Q : List (Int × Int)), i ≤ L.length ∧ i + gk = L.length + 1 ∧ s9 = .int .i64 (i : Int) ∧ K2 W0.heap.size W0 h p r u m l s Q (.slice none 0 0) [] (.slice none 0 0) [] wr)
  case atStart => exact ⟨0, (0, u, m), [], by omega, by omega, rfl, K0.out⟩
  case round =>
    clear K0
    obtain ⟨i, s, Q, hi, hk, rfl, hK⟩ := hrel
    have HK := hidd hk
    have KK := hidd hK
    clear hk hK
    by_cases hlt : i < L.length
    · have z1 : (i : Int) < (L.length : Int) := by omega
      have z0 : (0 : Int) ≤ (i : Int) := by omega
      obtain ⟨ad, rfl, hadb, x0, x1, x2⟩ := (LW.out.keep KK.out.bel).actR i hlt
      have cD := hidd (KK.out.does L[i].1 L[i].2.1 L[i].2.2)
      unfold gS at cD
      generalize L[i].1 = kind at *
      generalize L[i].2.1 = a at *
      generalize L[i].2.2 = z at *
      generalize hNL : L.length = N at *
      have HNL := hidd hNL
      clear hNL
      go_wp2_with fail
      refine cD.out.mono ?_
      rintro e w2 ⟨⟨v, rfl⟩, s', Q', hK2⟩
      have K2' := hidd hK2
      clear x0 x1 x2 cD hK2
      go_wp2_with fail
      have hk := HK.out
      have hN := HNL.out
      subst hN
      go_roundg (gk - 1)
      case measure => omega
      case rel => exact ⟨i + 1, s', Q', by omega, by omega, by go_num, K2'.out⟩
    · have z1 : ¬ (i : Int) < (L.length : Int) := by omega
      clear HL LW HK h40
      generalize hNL : L.length = N at *
      clear hNL
      by_cases hQ : Q = []
      · subst hQ
        have cN0 := hidd KK.out.next0
        have cB := hidd KK.out.bytes
        have HB := hidd (B0.out.trans (KK.out.bel.mono B0.out.size))
        have eB : sumB ([] : List (Int × Int)) = 0 := rfl
        rw [eB] at cB
        clear KK
        go_wp2_with fail
        refine cN0.out.mono ?_
        rintro e w2 ⟨rfl, rfl⟩
        go_wp2_with fail
        refine cB.out.mono ?_
        rintro e w2 ⟨rfl, rfl⟩
        go_wp2_with fail
        refine (cK.out _).mono ?_
        rintro e w3 ⟨rfl, hb3⟩
        go_wp2_with fail
        go_ret
        exact ⟨rfl, below_step HB.out hb3⟩
      · have hl0 : 0 < Q.length := by
          rcases Nat.eq_zero_or_pos Q.length with q | q
          · exact absurd (List.eq_nil_of_length_eq_zero q) hQ
          · exact q
        obtain ⟨hr, hok, hsz, hsm, hsl⟩ := KK.out.wf
        obtain ⟨t, ht, cN1'⟩ := KK.out.nextW hl0
        have cN1 := hidd cN1'
        have WHEN := hidd ht
        have RT := hidd hr
        have OK := hidd hok
        have SZ := hidd (hsz Q[0] (List.getElem_mem hl0))
        obtain ⟨Sm, hSm⟩ : ∃ S, sumB Q = S := ⟨_, rfl⟩
        have zs : (0 : Int) < Sm := by rw [← hSm]; omega
        have HSm := hidd hSm
        clear hr hok hsz hsm hsl ht cN1' hSm
        go_wp2_with fail
        refine cN1.out.mono ?_
        rintro e w2 ⟨rfl, hb2⟩
        have K2a := hidd (KK.out.below hb2)
        have cB := hidd K2a.out.bytes
        rw [HSm.out] at cB
        clear hb2
        go_wp2_with fail
        refine cB.out.mono ?_
        rintro e w3 ⟨rfl, rfl⟩
        by_cases ht2 : (2147483647 : Int) < t
        · go_wp2_with fail
          refine (cK.out _).mono ?_
          rintro e w3 ⟨rfl, hb3⟩
          go_wp2_with fail
          go_ret
          exact ⟨rfl, below_step (B0.out.trans (K2a.out.bel.mono B0.out.size)) hb3⟩
        · have cC := hidd K2a.out.copy
          have TB := hidd (show s.1 ≤ t ∧ t ≤ 2147483647 from ⟨WHEN.out.1, by omega⟩)
          go_wp2_with fail
          refine cC.out.mono ?_
          rintro e w4 ⟨h', rfl, hK4⟩
          have FINISH : Hid (∀ Y, Below w2.heap.size w2 Y → Calls Try.prog 16 #[.pointer (some ⟨h, 0, none⟩), .int .i64 t] Y fun e Y' => ∃ A2 k c2, e = .returned (.tuple #[.slice A2 k c2, .int .i64 0]) ∧ 0 < k ∧ Below w.heap.size w Y') := hidd (fun Y bY => by
            have KY := K2a.out.below bY
            refine (KY.go t (decide_eq_true TB.out)).mono ?_
            rintro e Y' ⟨k, s', A2, c2, rfl, hg, hKY, _, _⟩
            exact ⟨A2, k, c2, rfl, BM.when_goes RT.out OK.out hl0 SZ.out WHEN.out TB.out.2 hg, B0.out.trans (hKY.bel.mono B0.out.size)⟩)
          have CGO : Hid (Calls Try.prog 16 #[.pointer (some ⟨h', 0, none⟩), .int .i64 now] w4 fun e Y' => ∃ A2 k c2 no, e = .returned (.tuple #[.slice A2 (k : Nat) c2, .int .i64 no]) ∧ (now < t → no = 0 → k = 0) ∧ Below w2.heap.size w2 Y') := hidd (by
            cases hask : BM.askB s now
            · refine (hK4.go_no now hask).mono ?_
              rintro e Y' ⟨rfl, hKY⟩
              exact ⟨none, 0, 0, 2, rfl, fun _ _ => rfl, hKY.bel⟩
            · refine (hK4.go now hask).mono ?_
              rintro e Y' ⟨k, s', A2, c2, rfl, hg, hKY, _, _⟩
              exact ⟨A2, k, c2, 0, rfl, fun hlt2 _ => BM.when_none RT.out OK.out hl0 WHEN.out hask hlt2 hg, hKY.bel⟩)
          clear hK4 KK WHEN RT OK SZ HSm TB K2a
          go_wp2_with fail
          refine CGO.out.mono ?_
          rintro e w5 ⟨A5, k5, c5, no5, rfl, himp, hb5⟩
          have cF := hidd (fun d os => FINISH.out (grow (redrawn w5 d) os))
          have HIMP := hidd himp
          have HB5 := hidd hb5
          clear himp hb5 cF
          by_cases hnt : now < t
          · by_cases hno : no5 = 0
            · subst hno
              have hk5 := HIMP.out hnt rfl
              subst hk5
              go_wp2_with fail
              refine (FINISH.out _ (by first | exact HB5.out | exact Below.drew HB5.out | exact below_drewN HB5.out _)).mono ?_
              rintro e w6 ⟨A6, k6, c6, rfl, hk6, hb6⟩
              have z6 : (0 : Int) < (k6 : Int) := by omega
              have HB6 := hidd hb6
              clear hb6 hk6
              go_wp2_with fail
              refine (cK.out _).mono ?_
              rintro e w7 ⟨rfl, hb7⟩
              have HB7 := hidd (below_step HB6.out hb7)
              clear hb7
              go_wp2_with fail
              go_ret
              exact ⟨rfl, HB7.out⟩
            · go_wp2_with fail
              refine (FINISH.out _ (by first | exact HB5.out | exact Below.drew HB5.out | exact below_drewN HB5.out _)).mono ?_
              rintro e w6 ⟨A6, k6, c6, rfl, hk6, hb6⟩
              have z6 : (0 : Int) < (k6 : Int) := by omega
              have HB6 := hidd hb6
              clear hb6 hk6
              go_wp2_with fail
              refine (cK.out _).mono ?_
              rintro e w7 ⟨rfl, hb7⟩
              have HB7 := hidd (below_step HB6.out hb7)
              clear hb7
              go_wp2_with fail
              go_ret
              exact ⟨rfl, HB7.out⟩
          · go_wp2_with fail
            refine (FINISH.out _ (by first | exact HB5.out | exact Below.drew HB5.out | exact below_drewN HB5.out _)).mono ?_
            rintro e w6 ⟨A6, k6, c6, rfl, hk6, hb6⟩
            have z6 : (0 : Int) < (k6 : Int) := by omega
            have HB6 := hidd hb6
            clear hb6 hk6
            go_wp2_with fail
            refine (cK.out _).mono ?_
            rintro e w7 ⟨rfl, hb7⟩
            have HB7 := hidd (below_step HB6.out hb7)
            clear hb7
            go_wp2_with fail
            go_ret
            exact ⟨rfl, HB7.out⟩
end Go.Proofs.Ytiecailfndlgoaa

/- Whatever the spec, the calls and the tick, ShaperNext answers true: nothing goes ahead of Next, and at Next something does; no conditions. -/
namespace Go.Proofs.Ytiecailfndlgoaa.shaperNext
open Go.ChangeShapes Go.WideShapes Go.ChangeAt Go.RowKit Go.Joins Go.Proofs.Ytiecailfndlgoaa.RowK
set_option linter.unusedVariables false
set_option maxRecDepth 100000 in
theorem lifted (os : Os) (started : os.Started) (H : Type) (enc : TypeId × Value → H) :
    ReturnsInHanded {} Try.checked os 5 .any (Rows.shaperNextSpec.pre6 enc Try.prog Try.f5 Rows.shaperNextRow.domain false) (Rows.shaperNextSpec.post enc Try.prog Try.f5 false true false false) := by
  refine returnsInHanded_of_change (C := Try.checked) own started (by kernel_rfl) Try.func5
    (ChangeSpec.witness6 (enc := enc) (C := Try.checked) false ⟨#[], #[.agg #[.int .i64 0, .int .i64 0, .int .i64 0, .int .i64 0, .int .i64 0], .slice none 0 0, .int .i64 0], []⟩ 8 (by kernel_rfl) (by kernel_rfl) (by kernel_rfl) (by kernel_rfl)) ?_
  intro W base args ds gs before hval0 hW hcnd _
  have hval : ∀ (j : Nat) t v, Try.f5.params[j]? = some t → args[j]? = some v → Value.okWide Try.prog W .any base t v := hval0
  have hW' := hW
  obtain ⟨p, q, hA0, hV, rfl, hfz, hnd⟩ := hW
  have hA : DataW.TrodAll enc Try.prog W 0 (fun _ => true) true Try.f5.params.toList args.toList ds p := hA0
  rw [Try.params5] at hA hval
  obtain ⟨v0, vs0, d0, ds0, p0, q0, hargs, rfl, rfl, h0, r0⟩ := trodAll_cons hA
  obtain ⟨v1, vs1, d1, ds1, p1, q1, rfl, rfl, rfl, h1, r1⟩ := trodAll_cons r0
  obtain ⟨v2, vs2, d2, ds2, p2, q2, rfl, rfl, rfl, h2, r2⟩ := trodAll_cons r1
  obtain ⟨rfl, rfl, rfl⟩ := trodAll_nil r2
  obtain rfl : args = #[v0, v1, v2] := by cases args; simp_all
  obtain ⟨rfl, rfl⟩ := trodVars_none hV
  obtain ⟨a0, b0, c0, u0, g0, rfl⟩ := open_ints5 Try.underlying23 (by kernel_rfl) cellsSpec Try.underlying2 Try.underlying2 Try.underlying2 Try.underlying2 Try.underlying2 (hval 0 23 v0 rfl rfl) h0
  obtain ⟨A1, L1, c1, rfl, m1, l1⟩ : ∃ (A : Option Addr) (L : List (Int × Int × Int)) (c : Nat), v1 = .slice A L.length c ∧ L.length ≤ maxLen ∧ Lie actV 3 W W.heap.size A L := by
    obtain ⟨ptr, len, cap, rfl⟩ := okWide_slice Try.underlying24 (hval 1 24 v1 rfl rfl)
    obtain ⟨fuel, hf⟩ := h1
    obtain ⟨A, L, c, e, hh⟩ := open_acts hf
    exact ⟨A, L, c, by simpa [Value.cells] using e, hh⟩
  obtain ⟨a2, rfl, e2, f2, w2⟩ := open_int Try.underlying2 (hval 2 2 v2 rfl rfl) h2
  refine (Ytiecailfndlgoaa.next13_walk a0 b0 c0 u0 g0 A1 L1 c1 a2 m1 (i64_bounds w2).1 (i64_bounds w2).2 W l1).mono fun e W' ⟨he, hg⟩ => ?_
  subst he
  exact ⟨_, rfl, post_law laidOut (by rw [Try.params5]; intro t ht; simp at ht; rcases ht with rfl | rfl | rfl <;> exact ⟨by kernel_rfl, of_decide_eq_true (by kernel_rfl)⟩) hW' hA0 rfl (fun _ _ _ => (trodAll_cons_mk (shut_bool Try.underlying4 _) trodAll_mk0)) (fun _ => rfl) hg (ok_one (by kernel_rfl) rfl (okWide_bool_mk Try.underlying4 _))⟩

theorem over : Rows.shaperNextRow.holds Try.pinned (OpenSpec.ofChange Rows.shaperNextSpec) :=
  OpenClaim.holds_of_wide 5 Try.f5 rfl rfl rfl rfl rfl rfl rfl ⟨rfl, rfl, rfl, rfl, rfl⟩ rfl rfl rfl rfl rfl (by kernel_rfl) Try.func5 (by kernel_rfl)
    (of_decide_eq_true (by kernel_rfl)) (by unfold Func.isWrapper; first | (rw [if_pos (by decide +kernel)]; kernel_rfl) | (rw [if_neg (by decide +kernel)]; exact ⟨rfl, rfl⟩))
    (fun os started H enc _ => lifted os started H enc)
end Go.Proofs.Ytiecailfndlgoaa.shaperNext
namespace Go.Proofs.Ytiecailfndlgoaa
/-- the given statement. -/
theorem shaperNext_proved : Rows.ShaperNextSaid := shaperNext.over
end Go.Proofs.Ytiecailfndlgoaa

