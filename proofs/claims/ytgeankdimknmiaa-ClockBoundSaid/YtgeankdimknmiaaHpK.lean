/- Heaps: Drop, Take, Least, Get. -/
import Derived.Test.YtgeankdimknmiaaHpJ
namespace Go.Proofs.Ytgeankdimknmiaa.Hp
set_option linter.unusedVariables false
open Go.RowKit Go.Maps Go.Sort Go.Proofs.Ytgeankdimknmiaa.Tp

/-- the least of what stands in a heap: the first one. -/
def headI (L : List It) : It := gI L 0
theorem least_no (w : World) : Calls Try.prog 37 #[.pointer none] w fun e w' => e = .returned (.tuple #[agI zI, .bool false]) ∧ Below w.heap.size w w' := by
  have c := hidd (fun W => len_no W)
  go_enter Try.func37, Try.ntmps37
  go_wp2_with fail
  refine (c.out _).mono ?_
  rintro e w1 ⟨rfl, rfl⟩
  go_wp2_with fail
  exact bodyPost_ret (v := .tuple #[agI zI, .bool false]) (by simp [results, Try.results37, go_sem, agI, zI, iD, kN, kD, tN]) rfl ⟨rfl, by (repeat' (first | (with_reducible exact Below.refl _ _) | (with_reducible assumption) | (with_reducible apply Below.setCell) | (with_reducible apply Below.alloc) | (with_reducible apply Below.drew) | (with_reducible apply below_drewN) | (with_reducible refine Below.trans ?_ (Below.mono (by assumption) ?_)) | omega | (simp; done) | (simp; omega)))⟩
theorem least_zero (b : Nat) (w : World) (hc : w.cell? ⟨b, 0, none⟩ = some (.map none)) : Calls Try.prog 37 #[.pointer (some ⟨b, 0, none⟩)] w fun e w' => e = .returned (.tuple #[agI zI, .bool false]) ∧ Below w.heap.size w w' := by
  have hl := block_lt_of_cell hc
  have c := hidd (fun W h => len_zero b W h)
  go_enter Try.func37, Try.ntmps37
  go_wp2_with fail
  refine (c.out _ (by simp [go_sem, hc, hl])).mono ?_
  rintro e w1 ⟨rfl, rfl⟩
  go_wp2_with fail
  exact bodyPost_ret (v := .tuple #[agI zI, .bool false]) (by simp [results, Try.results37, go_sem, agI, zI, iD, kN, kD, tN]) rfl ⟨rfl, by (repeat' (first | (with_reducible exact Below.refl _ _) | (with_reducible assumption) | (with_reducible apply Below.setCell) | (with_reducible apply Below.alloc) | (with_reducible apply Below.drew) | (with_reducible apply below_drewN) | (with_reducible refine Below.trans ?_ (Below.mono (by assumption) ?_)) | omega | (simp; done) | (simp; omega)))⟩
theorem least_nil {h mb : Nat} {v : Value} {T : Int} {D : DataW Unit} (w : World) (H : HpAt w h mb v [] T D) : Calls Try.prog 37 #[.pointer (some ⟨h, 0, none⟩)] w fun e w' => e = .returned (.tuple #[agI zI, .bool false]) ∧ Below w.heap.size w w' := by
  have c := hidd (fun W H => len_any (h := h) (mb := mb) (v := v) (L := []) (T := T) (D := D) W H)
  have HH := hidd (fun o => H.below (below_new (Below.refl _ _) o))
  clear H
  go_enter Try.func37, Try.ntmps37
  go_wp2_with fail
  refine (c.out _ (HH.out _)).mono ?_
  rintro e w1 ⟨rfl, rfl⟩
  go_wp2_with fail
  exact bodyPost_ret (v := .tuple #[agI zI, .bool false]) (by simp [results, Try.results37, go_sem, agI, zI, iD, kN, kD, tN]) rfl ⟨rfl, by (repeat' (first | (with_reducible exact Below.refl _ _) | (with_reducible assumption) | (with_reducible apply Below.setCell) | (with_reducible apply Below.alloc) | (with_reducible apply Below.drew) | (with_reducible apply below_drewN) | (with_reducible refine Below.trans ?_ (Below.mono (by assumption) ?_)) | omega | (simp; done) | (simp; omega)))⟩
theorem least_any {h mb : Nat} {v : Value} {L : List It} {T : Int} {D : DataW Unit} (w : World) (hn : 0 < L.length) (H : HpAt w h mb v L T D) : Calls Try.prog 37 #[.pointer (some ⟨h, 0, none⟩)] w fun e w' => e = .returned (.tuple #[agI (gI L 0), .bool true]) ∧ Below w.heap.size w w' := by
  have c := hidd (fun W H => len_any (h := h) (mb := mb) (v := v) (L := L) (T := T) (D := D) W H)
  have HH := hidd (fun o => H.below (below_new (Below.refl _ _) o))
  have hl := H.lt
  have hc1 := H.c1
  obtain ⟨g, k, hv, _, hg, hlk, hkm, hgf, _⟩ := OwnL.form H.own (by omega)
  have hown : OwnL itV 4 w 0 71 (.slice (some ⟨g, 0, none⟩) L.length k) L := by have := H.own; rw [hv] at this; exact this
  obtain ⟨i0, i1, i2, i3⟩ := OwnL.item hown hn
  rw [hv] at hc1
  simp only [Nat.zero_mul, Nat.zero_add] at i0 i1 i2 i3
  have z0 : ¬ (L.length : Int) = 0 := by omega
  have z1 : (0 : Int) < (L.length : Int) := by omega
  have HA : Hid (agI (gI L 0) = .agg #[.int .i64 (iD (gI L 0)), .int .i64 (kN (gI L 0)), .int .i64 (kD (gI L 0)), .int .i64 (tN (gI L 0))]) := rfl
  clear H hown
  generalize agI (gI L 0) = AG at *
  generalize iD (gI L 0) = y0 at *
  generalize kN (gI L 0) = y1 at *
  generalize kD (gI L 0) = y2 at *
  generalize tN (gI L 0) = y3 at *
  generalize hN : L.length = N at *
  clear hN
  go_enter Try.func37, Try.ntmps37
  go_wp2_with fail
  refine (c.out _ (HH.out _)).mono ?_
  rintro e w1 ⟨rfl, rfl⟩
  go_wp2_with fail
  exact bodyPost_ret (v := .tuple #[.agg #[.int .i64 y0, .int .i64 y1, .int .i64 y2, .int .i64 y3], .bool true]) (by simp [results, Try.results37, go_sem, *]) rfl ⟨by rw [HA.out], by (repeat' (first | (with_reducible exact Below.refl _ _) | (with_reducible assumption) | (with_reducible apply Below.setCell) | (with_reducible apply Below.alloc) | (with_reducible apply Below.drew) | (with_reducible apply below_drewN) | (with_reducible refine Below.trans ?_ (Below.mono (by assumption) ?_)) | omega | (simp; done) | (simp; omega)))⟩
set_option maxHeartbeats 2000000 in
theorem take_none (p : Value) (w : World) (hL : ∀ W, Below w.heap.size w W → Calls Try.prog 37 #[p] W fun e w' => e = .returned (.tuple #[agI zI, .bool false]) ∧ Below W.heap.size W w') :
    Calls Try.prog 23 #[p] w fun e w' => e = .returned (.tuple #[agI zI, .bool false]) ∧ Below w.heap.size w w' := by
  have c := hidd hL
  clear hL
  unfold agI zI iD kN kD tN at *
  go_enter Try.func23, Try.ntmps23
  go_wp2_with fail
  refine (c.out _ (below_new (Below.refl _ _) _)).mono ?_
  rintro e w1 ⟨rfl, hb⟩
  obtain ⟨bc, bf⟩ := bcell hb
  have hs := hb.size
  have hs2 : w.heap.size < w1.heap.size := by simp at hs; omega
  go_wp2_with fail
  exact bodyPost_ret (v := .tuple #[.agg #[.int .i64 0, .int .i64 0, .int .i64 0, .int .i64 0], .bool false]) (by simp [results, Try.results23, go_sem, *]) rfl ⟨rfl, by (repeat' (first | (with_reducible exact Below.refl _ _) | (with_reducible assumption) | (with_reducible apply Below.setCell) | (with_reducible apply Below.alloc) | (with_reducible apply Below.drew) | (with_reducible apply below_drewN) | (with_reducible refine Below.trans ?_ (Below.mono (by assumption) ?_)) | omega | (simp; done) | (simp; omega)))⟩
set_option maxHeartbeats 4000000 in
theorem take_any {h mb : Nat} {v : Value} {L : List It} {T : Int} {D : DataW Unit} (hn : 0 < L.length) (w : World) (H : Hp w h mb v L T D) :
    Calls Try.prog 23 #[.pointer (some ⟨h, 0, none⟩)] w fun e w' => e = .returned (.tuple #[agI (gI L 0), .bool true]) ∧ (∃ v' L' D', v'.ownBlock = v.ownBlock ∧ L'.Perm (gone L 0) ∧ Hp w' h mb v' L' T D') ∧ Sav (Blk h mb v) w w' := by
  have c := hidd (fun W H => least_any (h := h) (mb := mb) (v := v) (L := L) (T := T) (D := D) W hn H)
  have cR := hidd (fun W H => remove_any (h := h) (mb := mb) (v := v) (L := L) (T := T) (D := D) 0 hn W H)
  have HH := hidd (fun W (q : Below w.heap.size w W) => H.below q)
  have hbl := hidd (show ∀ j, Blk h mb v j → j < w.heap.size from fun j q => by
    rcases q with rfl | rfl | q
    · exact H.at_.lt
    · exact H.at_.mlt
    · exact H.at_.vlt j q)
  have HA : Hid (agI (gI L 0) = .agg #[.int .i64 (iD (gI L 0)), .int .i64 (kN (gI L 0)), .int .i64 (kD (gI L 0)), .int .i64 (tN (gI L 0))]) := rfl
  rw [HA.out] at c ⊢
  clear H
  generalize iD (gI L 0) = y0 at *
  generalize kN (gI L 0) = y1 at *
  generalize kD (gI L 0) = y2 at *
  generalize tN (gI L 0) = y3 at *
  generalize gone L 0 = G at *
  clear HA
  go_enter Try.func23, Try.ntmps23
  go_wp2_with fail
  refine (c.out _ (HH.out _ (below_new (Below.refl _ _) _)).at_).mono ?_
  rintro e w1 ⟨rfl, hb⟩
  obtain ⟨bc, bf⟩ := bcell hb
  have hs := hb.size
  have hs2 : w.heap.size < w1.heap.size := by simp at hs; omega
  have B1 := hidd (below_step (below_new (Below.refl w.heap.size w) _) hb)
  clear hb
  go_wp2_with fail
  refine (cR.out _ (HH.out _ (by have B := B1.out; (repeat' (first | (with_reducible exact Below.refl _ _) | (with_reducible assumption) | (with_reducible apply Below.setCell) | (with_reducible apply Below.alloc) | (with_reducible apply Below.drew) | (with_reducible apply below_drewN) | (with_reducible refine Below.trans ?_ (Below.mono (by assumption) ?_)) | omega | (simp; done) | (simp; omega)))))).mono ?_
  rintro e w2 ⟨rfl, ⟨v', L', D', hv', hp, hH⟩, hS⟩
  have ns : ∀ j, w.heap.size ≤ j → ¬ Blk h mb v j := fun j hj q => by have := hbl.out j q; omega
  have hs3 := hS.size
  have hs4 : w1.heap.size < w2.heap.size := by simp at hs3; omega
  have e0 := fun o => hS.cell (p := ⟨w.heap.size, o, none⟩) (by simp; omega) (ns _ (Nat.le_refl _))
  have e1 := fun o => hS.cell (p := ⟨w1.heap.size, o, none⟩) (by simp) (ns _ (by show w.heap.size ≤ w1.heap.size; omega))
  have f0 := fun o => World.frozen?_of_block (a := ⟨w.heap.size, o, none⟩) (hS.block w.heap.size (by simp; omega) (ns _ (Nat.le_refl _)))
  have HF := hidd hH
  have HP := hidd hp
  have HV := hidd hv'
  have HS : Hid (Sav (Blk h mb v) w w2) := hidd (Sav.tr (Sav.of (by have B := B1.out; (repeat' (first | (with_reducible exact Below.refl _ _) | (with_reducible assumption) | (with_reducible apply Below.setCell) | (with_reducible apply Below.alloc) | (with_reducible apply Below.drew) | (with_reducible apply below_drewN) | (with_reducible refine Below.trans ?_ (Below.mono (by assumption) ?_)) | omega | (simp; done) | (simp; omega))))) hS)
  clear hH hp hv' hS ns hs3 hs
  have q0 : w1.cell? ⟨w.heap.size, 0, none⟩ = some (.int .i64 0) := (bc _ _ (by simp)).trans (by simp [go_sem])
  have q1 : w1.cell? ⟨w.heap.size, 1, none⟩ = some (.int .i64 0) := (bc _ _ (by simp)).trans (by simp [go_sem])
  have q2 : w1.cell? ⟨w.heap.size, 2, none⟩ = some (.int .i64 0) := (bc _ _ (by simp)).trans (by simp [go_sem])
  have q3 : w1.cell? ⟨w.heap.size, 3, none⟩ = some (.int .i64 0) := (bc _ _ (by simp)).trans (by simp [go_sem])
  have qf : ∀ o, w1.frozen? ⟨w.heap.size, o, none⟩ = false := fun o => (bf _ _ (by simp)).trans (by simp [go_sem])
  have a0 := (e0 0).trans (show _ = some (Value.int .i64 0) by simp [go_sem, q0, hs2])
  have a1 := (e0 1).trans (show _ = some (Value.int .i64 0) by simp [go_sem, q1, hs2])
  have a2 := (e0 2).trans (show _ = some (Value.int .i64 0) by simp [go_sem, q2, hs2])
  have a3 := (e0 3).trans (show _ = some (Value.int .i64 0) by simp [go_sem, q3, hs2])
  have b0 := (e1 0).trans (show _ = some (Value.int .i64 y0) by simp [go_sem])
  have b1 := (e1 1).trans (show _ = some (Value.int .i64 y1) by simp [go_sem])
  have b2 := (e1 2).trans (show _ = some (Value.int .i64 y2) by simp [go_sem])
  have b3 := (e1 3).trans (show _ = some (Value.int .i64 y3) by simp [go_sem])
  have af : ∀ o, w2.frozen? ⟨w.heap.size, o, none⟩ = false := fun o => (f0 o).trans (by simp [go_sem, qf, hs2])
  have KP := hidd (fun W (hq : Below w.heap.size w2 W) => (⟨HF.out.keep (fun j hj hb => hq.block j (hbl.out j (by
    rcases hb with rfl | rfl | hb
    · exact .inl rfl
    · exact .inr (.inl rfl)
    · exact .inr (.inr (HV.out ▸ hb))))), ⟨hq.os.trans HS.out.os, hq.tape.trans HS.out.tape, hq.output.trans HS.out.output, Nat.le_trans HS.out.size hq.size, fun j hj hn => (hq.block j hj).trans (HS.out.block j hj hn)⟩⟩ : Hp W h mb v' L' T D' ∧ Sav (Blk h mb v) w W))
  clear e0 e1 f0 q0 q1 q2 q3 qf bc bf
  go_wp2_with fail
  have BW : Below w.heap.size w2 ((((w2.setCell ⟨w.heap.size, 0, none⟩ (.int .i64 y0)).setCell ⟨w.heap.size, 1, none⟩ (.int .i64 y1)).setCell ⟨w.heap.size, 2, none⟩ (.int .i64 y2)).setCell ⟨w.heap.size, 3, none⟩ (.int .i64 y3)) := by (repeat' (first | (with_reducible exact Below.refl _ _) | (with_reducible assumption) | (with_reducible apply Below.setCell) | (with_reducible apply Below.alloc) | (with_reducible apply Below.drew) | (with_reducible apply below_drewN) | (with_reducible refine Below.trans ?_ (Below.mono (by assumption) ?_)) | omega | (simp; done) | (simp; omega)))
  exact bodyPost_ret (v := .tuple #[.agg #[.int .i64 y0, .int .i64 y1, .int .i64 y2, .int .i64 y3], .bool true]) (by simp [results, Try.results23, go_sem, *]) rfl ⟨rfl, ⟨v', L', D', HV.out, HP.out, (KP.out _ BW).1⟩, (KP.out _ BW).2⟩
end Go.Proofs.Ytgeankdimknmiaa.Hp
