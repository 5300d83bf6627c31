/- Texts that the claim hangs on, in one. -/
import Derived.Test.YtgeankdimknmiaaMgVcA
/- Clocks: is there room. -/
namespace Go.Proofs.Ytgeankdimknmiaa.Hp
set_option linter.unusedVariables false
open Go.RowKit Go.Maps Go.Sort Go.Proofs.Ytgeankdimknmiaa.Tp
def CR (tb h pb fb bx : Nat) (i fl z : Int) (b : Nat) (room bytes : Int) (Y : World) : Prop := Y.cell? ⟨tb, 0, none⟩ = some (.pointer (some ⟨h, 0, none⟩)) ∧ Y.cell? ⟨tb, 1, none⟩ = some (.map (some pb)) ∧ Y.cell? ⟨tb, 2, none⟩ = some (.map (some fb)) ∧
  Y.cell? ⟨bx, 0, none⟩ = some (.int .i64 i) ∧ Y.cell? ⟨bx, 1, none⟩ = some (.int .i64 fl) ∧ Y.cell? ⟨bx, 2, none⟩ = some (.int .i64 z) ∧
  (Instr.lookup 55 (.map (some fb)) (.int .i64 fl) true).run Try.prog Y = .ok (.tuple #[.pointer (some ⟨b, 0, none⟩), .bool true]) Y ∧
  (Instr.lookup 54 (.map (some pb)) (.int .i64 i) true).run Try.prog Y = .ok (.tuple #[.agg #[.int .i64 0, .int .i64 0, .int .i64 0], .bool false]) Y ∧
  Y.cell? ⟨b, 2, none⟩ = some (.int .i64 room) ∧ Y.cell? ⟨b, 3, none⟩ = some (.int .i64 bytes)
def CRN (tb fb bx : Nat) (fl : Int) (Y : World) : Prop := Y.cell? ⟨tb, 2, none⟩ = some (.map (some fb)) ∧ Y.cell? ⟨bx, 1, none⟩ = some (.int .i64 fl) ∧
  (Instr.lookup 55 (.map (some fb)) (.int .i64 fl) true).run Try.prog Y = .ok (.tuple #[.pointer none, .bool false]) Y
section
variable {tb h pb fb : Nat} {R : Nat → Prop} {w : World} {q : Nat} {F : List Fw} {M : List It} {T : Int} {np : Nat} {X : Int → Int × Int}
set_option maxRecDepth 100000 in
set_option maxHeartbeats 4000000 in
theorem room_ok (H : QuA tb h pb fb R w q F M T np X) {i fl z : Int} (hp : packB i fl z = true) {f : Fw} (hf : f ∈ F) (hid : f.id = fl) (hi : ¬ ∃ y ∈ M, iD y = i) (hr : z ≤ f.room - f.bytes) (hm : M.length < 50000) :
    Calls Try.prog 20 #[.pointer (some ⟨tb, 0, none⟩), .agg #[.int .i64 i, .int .i64 fl, .int .i64 z]] w fun e w' => e = .returned (.int .i64 0) ∧ Below w.heap.size w w' := by
  obtain ⟨⟨i0, i1⟩, ⟨l0, l1⟩, z0, z1⟩ := of_decide_eq_true hp
  obtain ⟨-, -, ⟨m0, m1⟩, ⟨t0, t1⟩⟩ := H.ok f hf
  obtain ⟨tn1, tn2, tn3⟩ := H.tn
  have HA := hidd H
  obtain ⟨W1, hW1⟩ : ∃ W1, w.alloc (.cells #[.int .i64 i, .int .i64 fl, .int .i64 z] 31) = W1 := ⟨_, rfl⟩
  have HW1 := hidd hW1
  have B1 := hidd (show Below w.heap.size w W1 from by rw [← hW1]; exact below_new (Below.refl _ _) _)
  have ROW := hidd (show W1.heap[w.heap.size]? = some (.cells #[.int .i64 i, .int .i64 fl, .int .i64 z] 31 (0, 0)) from by rw [← hW1]; exact heap_alloc_new w _)
  have SZ := hidd (show w.heap.size < W1.heap.size from by rw [← hW1]; simp)
  have wr1 : IntKind.i64.wrap (f.room - f.bytes) = f.room - f.bytes := by rw [IntKind.wrap_i64]; omega
  have hfid : 0 ≤ f.id ∧ f.id ≤ 2147483647 := (H.ok f hf).2.1
  have NI := hidd (show -9223372036854775808 ≤ i ∧ i ≤ 9223372036854775807 ∧ -9223372036854775808 ≤ fl ∧ fl ≤ 9223372036854775807 from by omega)
  have HF := hidd hf
  have HID := hidd hid
  have HI := hidd hi
  have KS : Hid (∀ Y, Below W1.heap.size W1 Y → CR tb h pb fb w.heap.size i fl z f.blk f.room f.bytes Y) := hidd (fun Y hb => by
    have HY := HA.out.below (B1.out.trans (hb.mono B1.out.size))
    obtain ⟨-, y1, y2, y3⟩ := HY.qc
    have hrow := (hb.block _ SZ.out).trans ROW.out
    have hfr := HY.fs f HF.out
    unfold fwObj at hfr
    have e1 := (HY.fl.look (x := fl) NI.out.2.2.1 NI.out.2.2.2).2
    rw [← HID.out, blkOf_in HY.nd HF.out, HID.out] at e1
    have e2 := (HY.pk.look (x := i) NI.out.1 NI.out.2.1).2
    rw [show pkOf M X i = none from by unfold pkOf; rw [if_neg HI.out]] at e2
    exact ⟨y1, y2, y3, by simp [World.cell?, hrow], by simp [World.cell?, hrow], by simp [World.cell?, hrow], e1, e2, by simp [World.cell?, hfr], by simp [World.cell?, hfr]⟩)
  have cL := hidd (fun Y (hb : Below W1.heap.size W1 Y) => lenR (HA.out.below (B1.out.trans (hb.mono B1.out.size))).hr)
  have zr : ¬ f.room - f.bytes < z := by omega
  have zm : ¬ (50000 : Int) ≤ (M.length : Int) := by omega
  generalize f.blk = b at *
  generalize hroom : f.room = room at *
  generalize hbytes : f.bytes = bytes at *
  generalize (M.length : Int) = ml at *
  clear hp i0 i1 l0 l1 z0 z1 m0 m1 t0 t1 tn1 tn2 tn3 hfid hid hi hr hm H hW1 hf hroom hbytes
  go_enter Try.func20, Try.ntmps20
  go_wp2_with fail
  rw [HW1.out]
  refine wp_region_held_drew (S := (fun Y => CR tb h pb fb w.heap.size i fl z b room bytes Y)) (by kernel_rfl) (KS.out _ (Below.drew (Below.refl _ _))) (fun hH => ?_)
  refine wpAnyH_take (i := 0) (v := ?va0_1) (by (conv => lhs; simp only [List.getElem?_toArray, List.getElem?_cons_succ, List.getElem?_cons_zero])) (by kernel_rfl) (by kernel_rfl) (by kernel_rfl) ?hQ (Or.inl ⟨by rfl, ?hya0_1⟩) hH ?resta0_1
  case hQ => exact fun _ _ _ h => h
  case hya0_1 => (intro Y hY; obtain ⟨y0, y1, y2, y3, y4, y5, y6, y7, y8, y9⟩ := hY; go_simp; try (with_reducible rfl))
  try simp only [Act.put, List.setIfInBounds_toArray, List.set_cons_zero, List.set_cons_succ]
  refine wpAnyH_take (i := 1) (v := ?va1_2) (by (conv => lhs; simp only [List.getElem?_toArray, List.getElem?_cons_succ, List.getElem?_cons_zero])) (by kernel_rfl) (by kernel_rfl) (by kernel_rfl) ?hQ (Or.inl ⟨by rfl, ?hya1_2⟩) hH ?resta1_2
  case hQ => exact fun _ _ _ h => h
  case hya1_2 => (intro Y hY; obtain ⟨y0, y1, y2, y3, y4, y5, y6, y7, y8, y9⟩ := hY; go_simp; try (with_reducible rfl))
  try simp only [Act.put, List.setIfInBounds_toArray, List.set_cons_zero, List.set_cons_succ]
  refine wpAnyH_take (i := 2) (v := ?va2_3) (by (conv => lhs; simp only [List.getElem?_toArray, List.getElem?_cons_succ, List.getElem?_cons_zero])) (by kernel_rfl) (by kernel_rfl) (by kernel_rfl) ?hQ (Or.inl ⟨by rfl, ?hya2_3⟩) hH ?resta2_3
  case hQ => exact fun _ _ _ h => h
  case hya2_3 => (intro Y hY; obtain ⟨y0, y1, y2, y3, y4, y5, y6, y7, y8, y9⟩ := hY; go_simp; try (with_reducible rfl))
  try simp only [Act.put, List.setIfInBounds_toArray, List.set_cons_zero, List.set_cons_succ]
  refine wpAnyH_take (i := 3) (v := ?va3_4) (by (conv => lhs; simp only [List.getElem?_toArray, List.getElem?_cons_succ, List.getElem?_cons_zero])) (by kernel_rfl) (by kernel_rfl) (by kernel_rfl) ?hQ (Or.inl ⟨by rfl, ?hya3_4⟩) hH ?resta3_4
  case hQ => exact fun _ _ _ h => h
  case hya3_4 => (intro Y hY; obtain ⟨y0, y1, y2, y3, y4, y5, y6, y7, y8, y9⟩ := hY; go_simp; try (with_reducible rfl))
  try simp only [Act.put, List.setIfInBounds_toArray, List.set_cons_zero, List.set_cons_succ]
  refine wpAnyH_take (i := 4) (v := ?va4_5) (by (conv => lhs; simp only [List.getElem?_toArray, List.getElem?_cons_succ, List.getElem?_cons_zero])) (by kernel_rfl) (by kernel_rfl) (by kernel_rfl) ?hQ (Or.inl ⟨by rfl, ?hya4_5⟩) hH ?resta4_5
  case hQ => exact fun _ _ _ h => h
  case hya4_5 => (intro Y hY; obtain ⟨y0, y1, y2, y3, y4, y5, y6, y7, y8, y9⟩ := hY; go_simp; try (with_reducible rfl))
  try simp only [Act.put, List.setIfInBounds_toArray, List.set_cons_zero, List.set_cons_succ]
  refine wpAnyH_take (i := 5) (v := ?va5_6) (by (conv => lhs; simp only [List.getElem?_toArray, List.getElem?_cons_succ, List.getElem?_cons_zero])) (by kernel_rfl) (by kernel_rfl) (by kernel_rfl) ?hQ (Or.inl ⟨by rfl, ?hya5_6⟩) hH ?resta5_6
  case hQ => exact fun _ _ _ h => h
  case hya5_6 => (intro Y hY; obtain ⟨y0, y1, y2, y3, y4, y5, y6, y7, y8, y9⟩ := hY; go_simp; try (with_reducible rfl))
  try simp only [Act.put, List.setIfInBounds_toArray, List.set_cons_zero, List.set_cons_succ]
  refine wpAnyH_take (i := 6) (v := ?va6_7) (by (conv => lhs; simp only [List.getElem?_toArray, List.getElem?_cons_succ, List.getElem?_cons_zero])) (by kernel_rfl) (by kernel_rfl) (by kernel_rfl) ?hQ (Or.inl ⟨by rfl, ?hya6_7⟩) hH ?resta6_7
  case hQ => exact fun _ _ _ h => h
  case hya6_7 => (intro Y hY; obtain ⟨y0, y1, y2, y3, y4, y5, y6, y7, y8, y9⟩ := hY; go_simp; try (with_reducible rfl))
  try simp only [Act.put, List.setIfInBounds_toArray, List.set_cons_zero, List.set_cons_succ]
  refine wpAnyH_take (i := 7) (v := ?va7_8) (by (conv => lhs; simp only [List.getElem?_toArray, List.getElem?_cons_succ, List.getElem?_cons_zero])) (by kernel_rfl) (by kernel_rfl) (by kernel_rfl) ?hQ (Or.inl ⟨by rfl, ?hya7_8⟩) hH ?resta7_8
  case hQ => exact fun _ _ _ h => h
  case hya7_8 => (intro Y hY; obtain ⟨y0, y1, y2, y3, y4, y5, y6, y7, y8, y9⟩ := hY; go_simp; try (with_reducible rfl))
  try simp only [Act.put, List.setIfInBounds_toArray, List.set_cons_zero, List.set_cons_succ]
  refine wpAnyH_take (i := 8) (v := ?va8_9) (by (conv => lhs; simp only [List.getElem?_toArray, List.getElem?_cons_succ, List.getElem?_cons_zero])) (by kernel_rfl) (by kernel_rfl) (by kernel_rfl) ?hQ (Or.inl ⟨by rfl, ?hya8_9⟩) hH ?resta8_9
  case hQ => exact fun _ _ _ h => h
  case hya8_9 => (intro Y hY; obtain ⟨y0, y1, y2, y3, y4, y5, y6, y7, y8, y9⟩ := hY; go_simp; try (with_reducible rfl))
  try simp only [Act.put, List.setIfInBounds_toArray, List.set_cons_zero, List.set_cons_succ]
  refine wpAnyH_take (i := 9) (v := ?va9_10) (by (conv => lhs; simp only [List.getElem?_toArray, List.getElem?_cons_succ, List.getElem?_cons_zero])) (by kernel_rfl) (by kernel_rfl) (by kernel_rfl) ?hQ (Or.inl ⟨by rfl, ?hya9_10⟩) hH ?resta9_10
  case hQ => exact fun _ _ _ h => h
  case hya9_10 => (intro Y hY; obtain ⟨y0, y1, y2, y3, y4, y5, y6, y7, y8, y9⟩ := hY; go_simp; try (with_reducible rfl))
  try simp only [Act.put, List.setIfInBounds_toArray, List.set_cons_zero, List.set_cons_succ]
  refine wpAnyH_take (i := 10) (v := ?va10_11) (by (conv => lhs; simp only [List.getElem?_toArray, List.getElem?_cons_succ, List.getElem?_cons_zero])) (by kernel_rfl) (by kernel_rfl) (by kernel_rfl) ?hQ (Or.inl ⟨by rfl, ?hya10_11⟩) hH ?resta10_11
  case hQ => exact fun _ _ _ h => h
  case hya10_11 => (intro Y hY; obtain ⟨y0, y1, y2, y3, y4, y5, y6, y7, y8, y9⟩ := hY; go_simp; try (with_reducible rfl))
  try simp only [Act.put, List.setIfInBounds_toArray, List.set_cons_zero, List.set_cons_succ]
  refine wpAnyH_take (i := 11) (v := ?va11_12) (by (conv => lhs; simp only [List.getElem?_toArray, List.getElem?_cons_succ, List.getElem?_cons_zero])) (by kernel_rfl) (by kernel_rfl) (by kernel_rfl) ?hQ (Or.inl ⟨by rfl, ?hya11_12⟩) hH ?resta11_12
  case hQ => exact fun _ _ _ h => h
  case hya11_12 => (intro Y hY; obtain ⟨y0, y1, y2, y3, y4, y5, y6, y7, y8, y9⟩ := hY; go_simp; try (with_reducible rfl))
  try simp only [Act.put, List.setIfInBounds_toArray, List.set_cons_zero, List.set_cons_succ]
  refine wpAnyH_done (by kernel_rfl) (?_) _
  go_wp2_with fail
  refine wp_region_held_drew (S := (fun Y => CR tb h pb fb w.heap.size i fl z b room bytes Y)) (by kernel_rfl) (KS.out _ (Below.drew (Below.drew (Below.refl _ _)))) (fun hH => ?_)
  refine wpAnyH_take (i := 0) (v := ?vb0_1) (by (conv => lhs; simp only [List.getElem?_toArray, List.getElem?_cons_succ, List.getElem?_cons_zero])) (by kernel_rfl) (by kernel_rfl) (by kernel_rfl) ?hQ (Or.inl ⟨by rfl, ?hyb0_1⟩) hH ?restb0_1
  case hQ => exact fun _ _ _ h => h
  case hyb0_1 => (intro Y hY; obtain ⟨y0, y1, y2, y3, y4, y5, y6, y7, y8, y9⟩ := hY; go_simp; try (with_reducible rfl))
  try simp only [Act.put, List.setIfInBounds_toArray, List.set_cons_zero, List.set_cons_succ]
  refine wpAnyH_take (i := 1) (v := ?vb1_2) (by (conv => lhs; simp only [List.getElem?_toArray, List.getElem?_cons_succ, List.getElem?_cons_zero])) (by kernel_rfl) (by kernel_rfl) (by kernel_rfl) ?hQ (Or.inl ⟨by rfl, ?hyb1_2⟩) hH ?restb1_2
  case hQ => exact fun _ _ _ h => h
  case hyb1_2 => (intro Y hY; obtain ⟨y0, y1, y2, y3, y4, y5, y6, y7, y8, y9⟩ := hY; go_simp; try (with_reducible rfl))
  try simp only [Act.put, List.setIfInBounds_toArray, List.set_cons_zero, List.set_cons_succ]
  refine wpAnyH_take (i := 2) (v := ?vb2_3) (by (conv => lhs; simp only [List.getElem?_toArray, List.getElem?_cons_succ, List.getElem?_cons_zero])) (by kernel_rfl) (by kernel_rfl) (by kernel_rfl) ?hQ (Or.inl ⟨by rfl, ?hyb2_3⟩) hH ?restb2_3
  case hQ => exact fun _ _ _ h => h
  case hyb2_3 => (intro Y hY; obtain ⟨y0, y1, y2, y3, y4, y5, y6, y7, y8, y9⟩ := hY; go_simp; try (with_reducible rfl))
  try simp only [Act.put, List.setIfInBounds_toArray, List.set_cons_zero, List.set_cons_succ]
  refine wpAnyH_take (i := 3) (v := ?vb3_4) (by (conv => lhs; simp only [List.getElem?_toArray, List.getElem?_cons_succ, List.getElem?_cons_zero])) (by kernel_rfl) (by kernel_rfl) (by kernel_rfl) ?hQ (Or.inl ⟨by rfl, ?hyb3_4⟩) hH ?restb3_4
  case hQ => exact fun _ _ _ h => h
  case hyb3_4 => (intro Y hY; obtain ⟨y0, y1, y2, y3, y4, y5, y6, y7, y8, y9⟩ := hY; go_simp; try (with_reducible rfl))
  try simp only [Act.put, List.setIfInBounds_toArray, List.set_cons_zero, List.set_cons_succ]
  refine wpAnyH_take (i := 4) (v := ?vb4_5) (by (conv => lhs; simp only [List.getElem?_toArray, List.getElem?_cons_succ, List.getElem?_cons_zero])) (by kernel_rfl) (by kernel_rfl) (by kernel_rfl) ?hQ (Or.inl ⟨by rfl, ?hyb4_5⟩) hH ?restb4_5
  case hQ => exact fun _ _ _ h => h
  case hyb4_5 => (intro Y hY; obtain ⟨y0, y1, y2, y3, y4, y5, y6, y7, y8, y9⟩ := hY; go_simp; try (with_reducible rfl))
  try simp only [Act.put, List.setIfInBounds_toArray, List.set_cons_zero, List.set_cons_succ]
  refine wpAnyH_take (i := 5) (v := ?vb5_6) (by (conv => lhs; simp only [List.getElem?_toArray, List.getElem?_cons_succ, List.getElem?_cons_zero])) (by kernel_rfl) (by kernel_rfl) (by kernel_rfl) ?hQ (Or.inl ⟨by rfl, ?hyb5_6⟩) hH ?restb5_6
  case hQ => exact fun _ _ _ h => h
  case hyb5_6 => (intro Y hY; obtain ⟨y0, y1, y2, y3, y4, y5, y6, y7, y8, y9⟩ := hY; go_simp; try (with_reducible rfl))
  try simp only [Act.put, List.setIfInBounds_toArray, List.set_cons_zero, List.set_cons_succ]
  refine wpAnyH_take (i := 6) (v := ?vb6_7) (by (conv => lhs; simp only [List.getElem?_toArray, List.getElem?_cons_succ, List.getElem?_cons_zero])) (by kernel_rfl) (by kernel_rfl) (by kernel_rfl) ?hQ (Or.inl ⟨by rfl, ?hyb6_7⟩) hH ?restb6_7
  case hQ => exact fun _ _ _ h => h
  case hyb6_7 => (intro Y hY; obtain ⟨y0, y1, y2, y3, y4, y5, y6, y7, y8, y9⟩ := hY; go_simp; try (with_reducible rfl))
  try simp only [Act.put, List.setIfInBounds_toArray, List.set_cons_zero, List.set_cons_succ]
  refine wpAnyH_take (i := 7) (v := ?vb7_8) (by (conv => lhs; simp only [List.getElem?_toArray, List.getElem?_cons_succ, List.getElem?_cons_zero])) (by kernel_rfl) (by kernel_rfl) (by kernel_rfl) ?hQ (Or.inl ⟨by rfl, ?hyb7_8⟩) hH ?restb7_8
  case hQ => exact fun _ _ _ h => h
  case hyb7_8 => (intro Y hY; obtain ⟨y0, y1, y2, y3, y4, y5, y6, y7, y8, y9⟩ := hY; go_simp; try (with_reducible rfl))
  try simp only [Act.put, List.setIfInBounds_toArray, List.set_cons_zero, List.set_cons_succ]
  refine wpAnyH_take (i := 8) (v := ?vb8_9) (by (conv => lhs; simp only [List.getElem?_toArray, List.getElem?_cons_succ, List.getElem?_cons_zero])) (by kernel_rfl) (by kernel_rfl) (by kernel_rfl) ?hQ (Or.inl ⟨by rfl, ?hyb8_9⟩) hH ?restb8_9
  case hQ => exact fun _ _ _ h => h
  case hyb8_9 => (intro Y hY; obtain ⟨y0, y1, y2, y3, y4, y5, y6, y7, y8, y9⟩ := hY; go_simp; try (with_reducible rfl))
  try simp only [Act.put, List.setIfInBounds_toArray, List.set_cons_zero, List.set_cons_succ]
  refine wpAnyH_take (i := 9) (v := ?vb9_10) (by (conv => lhs; simp only [List.getElem?_toArray, List.getElem?_cons_succ, List.getElem?_cons_zero])) (by kernel_rfl) (by kernel_rfl) (by kernel_rfl) ?hQ (Or.inl ⟨by rfl, ?hyb9_10⟩) hH ?restb9_10
  case hQ => exact fun _ _ _ h => h
  case hyb9_10 => (intro Y hY; obtain ⟨y0, y1, y2, y3, y4, y5, y6, y7, y8, y9⟩ := hY; go_simp; try (with_reducible rfl))
  try simp only [Act.put, List.setIfInBounds_toArray, List.set_cons_zero, List.set_cons_succ]
  refine wpAnyH_ready (rs := [10]) (by kernel_rfl) (by simp) ?_
  refine AllReadyH.cons (by (conv => lhs; simp only [List.getElem?_toArray, List.getElem?_cons_succ, List.getElem?_cons_zero])) (fun K hK => ?_) AllReadyH.nil
  go_simp
  refine hK.out _ _ (KS.out _ (below_new (Below.drew (Below.drew (Below.refl _ _))) _)) (fun hH1 => ?_)
  clear hK hH
  try simp only [Act.put, List.setIfInBounds_toArray, List.set_cons_zero, List.set_cons_succ]
  refine wpAnyH_ready (rs := [11]) (by kernel_rfl) (by simp) ?_
  refine AllReadyH.cons (by (conv => lhs; simp only [List.getElem?_toArray, List.getElem?_cons_succ, List.getElem?_cons_zero])) (fun K hK => ?_) AllReadyH.nil
  clear hH1
  go_simp
  refine hK.out _ _ (KS.out _ (below_new (Below.drew (Below.drew (Below.refl _ _))) _)) (fun hH2 => ?_)
  clear hK
  try simp only [Act.put, List.setIfInBounds_toArray, List.set_cons_zero, List.set_cons_succ]
  refine wpAnyH_take (i := 12) (v := ?vb12_11) (by (conv => lhs; simp only [List.getElem?_toArray, List.getElem?_cons_succ, List.getElem?_cons_zero])) (by kernel_rfl) (by kernel_rfl) (by kernel_rfl) ?hQ (Or.inl ⟨by rfl, ?hyb12_11⟩) hH2 ?restb12_11
  case hQ => exact fun _ _ _ h => h
  case hyb12_11 => (intro Y hY; obtain ⟨y0, y1, y2, y3, y4, y5, y6, y7, y8, y9⟩ := hY; go_simp; try (with_reducible rfl))
  try simp only [Act.put, List.setIfInBounds_toArray, List.set_cons_zero, List.set_cons_succ]
  refine wpAnyH_done (by kernel_rfl) (?_) _
  have B2 := hidd (show Below W1.heap.size W1 _ from below_new (Below.drew (Below.drew (Below.refl W1.heap.size W1))) (.cells #[.int .i64 0, .int .i64 0, .int .i64 0] 31))
  clear hH2
  go_wp2_with fail
  refine wp_region_held_drew (S := (fun Y => CR tb h pb fb w.heap.size i fl z b room bytes Y)) (by kernel_rfl) (KS.out _ (Below.drew B2.out)) (fun hH => ?_)
  refine wpAnyH_take (i := 0) (v := ?vc0_1) (by (conv => lhs; simp only [List.getElem?_toArray, List.getElem?_cons_succ, List.getElem?_cons_zero])) (by kernel_rfl) (by kernel_rfl) (by kernel_rfl) ?hQ (Or.inl ⟨by rfl, ?hyc0_1⟩) hH ?restc0_1
  case hQ => exact fun _ _ _ h => h
  case hyc0_1 => (intro Y hY; obtain ⟨y0, y1, y2, y3, y4, y5, y6, y7, y8, y9⟩ := hY; go_simp; try (with_reducible rfl))
  try simp only [Act.put, List.setIfInBounds_toArray, List.set_cons_zero, List.set_cons_succ]
  refine wpAnyH_take (i := 1) (v := ?vc1_2) (by (conv => lhs; simp only [List.getElem?_toArray, List.getElem?_cons_succ, List.getElem?_cons_zero])) (by kernel_rfl) (by kernel_rfl) (by kernel_rfl) ?hQ (Or.inl ⟨by rfl, ?hyc1_2⟩) hH ?restc1_2
  case hQ => exact fun _ _ _ h => h
  case hyc1_2 => (intro Y hY; obtain ⟨y0, y1, y2, y3, y4, y5, y6, y7, y8, y9⟩ := hY; go_simp; try (with_reducible rfl))
  try simp only [Act.put, List.setIfInBounds_toArray, List.set_cons_zero, List.set_cons_succ]
  refine wpAnyH_take (i := 2) (v := ?vc2_3) (by (conv => lhs; simp only [List.getElem?_toArray, List.getElem?_cons_succ, List.getElem?_cons_zero])) (by kernel_rfl) (by kernel_rfl) (by kernel_rfl) ?hQ (Or.inl ⟨by rfl, ?hyc2_3⟩) hH ?restc2_3
  case hQ => exact fun _ _ _ h => h
  case hyc2_3 => (intro Y hY; obtain ⟨y0, y1, y2, y3, y4, y5, y6, y7, y8, y9⟩ := hY; go_simp; try (with_reducible rfl))
  try simp only [Act.put, List.setIfInBounds_toArray, List.set_cons_zero, List.set_cons_succ]
  refine wpAnyH_take (i := 3) (v := ?vc3_4) (by (conv => lhs; simp only [List.getElem?_toArray, List.getElem?_cons_succ, List.getElem?_cons_zero])) (by kernel_rfl) (by kernel_rfl) (by kernel_rfl) ?hQ (Or.inl ⟨by rfl, ?hyc3_4⟩) hH ?restc3_4
  case hQ => exact fun _ _ _ h => h
  case hyc3_4 => (intro Y hY; obtain ⟨y0, y1, y2, y3, y4, y5, y6, y7, y8, y9⟩ := hY; go_simp; try (with_reducible rfl))
  try simp only [Act.put, List.setIfInBounds_toArray, List.set_cons_zero, List.set_cons_succ]
  refine wpAnyH_take (i := 4) (v := ?vc4_5) (by (conv => lhs; simp only [List.getElem?_toArray, List.getElem?_cons_succ, List.getElem?_cons_zero])) (by kernel_rfl) (by kernel_rfl) (by kernel_rfl) ?hQ (Or.inl ⟨by rfl, ?hyc4_5⟩) hH ?restc4_5
  case hQ => exact fun _ _ _ h => h
  case hyc4_5 => (intro Y hY; obtain ⟨y0, y1, y2, y3, y4, y5, y6, y7, y8, y9⟩ := hY; go_simp; try (with_reducible rfl))
  try simp only [Act.put, List.setIfInBounds_toArray, List.set_cons_zero, List.set_cons_succ]
  refine wpAnyH_take (i := 5) (v := ?vc5_6) (by (conv => lhs; simp only [List.getElem?_toArray, List.getElem?_cons_succ, List.getElem?_cons_zero])) (by kernel_rfl) (by kernel_rfl) (by kernel_rfl) ?hQ (Or.inl ⟨by rfl, ?hyc5_6⟩) hH ?restc5_6
  case hQ => exact fun _ _ _ h => h
  case hyc5_6 => (intro Y hY; obtain ⟨y0, y1, y2, y3, y4, y5, y6, y7, y8, y9⟩ := hY; go_simp; try (with_reducible rfl))
  try simp only [Act.put, List.setIfInBounds_toArray, List.set_cons_zero, List.set_cons_succ]
  refine wpAnyH_take (i := 6) (v := ?vc6_7) (by (conv => lhs; simp only [List.getElem?_toArray, List.getElem?_cons_succ, List.getElem?_cons_zero])) (by kernel_rfl) (by kernel_rfl) (by kernel_rfl) ?hQ (Or.inl ⟨by rfl, ?hyc6_7⟩) hH ?restc6_7
  case hQ => exact fun _ _ _ h => h
  case hyc6_7 => (intro Y hY; obtain ⟨y0, y1, y2, y3, y4, y5, y6, y7, y8, y9⟩ := hY; go_simp; try (with_reducible rfl))
  try simp only [Act.put, List.setIfInBounds_toArray, List.set_cons_zero, List.set_cons_succ]
  refine wpAnyH_take (i := 7) (v := ?vc7_8) (by (conv => lhs; simp only [List.getElem?_toArray, List.getElem?_cons_succ, List.getElem?_cons_zero])) (by kernel_rfl) (by kernel_rfl) (by kernel_rfl) ?hQ (Or.inl ⟨by rfl, ?hyc7_8⟩) hH ?restc7_8
  case hQ => exact fun _ _ _ h => h
  case hyc7_8 => (intro Y hY; obtain ⟨y0, y1, y2, y3, y4, y5, y6, y7, y8, y9⟩ := hY; go_simp; try (with_reducible rfl))
  try simp only [Act.put, List.setIfInBounds_toArray, List.set_cons_zero, List.set_cons_succ]
  refine wpAnyH_take (i := 8) (v := ?vc8_9) (by (conv => lhs; simp only [List.getElem?_toArray, List.getElem?_cons_succ, List.getElem?_cons_zero])) (by kernel_rfl) (by kernel_rfl) (by kernel_rfl) ?hQ (Or.inl ⟨by rfl, ?hyc8_9⟩) hH ?restc8_9
  case hQ => exact fun _ _ _ h => h
  case hyc8_9 => (intro Y hY; obtain ⟨y0, y1, y2, y3, y4, y5, y6, y7, y8, y9⟩ := hY; go_simp; try (with_reducible rfl))
  try simp only [Act.put, List.setIfInBounds_toArray, List.set_cons_zero, List.set_cons_succ]
  refine wpAnyH_take (i := 9) (v := ?vc9_10) (by (conv => lhs; simp only [List.getElem?_toArray, List.getElem?_cons_succ, List.getElem?_cons_zero])) (by kernel_rfl) (by kernel_rfl) (by kernel_rfl) ?hQ (Or.inl ⟨by rfl, ?hyc9_10⟩) hH ?restc9_10
  case hQ => exact fun _ _ _ h => h
  case hyc9_10 => (intro Y hY; obtain ⟨y0, y1, y2, y3, y4, y5, y6, y7, y8, y9⟩ := hY; go_simp; try (with_reducible rfl))
  try simp only [Act.put, List.setIfInBounds_toArray, List.set_cons_zero, List.set_cons_succ]
  refine wpAnyH_take (i := 10) (v := ?vc10_11) (by (conv => lhs; simp only [List.getElem?_toArray, List.getElem?_cons_succ, List.getElem?_cons_zero])) (by kernel_rfl) (by kernel_rfl) (by kernel_rfl) ?hQ (Or.inl ⟨by rfl, ?hyc10_11⟩) hH ?restc10_11
  case hQ => exact fun _ _ _ h => h
  case hyc10_11 => (intro Y hY; obtain ⟨y0, y1, y2, y3, y4, y5, y6, y7, y8, y9⟩ := hY; go_simp; try (with_reducible rfl))
  try simp only [Act.put, List.setIfInBounds_toArray, List.set_cons_zero, List.set_cons_succ]
  refine wpAnyH_take (i := 11) (v := ?vc11_12) (by (conv => lhs; simp only [List.getElem?_toArray, List.getElem?_cons_succ, List.getElem?_cons_zero])) (by kernel_rfl) (by kernel_rfl) (by kernel_rfl) ?hQ (Or.inl ⟨by rfl, ?hyc11_12⟩) hH ?restc11_12
  case hQ => exact fun _ _ _ h => h
  case hyc11_12 => (intro Y hY; obtain ⟨y0, y1, y2, y3, y4, y5, y6, y7, y8, y9⟩ := hY; go_simp; try (with_reducible rfl))
  try simp only [Act.put, List.setIfInBounds_toArray, List.set_cons_zero, List.set_cons_succ]
  refine wpAnyH_done (by kernel_rfl) (?_) _
  obtain ⟨c0, -⟩ := KS.out W1 (Below.refl _ _)
  have htb : tb < W1.heap.size := World.block_lt_of_cell? W1 _ c0
  go_wp2_with fail
  refine (cL.out _ (by (repeat' (first | (with_reducible exact Below.refl _ _) | (with_reducible assumption) | (with_reducible apply Below.setCell) | (with_reducible apply Below.alloc) | (with_reducible apply Below.drew) | (with_reducible apply below_drewN) | (with_reducible refine Below.trans ?_ (Below.mono (by assumption) ?_)) | omega | (simp; done) | (simp; omega))))).mono ?_
  rintro e w9 ⟨rfl, rfl⟩
  go_wp2_with fail
  go_ret
  exact ⟨rfl, B1.out.trans (Below.mono (by (repeat' (first | (with_reducible exact Below.refl _ _) | (with_reducible assumption) | (with_reducible apply Below.setCell) | (with_reducible apply Below.alloc) | (with_reducible apply Below.drew) | (with_reducible apply below_drewN) | (with_reducible refine Below.trans ?_ (Below.mono (by assumption) ?_)) | omega | (simp; done) | (simp; omega)))) B1.out.size)⟩
set_option maxRecDepth 100000 in
set_option maxHeartbeats 4000000 in
theorem room_none (H : QuA tb h pb fb R w q F M T np X) {i fl z : Int} (l0 : -9223372036854775808 ≤ fl) (l1 : fl ≤ 9223372036854775807) (hn : ∀ f ∈ F, f.id ≠ fl) :
    Calls Try.prog 20 #[.pointer (some ⟨tb, 0, none⟩), .agg #[.int .i64 i, .int .i64 fl, .int .i64 z]] w fun e w' => e = .returned (.int .i64 5) ∧ Below w.heap.size w w' := by
  have HA := hidd H
  obtain ⟨W1, hW1⟩ : ∃ W1, w.alloc (.cells #[.int .i64 i, .int .i64 fl, .int .i64 z] 31) = W1 := ⟨_, rfl⟩
  have HW1 := hidd hW1
  have B1 := hidd (show Below w.heap.size w W1 from by rw [← hW1]; exact below_new (Below.refl _ _) _)
  have ROW := hidd (show W1.heap[w.heap.size]? = some (.cells #[.int .i64 i, .int .i64 fl, .int .i64 z] 31 (0, 0)) from by rw [← hW1]; exact heap_alloc_new w _)
  have SZ := hidd (show w.heap.size < W1.heap.size from by rw [← hW1]; simp)
  have NONE := hidd (blkOf_out hn)
  have NI := hidd (And.intro l0 l1)
  have KS : Hid (∀ Y, Below W1.heap.size W1 Y → CRN tb fb w.heap.size fl Y) := hidd (fun Y hb => by
    have HY := HA.out.below (B1.out.trans (hb.mono B1.out.size))
    obtain ⟨-, y1, y2, y3⟩ := HY.qc
    have hrow := (hb.block _ SZ.out).trans ROW.out
    have e1 := (HY.fl.look (x := fl) NI.out.1 NI.out.2).2
    rw [NONE.out] at e1
    exact ⟨y3, by simp [World.cell?, hrow], e1⟩)
  clear H hn l0 l1 hW1
  go_enter Try.func20, Try.ntmps20
  go_wp2_with fail
  rw [HW1.out]
  refine wp_region_held_drew (S := (fun Y => CRN tb fb w.heap.size fl Y)) (by kernel_rfl) (KS.out _ (Below.drew (Below.refl _ _))) (fun hH => ?_)
  refine wpAnyH_take (i := 0) (v := ?vn0_1) (by (conv => lhs; simp only [List.getElem?_toArray, List.getElem?_cons_succ, List.getElem?_cons_zero])) (by kernel_rfl) (by kernel_rfl) (by kernel_rfl) ?hQ (Or.inl ⟨by rfl, ?hyn0_1⟩) hH ?restn0_1
  case hQ => exact fun _ _ _ h => h
  case hyn0_1 => (intro Y hY; obtain ⟨y0, y1, y2⟩ := hY; go_simp; try (with_reducible rfl))
  try simp only [Act.put, List.setIfInBounds_toArray, List.set_cons_zero, List.set_cons_succ]
  refine wpAnyH_take (i := 1) (v := ?vn1_2) (by (conv => lhs; simp only [List.getElem?_toArray, List.getElem?_cons_succ, List.getElem?_cons_zero])) (by kernel_rfl) (by kernel_rfl) (by kernel_rfl) ?hQ (Or.inl ⟨by rfl, ?hyn1_2⟩) hH ?restn1_2
  case hQ => exact fun _ _ _ h => h
  case hyn1_2 => (intro Y hY; obtain ⟨y0, y1, y2⟩ := hY; go_simp; try (with_reducible rfl))
  try simp only [Act.put, List.setIfInBounds_toArray, List.set_cons_zero, List.set_cons_succ]
  refine wpAnyH_take (i := 2) (v := ?vn2_3) (by (conv => lhs; simp only [List.getElem?_toArray, List.getElem?_cons_succ, List.getElem?_cons_zero])) (by kernel_rfl) (by kernel_rfl) (by kernel_rfl) ?hQ (Or.inl ⟨by rfl, ?hyn2_3⟩) hH ?restn2_3
  case hQ => exact fun _ _ _ h => h
  case hyn2_3 => (intro Y hY; obtain ⟨y0, y1, y2⟩ := hY; go_simp; try (with_reducible rfl))
  try simp only [Act.put, List.setIfInBounds_toArray, List.set_cons_zero, List.set_cons_succ]
  refine wpAnyH_take (i := 3) (v := ?vn3_4) (by (conv => lhs; simp only [List.getElem?_toArray, List.getElem?_cons_succ, List.getElem?_cons_zero])) (by kernel_rfl) (by kernel_rfl) (by kernel_rfl) ?hQ (Or.inl ⟨by rfl, ?hyn3_4⟩) hH ?restn3_4
  case hQ => exact fun _ _ _ h => h
  case hyn3_4 => (intro Y hY; obtain ⟨y0, y1, y2⟩ := hY; go_simp; try (with_reducible rfl))
  try simp only [Act.put, List.setIfInBounds_toArray, List.set_cons_zero, List.set_cons_succ]
  refine wpAnyH_take (i := 4) (v := ?vn4_5) (by (conv => lhs; simp only [List.getElem?_toArray, List.getElem?_cons_succ, List.getElem?_cons_zero])) (by kernel_rfl) (by kernel_rfl) (by kernel_rfl) ?hQ (Or.inl ⟨by rfl, ?hyn4_5⟩) hH ?restn4_5
  case hQ => exact fun _ _ _ h => h
  case hyn4_5 => (intro Y hY; obtain ⟨y0, y1, y2⟩ := hY; go_simp; try (with_reducible rfl))
  try simp only [Act.put, List.setIfInBounds_toArray, List.set_cons_zero, List.set_cons_succ]
  refine wpAnyH_take (i := 5) (v := ?vn5_6) (by (conv => lhs; simp only [List.getElem?_toArray, List.getElem?_cons_succ, List.getElem?_cons_zero])) (by kernel_rfl) (by kernel_rfl) (by kernel_rfl) ?hQ (Or.inl ⟨by rfl, ?hyn5_6⟩) hH ?restn5_6
  case hQ => exact fun _ _ _ h => h
  case hyn5_6 => (intro Y hY; obtain ⟨y0, y1, y2⟩ := hY; go_simp; try (with_reducible rfl))
  try simp only [Act.put, List.setIfInBounds_toArray, List.set_cons_zero, List.set_cons_succ]
  refine wpAnyH_take (i := 6) (v := ?vn6_7) (by (conv => lhs; simp only [List.getElem?_toArray, List.getElem?_cons_succ, List.getElem?_cons_zero])) (by kernel_rfl) (by kernel_rfl) (by kernel_rfl) ?hQ (Or.inl ⟨by rfl, ?hyn6_7⟩) hH ?restn6_7
  case hQ => exact fun _ _ _ h => h
  case hyn6_7 => (intro Y hY; obtain ⟨y0, y1, y2⟩ := hY; go_simp; try (with_reducible rfl))
  try simp only [Act.put, List.setIfInBounds_toArray, List.set_cons_zero, List.set_cons_succ]
  refine wpAnyH_take (i := 7) (v := ?vn7_8) (by (conv => lhs; simp only [List.getElem?_toArray, List.getElem?_cons_succ, List.getElem?_cons_zero])) (by kernel_rfl) (by kernel_rfl) (by kernel_rfl) ?hQ (Or.inl ⟨by rfl, ?hyn7_8⟩) hH ?restn7_8
  case hQ => exact fun _ _ _ h => h
  case hyn7_8 => (intro Y hY; obtain ⟨y0, y1, y2⟩ := hY; go_simp; try (with_reducible rfl))
  try simp only [Act.put, List.setIfInBounds_toArray, List.set_cons_zero, List.set_cons_succ]
  refine wpAnyH_take (i := 8) (v := ?vn8_9) (by (conv => lhs; simp only [List.getElem?_toArray, List.getElem?_cons_succ, List.getElem?_cons_zero])) (by kernel_rfl) (by kernel_rfl) (by kernel_rfl) ?hQ (Or.inl ⟨by rfl, ?hyn8_9⟩) hH ?restn8_9
  case hQ => exact fun _ _ _ h => h
  case hyn8_9 => (intro Y hY; obtain ⟨y0, y1, y2⟩ := hY; go_simp; try (with_reducible rfl))
  try simp only [Act.put, List.setIfInBounds_toArray, List.set_cons_zero, List.set_cons_succ]
  refine wpAnyH_take (i := 9) (v := ?vn9_10) (by (conv => lhs; simp only [List.getElem?_toArray, List.getElem?_cons_succ, List.getElem?_cons_zero])) (by kernel_rfl) (by kernel_rfl) (by kernel_rfl) ?hQ (Or.inl ⟨by rfl, ?hyn9_10⟩) hH ?restn9_10
  case hQ => exact fun _ _ _ h => h
  case hyn9_10 => (intro Y hY; obtain ⟨y0, y1, y2⟩ := hY; go_simp; try (with_reducible rfl))
  try simp only [Act.put, List.setIfInBounds_toArray, List.set_cons_zero, List.set_cons_succ]
  refine wpAnyH_take (i := 10) (v := ?vn10_11) (by (conv => lhs; simp only [List.getElem?_toArray, List.getElem?_cons_succ, List.getElem?_cons_zero])) (by kernel_rfl) (by kernel_rfl) (by kernel_rfl) ?hQ (Or.inl ⟨by rfl, ?hyn10_11⟩) hH ?restn10_11
  case hQ => exact fun _ _ _ h => h
  case hyn10_11 => (intro Y hY; obtain ⟨y0, y1, y2⟩ := hY; go_simp; try (with_reducible rfl))
  try simp only [Act.put, List.setIfInBounds_toArray, List.set_cons_zero, List.set_cons_succ]
  refine wpAnyH_take (i := 11) (v := ?vn11_12) (by (conv => lhs; simp only [List.getElem?_toArray, List.getElem?_cons_succ, List.getElem?_cons_zero])) (by kernel_rfl) (by kernel_rfl) (by kernel_rfl) ?hQ (Or.inl ⟨by rfl, ?hyn11_12⟩) hH ?restn11_12
  case hQ => exact fun _ _ _ h => h
  case hyn11_12 => (intro Y hY; obtain ⟨y0, y1, y2⟩ := hY; go_simp; try (with_reducible rfl))
  try simp only [Act.put, List.setIfInBounds_toArray, List.set_cons_zero, List.set_cons_succ]
  refine wpAnyH_done (by kernel_rfl) (?_) _
  go_wp2_with fail
  go_ret
  exact ⟨rfl, B1.out.trans (Below.mono (by (repeat' (first | (with_reducible exact Below.refl _ _) | (with_reducible assumption) | (with_reducible apply Below.setCell) | (with_reducible apply Below.alloc) | (with_reducible apply Below.drew) | (with_reducible apply below_drewN) | (with_reducible refine Below.trans ?_ (Below.mono (by assumption) ?_)) | omega | (simp; done) | (simp; omega)))) B1.out.size)⟩
end
end Go.Proofs.Ytgeankdimknmiaa.Hp

/- Clocks: a packet comes. -/
namespace Go.Proofs.Ytgeankdimknmiaa.Hp
set_option linter.unusedVariables false
open Go.RowKit Go.Maps Go.Sort Go.Proofs.Ytgeankdimknmiaa.Tp
def PS (q tb bx : Nat) (i fl z : Int) (Y : World) : Prop := Y.cell? ⟨q, 0, none⟩ = some (.pointer (some ⟨tb, 0, none⟩)) ∧ Y.cell? ⟨bx, 0, none⟩ = some (.int .i64 i) ∧ Y.cell? ⟨bx, 1, none⟩ = some (.int .i64 fl) ∧ Y.cell? ⟨bx, 2, none⟩ = some (.int .i64 z)
def PL (q tb h pb fb bx : Nat) (i fl z : Int) (b : Nat) (Y : World) : Prop := (Y.cell? ⟨q, 0, none⟩ = some (.pointer (some ⟨tb, 0, none⟩))) ∧ Y.cell? ⟨tb, 0, none⟩ = some (.pointer (some ⟨h, 0, none⟩)) ∧ Y.cell? ⟨tb, 1, none⟩ = some (.map (some pb)) ∧ Y.cell? ⟨tb, 2, none⟩ = some (.map (some fb)) ∧
  Y.cell? ⟨bx, 0, none⟩ = some (.int .i64 i) ∧ Y.cell? ⟨bx, 1, none⟩ = some (.int .i64 fl) ∧ Y.cell? ⟨bx, 2, none⟩ = some (.int .i64 z) ∧
  (Instr.lookup 55 (.map (some fb)) (.int .i64 fl) false).run Try.prog Y = .ok (.pointer (some ⟨b, 0, none⟩)) Y
def PP12 (q tb h bx p : Nat) (i sn sd : Int) (Y : World) : Prop := Y.cell? ⟨q, 0, none⟩ = some (.pointer (some ⟨tb, 0, none⟩)) ∧ Y.cell? ⟨tb, 0, none⟩ = some (.pointer (some ⟨h, 0, none⟩)) ∧ Y.cell? ⟨bx, 0, none⟩ = some (.int .i64 i) ∧ Y.cell? ⟨p, 0, none⟩ = some (.int .i64 sn) ∧ Y.cell? ⟨p, 1, none⟩ = some (.int .i64 sd)
def PL13 (q tb pb bx : Nat) (i fl z : Int) (Y : World) : Prop := Y.cell? ⟨q, 0, none⟩ = some (.pointer (some ⟨tb, 0, none⟩)) ∧ Y.cell? ⟨tb, 1, none⟩ = some (.map (some pb)) ∧ Y.cell? ⟨bx, 0, none⟩ = some (.int .i64 i) ∧ Y.cell? ⟨bx, 1, none⟩ = some (.int .i64 fl) ∧ Y.cell? ⟨bx, 2, none⟩ = some (.int .i64 z) ∧ True
def PB14 (bx : Nat) (z : Int) (Y : World) : Prop := Y.cell? ⟨bx, 2, none⟩ = some (.int .i64 z) ∧ True
section
variable {tb h pb fb : Nat} {R R' : Nat → Prop} {w : World} {q : Nat} {F : List Fw} {M : List It} {T : Int} {np : Nat} {X : Int → Int × Int}
/-- a packet's state, told without the walk. -/
theorem QuA.putF (H : QuA tb h pb fb R w q F M T np X) {w5 w6 w7 w9 : World} (b5 : Below w.heap.size w w5) {f : Fw} (hf : f ∈ F) {i z c' : Int} {x : It} (hx : iD x = i) (hi : ¬ ∃ y ∈ M, iD y = i) (hz : 1 ≤ z ∧ z ≤ 2000) (hc : ClkB c' f.rate) (hT : T < 900000)
    (hr : HR R' w6 h (M ++ [x]) (T + 1)) (hs : Sav R w5 w6) (hn : Nxt R R' w5) (hp : PkM w7 pb (np + 1) (fun k => if k = i then some ((i, f.id, z) : Pk) else pkOf M X k)) (hg : w6.grownBy w7 (some pb))
    (h9 : Sav (fun k => k = f.blk ∨ (w.heap.size ≤ k ∧ k < w5.heap.size)) w7 w9) (hrow : w9.heap[f.blk]? = some (fwObj { f with bytes := f.bytes + z, c := c' })) :
    QuA tb h pb fb R' w9 q (F.map (upF { f with bytes := f.bytes + z, c := c' })) (M ++ [x]) (T + 1) (np + 1) (fun k => if k = i then (f.id, z) else X k) ∧ Sav (QS tb pb fb R q F) w w9 ∧ (∀ k, k < w.heap.size → QS tb pb fb R' q (F.map (upF { f with bytes := f.bytes + z, c := c' })) k → QS tb pb fb R q F k) := by
  obtain ⟨a1, a2, a3, a4, a5, a6⟩ := H.apart
  have s5 := b5.size
  have s6 := hs.size
  have s7 := hg.size
  have s9 := h9.size
  have hfl := H.lt (k := f.blk) (.inr (.inr (.inr (.inr (.inr ⟨f, hf, rfl⟩)))))
  have kp : ∀ k, k < w.heap.size → ¬ R k → k ≠ pb → k ≠ f.blk → w9.heap[k]? = w.heap[k]? := fun k hk h1 h2 h3 =>
    (h9.block k (by omega) (fun e => by rcases e with e | e; exact h3 e; omega)).trans ((hg.block k (by omega) (fun e => h2 (by cases e; rfl))).trans ((hs.block k (by omega) h1).trans (b5.block k hk)))
  have ltq := fun k hk => H.lt (k := k) hk
  have nf : ∀ g ∈ F, g.blk = f.blk → g = f := fun g hg2 e => by
    by_cases e2 : g.id = f.id
    · exact uniqF H.nd hg2 hf e2
    · exfalso
      have := H.nb
      have key : ∀ (l : List Fw), (l.map Fw.blk).Nodup → ∀ a ∈ l, ∀ b ∈ l, a.blk = b.blk → a = b := fun l => by
        induction l with
        | nil => intro _ a ha; cases ha
        | cons c l ih =>
          intro nd a ha b hb e
          simp only [List.map_cons, List.nodup_cons] at nd
          rcases List.mem_cons.1 ha with h1 | h1 <;> rcases List.mem_cons.1 hb with h2 | h2
          · rw [h1, h2]
          · rw [h1] at e; exact absurd (e ▸ List.mem_map_of_mem h2) nd.1
          · rw [h2] at e; exact absurd (e ▸ List.mem_map_of_mem h1) nd.1
          · exact ih nd.2 a h1 b h2 e
      exact e2 (by rw [key F this g hg2 f hf e])
  have nR' : ∀ k, k < w.heap.size → ¬ R k → ¬ R' k := fun k hk h1 h2 => h1 (hn k (by omega) h2)
  have rb : ∀ k, R' k → w9.heap[k]? = w6.heap[k]? := fun k hk => by
    have hk6 := hr.lt k hk
    have h1 : k ≠ pb := fun e => by
      rw [e] at hk
      exact nR' _ (ltq _ (.inr (.inr (.inl rfl)))) H.nR.2.2.1 hk
    have h2 : k ≠ f.blk := fun e => by
      rw [e] at hk
      exact nR' _ hfl (H.nR.2.2.2.2 f hf) hk
    refine (h9.block k (by omega) (fun e => ?_)).trans (hg.block k hk6 (fun e => h1 (by cases e; rfl)))
    rcases e with e | ⟨e1, e2⟩
    · exact h2 e
    · have h3 := hn k e2 hk
      have := H.hr.lt k h3
      omega
  refine ⟨⟨(kp _ (ltq _ (.inl rfl)) H.nR.1 a2 (fun e => (a6 f hf).1 e.symm)).trans H.q0, (kp _ (ltq _ (.inr (.inl rfl))) H.nR.2.1 a4 (fun e => (a6 f hf).2.1 e.symm)).trans H.t0, hr.keep rb, ?_, ?_, fun g hg2 => ?_, fun g hg2 => ?_, fun y hy => ?_, ?_, ?_, H.pf, ⟨nR' _ (ltq _ (.inl rfl)) H.nR.1, nR' _ (ltq _ (.inr (.inl rfl))) H.nR.2.1, nR' _ (ltq _ (.inr (.inr (.inl rfl)))) H.nR.2.2.1, nR' _ (ltq _ (.inr (.inr (.inr (.inl rfl))))) H.nR.2.2.2.1, fun g hg2 => ?_⟩, ?_⟩, ?_, ?_⟩
  · have e := pkOf_snoc (M := M) (X := X) (y := x) (v := (f.id, z)) (by rw [hx]; exact hi)
    rw [hx] at e
    rw [← e]
    have hpl := ltq pb (.inr (.inr (.inl rfl)))
    exact hp.to (h9.block _ (by omega) (fun e => by rcases e with e | e; exact (a6 f hf).2.2.1 e.symm; omega))
  · rw [List.length_map, blkOf_up (f' := { f with bytes := f.bytes + z, c := c' }) H.nd hf rfl rfl]
    exact H.fl.to (kp _ (ltq _ (.inr (.inr (.inr (.inl rfl))))) H.nR.2.2.2.1 (fun e => H.pf e.symm) (fun e => (a6 f hf).2.2.2 e.symm))
  · obtain ⟨g0, hg0, rfl⟩ := List.mem_map.1 hg2
    unfold upF
    split
    · exact hrow
    · rename_i hne
      have hb : g0.blk ≠ f.blk := fun e => hne (by rw [nf g0 hg0 e])
      exact (kp _ (ltq _ (.inr (.inr (.inr (.inr (.inr ⟨g0, hg0, rfl⟩)))))) (H.nR.2.2.2.2 g0 hg0) (a6 g0 hg0).2.2.1 hb).trans (H.fs g0 hg0)
  · obtain ⟨g0, hg0, rfl⟩ := List.mem_map.1 hg2
    have hlen : ((M ++ [x]).length : Int) = M.length + 1 := by rw [List.length_append]; rfl
    unfold upF
    split
    · obtain ⟨k1, k2, k3, k4⟩ := H.ok f hf
      exact ⟨hc, k2, k3, by show _ ≤ f.bytes + z; omega, by show f.bytes + z ≤ _; omega⟩
    · obtain ⟨k1, k2, k3, k4⟩ := H.ok g0 hg0
      exact ⟨k1, k2, k3, by omega, by omega⟩
  · have fin : ∀ k : Int, (∃ g ∈ F, g.id = k) → ∃ g ∈ F.map (upF { f with bytes := f.bytes + z, c := c' }), g.id = k := fun k hk => by
      obtain ⟨g, hg2, e⟩ := hk
      exact ⟨_, List.mem_map_of_mem hg2, by rw [upF_id]; exact e⟩
    by_cases e : iD y = i
    · simp only [if_pos e]
      exact ⟨fin _ ⟨f, hf, rfl⟩, hz⟩
    · simp only [if_neg e]
      rcases List.mem_append.1 hy with hy | hy
      · obtain ⟨k1, k2⟩ := H.it y hy
        exact ⟨fin _ k1, k2⟩
      · rw [List.mem_singleton.1 hy] at e
        exact absurd hx e
  · rw [upF_ids]; exact H.nd
  · rw [upF_blks (f' := { f with bytes := f.bytes + z, c := c' }) H.nd hf rfl rfl]; exact H.nb
  · obtain ⟨g0, hg0, rfl⟩ := List.mem_map.1 hg2
    have e : (upF { f with bytes := f.bytes + z, c := c' } g0).blk = g0.blk := by
      unfold upF
      split
      · rename_i h9
        show f.blk = g0.blk
        rw [uniqF H.nd hg0 hf h9]
      · rfl
    rw [e]
    exact nR' _ (ltq _ (.inr (.inr (.inr (.inr (.inr ⟨g0, hg0, rfl⟩)))))) (H.nR.2.2.2.2 g0 hg0)
  · have := H.tn
    rw [List.length_append]
    simp
    omega
  · refine ⟨h9.os.trans (hg.os.trans (hs.os.trans b5.os)), h9.tape.trans (hg.tape.trans (hs.tape.trans b5.tape)), h9.output.trans (hg.output.trans (hs.output.trans b5.output)), by omega, fun k hk hnk => ?_⟩
    exact kp k hk (fun r => hnk (.inr (.inr (.inr (.inr (.inl r)))))) (fun e => hnk (.inr (.inr (.inl e)))) (fun e => hnk (.inr (.inr (.inr (.inr (.inr ⟨f, hf, e.symm⟩))))))
  · intro k hk hq
    rcases hq with e | e | e | e | e | ⟨g, hg2, e⟩
    · exact .inl e
    · exact .inr (.inl e)
    · exact .inr (.inr (.inl e))
    · exact .inr (.inr (.inr (.inl e)))
    · exact .inr (.inr (.inr (.inr (.inl (hn k (by omega) e)))))
    · obtain ⟨g0, hg0, rfl⟩ := List.mem_map.1 hg2
      refine .inr (.inr (.inr (.inr (.inr ⟨g0, hg0, ?_⟩))))
      rw [← e]
      unfold upF
      split
      · rename_i h9
        show g0.blk = f.blk
        rw [uniqF H.nd hg0 hf h9]
      · rfl
end
theorem rowF {W : World} {b r : Nat} {c0 c1 c2 c3 c4 c5 v3 v4 v5 u0 u1 : Value} {t : TypeId} (h : W.heap[b]? = some (.cells #[c0, c1, c2, c3, c4, c5] t (0, 0))) (hr : b ≠ r) : (((((W.setCell ⟨b, 3, none⟩ v3).setCell ⟨b, 4, none⟩ v4).setCell ⟨b, 5, none⟩ v5).setCell ⟨r, 0, none⟩ u0).setCell ⟨r, 1, none⟩ u1).heap[b]? = some (.cells #[c0, c1, c2, v3, v4, v5] t (0, 0)) := by
  have h3 := heap_setCell_same W b 3 _ _ v3 h
  simp only [List.setIfInBounds_toArray, List.set_cons_zero, List.set_cons_succ] at h3
  have h4 := heap_setCell_same _ b 4 _ _ v4 h3
  simp only [List.setIfInBounds_toArray, List.set_cons_zero, List.set_cons_succ] at h4
  have h5 := heap_setCell_same _ b 5 _ _ v5 h4
  simp only [List.setIfInBounds_toArray, List.set_cons_zero, List.set_cons_succ] at h5
  exact (Below.heap_setCell _ _ _ _ hr).trans ((Below.heap_setCell _ _ _ _ hr).trans h5)
theorem Sav.set1V {S : Nat → Prop} {A B : World} {q : Nat} (h : Sav S A B) (hq : S q) (i : Nat) (v : Value) : Sav S A (B.setCell ⟨q, i, none⟩ v) := h.tr (Sav.setCell (p := ⟨q, i, none⟩) hq B v)
theorem Sav.drewV {S : Nat → Prop} {A B : World} (h : Sav S A B) : Sav S A B.drew := ⟨h.os, h.tape, h.output, h.size, h.block⟩
set_option maxRecDepth 100000 in
set_option maxHeartbeats 8000000 in
/-- a packet comes that may. -/
theorem putQ {S : Nat → Prop} {w : World} {q : Nat} {F : List Fw} {M : List It} {T : Int} {X : Int → Int × Int} (H : Qu S w q F M T X) {i fl z now : Int} (hp : packB i fl z = true) (ht : tickB now = true) {f : Fw} (hf : f ∈ F) (hid : f.id = fl) (hi : ¬ ∃ y ∈ M, iD y = i) (hr : z ≤ f.room - f.bytes) (hT : T < 900000) (hM : M.length < 50000) (hm : ClkB (max f.c (now * f.rate) + z) f.rate) :
    Calls Try.prog 9 #[.pointer (some ⟨q, 0, none⟩), .agg #[.int .i64 i, .int .i64 fl, .int .i64 z], .int .i64 now] w fun e w' => e = .returned (.tuple #[.agg #[.int .i64 (frN (max f.c (now * f.rate) + z) f.rate), .int .i64 (frD (max f.c (now * f.rate) + z) f.rate)], .int .i64 0]) ∧
      ∃ S', Qu S' w' q (F.map (upF { f with bytes := f.bytes + z, c := max f.c (now * f.rate) + z })) (M ++ [(i, frN (max f.c (now * f.rate) + z) f.rate, frD (max f.c (now * f.rate) + z) f.rate, T + 1)]) (T + 1) (fun k => if k = i then (f.id, z) else X k) ∧ Sav S w w' ∧ Nxt S S' w := by
  obtain ⟨tb, h, pb, fb, R, np, HA0, hS⟩ := H
  have HA := hidd HA0
  have HS := hidd hS
  obtain ⟨⟨i0, i1⟩, ⟨l0, l1⟩, z0, z1⟩ := of_decide_eq_true hp
  obtain ⟨n0, n1⟩ := of_decide_eq_true ht
  obtain ⟨k1, k2, ⟨m0, m1⟩, t0, t1⟩ := HA0.ok f hf
  obtain ⟨tn1, tn2, tn3⟩ := HA0.tn
  obtain ⟨W1, hW1⟩ : ∃ W1, (w.alloc (.cells #[.int .i64 i, .int .i64 fl, .int .i64 z] 31)).alloc (.cells #[.int .i64 0, .int .i64 0] 35) = W1 := ⟨_, rfl⟩
  have HW1 := hidd hW1
  have B1 := hidd (show Below w.heap.size w W1 from by rw [← hW1]; exact below_new (below_new (Below.refl _ _) _) _)
  have SZ := hidd (show W1.heap.size = w.heap.size + 2 from by rw [← hW1]; simp)
  have BX := hidd (show W1.heap[w.heap.size]? = some (.cells #[.int .i64 i, .int .i64 fl, .int .i64 z] 31 (0, 0)) from by rw [← hW1]; exact (Below.heap_alloc _ _ _ (by simp)).trans (heap_alloc_new w _))
  have RS := hidd (show W1.heap[w.heap.size + 1]? = some (.cells #[.int .i64 0, .int .i64 0] 35 (0, 0)) from by rw [← hW1]; have q := heap_alloc_new (w.alloc (.cells #[.int .i64 i, .int .i64 fl, .int .i64 z] 31)) (.cells #[.int .i64 0, .int .i64 0] 35); simp only [World.size_alloc] at q; exact q)
  have NI := hidd (show -9223372036854775808 ≤ i ∧ i ≤ 9223372036854775807 ∧ -9223372036854775808 ≤ fl ∧ fl ≤ 9223372036854775807 from by omega)
  have NPB := hidd (show np < 1000000 from by omega)
  have HF := hidd hf
  have HID := hidd hid
  have HI := hidd hi
  have HZ := hidd (And.intro z0 z1)
  have HM := hidd hm
  have HT := hidd hT
  have AP := hidd HA0.apart
  have HAY : Hid (∀ Y, Below W1.heap.size W1 Y → QuA tb h pb fb R Y q F M T np X) := hidd (fun Y hb => HA.out.below (B1.out.trans (hb.mono B1.out.size)))
  have KS : Hid (∀ Y, Below W1.heap.size W1 Y → PS q tb w.heap.size i fl z Y) := hidd (fun Y hb => by
    obtain ⟨y0, -, -, -⟩ := (HAY.out Y hb).qc
    have hrow := (hb.block w.heap.size (by have := SZ.out; omega)).trans BX.out
    exact ⟨y0, by simp [World.cell?, hrow], by simp [World.cell?, hrow], by simp [World.cell?, hrow]⟩)
  have KL : Hid (∀ Y, Below W1.heap.size W1 Y → PL q tb h pb fb w.heap.size i fl z f.blk Y) := hidd (fun Y hb => by
    have HY := HAY.out Y hb
    obtain ⟨y0, y1, y2, y3⟩ := HY.qc
    have hrow := (hb.block w.heap.size (by have := SZ.out; omega)).trans BX.out
    have e1 := (HY.fl.look (x := fl) NI.out.2.2.1 NI.out.2.2.2).1
    rw [← HID.out, blkOf_in HY.nd HF.out, HID.out] at e1
    exact ⟨y0, y1, y2, y3, by simp [World.cell?, hrow], by simp [World.cell?, hrow], by simp [World.cell?, hrow], e1⟩)
  have cN := hidd (fun Y (hb : Below W1.heap.size W1 Y) => vNone_yes (HAY.out Y hb).qc.1)
  have cP := hidd (fun Y => checkPkt_ok hp Y)
  have cT := hidd (fun Y => isTick_any now Y)
  rw [ht] at cT
  have cR := hidd (fun Y (hb : Below W1.heap.size W1 Y) => room_ok (HAY.out Y hb) hp hf hid hi hr hM)
  have cS := hidd (fun Y (hb : Below W1.heap.size W1 Y) => stampOf_any ((HAY.out Y hb).fs f hf) k1 n0 n1 z0 z1 hm)
  have hmay : mayB i (frN (max f.c (now * f.rate) + z) f.rate) (frD (max f.c (now * f.rate) + z) f.rate) = true := by
    unfold mayB
    rw [fr_rightB hm, decide_eq_true i0, decide_eq_true i1]
    rfl
  have fb4 := fr_bounds hm
  have cH := hidd (fun Y (hb : Below W1.heap.size W1 Y) => putR_ok (HAY.out Y hb).hr fb4.1 fb4.2.1 fb4.2.2.1 fb4.2.2.2 hmay hi (by omega) (by omega) (by omega))
  have wrb : IntKind.i64.wrap (f.bytes + z) = f.bytes + z := by rw [IntKind.wrap_i64]; omega
  have WRB := hidd wrb
  clear hp ht hf hid hi hr hM hm hT i0 i1 l0 l1 z0 z1 n0 n1 k1 k2 m0 m1 t0 t1 tn1 tn2 tn3 hmay fb4 HA0 hS hW1 wrb
  generalize hc' : max f.c (now * f.rate) + z = c' at *
  clear hc'
  obtain ⟨sn, hsn⟩ : ∃ x, frN c' f.rate = x := ⟨_, rfl⟩
  obtain ⟨sd, hsd⟩ : ∃ x, frD c' f.rate = x := ⟨_, rfl⟩
  rw [hsn, hsd] at cS cH
  rw [hsn, hsd]
  have HSN := hidd (And.intro hsn hsd)
  clear hsn hsd
  obtain ⟨PO, hPO⟩ : ∃ PO : Ending → World → Prop, (fun (e : Ending) (w' : World) => e = .returned (.tuple #[.agg #[.int .i64 sn, .int .i64 sd], .int .i64 0]) ∧ ∃ S', Qu S' w' q (F.map (upF { f with bytes := f.bytes + z, c := c' })) (M ++ [(i, sn, sd, T + 1)]) (T + 1) (fun k => if k = i then (f.id, z) else X k) ∧ Sav S w w' ∧ Nxt S S' w) = PO := ⟨_, rfl⟩
  have HPO := hidd hPO
  rw [hPO]
  clear hPO
  obtain ⟨-, x0, x1, x2⟩ := KS.out W1 (Below.refl _ _)
  go_enter Try.func9, Try.ntmps9
  go_wp2_with fail
  rw [HW1.out]
  refine (cN.out _ (Below.refl _ _)).mono ?_
  rintro e w1 ⟨rfl, rfl⟩
  go_wp2_with fail
  refine (cP.out _).mono ?_
  rintro e w2 ⟨rfl, hb2⟩
  have B2 := hidd hb2
  clear hb2 x0 x1 x2
  go_wp2_with fail
  refine (cT.out _).mono ?_
  rintro e w1 ⟨rfl, rfl⟩
  go_wp2_with fail
  refine wp_region_held_drew (S := (fun Y => PS q tb w.heap.size i fl z Y)) (by kernel_rfl) (KS.out _ (Below.drew B2.out)) (fun hH => ?_)
  refine wpAnyH_take (i := 0) (v := ?va0_1) (by (conv => lhs; simp only [List.getElem?_toArray, List.getElem?_cons_succ, List.getElem?_cons_zero])) (by kernel_rfl) (by kernel_rfl) (by kernel_rfl) ?hQ (Or.inl ⟨by rfl, ?hya0_1⟩) hH ?resta0_1
  case hQ => exact fun _ _ _ h => h
  case hya0_1 => (intro Y hY; obtain ⟨y0, y1, y2, y3⟩ := hY; go_simp; try (with_reducible rfl))
  try simp only [Act.put, List.setIfInBounds_toArray, List.set_cons_zero, List.set_cons_succ]
  refine wpAnyH_take (i := 1) (v := ?va1_2) (by (conv => lhs; simp only [List.getElem?_toArray, List.getElem?_cons_succ, List.getElem?_cons_zero])) (by kernel_rfl) (by kernel_rfl) (by kernel_rfl) ?hQ (Or.inl ⟨by rfl, ?hya1_2⟩) hH ?resta1_2
  case hQ => exact fun _ _ _ h => h
  case hya1_2 => (intro Y hY; obtain ⟨y0, y1, y2, y3⟩ := hY; go_simp; try (with_reducible rfl))
  try simp only [Act.put, List.setIfInBounds_toArray, List.set_cons_zero, List.set_cons_succ]
  refine wpAnyH_take (i := 2) (v := ?va2_3) (by (conv => lhs; simp only [List.getElem?_toArray, List.getElem?_cons_succ, List.getElem?_cons_zero])) (by kernel_rfl) (by kernel_rfl) (by kernel_rfl) ?hQ (Or.inl ⟨by rfl, ?hya2_3⟩) hH ?resta2_3
  case hQ => exact fun _ _ _ h => h
  case hya2_3 => (intro Y hY; obtain ⟨y0, y1, y2, y3⟩ := hY; go_simp; try (with_reducible rfl))
  try simp only [Act.put, List.setIfInBounds_toArray, List.set_cons_zero, List.set_cons_succ]
  refine wpAnyH_take (i := 3) (v := ?va3_4) (by (conv => lhs; simp only [List.getElem?_toArray, List.getElem?_cons_succ, List.getElem?_cons_zero])) (by kernel_rfl) (by kernel_rfl) (by kernel_rfl) ?hQ (Or.inl ⟨by rfl, ?hya3_4⟩) hH ?resta3_4
  case hQ => exact fun _ _ _ h => h
  case hya3_4 => (intro Y hY; obtain ⟨y0, y1, y2, y3⟩ := hY; go_simp; try (with_reducible rfl))
  try simp only [Act.put, List.setIfInBounds_toArray, List.set_cons_zero, List.set_cons_succ]
  refine wpAnyH_take (i := 4) (v := ?va4_5) (by (conv => lhs; simp only [List.getElem?_toArray, List.getElem?_cons_succ, List.getElem?_cons_zero])) (by kernel_rfl) (by kernel_rfl) (by kernel_rfl) ?hQ (Or.inl ⟨by rfl, ?hya4_5⟩) hH ?resta4_5
  case hQ => exact fun _ _ _ h => h
  case hya4_5 => (intro Y hY; obtain ⟨y0, y1, y2, y3⟩ := hY; go_simp; try (with_reducible rfl))
  try simp only [Act.put, List.setIfInBounds_toArray, List.set_cons_zero, List.set_cons_succ]
  refine wpAnyH_ready (rs := [5]) (by kernel_rfl) (by simp) ?_
  refine AllReadyH.cons (by (conv => lhs; simp only [List.getElem?_toArray, List.getElem?_cons_succ, List.getElem?_cons_zero])) (fun K hK => ?_) AllReadyH.nil
  go_simp
  go_at_call 20; refine (cR.out _ (Below.drew B2.out)).mono ?_; rintro e w3 ⟨rfl, hb3⟩
  have B3 := hidd (show Below W1.heap.size W1 w3 from (Below.drew B2.out).trans (hb3.mono (Below.drew B2.out).size))
  clear hb3
  refine hK.out _ _ (KS.out _ B3.out) (fun hH1 => ?_)
  clear hK hH
  try simp only [Act.put, List.setIfInBounds_toArray, List.set_cons_zero, List.set_cons_succ]
  refine wpAnyH_take (i := 6) (v := ?va6_6) (by (conv => lhs; simp only [List.getElem?_toArray, List.getElem?_cons_succ, List.getElem?_cons_zero])) (by kernel_rfl) (by kernel_rfl) (by kernel_rfl) ?hQ (Or.inl ⟨by rfl, ?hya6_6⟩) hH1 ?resta6_6
  case hQ => exact fun _ _ _ h => h
  case hya6_6 => (intro Y hY; obtain ⟨y0, y1, y2, y3⟩ := hY; go_simp; try (with_reducible rfl))
  try simp only [Act.put, List.setIfInBounds_toArray, List.set_cons_zero, List.set_cons_succ]
  refine wpAnyH_done (by kernel_rfl) (?_) _
  go_wp2_with fail
  refine wp_region_held_drew (S := (fun Y => PL q tb h pb fb w.heap.size i fl z f.blk Y)) (by kernel_rfl) (KL.out _ (Below.drew B3.out)) (fun hH => ?_)
  refine wpAnyH_take (i := 0) (v := ?vb0_1) (by (conv => lhs; simp only [List.getElem?_toArray, List.getElem?_cons_succ, List.getElem?_cons_zero])) (by kernel_rfl) (by kernel_rfl) (by kernel_rfl) ?hQ (Or.inl ⟨by rfl, ?hyb0_1⟩) hH ?restb0_1
  case hQ => exact fun _ _ _ h => h
  case hyb0_1 => (intro Y hY; obtain ⟨y0, y1, y2, y3, y4, y5, y6, y7⟩ := hY; go_simp; try (with_reducible rfl))
  try simp only [Act.put, List.setIfInBounds_toArray, List.set_cons_zero, List.set_cons_succ]
  refine wpAnyH_take (i := 1) (v := ?vb1_2) (by (conv => lhs; simp only [List.getElem?_toArray, List.getElem?_cons_succ, List.getElem?_cons_zero])) (by kernel_rfl) (by kernel_rfl) (by kernel_rfl) ?hQ (Or.inl ⟨by rfl, ?hyb1_2⟩) hH ?restb1_2
  case hQ => exact fun _ _ _ h => h
  case hyb1_2 => (intro Y hY; obtain ⟨y0, y1, y2, y3, y4, y5, y6, y7⟩ := hY; go_simp; try (with_reducible rfl))
  try simp only [Act.put, List.setIfInBounds_toArray, List.set_cons_zero, List.set_cons_succ]
  refine wpAnyH_take (i := 2) (v := ?vb2_3) (by (conv => lhs; simp only [List.getElem?_toArray, List.getElem?_cons_succ, List.getElem?_cons_zero])) (by kernel_rfl) (by kernel_rfl) (by kernel_rfl) ?hQ (Or.inl ⟨by rfl, ?hyb2_3⟩) hH ?restb2_3
  case hQ => exact fun _ _ _ h => h
  case hyb2_3 => (intro Y hY; obtain ⟨y0, y1, y2, y3, y4, y5, y6, y7⟩ := hY; go_simp; try (with_reducible rfl))
  try simp only [Act.put, List.setIfInBounds_toArray, List.set_cons_zero, List.set_cons_succ]
  refine wpAnyH_take (i := 3) (v := ?vb3_4) (by (conv => lhs; simp only [List.getElem?_toArray, List.getElem?_cons_succ, List.getElem?_cons_zero])) (by kernel_rfl) (by kernel_rfl) (by kernel_rfl) ?hQ (Or.inl ⟨by rfl, ?hyb3_4⟩) hH ?restb3_4
  case hQ => exact fun _ _ _ h => h
  case hyb3_4 => (intro Y hY; obtain ⟨y0, y1, y2, y3, y4, y5, y6, y7⟩ := hY; go_simp; try (with_reducible rfl))
  try simp only [Act.put, List.setIfInBounds_toArray, List.set_cons_zero, List.set_cons_succ]
  refine wpAnyH_take (i := 4) (v := ?vb4_5) (by (conv => lhs; simp only [List.getElem?_toArray, List.getElem?_cons_succ, List.getElem?_cons_zero])) (by kernel_rfl) (by kernel_rfl) (by kernel_rfl) ?hQ (Or.inl ⟨by rfl, ?hyb4_5⟩) hH ?restb4_5
  case hQ => exact fun _ _ _ h => h
  case hyb4_5 => (intro Y hY; obtain ⟨y0, y1, y2, y3, y4, y5, y6, y7⟩ := hY; go_simp; try (with_reducible rfl))
  try simp only [Act.put, List.setIfInBounds_toArray, List.set_cons_zero, List.set_cons_succ]
  refine wpAnyH_take (i := 5) (v := ?vb5_6) (by (conv => lhs; simp only [List.getElem?_toArray, List.getElem?_cons_succ, List.getElem?_cons_zero])) (by kernel_rfl) (by kernel_rfl) (by kernel_rfl) ?hQ (Or.inl ⟨by rfl, ?hyb5_6⟩) hH ?restb5_6
  case hQ => exact fun _ _ _ h => h
  case hyb5_6 => (intro Y hY; obtain ⟨y0, y1, y2, y3, y4, y5, y6, y7⟩ := hY; go_simp; try (with_reducible rfl))
  try simp only [Act.put, List.setIfInBounds_toArray, List.set_cons_zero, List.set_cons_succ]
  refine wpAnyH_take (i := 6) (v := ?vb6_7) (by (conv => lhs; simp only [List.getElem?_toArray, List.getElem?_cons_succ, List.getElem?_cons_zero])) (by kernel_rfl) (by kernel_rfl) (by kernel_rfl) ?hQ (Or.inl ⟨by rfl, ?hyb6_7⟩) hH ?restb6_7
  case hQ => exact fun _ _ _ h => h
  case hyb6_7 => (intro Y hY; obtain ⟨y0, y1, y2, y3, y4, y5, y6, y7⟩ := hY; go_simp; try (with_reducible rfl))
  try simp only [Act.put, List.setIfInBounds_toArray, List.set_cons_zero, List.set_cons_succ]
  refine wpAnyH_take (i := 7) (v := ?vb7_8) (by (conv => lhs; simp only [List.getElem?_toArray, List.getElem?_cons_succ, List.getElem?_cons_zero])) (by kernel_rfl) (by kernel_rfl) (by kernel_rfl) ?hQ (Or.inl ⟨by rfl, ?hyb7_8⟩) hH ?restb7_8
  case hQ => exact fun _ _ _ h => h
  case hyb7_8 => (intro Y hY; obtain ⟨y0, y1, y2, y3, y4, y5, y6, y7⟩ := hY; go_simp; try (with_reducible rfl))
  try simp only [Act.put, List.setIfInBounds_toArray, List.set_cons_zero, List.set_cons_succ]
  refine wpAnyH_take (i := 8) (v := ?vb8_9) (by (conv => lhs; simp only [List.getElem?_toArray, List.getElem?_cons_succ, List.getElem?_cons_zero])) (by kernel_rfl) (by kernel_rfl) (by kernel_rfl) ?hQ (Or.inl ⟨by rfl, ?hyb8_9⟩) hH ?restb8_9
  case hQ => exact fun _ _ _ h => h
  case hyb8_9 => (intro Y hY; obtain ⟨y0, y1, y2, y3, y4, y5, y6, y7⟩ := hY; go_simp; try (with_reducible rfl))
  try simp only [Act.put, List.setIfInBounds_toArray, List.set_cons_zero, List.set_cons_succ]
  refine wpAnyH_take (i := 9) (v := ?vb9_10) (by (conv => lhs; simp only [List.getElem?_toArray, List.getElem?_cons_succ, List.getElem?_cons_zero])) (by kernel_rfl) (by kernel_rfl) (by kernel_rfl) ?hQ (Or.inl ⟨by rfl, ?hyb9_10⟩) hH ?restb9_10
  case hQ => exact fun _ _ _ h => h
  case hyb9_10 => (intro Y hY; obtain ⟨y0, y1, y2, y3, y4, y5, y6, y7⟩ := hY; go_simp; try (with_reducible rfl))
  try simp only [Act.put, List.setIfInBounds_toArray, List.set_cons_zero, List.set_cons_succ]
  refine wpAnyH_take (i := 10) (v := ?vb10_11) (by (conv => lhs; simp only [List.getElem?_toArray, List.getElem?_cons_succ, List.getElem?_cons_zero])) (by kernel_rfl) (by kernel_rfl) (by kernel_rfl) ?hQ (Or.inl ⟨by rfl, ?hyb10_11⟩) hH ?restb10_11
  case hQ => exact fun _ _ _ h => h
  case hyb10_11 => (intro Y hY; obtain ⟨y0, y1, y2, y3, y4, y5, y6, y7⟩ := hY; go_simp; try (with_reducible rfl))
  try simp only [Act.put, List.setIfInBounds_toArray, List.set_cons_zero, List.set_cons_succ]
  refine wpAnyH_done (by kernel_rfl) (?_) _
  obtain ⟨-, x0, x1, x2⟩ := KS.out w3 B3.out
  go_wp2_with fail
  refine (cS.out _ (Below.drew B3.out)).mono ?_
  rintro e w4 ⟨rfl, hb4⟩
  have B4 := hidd (show Below W1.heap.size W1 w4 from (Below.drew B3.out).trans (hb4.mono (Below.drew B3.out).size))
  clear hb4 x0 x1 x2
  go_wp2_with fail
  obtain ⟨W5, hW5⟩ : ∃ W5, w4.alloc (.cells #[.int .i64 sn, .int .i64 sd] 35) = W5 := ⟨_, rfl⟩
  obtain ⟨P10, hP10⟩ : ∃ P, w4.heap.size = P := ⟨_, rfl⟩
  have B5 := hidd (show Below W1.heap.size W1 W5 from by rw [← hW5]; exact below_new B4.out _)
  have PR := hidd (show W5.heap[P10]? = some (.cells #[.int .i64 sn, .int .i64 sd] 35 (0, 0)) from by rw [← hW5, ← hP10]; exact heap_alloc_new w4 _)
  have SP := hidd (show W1.heap.size ≤ P10 ∧ W5.heap.size = P10 + 1 from ⟨by rw [← hP10]; exact B4.out.size, by rw [← hW5, ← hP10]; simp⟩)
  rw [hW5, hP10]
  clear hW5 hP10
  have HA5 := hidd (HAY.out W5 B5.out)
  have RLT := hidd (fun k (hk : R k) => HA.out.hr.lt k hk)
  have XB := hidd ((B5.out.block w.heap.size (by have := SZ.out; omega)).trans BX.out)
  have XR := hidd ((B5.out.block (w.heap.size + 1) (by have := SZ.out; omega)).trans RS.out)
  have K6 : Hid (∀ Y, Sav R W5 Y → PP12 q tb h w.heap.size P10 i sn sd Y) := hidd (fun Y hs => by
    have s5 := SP.out
    have e1 := (hs.block q (HA5.out.lt (.inl rfl)) HA5.out.nR.1).trans HA5.out.q0
    have e2 := (hs.block tb (HA5.out.lt (.inr (.inl rfl))) HA5.out.nR.2.1).trans HA5.out.t0
    have e3 := (hs.block w.heap.size (by have := SZ.out; omega) (fun r => by have := RLT.out _ r; omega)).trans XB.out
    have e4 := (hs.block P10 (by omega) (fun r => by have := RLT.out _ r; have := SZ.out; omega)).trans PR.out
    exact ⟨by simp [World.cell?, e1], by simp [World.cell?, e2], by simp [World.cell?, e3], by simp [World.cell?, e4], by simp [World.cell?, e4]⟩)
  have K12 := hidd (fun Y (hb : Below W5.heap.size W5 Y) => K6.out Y (Sav.of hb))
  have cH5 := hidd (fun Y (hb : Below W5.heap.size W5 Y) => cH.out Y (B5.out.trans (hb.mono B5.out.size)))
  have K13 : Hid (∀ Y, (∀ k, k < W5.heap.size → ¬ R k → k ≠ pb → Y.heap[k]? = W5.heap[k]?) → PL13 q tb pb w.heap.size i fl z Y) := hidd (fun Y hs => by
    have s5 := SP.out
    have e1 := (hs q (HA5.out.lt (.inl rfl)) HA5.out.nR.1 AP.out.2.1).trans HA5.out.q0
    have e2 := (hs tb (HA5.out.lt (.inr (.inl rfl))) HA5.out.nR.2.1 AP.out.2.2.2.1).trans HA5.out.t0
    have e3 := (hs w.heap.size (by have := SZ.out; omega) (fun r => by have := RLT.out _ r; omega) (fun e => by have := HA.out.lt (k := pb) (.inr (.inr (.inl rfl))); omega)).trans XB.out
    exact ⟨by simp [World.cell?, e1], by simp [World.cell?, e2], by simp [World.cell?, e3], by simp [World.cell?, e3], by simp [World.cell?, e3], trivial⟩)
  clear KS KL cN cP cT cR cS cH
  refine wp_region_held_drew (S := (fun Y => PP12 q tb h w.heap.size P10 i sn sd Y)) (by kernel_rfl) (K12.out _ (Below.drew (Below.refl _ _))) (fun hH => ?_)
  refine wpAnyH_take (i := 0) (v := ?vc0_1) (by (conv => lhs; simp only [List.getElem?_toArray, List.getElem?_cons_succ, List.getElem?_cons_zero])) (by kernel_rfl) (by kernel_rfl) (by kernel_rfl) ?hQ (Or.inl ⟨by rfl, ?hyc0_1⟩) hH ?restc0_1
  case hQ => exact fun _ _ _ h => h
  case hyc0_1 => (intro Y hY; obtain ⟨y0, y1, y2, y3, y4⟩ := hY; go_simp; try (with_reducible rfl))
  try simp only [Act.put, List.setIfInBounds_toArray, List.set_cons_zero, List.set_cons_succ]
  refine wpAnyH_take (i := 1) (v := ?vc1_2) (by (conv => lhs; simp only [List.getElem?_toArray, List.getElem?_cons_succ, List.getElem?_cons_zero])) (by kernel_rfl) (by kernel_rfl) (by kernel_rfl) ?hQ (Or.inl ⟨by rfl, ?hyc1_2⟩) hH ?restc1_2
  case hQ => exact fun _ _ _ h => h
  case hyc1_2 => (intro Y hY; obtain ⟨y0, y1, y2, y3, y4⟩ := hY; go_simp; try (with_reducible rfl))
  try simp only [Act.put, List.setIfInBounds_toArray, List.set_cons_zero, List.set_cons_succ]
  refine wpAnyH_take (i := 2) (v := ?vc2_3) (by (conv => lhs; simp only [List.getElem?_toArray, List.getElem?_cons_succ, List.getElem?_cons_zero])) (by kernel_rfl) (by kernel_rfl) (by kernel_rfl) ?hQ (Or.inl ⟨by rfl, ?hyc2_3⟩) hH ?restc2_3
  case hQ => exact fun _ _ _ h => h
  case hyc2_3 => (intro Y hY; obtain ⟨y0, y1, y2, y3, y4⟩ := hY; go_simp; try (with_reducible rfl))
  try simp only [Act.put, List.setIfInBounds_toArray, List.set_cons_zero, List.set_cons_succ]
  refine wpAnyH_take (i := 3) (v := ?vc3_4) (by (conv => lhs; simp only [List.getElem?_toArray, List.getElem?_cons_succ, List.getElem?_cons_zero])) (by kernel_rfl) (by kernel_rfl) (by kernel_rfl) ?hQ (Or.inl ⟨by rfl, ?hyc3_4⟩) hH ?restc3_4
  case hQ => exact fun _ _ _ h => h
  case hyc3_4 => (intro Y hY; obtain ⟨y0, y1, y2, y3, y4⟩ := hY; go_simp; try (with_reducible rfl))
  try simp only [Act.put, List.setIfInBounds_toArray, List.set_cons_zero, List.set_cons_succ]
  refine wpAnyH_take (i := 4) (v := ?vc4_5) (by (conv => lhs; simp only [List.getElem?_toArray, List.getElem?_cons_succ, List.getElem?_cons_zero])) (by kernel_rfl) (by kernel_rfl) (by kernel_rfl) ?hQ (Or.inl ⟨by rfl, ?hyc4_5⟩) hH ?restc4_5
  case hQ => exact fun _ _ _ h => h
  case hyc4_5 => (intro Y hY; obtain ⟨y0, y1, y2, y3, y4⟩ := hY; go_simp; try (with_reducible rfl))
  try simp only [Act.put, List.setIfInBounds_toArray, List.set_cons_zero, List.set_cons_succ]
  refine wpAnyH_take (i := 5) (v := ?vc5_6) (by (conv => lhs; simp only [List.getElem?_toArray, List.getElem?_cons_succ, List.getElem?_cons_zero])) (by kernel_rfl) (by kernel_rfl) (by kernel_rfl) ?hQ (Or.inl ⟨by rfl, ?hyc5_6⟩) hH ?restc5_6
  case hQ => exact fun _ _ _ h => h
  case hyc5_6 => (intro Y hY; obtain ⟨y0, y1, y2, y3, y4⟩ := hY; go_simp; try (with_reducible rfl))
  try simp only [Act.put, List.setIfInBounds_toArray, List.set_cons_zero, List.set_cons_succ]
  refine wpAnyH_take (i := 6) (v := ?vc6_7) (by (conv => lhs; simp only [List.getElem?_toArray, List.getElem?_cons_succ, List.getElem?_cons_zero])) (by kernel_rfl) (by kernel_rfl) (by kernel_rfl) ?hQ (Or.inl ⟨by rfl, ?hyc6_7⟩) hH ?restc6_7
  case hQ => exact fun _ _ _ h => h
  case hyc6_7 => (intro Y hY; obtain ⟨y0, y1, y2, y3, y4⟩ := hY; go_simp; try (with_reducible rfl))
  try simp only [Act.put, List.setIfInBounds_toArray, List.set_cons_zero, List.set_cons_succ]
  refine wpAnyH_take (i := 7) (v := ?vc7_8) (by (conv => lhs; simp only [List.getElem?_toArray, List.getElem?_cons_succ, List.getElem?_cons_zero])) (by kernel_rfl) (by kernel_rfl) (by kernel_rfl) ?hQ (Or.inl ⟨by rfl, ?hyc7_8⟩) hH ?restc7_8
  case hQ => exact fun _ _ _ h => h
  case hyc7_8 => (intro Y hY; obtain ⟨y0, y1, y2, y3, y4⟩ := hY; go_simp; try (with_reducible rfl))
  try simp only [Act.put, List.setIfInBounds_toArray, List.set_cons_zero, List.set_cons_succ]
  refine wpAnyH_take (i := 8) (v := ?vc8_9) (by (conv => lhs; simp only [List.getElem?_toArray, List.getElem?_cons_succ, List.getElem?_cons_zero])) (by kernel_rfl) (by kernel_rfl) (by kernel_rfl) ?hQ (Or.inl ⟨by rfl, ?hyc8_9⟩) hH ?restc8_9
  case hQ => exact fun _ _ _ h => h
  case hyc8_9 => (intro Y hY; obtain ⟨y0, y1, y2, y3, y4⟩ := hY; go_simp; try (with_reducible rfl))
  try simp only [Act.put, List.setIfInBounds_toArray, List.set_cons_zero, List.set_cons_succ]
  refine wpAnyH_take (i := 9) (v := ?vc9_10) (by (conv => lhs; simp only [List.getElem?_toArray, List.getElem?_cons_succ, List.getElem?_cons_zero])) (by kernel_rfl) (by kernel_rfl) (by kernel_rfl) ?hQ (Or.inl ⟨by rfl, ?hyc9_10⟩) hH ?restc9_10
  case hQ => exact fun _ _ _ h => h
  case hyc9_10 => (intro Y hY; obtain ⟨y0, y1, y2, y3, y4⟩ := hY; go_simp; try (with_reducible rfl))
  try simp only [Act.put, List.setIfInBounds_toArray, List.set_cons_zero, List.set_cons_succ]
  refine wpAnyH_ready (rs := [10]) (by kernel_rfl) (by simp) ?_
  refine AllReadyH.cons (by (conv => lhs; simp only [List.getElem?_toArray, List.getElem?_cons_succ, List.getElem?_cons_zero])) (fun K hK => ?_) AllReadyH.nil
  go_simp
  go_at_call 22; refine (cH5.out _ (Below.drew (Below.refl _ _))).mono ?_; rintro e w6 ⟨rfl, R', hr6, hs6, hn6⟩
  have S6 := hidd (show Sav R W5 w6 from (Sav.of (Below.drew (Below.refl _ _))).tr hs6)
  have HR6 := hidd hr6
  have N6 := hidd (show Nxt R R' W5 from hn6)
  clear hr6 hs6 hn6
  refine hK.out _ _ (K6.out _ S6.out) (fun hH1 => ?_)
  clear hK hH
  try simp only [Act.put, List.setIfInBounds_toArray, List.set_cons_zero, List.set_cons_succ]
  refine wpAnyH_done (by kernel_rfl) (?_) _
  go_wp2_with fail
  have PK6 := hidd (show PkM w6.drew pb np (pkOf M X) from HA5.out.pk.to (S6.out.block pb (HA5.out.lt (.inr (.inr (.inl rfl)))) HA5.out.nR.2.2.1))
  have HK6 := hidd (K13.out w6.drew (fun k hk hn _ => S6.out.block k hk hn))
  have K7 : Hid (∀ Y, w6.drew.grownBy Y (some pb) → PL13 q tb pb w.heap.size i fl z Y) := hidd (fun Y hg => K13.out Y (fun k hk hn hne => (hg.block k (Nat.lt_of_lt_of_le hk S6.out.size) (fun e => hne (by cases e; rfl))).trans (S6.out.block k hk hn)))
  refine wp_region_held_drew (S := (fun Y => PL13 q tb pb w.heap.size i fl z Y)) (by kernel_rfl) (HK6.out) (fun hH => ?_)
  refine wpAnyH_take (i := 0) (v := ?vd0_1) (by (conv => lhs; simp only [List.getElem?_toArray, List.getElem?_cons_succ, List.getElem?_cons_zero])) (by kernel_rfl) (by kernel_rfl) (by kernel_rfl) ?hQ (Or.inl ⟨by rfl, ?hyd0_1⟩) hH ?restd0_1
  case hQ => exact fun _ _ _ h => h
  case hyd0_1 => (intro Y hY; obtain ⟨y0, y1, y2, y3, y4, y5⟩ := hY; go_simp; try (with_reducible rfl))
  try simp only [Act.put, List.setIfInBounds_toArray, List.set_cons_zero, List.set_cons_succ]
  refine wpAnyH_take (i := 1) (v := ?vd1_2) (by (conv => lhs; simp only [List.getElem?_toArray, List.getElem?_cons_succ, List.getElem?_cons_zero])) (by kernel_rfl) (by kernel_rfl) (by kernel_rfl) ?hQ (Or.inl ⟨by rfl, ?hyd1_2⟩) hH ?restd1_2
  case hQ => exact fun _ _ _ h => h
  case hyd1_2 => (intro Y hY; obtain ⟨y0, y1, y2, y3, y4, y5⟩ := hY; go_simp; try (with_reducible rfl))
  try simp only [Act.put, List.setIfInBounds_toArray, List.set_cons_zero, List.set_cons_succ]
  refine wpAnyH_take (i := 2) (v := ?vd2_3) (by (conv => lhs; simp only [List.getElem?_toArray, List.getElem?_cons_succ, List.getElem?_cons_zero])) (by kernel_rfl) (by kernel_rfl) (by kernel_rfl) ?hQ (Or.inl ⟨by rfl, ?hyd2_3⟩) hH ?restd2_3
  case hQ => exact fun _ _ _ h => h
  case hyd2_3 => (intro Y hY; obtain ⟨y0, y1, y2, y3, y4, y5⟩ := hY; go_simp; try (with_reducible rfl))
  try simp only [Act.put, List.setIfInBounds_toArray, List.set_cons_zero, List.set_cons_succ]
  refine wpAnyH_take (i := 3) (v := ?vd3_4) (by (conv => lhs; simp only [List.getElem?_toArray, List.getElem?_cons_succ, List.getElem?_cons_zero])) (by kernel_rfl) (by kernel_rfl) (by kernel_rfl) ?hQ (Or.inl ⟨by rfl, ?hyd3_4⟩) hH ?restd3_4
  case hQ => exact fun _ _ _ h => h
  case hyd3_4 => (intro Y hY; obtain ⟨y0, y1, y2, y3, y4, y5⟩ := hY; go_simp; try (with_reducible rfl))
  try simp only [Act.put, List.setIfInBounds_toArray, List.set_cons_zero, List.set_cons_succ]
  refine wpAnyH_take (i := 4) (v := ?vd4_5) (by (conv => lhs; simp only [List.getElem?_toArray, List.getElem?_cons_succ, List.getElem?_cons_zero])) (by kernel_rfl) (by kernel_rfl) (by kernel_rfl) ?hQ (Or.inl ⟨by rfl, ?hyd4_5⟩) hH ?restd4_5
  case hQ => exact fun _ _ _ h => h
  case hyd4_5 => (intro Y hY; obtain ⟨y0, y1, y2, y3, y4, y5⟩ := hY; go_simp; try (with_reducible rfl))
  try simp only [Act.put, List.setIfInBounds_toArray, List.set_cons_zero, List.set_cons_succ]
  refine wpAnyH_take (i := 5) (v := ?vd5_6) (by (conv => lhs; simp only [List.getElem?_toArray, List.getElem?_cons_succ, List.getElem?_cons_zero])) (by kernel_rfl) (by kernel_rfl) (by kernel_rfl) ?hQ (Or.inl ⟨by rfl, ?hyd5_6⟩) hH ?restd5_6
  case hQ => exact fun _ _ _ h => h
  case hyd5_6 => (intro Y hY; obtain ⟨y0, y1, y2, y3, y4, y5⟩ := hY; go_simp; try (with_reducible rfl))
  try simp only [Act.put, List.setIfInBounds_toArray, List.set_cons_zero, List.set_cons_succ]
  refine wpAnyH_take (i := 6) (v := ?vd6_7) (by (conv => lhs; simp only [List.getElem?_toArray, List.getElem?_cons_succ, List.getElem?_cons_zero])) (by kernel_rfl) (by kernel_rfl) (by kernel_rfl) ?hQ (Or.inl ⟨by rfl, ?hyd6_7⟩) hH ?restd6_7
  case hQ => exact fun _ _ _ h => h
  case hyd6_7 => (intro Y hY; obtain ⟨y0, y1, y2, y3, y4, y5⟩ := hY; go_simp; try (with_reducible rfl))
  try simp only [Act.put, List.setIfInBounds_toArray, List.set_cons_zero, List.set_cons_succ]
  refine wpAnyH_take (i := 7) (v := ?vd7_8) (by (conv => lhs; simp only [List.getElem?_toArray, List.getElem?_cons_succ, List.getElem?_cons_zero])) (by kernel_rfl) (by kernel_rfl) (by kernel_rfl) ?hQ (Or.inl ⟨by rfl, ?hyd7_8⟩) hH ?restd7_8
  case hQ => exact fun _ _ _ h => h
  case hyd7_8 => (intro Y hY; obtain ⟨y0, y1, y2, y3, y4, y5⟩ := hY; go_simp; try (with_reducible rfl))
  try simp only [Act.put, List.setIfInBounds_toArray, List.set_cons_zero, List.set_cons_succ]
  refine wpAnyH_take (i := 8) (v := ?vd8_9) (by (conv => lhs; simp only [List.getElem?_toArray, List.getElem?_cons_succ, List.getElem?_cons_zero])) (by kernel_rfl) (by kernel_rfl) (by kernel_rfl) ?hQ (Or.inl ⟨by rfl, ?hyd8_9⟩) hH ?restd8_9
  case hQ => exact fun _ _ _ h => h
  case hyd8_9 => (intro Y hY; obtain ⟨y0, y1, y2, y3, y4, y5⟩ := hY; go_simp; try (with_reducible rfl))
  try simp only [Act.put, List.setIfInBounds_toArray, List.set_cons_zero, List.set_cons_succ]
  refine wpAnyH_take (i := 9) (v := ?vd9_10) (by (conv => lhs; simp only [List.getElem?_toArray, List.getElem?_cons_succ, List.getElem?_cons_zero])) (by kernel_rfl) (by kernel_rfl) (by kernel_rfl) ?hQ (Or.inl ⟨by rfl, ?hyd9_10⟩) hH ?restd9_10
  case hQ => exact fun _ _ _ h => h
  case hyd9_10 => (intro Y hY; obtain ⟨y0, y1, y2, y3, y4, y5⟩ := hY; go_simp; try (with_reducible rfl))
  try simp only [Act.put, List.setIfInBounds_toArray, List.set_cons_zero, List.set_cons_succ]
  refine wpAnyH_ready (rs := [10]) (by kernel_rfl) (by simp) ?_
  refine AllReadyH.cons (by (conv => lhs; simp only [List.getElem?_toArray, List.getElem?_cons_succ, List.getElem?_cons_zero])) (fun K hK => ?_) AllReadyH.nil
  obtain ⟨w7, hrun, hpk7, hg7⟩ := PK6.out.put NI.out.1 NI.out.2.1 NPB.out (i, fl, z)
  clear hH
  have G7 := hidd hg7
  have HPK7 := hidd hpk7
  clear hg7 hpk7
  dsimp only at hrun
  go_simp
  refine hK.out _ _ (K7.out _ G7.out) (fun hH1 => ?_)
  clear hK hrun
  try simp only [Act.put, List.setIfInBounds_toArray, List.set_cons_zero, List.set_cons_succ]
  refine wpAnyH_done (by kernel_rfl) (?_) _
  have blk7 : ∀ k, k < W5.heap.size → ¬ R k → k ≠ pb → w7.heap[k]? = W5.heap[k]? := fun k hk hn hne => (G7.out.block k (Nat.lt_of_lt_of_le hk S6.out.size) (fun e => hne (by cases e; rfl))).trans (S6.out.block k hk hn)
  have hpbl := HA.out.lt (k := pb) (.inr (.inr (.inl rfl)))
  have hfl := HA.out.lt (k := f.blk) (.inr (.inr (.inr (.inr (.inr ⟨f, HF.out, rfl⟩)))))
  have s5 := SP.out
  have sz := SZ.out
  have hf7 := (blk7 f.blk (by omega) (HA.out.nR.2.2.2.2 f HF.out) (AP.out.2.2.2.2.2 f HF.out).2.2.1).trans (HA5.out.fs f HF.out)
  have hx7 := (blk7 w.heap.size (by omega) (fun r => by have := RLT.out _ r; omega) (by omega)).trans XB.out
  have hr7 := (blk7 (w.heap.size + 1) (by omega) (fun r => by have := RLT.out _ r; omega) (by omega)).trans XR.out
  have hp7 := (blk7 P10 (by omega) (fun r => by have := RLT.out _ r; omega) (by omega)).trans PR.out
  have HF7 := hidd hf7
  unfold fwObj at hf7
  have y2 : w7.cell? ⟨w.heap.size, 2, none⟩ = some (.int .i64 z) := by simp [World.cell?, hx7]
  have b3 : w7.cell? ⟨f.blk, 3, none⟩ = some (.int .i64 f.bytes) := by simp [World.cell?, hf7]
  have b4 : w7.cell? ⟨f.blk, 4, none⟩ = some (.int .i64 (frN f.c f.rate)) := by simp [World.cell?, hf7]
  have b5 : w7.cell? ⟨f.blk, 5, none⟩ = some (.int .i64 (frD f.c f.rate)) := by simp [World.cell?, hf7]
  have g3 : w7.frozen? ⟨f.blk, 3, none⟩ = false := by simp [World.frozen?, hf7]
  have g4 : w7.frozen? ⟨f.blk, 4, none⟩ = false := by simp [World.frozen?, hf7]
  have g5 : w7.frozen? ⟨f.blk, 5, none⟩ = false := by simp [World.frozen?, hf7]
  have p0 : w7.cell? ⟨P10, 0, none⟩ = some (.int .i64 sn) := by simp [World.cell?, hp7]
  have p1 : w7.cell? ⟨P10, 1, none⟩ = some (.int .i64 sd) := by simp [World.cell?, hp7]
  have r0 : w7.cell? ⟨w.heap.size + 1, 0, none⟩ = some (.int .i64 0) := by simp [World.cell?, hr7]
  have r1 : w7.cell? ⟨w.heap.size + 1, 1, none⟩ = some (.int .i64 0) := by simp [World.cell?, hr7]
  have q0 : w7.frozen? ⟨w.heap.size + 1, 0, none⟩ = false := by simp [World.frozen?, hr7]
  have q1 : w7.frozen? ⟨w.heap.size + 1, 1, none⟩ = false := by simp [World.frozen?, hr7]
  have n1 : f.blk ≠ P10 := by omega
  have n2 : f.blk ≠ w.heap.size + 1 := by omega
  have n3 : P10 ≠ w.heap.size + 1 := by omega
  have n4 : f.blk ≠ w.heap.size := by omega
  have K14 : Hid (∀ v, PB14 w.heap.size z (w7.drew.setCell ⟨f.blk, 3, none⟩ v)) := hidd (fun v => ⟨(World.cell?_of_block (a := ⟨w.heap.size, 2, none⟩) (Below.heap_setCell _ _ _ _ (fun e => n4 e.symm))).trans y2, trivial⟩)
  have wrb := WRB.out
  clear blk7 hf7 hx7 hr7 hp7 hpbl hfl s5 sz
  go_wp2_with fail
  refine wp_region_held_drew (S := (fun Y => PB14 w.heap.size z Y)) (by kernel_rfl) (⟨y2, trivial⟩) (fun hH => ?_)
  refine wpAnyH_take (i := 0) (v := ?ve0_1) (by (conv => lhs; simp only [List.getElem?_toArray, List.getElem?_cons_succ, List.getElem?_cons_zero])) (by kernel_rfl) (by kernel_rfl) (by kernel_rfl) ?hQ (Or.inl ⟨by rfl, ?hye0_1⟩) hH ?reste0_1
  case hQ => exact fun _ _ _ h => h
  case hye0_1 => (intro Y hY; obtain ⟨y0, -⟩ := hY; go_simp; try (with_reducible rfl))
  try simp only [Act.put, List.setIfInBounds_toArray, List.set_cons_zero, List.set_cons_succ]
  refine wpAnyH_take (i := 1) (v := ?ve1_2) (by (conv => lhs; simp only [List.getElem?_toArray, List.getElem?_cons_succ, List.getElem?_cons_zero])) (by kernel_rfl) (by kernel_rfl) (by kernel_rfl) ?hQ (Or.inl ⟨by rfl, ?hye1_2⟩) hH ?reste1_2
  case hQ => exact fun _ _ _ h => h
  case hye1_2 => (intro Y hY; obtain ⟨y0, -⟩ := hY; go_simp; try (with_reducible rfl))
  try simp only [Act.put, List.setIfInBounds_toArray, List.set_cons_zero, List.set_cons_succ]
  refine wpAnyH_take (i := 2) (v := ?ve2_3) (by (conv => lhs; simp only [List.getElem?_toArray, List.getElem?_cons_succ, List.getElem?_cons_zero])) (by kernel_rfl) (by kernel_rfl) (by kernel_rfl) ?hQ (Or.inl ⟨by rfl, ?hye2_3⟩) hH ?reste2_3
  case hQ => exact fun _ _ _ h => h
  case hye2_3 => (intro Y hY; obtain ⟨y0, -⟩ := hY; go_simp; try (with_reducible rfl))
  try simp only [Act.put, List.setIfInBounds_toArray, List.set_cons_zero, List.set_cons_succ]
  refine wpAnyH_take (i := 4) (v := ?ve4_4) (by (conv => lhs; simp only [List.getElem?_toArray, List.getElem?_cons_succ, List.getElem?_cons_zero])) (by kernel_rfl) (by kernel_rfl) (by kernel_rfl) ?hQ (Or.inl ⟨by rfl, ?hye4_4⟩) hH ?reste4_4
  case hQ => exact fun _ _ _ h => h
  case hye4_4 => (intro Y hY; obtain ⟨y0, -⟩ := hY; go_simp; try (with_reducible rfl))
  try simp only [Act.put, List.setIfInBounds_toArray, List.set_cons_zero, List.set_cons_succ]
  refine wpAnyH_take (i := 5) (v := ?ve5_5) (by (conv => lhs; simp only [List.getElem?_toArray, List.getElem?_cons_succ, List.getElem?_cons_zero])) (by kernel_rfl) (by kernel_rfl) (by kernel_rfl) ?hQ (Or.inl ⟨by rfl, ?hye5_5⟩) hH ?reste5_5
  case hQ => exact fun _ _ _ h => h
  case hye5_5 => (intro Y hY; obtain ⟨y0, -⟩ := hY; go_simp; try (with_reducible rfl))
  try simp only [Act.put, List.setIfInBounds_toArray, List.set_cons_zero, List.set_cons_succ]
  refine wpAnyH_ready (rs := [3]) (by kernel_rfl) (by simp) ?_
  refine AllReadyH.cons (by (conv => lhs; simp only [List.getElem?_toArray, List.getElem?_cons_succ, List.getElem?_cons_zero])) (fun K hK => ?_) AllReadyH.nil
  go_simp
  refine hK.out _ _ hH (fun hH1 => ?_)
  clear hK hH
  try simp only [Act.put, List.setIfInBounds_toArray, List.set_cons_zero, List.set_cons_succ]
  refine wpAnyH_take (i := 6) (v := ?ve6_6) (by (conv => lhs; simp only [List.getElem?_toArray, List.getElem?_cons_succ, List.getElem?_cons_zero])) (by kernel_rfl) (by kernel_rfl) (by kernel_rfl) ?hQ (Or.inl ⟨by rfl, ?hye6_6⟩) hH1 ?reste6_6
  case hQ => exact fun _ _ _ h => h
  case hye6_6 => (intro Y hY; obtain ⟨y0, -⟩ := hY; go_simp; try (with_reducible rfl))
  try simp only [Act.put, List.setIfInBounds_toArray, List.set_cons_zero, List.set_cons_succ]
  refine wpAnyH_take (i := 7) (v := ?ve7_7) (by (conv => lhs; simp only [List.getElem?_toArray, List.getElem?_cons_succ, List.getElem?_cons_zero])) (by kernel_rfl) (by kernel_rfl) (by kernel_rfl) ?hQ (Or.inl ⟨by rfl, ?hye7_7⟩) hH1 ?reste7_7
  case hQ => exact fun _ _ _ h => h
  case hye7_7 => (intro Y hY; obtain ⟨y0, -⟩ := hY; go_simp; try (with_reducible rfl))
  try simp only [Act.put, List.setIfInBounds_toArray, List.set_cons_zero, List.set_cons_succ]
  refine wpAnyH_take (i := 8) (v := ?ve8_8) (by (conv => lhs; simp only [List.getElem?_toArray, List.getElem?_cons_succ, List.getElem?_cons_zero])) (by kernel_rfl) (by kernel_rfl) (by kernel_rfl) ?hQ (Or.inl ⟨by rfl, ?hye8_8⟩) hH1 ?reste8_8
  case hQ => exact fun _ _ _ h => h
  case hye8_8 => (intro Y hY; obtain ⟨y0, -⟩ := hY; go_simp; try (with_reducible rfl))
  try simp only [Act.put, List.setIfInBounds_toArray, List.set_cons_zero, List.set_cons_succ]
  refine wpAnyH_ready (rs := [9]) (by kernel_rfl) (by simp) ?_
  refine AllReadyH.cons (by (conv => lhs; simp only [List.getElem?_toArray, List.getElem?_cons_succ, List.getElem?_cons_zero])) (fun K hK => ?_) AllReadyH.nil
  go_simp
  refine hK.out _ _ (K14.out _) (fun hH2 => ?_)
  clear hK hH1
  try simp only [Act.put, List.setIfInBounds_toArray, List.set_cons_zero, List.set_cons_succ]
  refine wpAnyH_done (by kernel_rfl) (?_) _
  go_wp2_with fail
  have hrow9 := HF7.out
  unfold fwObj at hrow9
  have hrow := rowF (v3 := .int .i64 (f.bytes + z)) (v4 := .int .i64 sn) (v5 := .int .i64 sd) (u0 := .int .i64 sn) (u1 := .int .i64 sd) hrow9 n2
  refine bodyPost_ret (v := .tuple #[.agg #[.int .i64 sn, .int .i64 sd], .int .i64 0]) (by simp [results, Try.results9, go_sem, r0, r1]) rfl ?_
  rw [← HPO.out]
  have g7 : w6.grownBy w7 (some pb) := ⟨G7.out.os, G7.out.tape, G7.out.output, G7.out.size, G7.out.block⟩
  have sp := SP.out
  have sz := SZ.out
  obtain ⟨FA, FB, FC⟩ := HA.out.putF (w5 := W5) (x := (i, sn, sd, T + 1)) (B1.out.trans (B5.out.mono B1.out.size)) HF.out rfl HI.out HZ.out HM.out HT.out HR6.out S6.out N6.out (by rw [HID.out]; exact HPK7.out) g7
    (w9 := (((((w7.setCell ⟨f.blk, 3, none⟩ (.int .i64 (f.bytes + z))).setCell ⟨f.blk, 4, none⟩ (.int .i64 sn)).setCell ⟨f.blk, 5, none⟩ (.int .i64 sd)).setCell ⟨w.heap.size + 1, 0, none⟩ (.int .i64 sn)).setCell ⟨w.heap.size + 1, 1, none⟩ (.int .i64 sd)).drew)
    (by repeat' (with_reducible first | exact Sav.refl _ _ | refine Sav.drewV ?_ | refine Sav.set1V ?_ (by first | exact .inl rfl | exact .inr ⟨by omega, by omega⟩) _ _)) (by unfold fwObj; dsimp only; rw [HSN.out.1, HSN.out.2]; exact hrow)
  exact ⟨rfl, _, ⟨tb, h, pb, fb, R', np + 1, FA, fun k => Iff.rfl⟩, ⟨FB.os, FB.tape, FB.output, FB.size, fun k hk hn => FB.block k hk (fun q2 => hn ((HS.out k).2 q2))⟩, fun k hk hk2 => (HS.out k).2 (FC k hk hk2)⟩
end Go.Proofs.Ytgeankdimknmiaa.Hp

/- Clocks: the next packet is taken. -/
namespace Go.Proofs.Ytgeankdimknmiaa.Hp
set_option linter.unusedVariables false
open Go.RowKit Go.Maps Go.Sort Go.Proofs.Ytgeankdimknmiaa.Tp
section
variable {tb h pb fb : Nat} {R R' : Nat → Prop} {w : World} {q : Nat} {F : List Fw} {M : List It} {T : Int} {np : Nat} {X : Int → Int × Int}
/-- behind what is taken, told without the walk. -/
theorem QuA.takeF (H : QuA tb h pb fb R w q F M T np X) {w5 w6 w7 w9 : World} (b5 : Below w.heap.size w w5) {f : Fw} (hf : f ∈ F) {z : Int} {x : It} (hx : x ∈ M) (hz : 1 ≤ z ∧ z ≤ 2000)
    (hr : HR R' w6 h (M.erase x) T) (hs : Sav R w5 w6) (hn : Nxt R R' w5) (hp : PkM w7 pb np (fun k => if k = iD x then none else pkOf M X k)) (hg : w6.grownBy w7 (some pb))
    (h9 : Sav (fun k => k = f.blk ∨ (w.heap.size ≤ k ∧ k < w5.heap.size)) w7 w9) (hrow : w9.heap[f.blk]? = some (fwObj { f with bytes := f.bytes - z })) :
    QuA tb h pb fb R' w9 q (F.map (upF { f with bytes := f.bytes - z })) (M.erase x) T np X ∧ Sav (QS tb pb fb R q F) w w9 ∧ (∀ k, k < w.heap.size → QS tb pb fb R' q (F.map (upF { f with bytes := f.bytes - z })) k → QS tb pb fb R q F k) := by
  obtain ⟨a1, a2, a3, a4, a5, a6⟩ := H.apart
  have s5 := b5.size
  have s6 := hs.size
  have s7 := hg.size
  have s9 := h9.size
  have hfl := H.lt (k := f.blk) (.inr (.inr (.inr (.inr (.inr ⟨f, hf, rfl⟩)))))
  have kp : ∀ k, k < w.heap.size → ¬ R k → k ≠ pb → k ≠ f.blk → w9.heap[k]? = w.heap[k]? := fun k hk h1 h2 h3 =>
    (h9.block k (by omega) (fun e => by rcases e with e | e; exact h3 e; omega)).trans ((hg.block k (by omega) (fun e => h2 (by cases e; rfl))).trans ((hs.block k (by omega) h1).trans (b5.block k hk)))
  have ltq := fun k hk => H.lt (k := k) hk
  have nf : ∀ g ∈ F, g.blk = f.blk → g = f := fun g hg2 e => by
    by_cases e2 : g.id = f.id
    · exact uniqF H.nd hg2 hf e2
    · exfalso
      have := H.nb
      have key : ∀ (l : List Fw), (l.map Fw.blk).Nodup → ∀ a ∈ l, ∀ b ∈ l, a.blk = b.blk → a = b := fun l => by
        induction l with
        | nil => intro _ a ha; cases ha
        | cons c l ih =>
          intro nd a ha b hb e
          simp only [List.map_cons, List.nodup_cons] at nd
          rcases List.mem_cons.1 ha with h1 | h1 <;> rcases List.mem_cons.1 hb with h2 | h2
          · rw [h1, h2]
          · rw [h1] at e; exact absurd (e ▸ List.mem_map_of_mem h2) nd.1
          · rw [h2] at e; exact absurd (e ▸ List.mem_map_of_mem h1) nd.1
          · exact ih nd.2 a h1 b h2 e
      exact e2 (by rw [key F this g hg2 f hf e])
  have nR' : ∀ k, k < w.heap.size → ¬ R k → ¬ R' k := fun k hk h1 h2 => h1 (hn k (by omega) h2)
  have rb : ∀ k, R' k → w9.heap[k]? = w6.heap[k]? := fun k hk => by
    have hk6 := hr.lt k hk
    have h1 : k ≠ pb := fun e => by
      rw [e] at hk
      exact nR' _ (ltq _ (.inr (.inr (.inl rfl)))) H.nR.2.2.1 hk
    have h2 : k ≠ f.blk := fun e => by
      rw [e] at hk
      exact nR' _ hfl (H.nR.2.2.2.2 f hf) hk
    refine (h9.block k (by omega) (fun e => ?_)).trans (hg.block k hk6 (fun e => h1 (by cases e; rfl)))
    rcases e with e | ⟨e1, e2⟩
    · exact h2 e
    · have h3 := hn k e2 hk
      have := H.hr.lt k h3
      omega
  refine ⟨⟨(kp _ (ltq _ (.inl rfl)) H.nR.1 a2 (fun e => (a6 f hf).1 e.symm)).trans H.q0, (kp _ (ltq _ (.inr (.inl rfl))) H.nR.2.1 a4 (fun e => (a6 f hf).2.1 e.symm)).trans H.t0, hr.keep rb, ?_, ?_, fun g hg2 => ?_, fun g hg2 => ?_, fun y hy => ?_, ?_, ?_, H.pf, ⟨nR' _ (ltq _ (.inl rfl)) H.nR.1, nR' _ (ltq _ (.inr (.inl rfl))) H.nR.2.1, nR' _ (ltq _ (.inr (.inr (.inl rfl)))) H.nR.2.2.1, nR' _ (ltq _ (.inr (.inr (.inr (.inl rfl))))) H.nR.2.2.2.1, fun g hg2 => ?_⟩, ?_⟩, ?_, ?_⟩
  · rw [← pkOf_erase hx H.hr.1.nodup (fun y hy e => H.hr.ids hy hx e)]
    have hpl := ltq pb (.inr (.inr (.inl rfl)))
    exact hp.to (h9.block _ (by omega) (fun e => by rcases e with e | e; exact (a6 f hf).2.2.1 e.symm; omega))
  · rw [List.length_map, blkOf_up (f' := { f with bytes := f.bytes - z }) H.nd hf rfl rfl]
    exact H.fl.to (kp _ (ltq _ (.inr (.inr (.inr (.inl rfl))))) H.nR.2.2.2.1 (fun e => H.pf e.symm) (fun e => (a6 f hf).2.2.2 e.symm))
  · obtain ⟨g0, hg0, rfl⟩ := List.mem_map.1 hg2
    unfold upF
    split
    · exact hrow
    · rename_i hne
      have hb : g0.blk ≠ f.blk := fun e => hne (by rw [nf g0 hg0 e])
      exact (kp _ (ltq _ (.inr (.inr (.inr (.inr (.inr ⟨g0, hg0, rfl⟩)))))) (H.nR.2.2.2.2 g0 hg0) (a6 g0 hg0).2.2.1 hb).trans (H.fs g0 hg0)
  · obtain ⟨g0, hg0, rfl⟩ := List.mem_map.1 hg2
    have hpos : 0 < M.length := List.length_pos_of_mem hx
    have hlen : ((M.erase x).length : Int) = M.length - 1 := by rw [List.length_erase_of_mem hx]; omega
    unfold upF
    split
    · obtain ⟨k1, k2, k3, k4⟩ := H.ok f hf
      exact ⟨k1, k2, k3, by show _ ≤ f.bytes - z; omega, by show f.bytes - z ≤ _; omega⟩
    · obtain ⟨k1, k2, k3, k4⟩ := H.ok g0 hg0
      exact ⟨k1, k2, k3, by omega, by omega⟩
  · have fin : ∀ k : Int, (∃ g ∈ F, g.id = k) → ∃ g ∈ F.map (upF { f with bytes := f.bytes - z }), g.id = k := fun k hk => by
      obtain ⟨g, hg2, e⟩ := hk
      exact ⟨_, List.mem_map_of_mem hg2, by rw [upF_id]; exact e⟩
    obtain ⟨k1, k2⟩ := H.it y (List.mem_of_mem_erase hy)
    exact ⟨fin _ k1, k2⟩
  · rw [upF_ids]; exact H.nd
  · rw [upF_blks (f' := { f with bytes := f.bytes - z }) H.nd hf rfl rfl]; exact H.nb
  · obtain ⟨g0, hg0, rfl⟩ := List.mem_map.1 hg2
    have e : (upF { f with bytes := f.bytes - z } g0).blk = g0.blk := by
      unfold upF
      split
      · rename_i h9
        show f.blk = g0.blk
        rw [uniqF H.nd hg0 hf h9]
      · rfl
    rw [e]
    exact nR' _ (ltq _ (.inr (.inr (.inr (.inr (.inr ⟨g0, hg0, rfl⟩)))))) (H.nR.2.2.2.2 g0 hg0)
  · have := H.tn
    rw [List.length_erase_of_mem hx]
    omega
  · refine ⟨h9.os.trans (hg.os.trans (hs.os.trans b5.os)), h9.tape.trans (hg.tape.trans (hs.tape.trans b5.tape)), h9.output.trans (hg.output.trans (hs.output.trans b5.output)), by omega, fun k hk hnk => ?_⟩
    exact kp k hk (fun r => hnk (.inr (.inr (.inr (.inr (.inl r)))))) (fun e => hnk (.inr (.inr (.inl e)))) (fun e => hnk (.inr (.inr (.inr (.inr (.inr ⟨f, hf, e.symm⟩))))))
  · intro k hk hq
    rcases hq with e | e | e | e | e | ⟨g, hg2, e⟩
    · exact .inl e
    · exact .inr (.inl e)
    · exact .inr (.inr (.inl e))
    · exact .inr (.inr (.inr (.inl e)))
    · exact .inr (.inr (.inr (.inr (.inl (hn k (by omega) e)))))
    · obtain ⟨g0, hg0, rfl⟩ := List.mem_map.1 hg2
      refine .inr (.inr (.inr (.inr (.inr ⟨g0, hg0, ?_⟩))))
      rw [← e]
      unfold upF
      split
      · rename_i h9
        show g0.blk = f.blk
        rw [uniqF H.nd hg0 hf h9]
      · rfl
end
def T6 (q tb pb p : Nat) (i fl z : Int) (Y : World) : Prop := Y.cell? ⟨q, 0, none⟩ = some (.pointer (some ⟨tb, 0, none⟩)) ∧ Y.cell? ⟨tb, 1, none⟩ = some (.map (some pb)) ∧ Y.cell? ⟨p, 0, none⟩ = some (.int .i64 i) ∧
  (Instr.lookup 54 (.map (some pb)) (.int .i64 i) false).run Try.prog Y = .ok (.agg #[.int .i64 i, .int .i64 fl, .int .i64 z]) Y
def T7 (q tb pb p : Nat) (i : Int) (Y : World) : Prop := Y.cell? ⟨q, 0, none⟩ = some (.pointer (some ⟨tb, 0, none⟩)) ∧ Y.cell? ⟨tb, 1, none⟩ = some (.map (some pb)) ∧ Y.cell? ⟨p, 0, none⟩ = some (.int .i64 i)
def T8 (q tb fb p : Nat) (fl z : Int) (b : Nat) (Y : World) : Prop := Y.cell? ⟨q, 0, none⟩ = some (.pointer (some ⟨tb, 0, none⟩)) ∧ Y.cell? ⟨tb, 2, none⟩ = some (.map (some fb)) ∧ Y.cell? ⟨p, 1, none⟩ = some (.int .i64 fl) ∧ Y.cell? ⟨p, 2, none⟩ = some (.int .i64 z) ∧
  (Instr.lookup 55 (.map (some fb)) (.int .i64 fl) false).run Try.prog Y = .ok (.pointer (some ⟨b, 0, none⟩)) Y
def T9 (p p7 : Nat) (i fl z sn sd : Int) (Y : World) : Prop := Y.cell? ⟨p7, 0, none⟩ = some (.int .i64 i) ∧ Y.cell? ⟨p7, 1, none⟩ = some (.int .i64 fl) ∧ Y.cell? ⟨p7, 2, none⟩ = some (.int .i64 z) ∧ Y.cell? ⟨p, 1, none⟩ = some (.int .i64 sn) ∧ Y.cell? ⟨p, 2, none⟩ = some (.int .i64 sd)
theorem row3 {W : World} {b : Nat} {c0 c1 c2 c3 c4 c5 v3 : Value} {t : TypeId} (h : W.heap[b]? = some (.cells #[c0, c1, c2, c3, c4, c5] t (0, 0))) : (W.setCell ⟨b, 3, none⟩ v3).heap[b]? = some (.cells #[c0, c1, c2, v3, c4, c5] t (0, 0)) := by
  have h3 := heap_setCell_same W b 3 _ _ v3 h
  simp only [List.setIfInBounds_toArray, List.set_cons_zero, List.set_cons_succ] at h3
  exact h3
theorem row012 {W : World} {b : Nat} {c0 c1 c2 v0 v1 v2 : Value} {t : TypeId} (h : W.heap[b]? = some (.cells #[c0, c1, c2] t (0, 0))) : (((W.setCell ⟨b, 0, none⟩ v0).setCell ⟨b, 1, none⟩ v1).setCell ⟨b, 2, none⟩ v2).drew.heap[b]? = some (.cells #[v0, v1, v2] t (0, 0)) := by
  show (((W.setCell ⟨b, 0, none⟩ v0).setCell ⟨b, 1, none⟩ v1).setCell ⟨b, 2, none⟩ v2).heap[b]? = _
  have h1 := heap_setCell_same W b 0 _ _ v0 h
  have h2 := heap_setCell_same _ b 1 _ _ v1 h1
  have h3 := heap_setCell_same _ b 2 _ _ v2 h2
  simp only [List.setIfInBounds_toArray, List.set_cons_zero, List.set_cons_succ] at h3
  exact h3
theorem row01 {W : World} {b : Nat} {c0 c1 v0 v1 : Value} {t : TypeId} (h : W.heap[b]? = some (.cells #[c0, c1] t (0, 0))) : ((W.setCell ⟨b, 0, none⟩ v0).setCell ⟨b, 1, none⟩ v1).heap[b]? = some (.cells #[v0, v1] t (0, 0)) := by
  have h1 := heap_setCell_same W b 0 _ _ v0 h
  have h2 := heap_setCell_same _ b 1 _ _ v1 h1
  simp only [List.setIfInBounds_toArray, List.set_cons_zero, List.set_cons_succ] at h2
  exact h2
set_option maxRecDepth 100000 in
set_option maxHeartbeats 8000000 in
/-- the next packet is taken. -/
theorem takeQ {S : Nat → Prop} {w : World} {q : Nat} {F : List Fw} {M : List It} {T : Int} {X : Int → Int × Int} (H : Qu S w q F M T X) {x : It} (hx : MinOf M x) :
    Calls Try.prog 10 #[.pointer (some ⟨q, 0, none⟩)] w fun e w' => e = .returned (.tuple #[.agg #[.int .i64 (iD x), .int .i64 (X (iD x)).1, .int .i64 (X (iD x)).2], .agg #[.int .i64 (kN x), .int .i64 (kD x)], .bool true]) ∧
      ∃ S' f, f ∈ F ∧ f.id = (X (iD x)).1 ∧ Qu S' w' q (F.map (upF { f with bytes := f.bytes - (X (iD x)).2 })) (M.erase x) T X ∧ Sav S w w' ∧ Nxt S S' w := by
  obtain ⟨tb, h, pb, fb, R, np, HA0, hS⟩ := H
  have HA := hidd HA0
  have HS := hidd hS
  obtain ⟨⟨f, hf, hid⟩, z0, z1⟩ := HA0.it x hx.1
  obtain ⟨k1, k2, ⟨m0, m1⟩, t0, t1⟩ := HA0.ok f hf
  obtain ⟨tn1, tn2, tn3⟩ := HA0.tn
  have hok := HA0.hr.ok x hx.1
  obtain ⟨i0, i1⟩ : 0 ≤ iD x ∧ iD x ≤ 4611686018427387904 := by obtain ⟨a, b, _⟩ := hok; omega
  have HX := hidd hx
  have HF := hidd hf
  have HID := hidd hid
  have HZ := hidd (And.intro z0 z1)
  have AP := hidd HA0.apart
  have PKX := hidd (show pkOf M X (iD x) = some (iD x, X (iD x)) from by unfold pkOf; rw [if_pos ⟨x, hx.1, rfl⟩])
  have NI := hidd (show -9223372036854775808 ≤ iD x ∧ iD x ≤ 9223372036854775807 from by omega)
  have NF := hidd (show -9223372036854775808 ≤ (X (iD x)).1 ∧ (X (iD x)).1 ≤ 9223372036854775807 from by omega)
  have wrb : IntKind.i64.wrap (f.bytes - (X (iD x)).2) = f.bytes - (X (iD x)).2 := by rw [IntKind.wrap_i64]; omega
  obtain ⟨W1, hW1⟩ : ∃ W1, (w.alloc (.cells #[.int .i64 0, .int .i64 0, .int .i64 0] 31)).alloc (.cells #[.int .i64 0, .int .i64 0] 35) = W1 := ⟨_, rfl⟩
  have HW1 := hidd hW1
  have B1 := hidd (show Below w.heap.size w W1 from by rw [← hW1]; exact below_new (below_new (Below.refl _ _) _) _)
  have SZ := hidd (show W1.heap.size = w.heap.size + 2 from by rw [← hW1]; simp)
  have BX := hidd (show W1.heap[w.heap.size]? = some (.cells #[.int .i64 0, .int .i64 0, .int .i64 0] 31 (0, 0)) from by rw [← hW1]; exact (Below.heap_alloc _ _ _ (by simp)).trans (heap_alloc_new w _))
  have RS := hidd (show W1.heap[w.heap.size + 1]? = some (.cells #[.int .i64 0, .int .i64 0] 35 (0, 0)) from by rw [← hW1]; have q := heap_alloc_new (w.alloc (.cells #[.int .i64 0, .int .i64 0, .int .i64 0] 31)) (.cells #[.int .i64 0, .int .i64 0] 35); simp only [World.size_alloc] at q; exact q)
  have HA1 := hidd (HA0.below B1.out)
  have cN := hidd (vNone_yes HA1.out.qc.1)
  have cH := hidd (takeR HA1.out.hr hx)
  have RLT := hidd (fun k (hk : R k) => HA.out.hr.lt k hk)
  clear HA0 hS hx hf hid z0 z1 k1 k2 m0 m1 t0 t1 tn1 tn2 tn3 hok i0 i1 hW1
  have WRB := hidd wrb
  clear wrb
  obtain ⟨x0, x1, x2, x3⟩ := HA1.out.qc
  unfold agI at cH
  generalize hi : iD x = i at *
  generalize hsn : kN x = sn at *
  generalize hsd : kD x = sd at *
  obtain ⟨fl, hfl⟩ : ∃ fl, (X i).1 = fl := ⟨_, rfl⟩
  obtain ⟨z, hz⟩ : ∃ z, (X i).2 = z := ⟨_, rfl⟩
  rw [hfl] at HID NF
  rw [hz] at HZ WRB
  rw [hfl, hz]
  have PKX2 := hidd (show pkOf M X i = some (i, fl, z) from by rw [PKX.out, ← hfl, ← hz])
  have HI := hidd hi
  clear PKX hfl hz hi hsn hsd
  obtain ⟨PO, hPO⟩ : ∃ PO : Ending → World → Prop, (fun (e : Ending) (w' : World) => e = .returned (.tuple #[.agg #[.int .i64 i, .int .i64 fl, .int .i64 z], .agg #[.int .i64 sn, .int .i64 sd], .bool true]) ∧
      ∃ S' f, f ∈ F ∧ f.id = fl ∧ Qu S' w' q (F.map (upF { f with bytes := f.bytes - z })) (M.erase x) T X ∧ Sav S w w' ∧ Nxt S S' w) = PO := ⟨_, rfl⟩
  have HPO := hidd hPO
  rw [hPO]
  clear hPO
  go_enter Try.func10, Try.ntmps10
  go_wp2_with fail
  rw [HW1.out]
  refine cN.out.mono ?_
  rintro e w1 ⟨rfl, rfl⟩
  go_wp2_with fail
  refine cH.out.mono ?_
  rintro e w2 ⟨rfl, R', hr2, hs2, hn2⟩
  have HR2 := hidd hr2
  have S2 := hidd hs2
  have N2 := hidd hn2
  clear hr2 hs2 hn2 x0 x1 x2 x3 cN cH
  go_wp2_with fail
  obtain ⟨ti, hti⟩ : ∃ ti, tN x = ti := ⟨_, rfl⟩
  rw [hti]
  clear hti
  obtain ⟨W3, hW3⟩ : ∃ W3, w2.alloc (.cells #[.int .i64 i, .int .i64 sn, .int .i64 sd, .int .i64 ti] 71) = W3 := ⟨_, rfl⟩
  obtain ⟨P5, hP5⟩ : ∃ P, w2.heap.size = P := ⟨_, rfl⟩
  have B3 := hidd (show Below w2.heap.size w2 W3 from by rw [← hW3]; exact below_new (Below.refl _ _) _)
  have PR5 := hidd (show W3.heap[P5]? = some (.cells #[.int .i64 i, .int .i64 sn, .int .i64 sd, .int .i64 ti] 71 (0, 0)) from by rw [← hW3, ← hP5]; exact heap_alloc_new w2 _)
  have SP5 := hidd (show W1.heap.size ≤ P5 ∧ W3.heap.size = P5 + 1 from ⟨by rw [← hP5]; exact S2.out.size, by rw [← hW3, ← hP5]; simp⟩)
  have HP5 := hidd hP5
  rw [hW3, hP5]
  clear hW3 hP5
  have BLK : Hid (∀ k, k < W1.heap.size → ¬ R k → W3.heap[k]? = W1.heap[k]?) := hidd (fun k hk hn => (B3.out.block k (Nat.lt_of_lt_of_le hk S2.out.size)).trans (S2.out.block k hk hn))
  have K6 : Hid (∀ Y, Below W3.heap.size W3 Y → T6 q tb pb P5 i fl z Y) := hidd (fun Y hb => by
    have s5 := SP5.out
    have e1 := (hb.block q (by have := HA1.out.lt (k := q) (.inl rfl); omega)).trans ((BLK.out q (HA1.out.lt (.inl rfl)) HA1.out.nR.1).trans HA1.out.q0)
    have e2 := (hb.block tb (by have := HA1.out.lt (k := tb) (.inr (.inl rfl)); omega)).trans ((BLK.out tb (HA1.out.lt (.inr (.inl rfl))) HA1.out.nR.2.1).trans HA1.out.t0)
    have e3 := (hb.block P5 (by omega)).trans PR5.out
    have hpk := HA1.out.pk.to ((hb.block pb (by have := HA1.out.lt (k := pb) (.inr (.inr (.inl rfl))); omega)).trans (BLK.out pb (HA1.out.lt (.inr (.inr (.inl rfl)))) HA1.out.nR.2.2.1))
    have e4 := (hpk.look NI.out.1 NI.out.2).1
    rw [PKX2.out] at e4
    exact ⟨by simp [World.cell?, e1], by simp [World.cell?, e2], by simp [World.cell?, e3], e4⟩)
  refine wp_region_held_drew (S := (fun Y => T6 q tb pb P5 i fl z Y)) (by kernel_rfl) (K6.out _ (Below.drew (Below.refl _ _))) (fun hH => ?_)
  refine wpAnyH_take (i := 0) (v := ?va0_1) (by (conv => lhs; simp only [List.getElem?_toArray, List.getElem?_cons_succ, List.getElem?_cons_zero])) (by kernel_rfl) (by kernel_rfl) (by kernel_rfl) ?hQ (Or.inl ⟨by rfl, ?hya0_1⟩) hH ?resta0_1
  case hQ => exact fun _ _ _ h => h
  case hya0_1 => (intro Y hY; obtain ⟨y0, y1, y2, y3⟩ := hY; go_simp; try (with_reducible rfl))
  try simp only [Act.put, List.setIfInBounds_toArray, List.set_cons_zero, List.set_cons_succ]
  refine wpAnyH_take (i := 1) (v := ?va1_2) (by (conv => lhs; simp only [List.getElem?_toArray, List.getElem?_cons_succ, List.getElem?_cons_zero])) (by kernel_rfl) (by kernel_rfl) (by kernel_rfl) ?hQ (Or.inl ⟨by rfl, ?hya1_2⟩) hH ?resta1_2
  case hQ => exact fun _ _ _ h => h
  case hya1_2 => (intro Y hY; obtain ⟨y0, y1, y2, y3⟩ := hY; go_simp; try (with_reducible rfl))
  try simp only [Act.put, List.setIfInBounds_toArray, List.set_cons_zero, List.set_cons_succ]
  refine wpAnyH_take (i := 2) (v := ?va2_3) (by (conv => lhs; simp only [List.getElem?_toArray, List.getElem?_cons_succ, List.getElem?_cons_zero])) (by kernel_rfl) (by kernel_rfl) (by kernel_rfl) ?hQ (Or.inl ⟨by rfl, ?hya2_3⟩) hH ?resta2_3
  case hQ => exact fun _ _ _ h => h
  case hya2_3 => (intro Y hY; obtain ⟨y0, y1, y2, y3⟩ := hY; go_simp; try (with_reducible rfl))
  try simp only [Act.put, List.setIfInBounds_toArray, List.set_cons_zero, List.set_cons_succ]
  refine wpAnyH_take (i := 3) (v := ?va3_4) (by (conv => lhs; simp only [List.getElem?_toArray, List.getElem?_cons_succ, List.getElem?_cons_zero])) (by kernel_rfl) (by kernel_rfl) (by kernel_rfl) ?hQ (Or.inl ⟨by rfl, ?hya3_4⟩) hH ?resta3_4
  case hQ => exact fun _ _ _ h => h
  case hya3_4 => (intro Y hY; obtain ⟨y0, y1, y2, y3⟩ := hY; go_simp; try (with_reducible rfl))
  try simp only [Act.put, List.setIfInBounds_toArray, List.set_cons_zero, List.set_cons_succ]
  refine wpAnyH_take (i := 4) (v := ?va4_5) (by (conv => lhs; simp only [List.getElem?_toArray, List.getElem?_cons_succ, List.getElem?_cons_zero])) (by kernel_rfl) (by kernel_rfl) (by kernel_rfl) ?hQ (Or.inl ⟨by rfl, ?hya4_5⟩) hH ?resta4_5
  case hQ => exact fun _ _ _ h => h
  case hya4_5 => (intro Y hY; obtain ⟨y0, y1, y2, y3⟩ := hY; go_simp; try (with_reducible rfl))
  try simp only [Act.put, List.setIfInBounds_toArray, List.set_cons_zero, List.set_cons_succ]
  refine wpAnyH_take (i := 5) (v := ?va5_6) (by (conv => lhs; simp only [List.getElem?_toArray, List.getElem?_cons_succ, List.getElem?_cons_zero])) (by kernel_rfl) (by kernel_rfl) (by kernel_rfl) ?hQ (Or.inl ⟨by rfl, ?hya5_6⟩) hH ?resta5_6
  case hQ => exact fun _ _ _ h => h
  case hya5_6 => (intro Y hY; obtain ⟨y0, y1, y2, y3⟩ := hY; go_simp; try (with_reducible rfl))
  try simp only [Act.put, List.setIfInBounds_toArray, List.set_cons_zero, List.set_cons_succ]
  refine wpAnyH_take (i := 6) (v := ?va6_7) (by (conv => lhs; simp only [List.getElem?_toArray, List.getElem?_cons_succ, List.getElem?_cons_zero])) (by kernel_rfl) (by kernel_rfl) (by kernel_rfl) ?hQ (Or.inl ⟨by rfl, ?hya6_7⟩) hH ?resta6_7
  case hQ => exact fun _ _ _ h => h
  case hya6_7 => (intro Y hY; obtain ⟨y0, y1, y2, y3⟩ := hY; go_simp; try (with_reducible rfl))
  try simp only [Act.put, List.setIfInBounds_toArray, List.set_cons_zero, List.set_cons_succ]
  refine wpAnyH_take (i := 7) (v := ?va7_8) (by (conv => lhs; simp only [List.getElem?_toArray, List.getElem?_cons_succ, List.getElem?_cons_zero])) (by kernel_rfl) (by kernel_rfl) (by kernel_rfl) ?hQ (Or.inl ⟨by rfl, ?hya7_8⟩) hH ?resta7_8
  case hQ => exact fun _ _ _ h => h
  case hya7_8 => (intro Y hY; obtain ⟨y0, y1, y2, y3⟩ := hY; go_simp; try (with_reducible rfl))
  try simp only [Act.put, List.setIfInBounds_toArray, List.set_cons_zero, List.set_cons_succ]
  refine wpAnyH_take (i := 8) (v := ?va8_9) (by (conv => lhs; simp only [List.getElem?_toArray, List.getElem?_cons_succ, List.getElem?_cons_zero])) (by kernel_rfl) (by kernel_rfl) (by kernel_rfl) ?hQ (Or.inl ⟨by rfl, ?hya8_9⟩) hH ?resta8_9
  case hQ => exact fun _ _ _ h => h
  case hya8_9 => (intro Y hY; obtain ⟨y0, y1, y2, y3⟩ := hY; go_simp; try (with_reducible rfl))
  try simp only [Act.put, List.setIfInBounds_toArray, List.set_cons_zero, List.set_cons_succ]
  refine wpAnyH_take (i := 9) (v := ?va9_10) (by (conv => lhs; simp only [List.getElem?_toArray, List.getElem?_cons_succ, List.getElem?_cons_zero])) (by kernel_rfl) (by kernel_rfl) (by kernel_rfl) ?hQ (Or.inl ⟨by rfl, ?hya9_10⟩) hH ?resta9_10
  case hQ => exact fun _ _ _ h => h
  case hya9_10 => (intro Y hY; obtain ⟨y0, y1, y2, y3⟩ := hY; go_simp; try (with_reducible rfl))
  try simp only [Act.put, List.setIfInBounds_toArray, List.set_cons_zero, List.set_cons_succ]
  refine wpAnyH_ready (rs := [10]) (by kernel_rfl) (by simp) ?_
  refine AllReadyH.cons (by (conv => lhs; simp only [List.getElem?_toArray, List.getElem?_cons_succ, List.getElem?_cons_zero])) (fun K hK => ?_) AllReadyH.nil
  go_simp
  refine hK.out _ _ (K6.out _ (below_new (Below.drew (Below.refl _ _)) _)) (fun hH1 => ?_)
  clear hK hH
  try simp only [Act.put, List.setIfInBounds_toArray, List.set_cons_zero, List.set_cons_succ]
  refine wpAnyH_ready (rs := [11]) (by kernel_rfl) (by simp) ?_
  refine AllReadyH.cons (by (conv => lhs; simp only [List.getElem?_toArray, List.getElem?_cons_succ, List.getElem?_cons_zero])) (fun K hK => ?_) AllReadyH.nil
  clear hH1
  go_simp
  refine hK.out _ _ (K6.out _ (below_new (Below.drew (Below.refl _ _)) _)) (fun hH2 => ?_)
  clear hK
  try simp only [Act.put, List.setIfInBounds_toArray, List.set_cons_zero, List.set_cons_succ]
  refine wpAnyH_done (by kernel_rfl) (?_) _
  clear hH2
  go_wp2_with fail
  obtain ⟨W4, hW4⟩ : ∃ W4, (W3.alloc (.cells #[.int .i64 i, .int .i64 fl, .int .i64 z] 31)).drew = W4 := ⟨_, rfl⟩
  obtain ⟨P7, hP7⟩ : ∃ P, W3.heap.size = P := ⟨_, rfl⟩
  have B4 := hidd (show Below W3.heap.size W3 W4 from by rw [← hW4]; exact Below.drew (below_new (Below.refl _ _) _))
  have PR7 := hidd (show W4.heap[P7]? = some (.cells #[.int .i64 i, .int .i64 fl, .int .i64 z] 31 (0, 0)) from by rw [← hW4, ← hP7]; exact heap_alloc_new W3 _)
  have SP7 := hidd (show P7 = P5 + 1 ∧ W4.heap.size = P5 + 2 from ⟨by rw [← hP7]; exact SP5.out.2, by rw [← hW4]; have := SP5.out.2; show (W3.alloc _).heap.size = _; simp; omega⟩)
  rw [hW4, hP7]
  clear hW4 hP7 K6
  have S4 := hidd (show Sav R W1 W4 from S2.out.tr (Sav.of (B3.out.trans (B4.out.mono B3.out.size))))
  have HR4 := hidd (show HR R' W4 h (M.erase x) T from HR2.out.below (B3.out.trans (B4.out.mono B3.out.size)))
  have PR54 := hidd ((B4.out.block P5 (by have := SP5.out; omega)).trans PR5.out)
  have K75 : Hid (∀ Y, (∀ k, k < W4.heap.size → k ≠ pb → Y.heap[k]? = W4.heap[k]?) → T7 q tb pb P7 i Y) := hidd (fun Y hs => by
    have s7 := SP7.out
    have s5 := SP5.out
    have l0 := HA1.out.lt (k := q) (.inl rfl)
    have l1 := HA1.out.lt (k := tb) (.inr (.inl rfl))
    have l2 := HA1.out.lt (k := pb) (.inr (.inr (.inl rfl)))
    have e1 := (hs q (by omega) AP.out.2.1).trans ((S4.out.block q l0 HA1.out.nR.1).trans HA1.out.q0)
    have e2 := (hs tb (by omega) AP.out.2.2.2.1).trans ((S4.out.block tb l1 HA1.out.nR.2.1).trans HA1.out.t0)
    have e3 := (hs P7 (by omega) (by omega)).trans PR7.out
    exact ⟨by simp [World.cell?, e1], by simp [World.cell?, e2], by simp [World.cell?, e3]⟩)
  have HK7 := hidd (K75.out W4.drew (fun k _ _ => rfl))
  have K7G : Hid (∀ Y, W4.drew.grownBy Y (some pb) → T7 q tb pb P7 i Y) := hidd (fun Y hg => K75.out Y (fun k hk hne => hg.block k hk (fun e => hne (by cases e; rfl))))
  have PK4 := hidd (show PkM W4.drew pb np (pkOf M X) from HA1.out.pk.to (S4.out.block pb (HA1.out.lt (.inr (.inr (.inl rfl)))) HA1.out.nR.2.2.1))
  refine wp_region_held_drew (S := (fun Y => T7 q tb pb P7 i Y)) (by kernel_rfl) (HK7.out) (fun hH => ?_)
  refine wpAnyH_take (i := 0) (v := ?vb0_1) (by (conv => lhs; simp only [List.getElem?_toArray, List.getElem?_cons_succ, List.getElem?_cons_zero])) (by kernel_rfl) (by kernel_rfl) (by kernel_rfl) ?hQ (Or.inl ⟨by rfl, ?hyb0_1⟩) hH ?restb0_1
  case hQ => exact fun _ _ _ h => h
  case hyb0_1 => (intro Y hY; obtain ⟨y0, y1, y2⟩ := hY; go_simp; try (with_reducible rfl))
  try simp only [Act.put, List.setIfInBounds_toArray, List.set_cons_zero, List.set_cons_succ]
  refine wpAnyH_take (i := 1) (v := ?vb1_2) (by (conv => lhs; simp only [List.getElem?_toArray, List.getElem?_cons_succ, List.getElem?_cons_zero])) (by kernel_rfl) (by kernel_rfl) (by kernel_rfl) ?hQ (Or.inl ⟨by rfl, ?hyb1_2⟩) hH ?restb1_2
  case hQ => exact fun _ _ _ h => h
  case hyb1_2 => (intro Y hY; obtain ⟨y0, y1, y2⟩ := hY; go_simp; try (with_reducible rfl))
  try simp only [Act.put, List.setIfInBounds_toArray, List.set_cons_zero, List.set_cons_succ]
  refine wpAnyH_take (i := 2) (v := ?vb2_3) (by (conv => lhs; simp only [List.getElem?_toArray, List.getElem?_cons_succ, List.getElem?_cons_zero])) (by kernel_rfl) (by kernel_rfl) (by kernel_rfl) ?hQ (Or.inl ⟨by rfl, ?hyb2_3⟩) hH ?restb2_3
  case hQ => exact fun _ _ _ h => h
  case hyb2_3 => (intro Y hY; obtain ⟨y0, y1, y2⟩ := hY; go_simp; try (with_reducible rfl))
  try simp only [Act.put, List.setIfInBounds_toArray, List.set_cons_zero, List.set_cons_succ]
  refine wpAnyH_take (i := 3) (v := ?vb3_4) (by (conv => lhs; simp only [List.getElem?_toArray, List.getElem?_cons_succ, List.getElem?_cons_zero])) (by kernel_rfl) (by kernel_rfl) (by kernel_rfl) ?hQ (Or.inl ⟨by rfl, ?hyb3_4⟩) hH ?restb3_4
  case hQ => exact fun _ _ _ h => h
  case hyb3_4 => (intro Y hY; obtain ⟨y0, y1, y2⟩ := hY; go_simp; try (with_reducible rfl))
  try simp only [Act.put, List.setIfInBounds_toArray, List.set_cons_zero, List.set_cons_succ]
  refine wpAnyH_take (i := 4) (v := ?vb4_5) (by (conv => lhs; simp only [List.getElem?_toArray, List.getElem?_cons_succ, List.getElem?_cons_zero])) (by kernel_rfl) (by kernel_rfl) (by kernel_rfl) ?hQ (Or.inl ⟨by rfl, ?hyb4_5⟩) hH ?restb4_5
  case hQ => exact fun _ _ _ h => h
  case hyb4_5 => (intro Y hY; obtain ⟨y0, y1, y2⟩ := hY; go_simp; try (with_reducible rfl))
  try simp only [Act.put, List.setIfInBounds_toArray, List.set_cons_zero, List.set_cons_succ]
  refine wpAnyH_take (i := 5) (v := ?vb5_6) (by (conv => lhs; simp only [List.getElem?_toArray, List.getElem?_cons_succ, List.getElem?_cons_zero])) (by kernel_rfl) (by kernel_rfl) (by kernel_rfl) ?hQ (Or.inl ⟨by rfl, ?hyb5_6⟩) hH ?restb5_6
  case hQ => exact fun _ _ _ h => h
  case hyb5_6 => (intro Y hY; obtain ⟨y0, y1, y2⟩ := hY; go_simp; try (with_reducible rfl))
  try simp only [Act.put, List.setIfInBounds_toArray, List.set_cons_zero, List.set_cons_succ]
  refine wpAnyH_take (i := 6) (v := ?vb6_7) (by (conv => lhs; simp only [List.getElem?_toArray, List.getElem?_cons_succ, List.getElem?_cons_zero])) (by kernel_rfl) (by kernel_rfl) (by kernel_rfl) ?hQ (Or.inl ⟨by rfl, ?hyb6_7⟩) hH ?restb6_7
  case hQ => exact fun _ _ _ h => h
  case hyb6_7 => (intro Y hY; obtain ⟨y0, y1, y2⟩ := hY; go_simp; try (with_reducible rfl))
  try simp only [Act.put, List.setIfInBounds_toArray, List.set_cons_zero, List.set_cons_succ]
  refine wpAnyH_take (i := 7) (v := ?vb7_8) (by (conv => lhs; simp only [List.getElem?_toArray, List.getElem?_cons_succ, List.getElem?_cons_zero])) (by kernel_rfl) (by kernel_rfl) (by kernel_rfl) ?hQ (Or.inl ⟨by rfl, ?hyb7_8⟩) hH ?restb7_8
  case hQ => exact fun _ _ _ h => h
  case hyb7_8 => (intro Y hY; obtain ⟨y0, y1, y2⟩ := hY; go_simp; try (with_reducible rfl))
  try simp only [Act.put, List.setIfInBounds_toArray, List.set_cons_zero, List.set_cons_succ]
  refine wpAnyH_take (i := 8) (v := ?vb8_9) (by (conv => lhs; simp only [List.getElem?_toArray, List.getElem?_cons_succ, List.getElem?_cons_zero])) (by kernel_rfl) (by kernel_rfl) (by kernel_rfl) ?hQ (Or.inl ⟨by rfl, ?hyb8_9⟩) hH ?restb8_9
  case hQ => exact fun _ _ _ h => h
  case hyb8_9 => (intro Y hY; obtain ⟨y0, y1, y2⟩ := hY; go_simp; try (with_reducible rfl))
  try simp only [Act.put, List.setIfInBounds_toArray, List.set_cons_zero, List.set_cons_succ]
  refine wpAnyH_ready (rs := [9]) (by kernel_rfl) (by simp) ?_
  refine AllReadyH.cons (by (conv => lhs; simp only [List.getElem?_toArray, List.getElem?_cons_succ, List.getElem?_cons_zero])) (fun K hK => ?_) AllReadyH.nil
  obtain ⟨w5, hrun, hpk5, hg5⟩ := PK4.out.del NI.out.1 NI.out.2 0
  clear hH
  have G5 := hidd hg5
  have HPK5 := hidd hpk5
  clear hg5 hpk5
  go_simp
  refine hK.out _ _ (K7G.out _ G5.out) (fun hH1 => ?_)
  clear hK hrun
  try simp only [Act.put, List.setIfInBounds_toArray, List.set_cons_zero, List.set_cons_succ]
  refine wpAnyH_done (by kernel_rfl) (?_) _
  have s7 := SP7.out
  have s5 := SP5.out
  have sz := SZ.out
  have g5b : ∀ k, k < W4.heap.size → k ≠ pb → w5.heap[k]? = W4.heap[k]? := fun k hk hne => G5.out.block k hk (fun e => hne (by cases e; rfl))
  have hpbl := HA.out.lt (k := pb) (.inr (.inr (.inl rfl)))
  have hfl := HA.out.lt (k := f.blk) (.inr (.inr (.inr (.inr (.inr ⟨f, HF.out, rfl⟩)))))
  have hqq := HA.out.lt (k := q) (.inl rfl)
  have htt := HA.out.lt (k := tb) (.inr (.inl rfl))
  have hfb := HA.out.lt (k := fb) (.inr (.inr (.inr (.inl rfl))))
  have hf5 := (g5b f.blk (by omega) (AP.out.2.2.2.2.2 f HF.out).2.2.1).trans ((S4.out.block f.blk (by omega) (HA.out.nR.2.2.2.2 f HF.out)).trans (HA1.out.fs f HF.out))
  have hq5 := (g5b q (by omega) AP.out.2.1).trans ((S4.out.block q (by omega) HA1.out.nR.1).trans HA1.out.q0)
  have ht5 := (g5b tb (by omega) AP.out.2.2.2.1).trans ((S4.out.block tb (by omega) HA1.out.nR.2.1).trans HA1.out.t0)
  have h75 := (g5b P7 (by omega) (by omega)).trans PR7.out
  have h55 := (g5b P5 (by omega) (by omega)).trans PR54.out
  have hx5 := (g5b w.heap.size (by omega) (by omega)).trans ((S4.out.block w.heap.size (by omega) (fun r => by have := RLT.out _ r; omega)).trans BX.out)
  have hr5 := (g5b (w.heap.size + 1) (by omega) (by omega)).trans ((S4.out.block (w.heap.size + 1) (by omega) (fun r => by have := RLT.out _ r; omega)).trans RS.out)
  have hm5 := HA1.out.fl.to ((g5b fb (by omega) (fun e => HA.out.pf e.symm)).trans (S4.out.block fb (by omega) HA1.out.nR.2.2.2.1))
  have HF5 := hidd hf5
  have KT8 : Hid (∀ Y : World, Y.heap[q]? = w5.heap[q]? → Y.heap[tb]? = w5.heap[tb]? → Y.heap[P7]? = w5.heap[P7]? → Y.heap[fb]? = w5.heap[fb]? → T8 q tb fb P7 fl z f.blk Y) := hidd (fun Y e1 e2 e3 e4 => by
    have e1 := e1.trans hq5
    have e2 := e2.trans ht5
    have e3 := e3.trans h75
    have hm := (hm5.to e4).look (x := fl) NF.out.1 NF.out.2
    have e5 := hm.1
    rw [← HID.out, blkOf_in HA.out.nd HF.out, HID.out] at e5
    exact ⟨by simp [World.cell?, e1], by simp [World.cell?, e2], by simp [World.cell?, e3], by simp [World.cell?, e3], e5⟩)
  have KT9 : Hid (∀ Y : World, Y.heap[P7]? = w5.heap[P7]? → Y.heap[P5]? = w5.heap[P5]? → T9 P5 P7 i fl z sn sd Y) := hidd (fun Y e3 e4 => by
    have e3 := e3.trans h75
    have e4 := e4.trans h55
    exact ⟨by simp [World.cell?, e3], by simp [World.cell?, e3], by simp [World.cell?, e3], by simp [World.cell?, e4], by simp [World.cell?, e4]⟩)
  have n1 : q ≠ f.blk := fun e => (AP.out.2.2.2.2.2 f HF.out).1 e.symm
  have n2 : tb ≠ f.blk := fun e => (AP.out.2.2.2.2.2 f HF.out).2.1 e.symm
  have n3 : fb ≠ f.blk := fun e => (AP.out.2.2.2.2.2 f HF.out).2.2.2 e.symm
  have n4 : P7 ≠ f.blk := by omega
  have n5 : P5 ≠ f.blk := by omega
  have n6 : P7 ≠ w.heap.size := by omega
  have n7 : P5 ≠ w.heap.size := by omega
  have n8 : P7 ≠ w.heap.size + 1 := by omega
  have n9 : P5 ≠ w.heap.size + 1 := by omega
  have m3 : w.heap.size + 1 ≠ w.heap.size := by omega
  have m1 : f.blk ≠ w.heap.size := by omega
  have m2 : f.blk ≠ w.heap.size + 1 := by omega
  have hh : ∀ (A : World) (b o : Nat) (v : Value) (k : Nat), k ≠ b → (A.setCell ⟨b, o, none⟩ v).heap[k]? = A.heap[k]? := fun A b o v k h => Below.heap_setCell _ _ _ _ h
  have hd : ∀ A : World, A.drew.heap = A.heap := fun _ => rfl
  have HK8 := hidd (KT8.out w5.drew (by rw [hd]) (by rw [hd]) (by rw [hd]) (by rw [hd]))
  have K88 : Hid (∀ v, T8 q tb fb P7 fl z f.blk (w5.drew.setCell ⟨f.blk, 3, none⟩ v)) := hidd (fun v => KT8.out _ (by rw [hh _ _ _ _ _ n1, hd]) (by rw [hh _ _ _ _ _ n2, hd]) (by rw [hh _ _ _ _ _ n4, hd]) (by rw [hh _ _ _ _ _ n3, hd]))
  unfold fwObj at hf5
  have b3 : w5.cell? ⟨f.blk, 3, none⟩ = some (.int .i64 f.bytes) := by simp [World.cell?, hf5]
  have g3 : w5.frozen? ⟨f.blk, 3, none⟩ = false := by simp [World.frozen?, hf5]
  have wrb := WRB.out
  clear g5b hpbl hfl hqq htt hfb hf5 hq5 ht5 h75 h55 hm5 s7 s5 sz
  go_wp2_with fail
  refine wp_region_held_drew (S := (fun Y => T8 q tb fb P7 fl z f.blk Y)) (by kernel_rfl) (HK8.out) (fun hH => ?_)
  refine wpAnyH_take (i := 0) (v := ?vc0_1) (by (conv => lhs; simp only [List.getElem?_toArray, List.getElem?_cons_succ, List.getElem?_cons_zero])) (by kernel_rfl) (by kernel_rfl) (by kernel_rfl) ?hQ (Or.inl ⟨by rfl, ?hyc0_1⟩) hH ?restc0_1
  case hQ => exact fun _ _ _ h => h
  case hyc0_1 => (intro Y hY; obtain ⟨y0, y1, y2, y3, y4⟩ := hY; go_simp; try (with_reducible rfl))
  try simp only [Act.put, List.setIfInBounds_toArray, List.set_cons_zero, List.set_cons_succ]
  refine wpAnyH_take (i := 1) (v := ?vc1_2) (by (conv => lhs; simp only [List.getElem?_toArray, List.getElem?_cons_succ, List.getElem?_cons_zero])) (by kernel_rfl) (by kernel_rfl) (by kernel_rfl) ?hQ (Or.inl ⟨by rfl, ?hyc1_2⟩) hH ?restc1_2
  case hQ => exact fun _ _ _ h => h
  case hyc1_2 => (intro Y hY; obtain ⟨y0, y1, y2, y3, y4⟩ := hY; go_simp; try (with_reducible rfl))
  try simp only [Act.put, List.setIfInBounds_toArray, List.set_cons_zero, List.set_cons_succ]
  refine wpAnyH_take (i := 2) (v := ?vc2_3) (by (conv => lhs; simp only [List.getElem?_toArray, List.getElem?_cons_succ, List.getElem?_cons_zero])) (by kernel_rfl) (by kernel_rfl) (by kernel_rfl) ?hQ (Or.inl ⟨by rfl, ?hyc2_3⟩) hH ?restc2_3
  case hQ => exact fun _ _ _ h => h
  case hyc2_3 => (intro Y hY; obtain ⟨y0, y1, y2, y3, y4⟩ := hY; go_simp; try (with_reducible rfl))
  try simp only [Act.put, List.setIfInBounds_toArray, List.set_cons_zero, List.set_cons_succ]
  refine wpAnyH_take (i := 3) (v := ?vc3_4) (by (conv => lhs; simp only [List.getElem?_toArray, List.getElem?_cons_succ, List.getElem?_cons_zero])) (by kernel_rfl) (by kernel_rfl) (by kernel_rfl) ?hQ (Or.inl ⟨by rfl, ?hyc3_4⟩) hH ?restc3_4
  case hQ => exact fun _ _ _ h => h
  case hyc3_4 => (intro Y hY; obtain ⟨y0, y1, y2, y3, y4⟩ := hY; go_simp; try (with_reducible rfl))
  try simp only [Act.put, List.setIfInBounds_toArray, List.set_cons_zero, List.set_cons_succ]
  refine wpAnyH_take (i := 4) (v := ?vc4_5) (by (conv => lhs; simp only [List.getElem?_toArray, List.getElem?_cons_succ, List.getElem?_cons_zero])) (by kernel_rfl) (by kernel_rfl) (by kernel_rfl) ?hQ (Or.inl ⟨by rfl, ?hyc4_5⟩) hH ?restc4_5
  case hQ => exact fun _ _ _ h => h
  case hyc4_5 => (intro Y hY; obtain ⟨y0, y1, y2, y3, y4⟩ := hY; go_simp; try (with_reducible rfl))
  try simp only [Act.put, List.setIfInBounds_toArray, List.set_cons_zero, List.set_cons_succ]
  refine wpAnyH_take (i := 5) (v := ?vc5_6) (by (conv => lhs; simp only [List.getElem?_toArray, List.getElem?_cons_succ, List.getElem?_cons_zero])) (by kernel_rfl) (by kernel_rfl) (by kernel_rfl) ?hQ (Or.inl ⟨by rfl, ?hyc5_6⟩) hH ?restc5_6
  case hQ => exact fun _ _ _ h => h
  case hyc5_6 => (intro Y hY; obtain ⟨y0, y1, y2, y3, y4⟩ := hY; go_simp; try (with_reducible rfl))
  try simp only [Act.put, List.setIfInBounds_toArray, List.set_cons_zero, List.set_cons_succ]
  refine wpAnyH_take (i := 6) (v := ?vc6_7) (by (conv => lhs; simp only [List.getElem?_toArray, List.getElem?_cons_succ, List.getElem?_cons_zero])) (by kernel_rfl) (by kernel_rfl) (by kernel_rfl) ?hQ (Or.inl ⟨by rfl, ?hyc6_7⟩) hH ?restc6_7
  case hQ => exact fun _ _ _ h => h
  case hyc6_7 => (intro Y hY; obtain ⟨y0, y1, y2, y3, y4⟩ := hY; go_simp; try (with_reducible rfl))
  try simp only [Act.put, List.setIfInBounds_toArray, List.set_cons_zero, List.set_cons_succ]
  refine wpAnyH_take (i := 7) (v := ?vc7_8) (by (conv => lhs; simp only [List.getElem?_toArray, List.getElem?_cons_succ, List.getElem?_cons_zero])) (by kernel_rfl) (by kernel_rfl) (by kernel_rfl) ?hQ (Or.inl ⟨by rfl, ?hyc7_8⟩) hH ?restc7_8
  case hQ => exact fun _ _ _ h => h
  case hyc7_8 => (intro Y hY; obtain ⟨y0, y1, y2, y3, y4⟩ := hY; go_simp; try (with_reducible rfl))
  try simp only [Act.put, List.setIfInBounds_toArray, List.set_cons_zero, List.set_cons_succ]
  refine wpAnyH_take (i := 8) (v := ?vc8_9) (by (conv => lhs; simp only [List.getElem?_toArray, List.getElem?_cons_succ, List.getElem?_cons_zero])) (by kernel_rfl) (by kernel_rfl) (by kernel_rfl) ?hQ (Or.inl ⟨by rfl, ?hyc8_9⟩) hH ?restc8_9
  case hQ => exact fun _ _ _ h => h
  case hyc8_9 => (intro Y hY; obtain ⟨y0, y1, y2, y3, y4⟩ := hY; go_simp; try (with_reducible rfl))
  try simp only [Act.put, List.setIfInBounds_toArray, List.set_cons_zero, List.set_cons_succ]
  refine wpAnyH_take (i := 9) (v := ?vc9_10) (by (conv => lhs; simp only [List.getElem?_toArray, List.getElem?_cons_succ, List.getElem?_cons_zero])) (by kernel_rfl) (by kernel_rfl) (by kernel_rfl) ?hQ (Or.inl ⟨by rfl, ?hyc9_10⟩) hH ?restc9_10
  case hQ => exact fun _ _ _ h => h
  case hyc9_10 => (intro Y hY; obtain ⟨y0, y1, y2, y3, y4⟩ := hY; go_simp; try (with_reducible rfl))
  try simp only [Act.put, List.setIfInBounds_toArray, List.set_cons_zero, List.set_cons_succ]
  refine wpAnyH_take (i := 10) (v := ?vc10_11) (by (conv => lhs; simp only [List.getElem?_toArray, List.getElem?_cons_succ, List.getElem?_cons_zero])) (by kernel_rfl) (by kernel_rfl) (by kernel_rfl) ?hQ (Or.inl ⟨by rfl, ?hyc10_11⟩) hH ?restc10_11
  case hQ => exact fun _ _ _ h => h
  case hyc10_11 => (intro Y hY; obtain ⟨y0, y1, y2, y3, y4⟩ := hY; go_simp; try (with_reducible rfl))
  try simp only [Act.put, List.setIfInBounds_toArray, List.set_cons_zero, List.set_cons_succ]
  refine wpAnyH_take (i := 11) (v := ?vc11_12) (by (conv => lhs; simp only [List.getElem?_toArray, List.getElem?_cons_succ, List.getElem?_cons_zero])) (by kernel_rfl) (by kernel_rfl) (by kernel_rfl) ?hQ (Or.inl ⟨by rfl, ?hyc11_12⟩) hH ?restc11_12
  case hQ => exact fun _ _ _ h => h
  case hyc11_12 => (intro Y hY; obtain ⟨y0, y1, y2, y3, y4⟩ := hY; go_simp; try (with_reducible rfl))
  try simp only [Act.put, List.setIfInBounds_toArray, List.set_cons_zero, List.set_cons_succ]
  refine wpAnyH_take (i := 13) (v := ?vc13_13) (by (conv => lhs; simp only [List.getElem?_toArray, List.getElem?_cons_succ, List.getElem?_cons_zero])) (by kernel_rfl) (by kernel_rfl) (by kernel_rfl) ?hQ (Or.inl ⟨by rfl, ?hyc13_13⟩) hH ?restc13_13
  case hQ => exact fun _ _ _ h => h
  case hyc13_13 => (intro Y hY; obtain ⟨y0, y1, y2, y3, y4⟩ := hY; go_simp; try (with_reducible rfl))
  try simp only [Act.put, List.setIfInBounds_toArray, List.set_cons_zero, List.set_cons_succ]
  refine wpAnyH_take (i := 14) (v := ?vc14_14) (by (conv => lhs; simp only [List.getElem?_toArray, List.getElem?_cons_succ, List.getElem?_cons_zero])) (by kernel_rfl) (by kernel_rfl) (by kernel_rfl) ?hQ (Or.inl ⟨by rfl, ?hyc14_14⟩) hH ?restc14_14
  case hQ => exact fun _ _ _ h => h
  case hyc14_14 => (intro Y hY; obtain ⟨y0, y1, y2, y3, y4⟩ := hY; go_simp; try (with_reducible rfl))
  try simp only [Act.put, List.setIfInBounds_toArray, List.set_cons_zero, List.set_cons_succ]
  refine wpAnyH_ready (rs := [12]) (by kernel_rfl) (by simp) ?_
  refine AllReadyH.cons (by (conv => lhs; simp only [List.getElem?_toArray, List.getElem?_cons_succ, List.getElem?_cons_zero])) (fun K hK => ?_) AllReadyH.nil
  go_simp
  refine hK.out _ _ hH (fun hH1 => ?_)
  clear hK hH
  try simp only [Act.put, List.setIfInBounds_toArray, List.set_cons_zero, List.set_cons_succ]
  refine wpAnyH_take (i := 15) (v := ?vc15_15) (by (conv => lhs; simp only [List.getElem?_toArray, List.getElem?_cons_succ, List.getElem?_cons_zero])) (by kernel_rfl) (by kernel_rfl) (by kernel_rfl) ?hQ (Or.inl ⟨by rfl, ?hyc15_15⟩) hH1 ?restc15_15
  case hQ => exact fun _ _ _ h => h
  case hyc15_15 => (intro Y hY; obtain ⟨y0, y1, y2, y3, y4⟩ := hY; go_simp; try (with_reducible rfl))
  try simp only [Act.put, List.setIfInBounds_toArray, List.set_cons_zero, List.set_cons_succ]
  refine wpAnyH_take (i := 16) (v := ?vc16_16) (by (conv => lhs; simp only [List.getElem?_toArray, List.getElem?_cons_succ, List.getElem?_cons_zero])) (by kernel_rfl) (by kernel_rfl) (by kernel_rfl) ?hQ (Or.inl ⟨by rfl, ?hyc16_16⟩) hH1 ?restc16_16
  case hQ => exact fun _ _ _ h => h
  case hyc16_16 => (intro Y hY; obtain ⟨y0, y1, y2, y3, y4⟩ := hY; go_simp; try (with_reducible rfl))
  try simp only [Act.put, List.setIfInBounds_toArray, List.set_cons_zero, List.set_cons_succ]
  refine wpAnyH_take (i := 17) (v := ?vc17_17) (by (conv => lhs; simp only [List.getElem?_toArray, List.getElem?_cons_succ, List.getElem?_cons_zero])) (by kernel_rfl) (by kernel_rfl) (by kernel_rfl) ?hQ (Or.inl ⟨by rfl, ?hyc17_17⟩) hH1 ?restc17_17
  case hQ => exact fun _ _ _ h => h
  case hyc17_17 => (intro Y hY; obtain ⟨y0, y1, y2, y3, y4⟩ := hY; go_simp; try (with_reducible rfl))
  try simp only [Act.put, List.setIfInBounds_toArray, List.set_cons_zero, List.set_cons_succ]
  refine wpAnyH_ready (rs := [18]) (by kernel_rfl) (by simp) ?_
  refine AllReadyH.cons (by (conv => lhs; simp only [List.getElem?_toArray, List.getElem?_cons_succ, List.getElem?_cons_zero])) (fun K hK => ?_) AllReadyH.nil
  go_simp
  refine hK.out _ _ (K88.out _) (fun hH2 => ?_)
  clear hK hH1
  try simp only [Act.put, List.setIfInBounds_toArray, List.set_cons_zero, List.set_cons_succ]
  refine wpAnyH_done (by kernel_rfl) (?_) _
  clear hH1 hH2
  obtain ⟨w6, hw6⟩ : ∃ w6, (w5.setCell ⟨f.blk, 3, none⟩ (.int .i64 (f.bytes - z))).drew = w6 := ⟨_, rfl⟩
  have hx6 : w6.heap[w.heap.size]? = some (.cells #[.int .i64 0, .int .i64 0, .int .i64 0] 31 (0, 0)) := by rw [← hw6, hd, hh _ _ _ _ _ m1.symm]; exact hx5
  have hr6 : w6.heap[w.heap.size + 1]? = some (.cells #[.int .i64 0, .int .i64 0] 35 (0, 0)) := by rw [← hw6, hd, hh _ _ _ _ _ m2.symm]; exact hr5
  have HR6 := hidd hr6
  have KT6 : Hid (∀ Y : World, Y.heap[P7]? = w6.heap[P7]? → Y.heap[P5]? = w6.heap[P5]? → T9 P5 P7 i fl z sn sd Y) := hidd (fun Y e3 e4 => KT9.out Y (by rw [e3, ← hw6, hd, hh _ _ _ _ _ n4]) (by rw [e4, ← hw6, hd, hh _ _ _ _ _ n5]))
  have HW6 := hidd hw6
  rw [hw6]
  clear hw6 hx5 hr5 KT9 KT8 HK8 K88 b3 g3 wrb hr6
  have HK9 := hidd (KT6.out w6.drew rfl rfl)
  have r0 : w6.cell? ⟨w.heap.size, 0, none⟩ = some (.int .i64 0) := by simp [World.cell?, hx6]
  have r1 : w6.cell? ⟨w.heap.size, 1, none⟩ = some (.int .i64 0) := by simp [World.cell?, hx6]
  have r2 : w6.cell? ⟨w.heap.size, 2, none⟩ = some (.int .i64 0) := by simp [World.cell?, hx6]
  have q0 : w6.frozen? ⟨w.heap.size, 0, none⟩ = false := by simp [World.frozen?, hx6]
  have q1 : w6.frozen? ⟨w.heap.size, 1, none⟩ = false := by simp [World.frozen?, hx6]
  have q2 : w6.frozen? ⟨w.heap.size, 2, none⟩ = false := by simp [World.frozen?, hx6]
  have HX6 := hidd hx6
  clear hx6
  go_wp2_with fail
  refine wp_region_held_drew (S := (fun Y => T9 P5 P7 i fl z sn sd Y)) (by kernel_rfl) (HK9.out) (fun hH => ?_)
  refine wpAnyH_take (i := 0) (v := ?vd0_1) (by (conv => lhs; simp only [List.getElem?_toArray, List.getElem?_cons_succ, List.getElem?_cons_zero])) (by kernel_rfl) (by kernel_rfl) (by kernel_rfl) ?hQ (Or.inl ⟨by rfl, ?hyd0_1⟩) hH ?restd0_1
  case hQ => exact fun _ _ _ h => h
  case hyd0_1 => (intro Y hY; obtain ⟨y0, y1, y2, y3, y4⟩ := hY; go_simp; try (with_reducible rfl))
  try simp only [Act.put, List.setIfInBounds_toArray, List.set_cons_zero, List.set_cons_succ]
  refine wpAnyH_take (i := 1) (v := ?vd1_2) (by (conv => lhs; simp only [List.getElem?_toArray, List.getElem?_cons_succ, List.getElem?_cons_zero])) (by kernel_rfl) (by kernel_rfl) (by kernel_rfl) ?hQ (Or.inl ⟨by rfl, ?hyd1_2⟩) hH ?restd1_2
  case hQ => exact fun _ _ _ h => h
  case hyd1_2 => (intro Y hY; obtain ⟨y0, y1, y2, y3, y4⟩ := hY; go_simp; try (with_reducible rfl))
  try simp only [Act.put, List.setIfInBounds_toArray, List.set_cons_zero, List.set_cons_succ]
  refine wpAnyH_take (i := 2) (v := ?vd2_3) (by (conv => lhs; simp only [List.getElem?_toArray, List.getElem?_cons_succ, List.getElem?_cons_zero])) (by kernel_rfl) (by kernel_rfl) (by kernel_rfl) ?hQ (Or.inl ⟨by rfl, ?hyd2_3⟩) hH ?restd2_3
  case hQ => exact fun _ _ _ h => h
  case hyd2_3 => (intro Y hY; obtain ⟨y0, y1, y2, y3, y4⟩ := hY; go_simp; try (with_reducible rfl))
  try simp only [Act.put, List.setIfInBounds_toArray, List.set_cons_zero, List.set_cons_succ]
  refine wpAnyH_ready (rs := [3]) (by kernel_rfl) (by simp) ?_
  refine AllReadyH.cons (by (conv => lhs; simp only [List.getElem?_toArray, List.getElem?_cons_succ, List.getElem?_cons_zero])) (fun K hK => ?_) AllReadyH.nil
  go_simp
  obtain ⟨w7, hw7⟩ : ∃ w7, (((w6.setCell ⟨w.heap.size, 0, none⟩ (.int .i64 i)).setCell ⟨w.heap.size, 1, none⟩ (.int .i64 fl)).setCell ⟨w.heap.size, 2, none⟩ (.int .i64 z)).drew = w7 := ⟨_, rfl⟩
  rw [hw7]
  have HW7 := hidd hw7
  have T7 := hidd (KT6.out w7 (by rw [← hw7, hd, hh _ _ _ _ _ n6, hh _ _ _ _ _ n6, hh _ _ _ _ _ n6]) (by rw [← hw7, hd, hh _ _ _ _ _ n7, hh _ _ _ _ _ n7, hh _ _ _ _ _ n7]))
  have hx7 : w7.heap[w.heap.size]? = some (.cells #[.int .i64 i, .int .i64 fl, .int .i64 z] 31 (0, 0)) := by rw [← hw7]; exact row012 HX6.out
  have hr7 : w7.heap[w.heap.size + 1]? = some (.cells #[.int .i64 0, .int .i64 0] 35 (0, 0)) := by rw [← hw7, hd, hh _ _ _ _ _ m3, hh _ _ _ _ _ m3, hh _ _ _ _ _ m3]; exact HR6.out
  clear hw7 r0 r1 r2 q0 q1 q2
  refine hK.out _ _ T7.out (fun hH1 => ?_)
  clear hK hH
  try simp only [Act.put, List.setIfInBounds_toArray, List.set_cons_zero, List.set_cons_succ]
  have r3 : w7.cell? ⟨w.heap.size + 1, 0, none⟩ = some (.int .i64 0) := by simp [World.cell?, hr7]
  have r4 : w7.cell? ⟨w.heap.size + 1, 1, none⟩ = some (.int .i64 0) := by simp [World.cell?, hr7]
  have q3 : w7.frozen? ⟨w.heap.size + 1, 0, none⟩ = false := by simp [World.frozen?, hr7]
  have q4 : w7.frozen? ⟨w.heap.size + 1, 1, none⟩ = false := by simp [World.frozen?, hr7]
  have HX7 := hidd hx7
  have HR7 := hidd hr7
  clear hx7 hr7
  refine wpAnyH_ready (rs := [4]) (by kernel_rfl) (by simp) ?_
  refine AllReadyH.cons (by (conv => lhs; simp only [List.getElem?_toArray, List.getElem?_cons_succ, List.getElem?_cons_zero])) (fun K hK => ?_) AllReadyH.nil
  go_simp
  obtain ⟨w8, hw8⟩ : ∃ w8, ((w7.setCell ⟨w.heap.size + 1, 0, none⟩ (.int .i64 sn)).setCell ⟨w.heap.size + 1, 1, none⟩ (.int .i64 sd)) = w8 := ⟨_, rfl⟩
  rw [hw8]
  have HW8 := hidd hw8
  have T8 := hidd (KT6.out w8 (by rw [← hw8, hh _ _ _ _ _ n8, hh _ _ _ _ _ n8, ← HW7.out, hd, hh _ _ _ _ _ n6, hh _ _ _ _ _ n6, hh _ _ _ _ _ n6]) (by rw [← hw8, hh _ _ _ _ _ n9, hh _ _ _ _ _ n9, ← HW7.out, hd, hh _ _ _ _ _ n7, hh _ _ _ _ _ n7, hh _ _ _ _ _ n7]))
  have hx8 : w8.heap[w.heap.size]? = some (.cells #[.int .i64 i, .int .i64 fl, .int .i64 z] 31 (0, 0)) := by rw [← hw8, hh _ _ _ _ _ m3.symm, hh _ _ _ _ _ m3.symm]; exact HX7.out
  have hr8 : w8.heap[w.heap.size + 1]? = some (.cells #[.int .i64 sn, .int .i64 sd] 35 (0, 0)) := by rw [← hw8]; exact row01 HR7.out
  clear hw8 r3 r4 q3 q4
  refine hK.out _ _ T8.out (fun hH2 => ?_)
  clear hK hH1
  try simp only [Act.put, List.setIfInBounds_toArray, List.set_cons_zero, List.set_cons_succ]
  have r0 : w8.cell? ⟨w.heap.size, 0, none⟩ = some (.int .i64 i) := by simp [World.cell?, hx8]
  have r1 : w8.cell? ⟨w.heap.size, 1, none⟩ = some (.int .i64 fl) := by simp [World.cell?, hx8]
  have r2 : w8.cell? ⟨w.heap.size, 2, none⟩ = some (.int .i64 z) := by simp [World.cell?, hx8]
  have r3 : w8.cell? ⟨w.heap.size + 1, 0, none⟩ = some (.int .i64 sn) := by simp [World.cell?, hr8]
  have r4 : w8.cell? ⟨w.heap.size + 1, 1, none⟩ = some (.int .i64 sd) := by simp [World.cell?, hr8]
  clear hx8 hr8
  refine wpAnyH_take (i := 5) (v := ?vd5_4) (by (conv => lhs; simp only [List.getElem?_toArray, List.getElem?_cons_succ, List.getElem?_cons_zero])) (by kernel_rfl) (by kernel_rfl) (by kernel_rfl) ?hQ (Or.inl ⟨by rfl, ?hyd5_4⟩) hH2 ?restd5_4
  case hQ => exact fun _ _ _ h => h
  case hyd5_4 => (intro Y hY; obtain ⟨y0, y1, y2, y3, y4⟩ := hY; go_simp; try (with_reducible rfl))
  try simp only [Act.put, List.setIfInBounds_toArray, List.set_cons_zero, List.set_cons_succ]
  refine wpAnyH_done (by kernel_rfl) (?_) _
  go_wp2_with fail
  refine bodyPost_ret (v := .tuple #[.agg #[.int .i64 i, .int .i64 fl, .int .i64 z], .agg #[.int .i64 sn, .int .i64 sd], .bool true]) (by simp [results, Try.results10, go_sem, r0, r1, r2, r3, r4]) rfl ?_
  clear hH2 r0 r1 r2 r3 r4
  rw [← HPO.out]
  have sz := SZ.out
  have g7 : W4.grownBy w5 (some pb) := ⟨G5.out.os, G5.out.tape, G5.out.output, G5.out.size, G5.out.block⟩
  have hrow : w8.heap[f.blk]? = some (fwObj { f with bytes := f.bytes - z }) := by
    rw [← HW8.out, hh _ _ _ _ _ m2, hh _ _ _ _ _ m2, ← HW7.out, hd, hh _ _ _ _ _ m1, hh _ _ _ _ _ m1, hh _ _ _ _ _ m1, ← HW6.out, hd]
    exact row3 HF5.out
  have h9 : Sav (fun k => k = f.blk ∨ (w.heap.size ≤ k ∧ k < W1.heap.size)) w5 w8 := by
    rw [← HW8.out, ← HW7.out, ← HW6.out]
    repeat' (with_reducible first | exact Sav.refl _ _ | refine Sav.drewV ?_ | refine Sav.set1V ?_ (by first | exact .inl rfl | exact .inr ⟨by omega, by omega⟩) _ _)
  obtain ⟨FA, FB, FC⟩ := HA.out.takeF (w5 := W1) (w6 := W4) (w7 := w5) (w9 := w8) B1.out HF.out (z := z) (x := x) HX.out.1 HZ.out HR4.out S4.out N2.out (by rw [HI.out]; exact HPK5.out) g7 h9 hrow
  exact ⟨rfl, _, f, HF.out, HID.out, ⟨tb, h, pb, fb, R', np, FA, fun k => Iff.rfl⟩, ⟨FB.os, FB.tape, FB.output, FB.size, fun k hk hn => FB.block k hk (fun q2 => hn ((HS.out k).2 q2))⟩, fun k hk hk2 => (HS.out k).2 (FC k hk hk2)⟩
end Go.Proofs.Ytgeankdimknmiaa.Hp

/- Clocks: how many wait; nothing to take; what is refused; what every law of the layer looks at besides. -/
namespace Go.Proofs.Ytgeankdimknmiaa.Hp
set_option linter.unusedVariables false
open Go.RowKit Go.Maps Go.Sort Go.Proofs.Ytgeankdimknmiaa.Tp
section
variable {S S' : Nat → Prop} {w W W' : World} {q : Nat} {F : List Fw} {M : List It} {T : Int} {X : Int → Int × Int}
theorem q_step (B : Below w.heap.size w W) (N : ∀ k, S k → w.heap.size ≤ k) (s : Sav S W W') (n : Nxt S S' W) : Below w.heap.size w W' ∧ ∀ k, S' k → w.heap.size ≤ k := by
  refine ⟨B.trans (s.below B.size N), fun k hk => ?_⟩
  rcases Nat.lt_or_ge k W.heap.size with p | p
  · exact N k (n k p hk)
  · exact Nat.le_trans B.size p
set_option maxRecDepth 100000 in
theorem lenQ (H : Qu S w q F M T X) : Calls Try.prog 13 #[.pointer (some ⟨q, 0, none⟩)] w fun e w' => e = .returned (.int .i64 (M.length : Int)) ∧ w = w' := by
  obtain ⟨tb, h, pb, fb, R, np, HA0, hS⟩ := H
  obtain ⟨x0, x1, x2, x3⟩ := HA0.qc
  have cN := hidd (vNone_yes x0)
  have cL := hidd (lenR HA0.hr)
  clear HA0 hS
  go_enter Try.func13, Try.ntmps13
  go_wp2_with fail
  refine cN.out.mono ?_
  rintro e w1 ⟨rfl, rfl⟩
  go_wp2_with fail
  refine cL.out.mono ?_
  rintro e w2 ⟨rfl, rfl⟩
  go_wp2_with fail
  go_ret
  exact ⟨rfl, rfl⟩
end
instance (x y : It) : Decidable (Le x y) := by unfold Le; infer_instance
def kX0 : Int → Int × Int := fun _ => (0, 0)
def kX1 : Int → Int × Int := fun k => if k = 7 then (1, 8) else kX0 k
def kX2 : Int → Int × Int := fun k => if k = 8 then (2, 2) else kX1 k
def kF1 (a : Nat) : List Fw := [⟨1, 4, 100, 0, 0, a⟩]
def kF2 (a b : Nat) : List Fw := [⟨1, 4, 100, 0, 0, a⟩, ⟨2, 2, 100, 0, 0, b⟩]
def kF3 (a b : Nat) : List Fw := [⟨1, 4, 100, 8, 8, a⟩, ⟨2, 2, 100, 0, 0, b⟩]
def kF4 (a b : Nat) : List Fw := [⟨1, 4, 100, 8, 8, a⟩, ⟨2, 2, 100, 2, 2, b⟩]
def kM1 : List It := [(7, 2, 1, 1)]
def kM2 : List It := [(7, 2, 1, 1), (8, 1, 1, 2)]
section
variable {S : Nat → Prop} {w : World} {q a b : Nat}
theorem kAdd1 (H : Qu S w q [] [] 0 kX0) : Calls Try.prog 8 #[.pointer (some ⟨q, 0, none⟩), .int .i64 1, .int .i64 4, .int .i64 100, .int .i64 0] w fun e w' => e = .returned (.int .i64 0) ∧ ∃ S' a, Qu S' w' q (kF1 a) [] 0 kX0 ∧ Sav S w w' ∧ Nxt S S' w :=
  addQ H (flow := 1) (rate := 4) (room := 100) (now := 0) (by decide) (by decide) (by simp) (by decide)
theorem kAdd2 (H : Qu S w q (kF1 a) [] 0 kX0) : Calls Try.prog 8 #[.pointer (some ⟨q, 0, none⟩), .int .i64 2, .int .i64 2, .int .i64 100, .int .i64 0] w fun e w' => e = .returned (.int .i64 0) ∧ ∃ S' b, Qu S' w' q (kF2 a b) [] 0 kX0 ∧ Sav S w w' ∧ Nxt S S' w :=
  addQ H (flow := 2) (rate := 2) (room := 100) (now := 0) (by decide) (by decide) (by simp [kF1]) (by simp [kF1])
theorem kPut1 (H : Qu S w q (kF2 a b) [] 0 kX0) : Calls Try.prog 9 #[.pointer (some ⟨q, 0, none⟩), .agg #[.int .i64 7, .int .i64 1, .int .i64 8], .int .i64 0] w fun e w' => e = .returned (.tuple #[.agg #[.int .i64 2, .int .i64 1], .int .i64 0]) ∧ ∃ S', Qu S' w' q (kF3 a b) kM1 1 kX1 ∧ Sav S w w' ∧ Nxt S S' w := by
  have h := putQ H (i := 7) (fl := 1) (z := 8) (now := 0) (by decide) (by decide) (f := ⟨1, 4, 100, 0, 0, a⟩) (by simp [kF2]) rfl (by simp) (by show (8 : Int) ≤ 100 - 0; decide) (by decide) (by decide) (by show ClkB (max (0 : Int) (0 * 4) + 8) 4; unfold ClkB; decide)
  dsimp only at h
  have e1 : frN (max (0 : Int) (0 * 4) + 8) 4 = 2 := by decide
  have e2 : frD (max (0 : Int) (0 * 4) + 8) 4 = 1 := by decide
  rw [e1, e2] at h
  exact h
theorem kPut2 (H : Qu S w q (kF3 a b) kM1 1 kX1) : Calls Try.prog 9 #[.pointer (some ⟨q, 0, none⟩), .agg #[.int .i64 8, .int .i64 2, .int .i64 2], .int .i64 0] w fun e w' => e = .returned (.tuple #[.agg #[.int .i64 1, .int .i64 1], .int .i64 0]) ∧ ∃ S', Qu S' w' q (kF4 a b) kM2 2 kX2 ∧ Sav S w w' ∧ Nxt S S' w := by
  have h := putQ H (i := 8) (fl := 2) (z := 2) (now := 0) (by decide) (by decide) (f := ⟨2, 2, 100, 0, 0, b⟩) (by simp [kF3]) rfl (by decide) (by show (2 : Int) ≤ 100 - 0; decide) (by decide) (by decide) (by show ClkB (max (0 : Int) (0 * 2) + 2) 2; unfold ClkB; decide)
  dsimp only at h
  have e1 : frN (max (0 : Int) (0 * 2) + 2) 2 = 1 := by decide
  have e2 : frD (max (0 : Int) (0 * 2) + 2) 2 = 1 := by decide
  rw [e1, e2] at h
  exact h
theorem kTake (H : Qu S w q (kF4 a b) kM2 2 kX2) : Calls Try.prog 10 #[.pointer (some ⟨q, 0, none⟩)] w fun e w' => e = .returned (.tuple #[.agg #[.int .i64 8, .int .i64 2, .int .i64 2], .agg #[.int .i64 1, .int .i64 1], .bool true]) ∧ ∃ S' F, Qu S' w' q F kM1 2 kX2 ∧ Sav S w w' ∧ Nxt S S' w :=
  (takeQ H (x := (8, 1, 1, 2)) (by unfold MinOf; decide)).mono (by
    rintro e w' ⟨rfl, S', f, -, -, h1, h2, h3⟩
    exact ⟨rfl, S', _, h1, h2, h3⟩)
end
set_option maxRecDepth 100000 in
set_option maxHeartbeats 8000000 in
theorem known14_any (w : World) : Calls Try.prog 6 #[] w fun e w' => e = .returned (.bool true) ∧ Below w.heap.size w w' := by
  have cN := hidd (fun W => newQ W)
  go_enter Try.func6, Try.ntmps6
  go_wp2_with fail
  refine (cN.out _).mono ?_
  rintro e w0 ⟨q, S0, rfl, hq0, hn, hb⟩
  have Q0 : Hid (Qu S0 w0 q [] [] 0 kX0) := hidd hq0
  have B0 := hidd hb
  have N0 := hidd hn
  clear hq0 hn hb
  go_wp2_with fail
  refine (kAdd1 Q0.out).mono ?_
  rintro e w1 ⟨rfl, S1, a, hq1, s1, n1⟩
  have st1 := q_step B0.out N0.out s1 n1
  have B1 := hidd st1.1
  have N1 := hidd st1.2
  have Q1 := hidd hq1
  clear hq1 s1 n1 st1
  go_wp2_with fail
  refine (kAdd2 Q1.out).mono ?_
  rintro e w2 ⟨rfl, S2, b, hq2, s2, n2⟩
  have st2 := q_step B1.out N1.out s2 n2
  have B2 := hidd st2.1
  have N2 := hidd st2.2
  have Q2 := hidd hq2
  clear hq2 s2 n2 st2
  go_wp2_with fail
  refine (kPut1 Q2.out).mono ?_
  rintro e w3 ⟨rfl, S3, hq3, s3, n3⟩
  have st3 := q_step B2.out N2.out s3 n3
  have B3 := hidd st3.1
  have N3 := hidd st3.2
  have Q3 := hidd hq3
  clear hq3 s3 n3 st3
  go_wp2_with fail
  obtain ⟨A3, hA3⟩ : ∃ A, w3.alloc (.cells #[.int .i64 2, .int .i64 1] 35) = A := ⟨_, rfl⟩
  have Rpa : Hid (A3.heap[w3.heap.size]? = some (.cells #[.int .i64 2, .int .i64 1] 35 (0, 0))) := hidd (by rw [← hA3]; exact heap_alloc_new w3 _)
  have Lpa : Hid (w3.heap.size < A3.heap.size) := hidd (by rw [← hA3]; simp)
  have bA3 : Below w3.heap.size w3 A3 := by rw [← hA3]; exact below_new (Below.refl _ _) _
  have BA3 := hidd (B3.out.trans (bA3.mono B3.out.size))
  have QA3 := hidd (Q3.out.below bA3)
  have Xpa : Hid (¬ S3 w3.heap.size) := hidd (fun e => by have := Q3.out.lt e; omega)
  rw [hA3]
  clear hA3 bA3
  generalize w3.heap.size = pa at *
  refine (kPut2 QA3.out).mono ?_
  rintro e w4 ⟨rfl, S4, hq4, s4, n4⟩
  have st4 := q_step BA3.out N3.out s4 n4
  have B4 := hidd st4.1
  have N4 := hidd st4.2
  have Q4 := hidd hq4
  have Rpa' := hidd ((s4.block _ Lpa.out Xpa.out).trans Rpa.out)
  have Xpa' : Hid (¬ S4 pa) := hidd (fun e => Xpa.out (n4 _ Lpa.out e))
  have Lpa' := hidd (Nat.lt_of_lt_of_le Lpa.out s4.size)
  clear Rpa Lpa Xpa
  have Rpa := Rpa'
  have Lpa := Lpa'
  have Xpa := Xpa'
  clear Rpa' Lpa' Xpa'
  clear hq4 s4 n4 st4
  go_wp2_with fail
  obtain ⟨A4, hA4⟩ : ∃ A, w4.alloc (.cells #[.int .i64 1, .int .i64 1] 35) = A := ⟨_, rfl⟩
  have Rpb : Hid (A4.heap[w4.heap.size]? = some (.cells #[.int .i64 1, .int .i64 1] 35 (0, 0))) := hidd (by rw [← hA4]; exact heap_alloc_new w4 _)
  have Lpb : Hid (w4.heap.size < A4.heap.size) := hidd (by rw [← hA4]; simp)
  have bA4 : Below w4.heap.size w4 A4 := by rw [← hA4]; exact below_new (Below.refl _ _) _
  have BA4 := hidd (B4.out.trans (bA4.mono B4.out.size))
  have QA4 := hidd (Q4.out.below bA4)
  have Xpb : Hid (¬ S4 w4.heap.size) := hidd (fun e => by have := Q4.out.lt e; omega)
  have Rpa' := hidd ((bA4.block _ Lpa.out).trans Rpa.out)
  have Lpa' := hidd (Nat.lt_of_lt_of_le Lpa.out bA4.size)
  clear Rpa Lpa
  have Rpa := Rpa'
  have Lpa := Lpa'
  clear Rpa' Lpa'
  rw [hA4]
  clear hA4 bA4
  generalize w4.heap.size = pb at *
  refine (kTake QA4.out).mono ?_
  rintro e w5 ⟨rfl, S5, F, hq5, s5, n5⟩
  have st5 := q_step BA4.out N4.out s5 n5
  have B5 := hidd st5.1
  have N5 := hidd st5.2
  have Q5 := hidd hq5
  have Rpa' := hidd ((s5.block _ Lpa.out Xpa.out).trans Rpa.out)
  have Xpa' : Hid (¬ S5 pa) := hidd (fun e => Xpa.out (n5 _ Lpa.out e))
  have Lpa' := hidd (Nat.lt_of_lt_of_le Lpa.out s5.size)
  clear Rpa Lpa Xpa
  have Rpa := Rpa'
  have Lpa := Lpa'
  have Xpa := Xpa'
  clear Rpa' Lpa' Xpa'
  have Rpb' := hidd ((s5.block _ Lpb.out Xpb.out).trans Rpb.out)
  have Xpb' : Hid (¬ S5 pb) := hidd (fun e => Xpb.out (n5 _ Lpb.out e))
  have Lpb' := hidd (Nat.lt_of_lt_of_le Lpb.out s5.size)
  clear Rpb Lpb Xpb
  have Rpb := Rpb'
  have Lpb := Lpb'
  have Xpb := Xpb'
  clear Rpb' Lpb' Xpb'
  clear hq5 s5 n5 st5
  have lpa := Lpa.out
  have lpb := Lpb.out
  have rpa := Rpa.out
  have rpb := Rpb.out
  have c0 : w5.cell? ⟨pa, 0, none⟩ = some (.int .i64 2) := by simp [World.cell?, rpa]
  have c1 : w5.cell? ⟨pa, 1, none⟩ = some (.int .i64 1) := by simp [World.cell?, rpa]
  have c2 : w5.cell? ⟨pb, 0, none⟩ = some (.int .i64 1) := by simp [World.cell?, rpb]
  have c3 : w5.cell? ⟨pb, 1, none⟩ = some (.int .i64 1) := by simp [World.cell?, rpb]
  clear rpa rpb
  go_wp2_with fail
  refine (lenQ (Q5.out.below (by (repeat' (first | (with_reducible exact Below.refl _ _) | (with_reducible assumption) | (with_reducible apply Below.setCell) | (with_reducible apply Below.alloc) | (with_reducible apply Below.drew) | (with_reducible apply below_drewN) | (with_reducible refine Below.trans ?_ (Below.mono (by assumption) ?_)) | omega | (simp; done) | (simp; omega)))))).mono ?_
  rintro e w6 ⟨rfl, rfl⟩
  have hlen : ((kM1.length : Nat) : Int) = 1 := rfl
  go_wp2_with fail
  go_ret
  exact ⟨rfl, by have b := B5.out; have b0 := b.size; (repeat' (first | (with_reducible exact Below.refl _ _) | (with_reducible assumption) | (with_reducible apply Below.setCell) | (with_reducible apply Below.alloc) | (with_reducible apply Below.drew) | (with_reducible apply below_drewN) | (with_reducible refine Below.trans ?_ (Below.mono (by assumption) ?_)) | omega | (simp; done) | (simp; omega)))⟩
end Go.Proofs.Ytgeankdimknmiaa.Hp

