/- Texts that the claim hangs on, in one. -/
import Derived.Test.YtgeankdimknmiaaMgVcB
import Derived.Test.YtgeankdimknmiaaMgVcA
/- Clocks: a packet comes that may not; none is there to take; any packet comes. -/
namespace Go.Proofs.Ytgeankdimknmiaa.Hp
set_option linter.unusedVariables false
open Go.RowKit Go.Maps Go.Sort Go.Proofs.Ytgeankdimknmiaa.Tp
section
variable {tb h pb fb : Nat} {R : Nat → Prop} {w : World} {q : Nat} {F : List Fw} {M : List It} {T : Int} {np : Nat} {X : Int → Int × Int}
set_option maxRecDepth 100000
set_option maxHeartbeats 4000000
theorem put_arg1 (H : QuA tb h pb fb R w q F M T np X) {i fl z now : Int} (hp : packB i fl z = false) :
    Calls Try.prog 9 #[.pointer (some ⟨q, 0, none⟩), .agg #[.int .i64 i, .int .i64 fl, .int .i64 z], .int .i64 now] w fun e w' => e = .returned (.tuple #[.agg #[.int .i64 0, .int .i64 0], .int .i64 2]) ∧ Below w.heap.size w w' := by
  obtain ⟨W1, hW1⟩ : ∃ W1, (w.alloc (.cells #[.int .i64 i, .int .i64 fl, .int .i64 z] 31)).alloc (.cells #[.int .i64 0, .int .i64 0] 35) = W1 := ⟨_, rfl⟩
  have HW1 := hidd hW1
  have B1 := hidd (show Below w.heap.size w W1 from by rw [← hW1]; exact below_new (below_new (Below.refl _ _) _) _)
  have SZ := hidd (show W1.heap.size = w.heap.size + 2 from by rw [← hW1]; simp)
  have BX := hidd (show W1.heap[w.heap.size]? = some (.cells #[.int .i64 i, .int .i64 fl, .int .i64 z] 31 (0, 0)) from by rw [← hW1]; exact (Below.heap_alloc _ _ _ (by simp)).trans (heap_alloc_new w _))
  have RS := hidd (show W1.heap[w.heap.size + 1]? = some (.cells #[.int .i64 0, .int .i64 0] 35 (0, 0)) from by rw [← hW1]; have q := heap_alloc_new (w.alloc (.cells #[.int .i64 i, .int .i64 fl, .int .i64 z] 31)) (.cells #[.int .i64 0, .int .i64 0] 35); simp only [World.size_alloc] at q; exact q)
  have HA := hidd H
  have HAY : Hid (∀ Y, Below W1.heap.size W1 Y → QuA tb h pb fb R Y q F M T np X) := hidd (fun Y hb => HA.out.below (B1.out.trans (hb.mono B1.out.size)))
  have KS : Hid (∀ Y, Below W1.heap.size W1 Y → PS q tb w.heap.size i fl z Y) := hidd (fun Y hb => by
    obtain ⟨y0, -, -, -⟩ := (HAY.out Y hb).qc
    have hrow := (hb.block w.heap.size (by have := SZ.out; omega)).trans BX.out
    exact ⟨y0, by simp [World.cell?, hrow], by simp [World.cell?, hrow], by simp [World.cell?, hrow]⟩)
  have cN := hidd (fun Y (hb : Below W1.heap.size W1 Y) => vNone_yes (HAY.out Y hb).qc.1)
  have cP := hidd (fun Y => checkPkt_no hp Y)
  clear hp
  clear H hW1
  obtain ⟨-, x0, x1, x2⟩ := KS.out W1 (Below.refl _ _)
  go_enter Try.func9, Try.ntmps9
  go_wp2_with fail
  rw [HW1.out]
  refine (cN.out _ (Below.refl _ _)).mono ?_
  rintro e w1 ⟨rfl, rfl⟩
  go_wp2_with fail
  refine (cP.out _).mono ?_
  rintro e w2 ⟨rfl, hb2⟩
  have B2 := hidd hb2
  clear hb2 x0 x1 x2
  have er := (B2.out.block (w.heap.size + 1) (by have := SZ.out; omega)).trans RS.out
  have xr0 : w2.cell? ⟨w.heap.size + 1, 0, none⟩ = some (.int .i64 0) := by simp [World.cell?, er]
  have xr1 : w2.cell? ⟨w.heap.size + 1, 1, none⟩ = some (.int .i64 0) := by simp [World.cell?, er]
  have xf0 : w2.frozen? ⟨w.heap.size + 1, 0, none⟩ = false := by simp [World.frozen?, er]
  have xf1 : w2.frozen? ⟨w.heap.size + 1, 1, none⟩ = false := by simp [World.frozen?, er]
  clear er
  go_wp2_with fail
  have bE := B1.out.trans (B2.out.mono B1.out.size)
  refine bodyPost_ret (v := .tuple #[.agg #[.int .i64 0, .int .i64 0], .int .i64 2]) (by simp [results, Try.results9, go_sem, xr0, xr1]) rfl ?_
  exact ⟨rfl, (((Sav.of (S := fun _ => False) bE).setNew (Nat.le_succ _) _).setNew (Nat.le_succ _) _).below (Nat.le_refl _) (fun _ h => h.elim)⟩
theorem put_arg2 (H : QuA tb h pb fb R w q F M T np X) {i fl z now : Int} (hp : packB i fl z = true) (ht : tickB now = false) :
    Calls Try.prog 9 #[.pointer (some ⟨q, 0, none⟩), .agg #[.int .i64 i, .int .i64 fl, .int .i64 z], .int .i64 now] w fun e w' => e = .returned (.tuple #[.agg #[.int .i64 0, .int .i64 0], .int .i64 2]) ∧ Below w.heap.size w w' := by
  obtain ⟨W1, hW1⟩ : ∃ W1, (w.alloc (.cells #[.int .i64 i, .int .i64 fl, .int .i64 z] 31)).alloc (.cells #[.int .i64 0, .int .i64 0] 35) = W1 := ⟨_, rfl⟩
  have HW1 := hidd hW1
  have B1 := hidd (show Below w.heap.size w W1 from by rw [← hW1]; exact below_new (below_new (Below.refl _ _) _) _)
  have SZ := hidd (show W1.heap.size = w.heap.size + 2 from by rw [← hW1]; simp)
  have BX := hidd (show W1.heap[w.heap.size]? = some (.cells #[.int .i64 i, .int .i64 fl, .int .i64 z] 31 (0, 0)) from by rw [← hW1]; exact (Below.heap_alloc _ _ _ (by simp)).trans (heap_alloc_new w _))
  have RS := hidd (show W1.heap[w.heap.size + 1]? = some (.cells #[.int .i64 0, .int .i64 0] 35 (0, 0)) from by rw [← hW1]; have q := heap_alloc_new (w.alloc (.cells #[.int .i64 i, .int .i64 fl, .int .i64 z] 31)) (.cells #[.int .i64 0, .int .i64 0] 35); simp only [World.size_alloc] at q; exact q)
  have HA := hidd H
  have HAY : Hid (∀ Y, Below W1.heap.size W1 Y → QuA tb h pb fb R Y q F M T np X) := hidd (fun Y hb => HA.out.below (B1.out.trans (hb.mono B1.out.size)))
  have KS : Hid (∀ Y, Below W1.heap.size W1 Y → PS q tb w.heap.size i fl z Y) := hidd (fun Y hb => by
    obtain ⟨y0, -, -, -⟩ := (HAY.out Y hb).qc
    have hrow := (hb.block w.heap.size (by have := SZ.out; omega)).trans BX.out
    exact ⟨y0, by simp [World.cell?, hrow], by simp [World.cell?, hrow], by simp [World.cell?, hrow]⟩)
  have cN := hidd (fun Y (hb : Below W1.heap.size W1 Y) => vNone_yes (HAY.out Y hb).qc.1)
  have cP := hidd (fun Y => checkPkt_ok hp Y)
  have cT := hidd (fun Y => isTick_any now Y)
  rw [ht] at cT
  clear hp ht
  clear H hW1
  obtain ⟨-, x0, x1, x2⟩ := KS.out W1 (Below.refl _ _)
  go_enter Try.func9, Try.ntmps9
  go_wp2_with fail
  rw [HW1.out]
  refine (cN.out _ (Below.refl _ _)).mono ?_
  rintro e w1 ⟨rfl, rfl⟩
  go_wp2_with fail
  refine (cP.out _).mono ?_
  rintro e w2 ⟨rfl, hb2⟩
  have B2 := hidd hb2
  clear hb2 x0 x1 x2
  go_wp2_with fail
  refine (cT.out _).mono ?_
  rintro e w1 ⟨rfl, rfl⟩
  have er := (B2.out.block (w.heap.size + 1) (by have := SZ.out; omega)).trans RS.out
  have xr0 : w2.cell? ⟨w.heap.size + 1, 0, none⟩ = some (.int .i64 0) := by simp [World.cell?, er]
  have xr1 : w2.cell? ⟨w.heap.size + 1, 1, none⟩ = some (.int .i64 0) := by simp [World.cell?, er]
  have xf0 : w2.frozen? ⟨w.heap.size + 1, 0, none⟩ = false := by simp [World.frozen?, er]
  have xf1 : w2.frozen? ⟨w.heap.size + 1, 1, none⟩ = false := by simp [World.frozen?, er]
  clear er
  go_wp2_with fail
  have bE := B1.out.trans (B2.out.mono B1.out.size)
  refine bodyPost_ret (v := .tuple #[.agg #[.int .i64 0, .int .i64 0], .int .i64 2]) (by simp [results, Try.results9, go_sem, xr0, xr1]) rfl ?_
  exact ⟨rfl, (((Sav.of (S := fun _ => False) bE).setNew (Nat.le_succ _) _).setNew (Nat.le_succ _) _).below (Nat.le_refl _) (fun _ h => h.elim)⟩
theorem put_none (H : QuA tb h pb fb R w q F M T np X) {i fl z now : Int} (hp : packB i fl z = true) (ht : tickB now = true) (hn : ∀ f ∈ F, f.id ≠ fl) :
    Calls Try.prog 9 #[.pointer (some ⟨q, 0, none⟩), .agg #[.int .i64 i, .int .i64 fl, .int .i64 z], .int .i64 now] w fun e w' => e = .returned (.tuple #[.agg #[.int .i64 0, .int .i64 0], .int .i64 5]) ∧ Below w.heap.size w w' := by
  obtain ⟨-, ⟨l0, l1⟩, -⟩ := of_decide_eq_true hp
  obtain ⟨W1, hW1⟩ : ∃ W1, (w.alloc (.cells #[.int .i64 i, .int .i64 fl, .int .i64 z] 31)).alloc (.cells #[.int .i64 0, .int .i64 0] 35) = W1 := ⟨_, rfl⟩
  have HW1 := hidd hW1
  have B1 := hidd (show Below w.heap.size w W1 from by rw [← hW1]; exact below_new (below_new (Below.refl _ _) _) _)
  have SZ := hidd (show W1.heap.size = w.heap.size + 2 from by rw [← hW1]; simp)
  have BX := hidd (show W1.heap[w.heap.size]? = some (.cells #[.int .i64 i, .int .i64 fl, .int .i64 z] 31 (0, 0)) from by rw [← hW1]; exact (Below.heap_alloc _ _ _ (by simp)).trans (heap_alloc_new w _))
  have RS := hidd (show W1.heap[w.heap.size + 1]? = some (.cells #[.int .i64 0, .int .i64 0] 35 (0, 0)) from by rw [← hW1]; have q := heap_alloc_new (w.alloc (.cells #[.int .i64 i, .int .i64 fl, .int .i64 z] 31)) (.cells #[.int .i64 0, .int .i64 0] 35); simp only [World.size_alloc] at q; exact q)
  have HA := hidd H
  have HAY : Hid (∀ Y, Below W1.heap.size W1 Y → QuA tb h pb fb R Y q F M T np X) := hidd (fun Y hb => HA.out.below (B1.out.trans (hb.mono B1.out.size)))
  have KS : Hid (∀ Y, Below W1.heap.size W1 Y → PS q tb w.heap.size i fl z Y) := hidd (fun Y hb => by
    obtain ⟨y0, -, -, -⟩ := (HAY.out Y hb).qc
    have hrow := (hb.block w.heap.size (by have := SZ.out; omega)).trans BX.out
    exact ⟨y0, by simp [World.cell?, hrow], by simp [World.cell?, hrow], by simp [World.cell?, hrow]⟩)
  have cN := hidd (fun Y (hb : Below W1.heap.size W1 Y) => vNone_yes (HAY.out Y hb).qc.1)
  have cP := hidd (fun Y => checkPkt_ok hp Y)
  have cT := hidd (fun Y => isTick_any now Y)
  rw [ht] at cT
  have cR := hidd (fun Y (hb : Below W1.heap.size W1 Y) => room_none (HAY.out Y hb) (i := i) (z := z) (by omega) (by omega) hn)
  clear hp ht hn l0 l1
  clear H hW1
  obtain ⟨-, x0, x1, x2⟩ := KS.out W1 (Below.refl _ _)
  go_enter Try.func9, Try.ntmps9
  go_wp2_with fail
  rw [HW1.out]
  refine (cN.out _ (Below.refl _ _)).mono ?_
  rintro e w1 ⟨rfl, rfl⟩
  go_wp2_with fail
  refine (cP.out _).mono ?_
  rintro e w2 ⟨rfl, hb2⟩
  have B2 := hidd hb2
  clear hb2 x0 x1 x2
  go_wp2_with fail
  refine (cT.out _).mono ?_
  rintro e w1 ⟨rfl, rfl⟩
  go_wp2_with fail
  refine wp_region_held_drew (S := (fun Y => PS q tb w.heap.size i fl z Y)) (by kernel_rfl) (KS.out _ (Below.drew B2.out)) (fun hH => ?_)
  refine wpAnyH_take (i := 0) (v := ?va0_1) (by (conv => lhs; simp only [List.getElem?_toArray, List.getElem?_cons_succ, List.getElem?_cons_zero])) (by kernel_rfl) (by kernel_rfl) (by kernel_rfl) ?hQ (Or.inl ⟨by rfl, ?hya0_1⟩) hH ?resta0_1
  case hQ => exact fun _ _ _ h => h
  case hya0_1 => (intro Y hY; obtain ⟨y0, y1, y2, y3⟩ := hY; go_simp; try (with_reducible rfl))
  try simp only [Act.put, List.setIfInBounds_toArray, List.set_cons_zero, List.set_cons_succ]
  refine wpAnyH_take (i := 1) (v := ?va1_2) (by (conv => lhs; simp only [List.getElem?_toArray, List.getElem?_cons_succ, List.getElem?_cons_zero])) (by kernel_rfl) (by kernel_rfl) (by kernel_rfl) ?hQ (Or.inl ⟨by rfl, ?hya1_2⟩) hH ?resta1_2
  case hQ => exact fun _ _ _ h => h
  case hya1_2 => (intro Y hY; obtain ⟨y0, y1, y2, y3⟩ := hY; go_simp; try (with_reducible rfl))
  try simp only [Act.put, List.setIfInBounds_toArray, List.set_cons_zero, List.set_cons_succ]
  refine wpAnyH_take (i := 2) (v := ?va2_3) (by (conv => lhs; simp only [List.getElem?_toArray, List.getElem?_cons_succ, List.getElem?_cons_zero])) (by kernel_rfl) (by kernel_rfl) (by kernel_rfl) ?hQ (Or.inl ⟨by rfl, ?hya2_3⟩) hH ?resta2_3
  case hQ => exact fun _ _ _ h => h
  case hya2_3 => (intro Y hY; obtain ⟨y0, y1, y2, y3⟩ := hY; go_simp; try (with_reducible rfl))
  try simp only [Act.put, List.setIfInBounds_toArray, List.set_cons_zero, List.set_cons_succ]
  refine wpAnyH_take (i := 3) (v := ?va3_4) (by (conv => lhs; simp only [List.getElem?_toArray, List.getElem?_cons_succ, List.getElem?_cons_zero])) (by kernel_rfl) (by kernel_rfl) (by kernel_rfl) ?hQ (Or.inl ⟨by rfl, ?hya3_4⟩) hH ?resta3_4
  case hQ => exact fun _ _ _ h => h
  case hya3_4 => (intro Y hY; obtain ⟨y0, y1, y2, y3⟩ := hY; go_simp; try (with_reducible rfl))
  try simp only [Act.put, List.setIfInBounds_toArray, List.set_cons_zero, List.set_cons_succ]
  refine wpAnyH_take (i := 4) (v := ?va4_5) (by (conv => lhs; simp only [List.getElem?_toArray, List.getElem?_cons_succ, List.getElem?_cons_zero])) (by kernel_rfl) (by kernel_rfl) (by kernel_rfl) ?hQ (Or.inl ⟨by rfl, ?hya4_5⟩) hH ?resta4_5
  case hQ => exact fun _ _ _ h => h
  case hya4_5 => (intro Y hY; obtain ⟨y0, y1, y2, y3⟩ := hY; go_simp; try (with_reducible rfl))
  try simp only [Act.put, List.setIfInBounds_toArray, List.set_cons_zero, List.set_cons_succ]
  refine wpAnyH_ready (rs := [5]) (by kernel_rfl) (by simp) ?_
  refine AllReadyH.cons (by (conv => lhs; simp only [List.getElem?_toArray, List.getElem?_cons_succ, List.getElem?_cons_zero])) (fun K hK => ?_) AllReadyH.nil
  go_simp
  go_at_call 20; refine (cR.out _ (Below.drew B2.out)).mono ?_; rintro e w3 ⟨rfl, hb3⟩
  have B3 := hidd (show Below W1.heap.size W1 w3 from (Below.drew B2.out).trans (hb3.mono (Below.drew B2.out).size))
  clear hb3
  refine hK.out _ _ (KS.out _ B3.out) (fun hH1 => ?_)
  clear hK hH
  try simp only [Act.put, List.setIfInBounds_toArray, List.set_cons_zero, List.set_cons_succ]
  refine wpAnyH_take (i := 6) (v := ?va6_6) (by (conv => lhs; simp only [List.getElem?_toArray, List.getElem?_cons_succ, List.getElem?_cons_zero])) (by kernel_rfl) (by kernel_rfl) (by kernel_rfl) ?hQ (Or.inl ⟨by rfl, ?hya6_6⟩) hH1 ?resta6_6
  case hQ => exact fun _ _ _ h => h
  case hya6_6 => (intro Y hY; obtain ⟨y0, y1, y2, y3⟩ := hY; go_simp; try (with_reducible rfl))
  try simp only [Act.put, List.setIfInBounds_toArray, List.set_cons_zero, List.set_cons_succ]
  refine wpAnyH_done (by kernel_rfl) (?_) _
  have er := (B3.out.block (w.heap.size + 1) (by have := SZ.out; omega)).trans RS.out
  have xr0 : w3.cell? ⟨w.heap.size + 1, 0, none⟩ = some (.int .i64 0) := by simp [World.cell?, er]
  have xr1 : w3.cell? ⟨w.heap.size + 1, 1, none⟩ = some (.int .i64 0) := by simp [World.cell?, er]
  have xf0 : w3.frozen? ⟨w.heap.size + 1, 0, none⟩ = false := by simp [World.frozen?, er]
  have xf1 : w3.frozen? ⟨w.heap.size + 1, 1, none⟩ = false := by simp [World.frozen?, er]
  clear er
  go_wp2_with fail
  have bE := B1.out.trans (B3.out.mono B1.out.size)
  refine bodyPost_ret (v := .tuple #[.agg #[.int .i64 0, .int .i64 0], .int .i64 5]) (by simp [results, Try.results9, go_sem, xr0, xr1]) rfl ?_
  exact ⟨rfl, (((Sav.of (S := fun _ => False) bE).setNew (Nat.le_succ _) _).setNew (Nat.le_succ _) _).below (Nat.le_refl _) (fun _ h => h.elim)⟩
theorem take_empty (H : QuA tb h pb fb R w q F [] T np X) :
    Calls Try.prog 10 #[.pointer (some ⟨q, 0, none⟩)] w fun e w' => e = .returned (.tuple #[.agg #[.int .i64 0, .int .i64 0, .int .i64 0], .agg #[.int .i64 0, .int .i64 0], .bool false]) ∧ Below w.heap.size w w' := by
  obtain ⟨W1, hW1⟩ : ∃ W1, (w.alloc (.cells #[.int .i64 0, .int .i64 0, .int .i64 0] 31)).alloc (.cells #[.int .i64 0, .int .i64 0] 35) = W1 := ⟨_, rfl⟩
  have HW1 := hidd hW1
  have B1 := hidd (show Below w.heap.size w W1 from by rw [← hW1]; exact below_new (below_new (Below.refl _ _) _) _)
  have HA1 := hidd (H.below B1.out)
  have cN := hidd (vNone_yes HA1.out.qc.1)
  have cH := hidd (takeR_nil HA1.out.hr)
  obtain ⟨x0, x1, x2, x3⟩ := HA1.out.qc
  clear H hW1
  go_enter Try.func10, Try.ntmps10
  go_wp2_with fail
  rw [HW1.out]
  refine cN.out.mono ?_
  rintro e w1 ⟨rfl, rfl⟩
  go_wp2_with fail
  refine cH.out.mono ?_
  rintro e w2 ⟨rfl, hb2⟩
  clear x0 x1 x2 x3
  unfold agI zI
  have BX := HW1.out
  have ex := (hb2.block w.heap.size (by rw [← BX]; simp; omega)).trans (show W1.heap[w.heap.size]? = some (.cells #[.int .i64 0, .int .i64 0, .int .i64 0] 31 (0, 0)) from by rw [← BX]; exact (Below.heap_alloc _ _ _ (by simp)).trans (heap_alloc_new w _))
  have er := (hb2.block (w.heap.size + 1) (by rw [← BX]; simp)).trans (show W1.heap[w.heap.size + 1]? = some (.cells #[.int .i64 0, .int .i64 0] 35 (0, 0)) from by rw [← BX]; have q := heap_alloc_new (w.alloc (.cells #[.int .i64 0, .int .i64 0, .int .i64 0] 31)) (.cells #[.int .i64 0, .int .i64 0] 35); simp only [World.size_alloc] at q; exact q)
  clear BX
  have lt0 : w.heap.size < w2.heap.size := (Array.getElem?_eq_some_iff.1 ex).1
  have lt1 : w.heap.size + 1 < w2.heap.size := (Array.getElem?_eq_some_iff.1 er).1
  have xx0 : w2.cell? ⟨w.heap.size, 0, none⟩ = some (.int .i64 0) := by simp [World.cell?, ex]
  have xx1 : w2.cell? ⟨w.heap.size, 1, none⟩ = some (.int .i64 0) := by simp [World.cell?, ex]
  have xx2 : w2.cell? ⟨w.heap.size, 2, none⟩ = some (.int .i64 0) := by simp [World.cell?, ex]
  have xr0 : w2.cell? ⟨w.heap.size + 1, 0, none⟩ = some (.int .i64 0) := by simp [World.cell?, er]
  have xr1 : w2.cell? ⟨w.heap.size + 1, 1, none⟩ = some (.int .i64 0) := by simp [World.cell?, er]
  have ff0 : w2.frozen? ⟨w.heap.size, 0, none⟩ = false := by simp [World.frozen?, ex]
  have ff1 : w2.frozen? ⟨w.heap.size, 1, none⟩ = false := by simp [World.frozen?, ex]
  have ff2 : w2.frozen? ⟨w.heap.size, 2, none⟩ = false := by simp [World.frozen?, ex]
  have fr0 : w2.frozen? ⟨w.heap.size + 1, 0, none⟩ = false := by simp [World.frozen?, er]
  have fr1 : w2.frozen? ⟨w.heap.size + 1, 1, none⟩ = false := by simp [World.frozen?, er]
  clear ex er
  go_wp2_with fail
  have bE := B1.out.trans (hb2.mono B1.out.size)
  refine bodyPost_ret (v := .tuple #[.agg #[.int .i64 0, .int .i64 0, .int .i64 0], .agg #[.int .i64 0, .int .i64 0], .bool false]) (by simp [results, Try.results10, go_sem, xx0, xx1, xx2, xr0, xr1, lt0, lt1]) rfl ?_
  exact ⟨rfl, below_new ((((((Sav.of (S := fun _ => False) bE).setNew (Nat.le_refl _) _).setNew (Nat.le_refl _) _).setNew (Nat.le_refl _) _).setNew (Nat.le_succ _) _).setNew (Nat.le_succ _) _ |>.below (Nat.le_refl _) (fun _ h => h.elim)) _⟩
end
def stA (n d e : Int) : Ending := .returned (.tuple #[.agg #[.int .i64 n, .int .i64 d], .int .i64 e])
def tkA (i fl z n d : Int) (b : Bool) : Ending := .returned (.tuple #[.agg #[.int .i64 i, .int .i64 fl, .int .i64 z], .agg #[.int .i64 n, .int .i64 d], .bool b])
section
variable {S : Nat → Prop} {w : World} {q : Nat} {F : List Fw} {M : List It} {T : Int} {X : Int → Int × Int}
theorem Qu.bytes (H : Qu S w q F M T X) {f : Fw} (hf : f ∈ F) : f.bytes ≤ 2000 * T ∧ (M.length : Int) ≤ T := by
  obtain ⟨tb, h, pb, fb, R, np, HA, hS⟩ := H
  exact ⟨(HA.ok f hf).2.2.2.2, HA.tn.1⟩
theorem Qu.len (H : Qu S w q F M T X) : (M.length : Int) ≤ T := by
  obtain ⟨tb, h, pb, fb, R, np, HA, hS⟩ := H
  exact HA.tn.1
theorem Qu.min_ex (H : Qu S w q F M T X) (hM : M ≠ []) : ∃ x, MinOf M x := by
  obtain ⟨tb, h, pb, fb, R, np, HA, hS⟩ := H
  obtain ⟨ht, mb, v, L, D, q, hH, hR⟩ := HA.hr
  have hl : 0 < L.length := by rw [q.length_eq]; exact List.length_pos_iff.2 hM
  exact ⟨_, Hp.min q hH hl⟩
/-- any packet comes. -/
theorem putAny (H : Qu S w q F M T X) {i fl z now : Int} (hi : ¬ ∃ y ∈ M, iD y = i) (hr : ∀ f ∈ F, f.id = fl → packB i fl z = true → z ≤ f.room - f.bytes) (hT : T < 900000) (hM : M.length < 50000) (hm : ∀ f ∈ F, f.id = fl → packB i fl z = true → tickB now = true → ClkB (max f.c (now * f.rate) + z) f.rate) :
    Calls Try.prog 9 #[.pointer (some ⟨q, 0, none⟩), .agg #[.int .i64 i, .int .i64 fl, .int .i64 z], .int .i64 now] w fun e w' =>
      ((packB i fl z && tickB now) = false ∧ e = stA 0 0 2 ∧ Below w.heap.size w w') ∨
      ((packB i fl z && tickB now) = true ∧ (∀ f ∈ F, f.id ≠ fl) ∧ e = stA 0 0 5 ∧ Below w.heap.size w w') ∨
      ((packB i fl z && tickB now) = true ∧ ∃ f ∈ F, f.id = fl ∧ ClkB (max f.c (now * f.rate) + z) f.rate ∧ e = stA (frN (max f.c (now * f.rate) + z) f.rate) (frD (max f.c (now * f.rate) + z) f.rate) 0 ∧
        ∃ S', Qu S' w' q (F.map (upF { f with bytes := f.bytes + z, c := max f.c (now * f.rate) + z })) (M ++ [(i, frN (max f.c (now * f.rate) + z) f.rate, frD (max f.c (now * f.rate) + z) f.rate, T + 1)]) (T + 1) (fun k => if k = i then (f.id, z) else X k) ∧ Sav S w w' ∧ Nxt S S' w) := by
  cases hp : packB i fl z with
  | false =>
    obtain ⟨tb, h, pb, fb, R, np, HA, hS⟩ := H
    exact (put_arg1 HA hp).mono fun e w' ⟨he, hb⟩ => .inl ⟨rfl, he, hb⟩
  | true =>
    cases ht : tickB now with
    | false =>
      obtain ⟨tb, h, pb, fb, R, np, HA, hS⟩ := H
      exact (put_arg2 HA hp ht).mono fun e w' ⟨he, hb⟩ => .inl ⟨rfl, he, hb⟩
    | true =>
      by_cases hf : ∃ f ∈ F, f.id = fl
      · obtain ⟨f, hf, hid⟩ := hf
        exact (putQ H hp ht hf hid hi (hr f hf hid hp) hT hM (hm f hf hid hp ht)).mono fun e w' ⟨he, h⟩ => .inr (.inr ⟨rfl, f, hf, hid, hm f hf hid hp ht, he, h⟩)
      · obtain ⟨tb, h, pb, fb, R, np, HA, hS⟩ := H
        have hn : ∀ f ∈ F, f.id ≠ fl := fun f h1 h2 => hf ⟨f, h1, h2⟩
        exact (put_none HA hp ht hn).mono fun e w' ⟨he, hb⟩ => .inr (.inl ⟨rfl, hn, he, hb⟩)
theorem takeAny (H : Qu S w q F M T X) :
    Calls Try.prog 10 #[.pointer (some ⟨q, 0, none⟩)] w fun e w' =>
      (M = [] ∧ e = tkA 0 0 0 0 0 false ∧ Below w.heap.size w w') ∨
      ∃ x, MinOf M x ∧ e = tkA (iD x) (X (iD x)).1 (X (iD x)).2 (kN x) (kD x) true ∧
        ∃ S' f, f ∈ F ∧ f.id = (X (iD x)).1 ∧ Qu S' w' q (F.map (upF { f with bytes := f.bytes - (X (iD x)).2 })) (M.erase x) T X ∧ Sav S w w' ∧ Nxt S S' w := by
  by_cases hM : M = []
  · subst hM
    obtain ⟨tb, h, pb, fb, R, np, HA, hS⟩ := H
    exact (take_empty HA).mono fun e w' ⟨he, hb⟩ => .inl ⟨rfl, he, hb⟩
  · obtain ⟨x, hx⟩ := H.min_ex hM
    exact (takeQ H hx).mono fun e w' ⟨he, h⟩ => .inr ⟨x, hx, he, h⟩
end
end Go.Proofs.Ytgeankdimknmiaa.Hp

/- Clocks: what holds of a queue of flows of one rate each, behind Puts and Takes. -/
namespace Go.Proofs.Ytgeankdimknmiaa.Hp
set_option linter.unusedVariables false
open Go.RowKit Go.Maps Go.Sort Go.Proofs.Ytgeankdimknmiaa.Tp
def ids (n : Nat) : List Int := (List.range n).map fun k : Nat => (k : Int) + 1
theorem ids_in {n : Nat} {x : Int} : x ∈ ids n ↔ 1 ≤ x ∧ x ≤ (n : Int) := by
  unfold ids
  rw [List.mem_map]
  constructor
  · rintro ⟨k, hk, rfl⟩
    have := List.mem_range.1 hk
    omega
  · rintro ⟨h0, h1⟩
    exact ⟨(x - 1).toNat, List.mem_range.2 (by omega), by omega⟩
/-- flows 1 .. n, each of its own rate, of much room; their clocks are no more than so much. -/
structure FI (rt : Int → Int) (i : Int) (n : Nat) (F : List Fw) : Prop where
  id : F.map Fw.id = ids n
  ok : ∀ f ∈ F, f.rate = rt f.id ∧ f.room = 1000000000 ∧ 0 ≤ f.c ∧ f.c ≤ 2147483647 * f.rate + 2000 * i
section
variable {rt : Int → Int} {i : Int} {n : Nat} {F : List Fw}
theorem FI.mem (h : FI rt i n F) {f : Fw} (hf : f ∈ F) : 1 ≤ f.id ∧ f.id ≤ (n : Int) := ids_in.1 (by rw [← h.id]; exact List.mem_map_of_mem hf)
theorem FI.get (h : FI rt i n F) {x : Int} (h0 : 1 ≤ x) (h1 : x ≤ (n : Int)) : ∃ f ∈ F, f.id = x := by
  have : x ∈ F.map Fw.id := by rw [h.id]; exact ids_in.2 ⟨h0, h1⟩
  obtain ⟨f, hf, e⟩ := List.mem_map.1 this
  exact ⟨f, hf, e⟩
theorem FI.snoc (h : FI rt i n F) {f : Fw} (h1 : f.id = (n : Int) + 1) (h2 : f.rate = rt f.id) (h3 : f.room = 1000000000) (h4 : 0 ≤ f.c) (h5 : f.c ≤ 2147483647 * f.rate + 2000 * i) : FI rt i (n + 1) (F ++ [f]) := by
  refine ⟨?_, fun g hg => ?_⟩
  · rw [List.map_append, h.id, ids, ids, List.range_succ, List.map_append]
    simp [h1]
  · rcases List.mem_append.1 hg with q | q
    · exact h.ok g q
    · rw [List.mem_singleton] at q
      subst q
      exact ⟨h2, h3, h4, h5⟩
theorem FI.mono (h : FI rt i n F) {j : Int} (hj : i ≤ j) : FI rt j n F := ⟨h.id, fun f hf => by have := h.ok f hf; refine ⟨this.1, this.2.1, this.2.2.1, by omega⟩⟩
theorem FI.up (h : FI rt i n F) {f f' : Fw} (hf : f ∈ F) (e1 : f'.id = f.id) (e2 : f'.rate = f.rate) (e3 : f'.room = f.room) (h0 : 0 ≤ f'.c) {j : Int} (hj : i ≤ j) (h1 : f'.c ≤ 2147483647 * f.rate + 2000 * j) : FI rt j n (F.map (upF f')) := by
  refine ⟨by rw [upF_ids]; exact h.id, fun g hg => ?_⟩
  obtain ⟨g0, hg0, rfl⟩ := List.mem_map.1 hg
  unfold upF
  split
  · rename_i e
    have := h.ok f hf
    exact ⟨by rw [e2, this.1, e1], by rw [e3, this.2.1], h0, by rw [e2]; exact h1⟩
  · have := h.ok g0 hg0
    exact ⟨this.1, this.2.1, this.2.2.1, by omega⟩
end
/-- the clock of a flow. -/
def CX (F : List Fw) (x c : Int) : Prop := ∀ f ∈ F, f.id = x → f.c = c
theorem CX.up {F : List Fw} {x c : Int} (h : CX F x c) {f' : Fw} (hx : f'.id ≠ x) : CX (F.map (upF f')) x c := fun g hg e => by
  obtain ⟨g0, hg0, rfl⟩ := List.mem_map.1 hg
  unfold upF at e ⊢
  split at e
  · exact absurd e hx
  · rename_i q
    rw [if_neg q]
    exact h g0 hg0 e
theorem CX.at {F : List Fw} {x : Int} {f' : Fw} (hx : f'.id = x) (hs : ∀ g ∈ F, g.id = x → f'.id = g.id) : CX (F.map (upF f')) x f'.c := fun g hg e => by
  obtain ⟨g0, hg0, rfl⟩ := List.mem_map.1 hg
  rw [upF_id] at e
  unfold upF
  rw [if_pos (by rw [e, hx])]
theorem CX.same {F : List Fw} {x c : Int} (h : CX F x c) {f : Fw} (hf : f ∈ F) (hn : (F.map Fw.id).Nodup) {f' : Fw} (e1 : f'.id = f.id) (e2 : f'.c = f.c) : CX (F.map (upF f')) x c := fun g hg e => by
  obtain ⟨g0, hg0, rfl⟩ := List.mem_map.1 hg
  rw [upF_id] at e
  unfold upF
  split
  · rename_i q
    rw [e2]
    exact h f hf (by rw [← e1, ← q, e])
  · exact h g0 hg0 e
theorem ids_nodup (n : Nat) : (ids n).Nodup := by
  unfold ids
  refine List.Pairwise.map _ (fun a b h => ?_) List.nodup_range
  omega
/-- what holds of it all: of flow x the packets that wait were put in the order of their IDs, each stamp behind the one before. -/
structure QI (rt : Int → Int) (x i last : Int) (F : List Fw) (M : List It) (T : Int) (X : Int → Int × Int) : Prop where
  fi : FI rt i 3 F
  t : 0 ≤ T ∧ T ≤ i
  idm : ∀ y ∈ M, iD y ≤ i
  nd : (M.map iD).Nodup
  it : ∀ y ∈ M, (X (iD y)).1 = x → last < iD y ∧ ∃ c, ClkB c (rt x) ∧ kN y = frN c (rt x) ∧ kD y = frD c (rt x) ∧ ∀ f ∈ F, f.id = x → c ≤ f.c
  lt : ∀ y ∈ M, ∀ z ∈ M, (X (iD y)).1 = x → (X (iD z)).1 = x → iD y < iD z → kN y * kD z < kN z * kD y
  l : 0 ≤ last ∧ last ≤ i
theorem QI.clk {rt : Int → Int} {x i last : Int} {F : List Fw} {M : List It} {T : Int} {X : Int → Int × Int} (h : QI rt x i last F M T X) (hr : ∀ k, 1 ≤ k → k ≤ 3 → 1 ≤ rt k ∧ rt k ≤ 1000000) (hi : i ≤ 40) {f : Fw} (hf : f ∈ F) {now z : Int} (h0 : 0 ≤ now) (h1 : now ≤ 2147483647) (hz0 : 1 ≤ z) (hz1 : z ≤ 2000) :
    ClkB (max f.c (now * f.rate) + z) f.rate ∧ max f.c (now * f.rate) + z ≤ 2147483647 * f.rate + 2000 * (i + 1) := by
  obtain ⟨a1, a2, a3, a4⟩ := h.fi.ok f hf
  have m := h.fi.mem hf
  have r := hr f.id m.1 m.2
  rw [← a1] at r
  have b0 : 0 ≤ now * f.rate := Int.mul_nonneg h0 (by omega)
  have b1 : now * f.rate ≤ 2147483647 * f.rate := Int.mul_le_mul_of_nonneg_right h1 (by omega)
  have := h.t
  have := h.l
  exact ⟨⟨by omega, by omega, r.1, r.2⟩, by omega⟩
theorem QI.mono {rt : Int → Int} {x i last : Int} {F : List Fw} {M : List It} {T : Int} {X : Int → Int × Int} (h : QI rt x i last F M T X) : QI rt x (i + 1) last F M T X :=
  ⟨h.fi.mono (by omega), ⟨h.t.1, by have := h.t.2; omega⟩, fun y hy => by have := h.idm y hy; omega, h.nd, h.it, h.lt, ⟨h.l.1, by have := h.l.2; omega⟩⟩
theorem mul_lt_of_lt {a b c d e f : Int} (h : True) : True := trivial
theorem QI.put {rt : Int → Int} {x i last : Int} {F : List Fw} {M : List It} {T : Int} {X : Int → Int × Int} (h : QI rt x i last F M T X) (hr : ∀ k, 1 ≤ k → k ≤ 3 → 1 ≤ rt k ∧ rt k ≤ 1000000) (hi : i ≤ 40) {f : Fw} (hf : f ∈ F) {now z : Int} (h0 : 0 ≤ now) (h1 : now ≤ 2147483647) (hz0 : 1 ≤ z) (hz1 : z ≤ 2000) {C : Int} (hC : max f.c (now * f.rate) + z = C) :
    QI rt x (i + 1) last (F.map (upF { f with bytes := f.bytes + z, c := C })) (M ++ [(i + 1, frN C f.rate, frD C f.rate, T + 1)]) (T + 1) (fun k => if k = i + 1 then (f.id, z) else X k) := by
  obtain ⟨k1, k2⟩ := h.clk hr hi hf h0 h1 hz0 hz1
  have hge : f.c < C := by omega
  rw [hC] at k1 k2
  obtain ⟨a1, a2, a3, a4⟩ := h.fi.ok f hf
  have old : ∀ y ∈ M, (if iD y = i + 1 then (f.id, z) else X (iD y)) = X (iD y) := fun y hy => if_neg (by have := h.idm y hy; omega)
  have fnd : (F.map Fw.id).Nodup := by rw [h.fi.id]; exact ids_nodup 3
  have it2 : ∀ y ∈ M, (X (iD y)).1 = x → ∃ c, ClkB c (rt x) ∧ kN y = frN c (rt x) ∧ kD y = frD c (rt x) ∧ ∀ g ∈ F, g.id = x → c ≤ g.c := fun y hy e => (h.it y hy e).2
  refine ⟨h.fi.up (f' := { f with bytes := f.bytes + z, c := C }) hf rfl rfl rfl (by show 0 ≤ C; omega) (by omega) k2, ⟨by have := h.t; omega, by have := h.t; omega⟩, fun y hy => ?_, ?_, fun y hy e => ?_, fun y hy w hw ey ew hlt => ?_, ⟨h.l.1, by have := h.l.2; omega⟩⟩
  · rcases List.mem_append.1 hy with q | q
    · have := h.idm y q; omega
    · rw [List.mem_singleton] at q; subst q; exact Int.le_refl _
  · rw [List.map_append, List.nodup_append]
    refine ⟨h.nd, by simp, fun a ha b hb => ?_⟩
    simp only [List.map_cons, List.map_nil, List.mem_singleton] at hb
    obtain ⟨y, hy, rfl⟩ := List.mem_map.1 ha
    have := h.idm y hy
    rw [hb]
    show iD y ≠ i + 1
    omega
  · rcases List.mem_append.1 hy with q | q
    · rw [old y q] at e
      obtain ⟨l1, c, c1, c2, c3, c4⟩ := h.it y q e
      refine ⟨l1, c, c1, c2, c3, fun g hg eg => ?_⟩
      obtain ⟨g0, hg0, rfl⟩ := List.mem_map.1 hg
      rw [upF_id] at eg
      have b := c4 g0 hg0 eg
      unfold upF
      split
      · rename_i q2
        have : g0 = f := uniqF fnd hg0 hf q2
        subst this
        show c ≤ C
        omega
      · exact b
    · rw [List.mem_singleton] at q
      subst q
      rw [show iD ((i + 1, frN C f.rate, frD C f.rate, T + 1) : It) = i + 1 from rfl, if_pos rfl] at e
      dsimp only at e
      have er : rt x = f.rate := by rw [a1, e]
      refine ⟨by show last < i + 1; have := h.l; omega, C, by rw [er]; exact k1, by rw [er]; rfl, by rw [er]; rfl, fun g hg eg => ?_⟩
      obtain ⟨g0, hg0, rfl⟩ := List.mem_map.1 hg
      rw [upF_id] at eg
      unfold upF
      rw [if_pos (by rw [eg]; exact e.symm)]
      exact Int.le_refl _
  · rcases List.mem_append.1 hy with q | q <;> rcases List.mem_append.1 hw with p | p
    · skip
      rw [old y q] at ey
      rw [old w p] at ew
      exact h.lt y q w p ey ew hlt
    · rw [List.mem_singleton] at p
      subst p
      rw [old y q] at ey
      rw [show iD ((i + 1, frN C f.rate, frD C f.rate, T + 1) : It) = i + 1 from rfl, if_pos rfl] at ew
      dsimp only at ew
      have er : rt x = f.rate := by rw [a1, ew]
      obtain ⟨c, c1, c2, c3, c4⟩ := it2 y q ey
      rw [c2, c3, er]
      rw [er] at c1
      have := c4 f hf ew
      exact (fr_lt c1 k1).2 (by omega)
    · rw [List.mem_singleton] at q
      subst q
      have := h.idm w p
      have e2 : iD ((i + 1, frN C f.rate, frD C f.rate, T + 1) : It) = i + 1 := rfl
      omega
    · rw [List.mem_singleton] at p q
      rw [p, q] at hlt
      omega
theorem iD_uniq {M : List It} (nd : (M.map iD).Nodup) {x y : It} (hx : x ∈ M) (hy : y ∈ M) (e : iD x = iD y) : x = y := by
  induction M with
  | nil => cases hx
  | cons c l ih =>
    simp only [List.map_cons, List.nodup_cons] at nd
    rcases List.mem_cons.1 hx with h1 | h1 <;> rcases List.mem_cons.1 hy with h2 | h2
    · rw [h1, h2]
    · rw [h1] at e; exact absurd (e ▸ List.mem_map_of_mem h2) nd.1
    · rw [h2] at e; exact absurd (e ▸ List.mem_map_of_mem h1) nd.1
    · exact ih nd.2 h1 h2
theorem nodup_of_ids {M : List It} (nd : (M.map iD).Nodup) : M.Nodup := List.Pairwise.of_map iD (fun a b hne e => hne (by rw [e])) nd
theorem QI.take {rt : Int → Int} {x i last : Int} {F : List Fw} {M : List It} {T : Int} {X : Int → Int × Int} (h : QI rt x i last F M T X) {f : Fw} (hf : f ∈ F) {b : Int} {u : It} (hu : MinOf M u) :
    QI rt x i (if (X (iD u)).1 = x then iD u else last) (F.map (upF { f with bytes := b })) (M.erase u) T X ∧ ((X (iD u)).1 = x → last < iD u) := by
  obtain ⟨a1, a2, a3, a4⟩ := h.fi.ok f hf
  have fnd : (F.map Fw.id).Nodup := by rw [h.fi.id]; exact ids_nodup 3
  have er : ∀ y, y ∈ M.erase u → y ∈ M ∧ y ≠ u := fun y hy => by
    have := (nodup_of_ids h.nd).mem_erase_iff.1 hy
    exact ⟨this.2, this.1⟩
  have hcl : ∀ g ∈ F.map (upF { f with bytes := b }), ∃ g0 ∈ F, g0.id = g.id ∧ g0.c = g.c := fun g hg => by
    obtain ⟨g0, hg0, rfl⟩ := List.mem_map.1 hg
    unfold upF
    split
    · exact ⟨f, hf, rfl, rfl⟩
    · exact ⟨g0, hg0, rfl, rfl⟩
  refine ⟨⟨h.fi.up (f' := { f with bytes := b }) hf rfl rfl rfl a3 (Int.le_refl _) a4, h.t, fun y hy => h.idm y (er y hy).1, h.nd.sublist ((List.erase_sublist).map iD), fun y hy e => ?_, fun y hy z hz => h.lt y (er y hy).1 z (er z hz).1, ?_⟩, fun e => (h.it u hu.1 e).1⟩
  · obtain ⟨hy1, hy2⟩ := er y hy
    obtain ⟨l1, c, c1, c2, c3, c4⟩ := h.it y hy1 e
    refine ⟨?_, c, c1, c2, c3, fun g hg eg => ?_⟩
    · split
      · rename_i e2
        rcases Int.lt_trichotomy (iD u) (iD y) with q | q | q
        · exact q
        · exact absurd (iD_uniq h.nd hy1 hu.1 q.symm) hy2
        · have a := h.lt y hy1 u hu.1 e e2 q
          exact absurd (.inl a) (hu.2 y hy1)
      · exact l1
    · obtain ⟨g0, hg0, e1, e2⟩ := hcl g hg
      rw [← e2]
      exact c4 g0 hg0 (by rw [e1, eg])
  · split
    · rename_i e2
      have := (h.it u hu.1 e2).1
      have := h.idm u hu.1
      have := h.l
      omega
    · exact h.l
/-- what a Put of flow x tells where its clock is c, and its clock behind it. -/
def PT (c r : Int) (may : Bool) (now z : Int) : Int × Int × Int × Int := if may then (frN (max c (now * r) + z) r, frD (max c (now * r) + z) r, 0, max c (now * r) + z) else (0, 0, 2, c)
theorem PT_yes {c r now z : Int} : PT c r true now z = (frN (max c (now * r) + z) r, frD (max c (now * r) + z) r, 0, max c (now * r) + z) := rfl
theorem PT_no {c r now z : Int} : PT c r false now z = (0, 0, 2, c) := rfl
section
variable {S : Nat → Prop} {w : World} {q : Nat} {rt : Int → Int} {x i last : Int} {F : List Fw} {M : List It} {T : Int} {X : Int → Int × Int}
theorem putI (H : Qu S w q F M T X) (h : QI rt x i last F M T X) (hr : ∀ k, 1 ≤ k → k ≤ 3 → 1 ≤ rt k ∧ rt k ≤ 1000000) (hi : i < 40) (hx0 : 1 ≤ x) (hx1 : x ≤ 3) {c : Int} (hc : CX F x c) (fl z now : Int) :
    Calls Try.prog 9 #[.pointer (some ⟨q, 0, none⟩), .agg #[.int .i64 (i + 1), .int .i64 fl, .int .i64 z], .int .i64 now] w fun e w' => ∃ n d er c' S' F' M' T' X', e = stA n d er ∧
      Qu S' w' q F' M' T' X' ∧ QI rt x (i + 1) last F' M' T' X' ∧ CX F' x c' ∧ (fl = x → (n, d, er, c') = PT c (rt x) (packB (i + 1) fl z && tickB now) now z) ∧ (fl ≠ x → c' = c) ∧ Sav S w w' ∧ Nxt S S' w := by
  have hb := H.len
  have ht := h.t
  have hM : M.length < 50000 := by omega
  have keep : ∀ w', Below w.heap.size w w' → Qu S w' q F M T X ∧ QI rt x (i + 1) last F M T X ∧ Sav S w w' ∧ Nxt S S w := fun w' b => ⟨H.below b, h.mono, Sav.of b, fun k _ hk => hk⟩
  refine (putAny H (i := i + 1) (fl := fl) (z := z) (now := now) (fun ⟨y, hy, e⟩ => by have := h.idm y hy; omega) (fun f hf e hp => ?_) (by omega) hM (fun f hf e hp htk => ?_)).mono ?_
  · obtain ⟨-, -, z0, z1⟩ := of_decide_eq_true hp
    have := (h.fi.ok f hf).2.1
    have := (H.bytes hf).1
    omega
  · obtain ⟨-, -, z0, z1⟩ := of_decide_eq_true hp
    obtain ⟨n0, n1⟩ := of_decide_eq_true htk
    exact (h.clk hr (by omega) hf n0 n1 z0 z1).1
  · rintro e w' (⟨hm, rfl, b⟩ | ⟨hm, hn, rfl, b⟩ | ⟨hm, f, hf, hid, hC, rfl, S', hq, hs, hx⟩)
    · obtain ⟨k1, k2, k3, k4⟩ := keep w' b
      exact ⟨0, 0, 2, c, S, F, M, T, X, rfl, k1, k2, hc, fun _ => by rw [hm, PT_no], fun _ => rfl, k3, k4⟩
    · obtain ⟨k1, k2, k3, k4⟩ := keep w' b
      exact ⟨0, 0, 5, c, S, F, M, T, X, rfl, k1, k2, hc, fun e => by
        obtain ⟨f, hf, e2⟩ := h.fi.get hx0 (by omega : x ≤ ((3 : Nat) : Int))
        exact absurd (by rw [e2, e]) (hn f hf), fun _ => rfl, k3, k4⟩
    · have hm2 := hm
      rw [Bool.and_eq_true] at hm2
      obtain ⟨-, -, z0, z1⟩ := of_decide_eq_true hm2.1
      obtain ⟨n0, n1⟩ := of_decide_eq_true hm2.2
      have hq2 := h.put hr (by omega) hf n0 n1 z0 z1 rfl
      have fnd : (F.map Fw.id).Nodup := by rw [h.fi.id]; exact ids_nodup 3
      by_cases e : fl = x
      · have ec : f.c = c := hc f hf (by rw [hid, e])
        have erx : f.rate = rt x := by rw [(h.fi.ok f hf).1, hid, e]
        refine ⟨_, _, 0, max f.c (now * f.rate) + z, S', _, _, _, _, rfl, hq, hq2, ?_, fun _ => by rw [hm, PT_yes, ec, erx], fun ne => absurd e ne, hs, hx⟩
        exact CX.at (f' := { f with bytes := f.bytes + z, c := max f.c (now * f.rate) + z }) (by show f.id = x; rw [hid, e]) (fun g hg e2 => by show f.id = g.id; rw [hid, e, e2])
      · exact ⟨_, _, 0, c, S', _, _, _, _, rfl, hq, hq2, hc.up (by show f.id ≠ x; rw [hid]; exact e), fun e2 => absurd e2 e, fun _ => rfl, hs, hx⟩
theorem takeI (H : Qu S w q F M T X) (h : QI rt x i last F M T X) {c : Int} (hc : CX F x c) :
    Calls Try.prog 10 #[.pointer (some ⟨q, 0, none⟩)] w fun e w' => ∃ (b : Bool) (id fl z n d : Int) (S' : Nat → Prop) (F' : List Fw) (M' : List It) (l' : Int), e = tkA id fl z n d b ∧
      Qu S' w' q F' M' T X ∧ QI rt x i l' F' M' T X ∧ CX F' x c ∧ (b = true → fl = x → last < id ∧ l' = id) ∧ (¬ (b = true ∧ fl = x) → l' = last) ∧ Sav S w w' ∧ Nxt S S' w := by
  refine (takeAny H).mono ?_
  rintro e w' (⟨rfl, rfl, b⟩ | ⟨u, hu, rfl, S', f, hf, hid, hq, hs, hx⟩)
  · exact ⟨false, 0, 0, 0, 0, 0, S, F, [], last, rfl, H.below b, h, hc, fun e => (by cases e), fun _ => rfl, Sav.of b, fun k _ hk => hk⟩
  · obtain ⟨h1, h2⟩ := h.take hf (b := f.bytes - (X (iD u)).2) hu
    have fnd : (F.map Fw.id).Nodup := by rw [h.fi.id]; exact ids_nodup 3
    exact ⟨true, _, _, _, _, _, S', _, _, _, rfl, hq, h1, hc.same hf fnd rfl rfl, fun _ e => ⟨h2 e, if_pos e⟩, fun e => if_neg (fun q => e ⟨rfl, q⟩), hs, hx⟩
end
end Go.Proofs.Ytgeankdimknmiaa.Hp

