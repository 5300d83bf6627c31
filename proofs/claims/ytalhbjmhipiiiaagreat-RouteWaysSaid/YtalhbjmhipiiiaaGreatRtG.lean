/- Routes: the least of what is near. -/
import Derived.Test.YtalhbjmhipiiiaaGreatRtF
namespace Go.Proofs.YtalhbjmhipiiiaaGreat.Tp
set_option linter.unusedVariables false
open Go.RowKit Go.Maps
attribute [local go_sem] Oper.semAt_some

def oN : Option Int → Int
  | none => 0
  | some b => b
def oT (L : List Lk) : Option Int → Int
  | none => 0
  | some b => toF L b
def oB : Option Int → Bool
  | none => false
  | some _ => true
/-- how far the node is where a link leads to. -/
def gOf (L : List Lk) (D : Nat → Nat) (z : Int) : Nat := D (toF L z).toNat
/-- what stands behind some rounds. -/
structure LeastAt (W W0 X : World) (L : List Lk) (o : Option Int) : Prop where
  low : Below (W.heap.size + 2) W0 X
  le : W0.heap.size ≤ X.heap.size
  c0 : X.cell? ⟨W.heap.size + 2, 0, none⟩ = some (.int .i64 (oN o))
  c1 : X.cell? ⟨W.heap.size + 2, 1, none⟩ = some (.int .i64 (oT L o))
  c2 : X.cell? ⟨W.heap.size + 3, 0, none⟩ = some (.bool (oB o))
  f0 : X.frozen? ⟨W.heap.size + 2, 0, none⟩ = false
  f1 : X.frozen? ⟨W.heap.size + 2, 1, none⟩ = false
  f2 : X.frozen? ⟨W.heap.size + 3, 0, none⟩ = false
theorem LeastAt.below {W W0 X Y : World} {L : List Lk} {o : Option Int} (h : LeastAt W W0 X L o) (hs : W0.heap.size = W.heap.size + 4) (hb : Below W0.heap.size X Y) : LeastAt W W0 Y L o where
  low := h.low.trans (hb.mono (by omega))
  le := Nat.le_trans h.le hb.size
  c0 := (hb.cell (p := ⟨W.heap.size + 2, 0, none⟩) (by show W.heap.size + 2 < _; omega)).trans h.c0
  c1 := (hb.cell (p := ⟨W.heap.size + 2, 1, none⟩) (by show W.heap.size + 2 < _; omega)).trans h.c1
  c2 := (hb.cell (p := ⟨W.heap.size + 3, 0, none⟩) (by show W.heap.size + 3 < _; omega)).trans h.c2
  f0 := (hb.frozen (p := ⟨W.heap.size + 2, 0, none⟩) (by show W.heap.size + 2 < _; omega)).trans h.f0
  f1 := (hb.frozen (p := ⟨W.heap.size + 2, 1, none⟩) (by show W.heap.size + 2 < _; omega)).trans h.f1
  f2 := (hb.frozen (p := ⟨W.heap.size + 3, 0, none⟩) (by show W.heap.size + 3 < _; omega)).trans h.f2
theorem LeastAt.put {W W0 X : World} {L : List Lk} {o : Option Int} (h : LeastAt W W0 X L o) (z : Int) :
    LeastAt W W0 (((X.setCell ⟨W.heap.size + 1 + 1, 0, none⟩ (.int .i64 z)).setCell ⟨W.heap.size + 1 + 1, 1, none⟩ (.int .i64 (toF L z))).setCell ⟨W.heap.size + 1 + 1 + 1, 0, none⟩ (.bool true)) L (some z) where
  low := ((h.low.setCell (p := ⟨W.heap.size + 1 + 1, 0, none⟩) (Nat.le_refl _) _).setCell (p := ⟨W.heap.size + 1 + 1, 1, none⟩) (Nat.le_refl _) _).setCell (p := ⟨W.heap.size + 1 + 1 + 1, 0, none⟩) (by show W.heap.size + 2 ≤ W.heap.size + 1 + 1 + 1; omega) _
  le := by simpa [World.setCell] using h.le
  c0 := by
    have h2 := World.cell?_setCell_same' X ⟨W.heap.size + 2, 0, none⟩ (.int .i64 z) (by rw [h.c0]; rfl)
    exact (World.cell?_setCell_other _ _ _ _ (fun e => by have := congrArg Addr.block e; first | (simp at this; done) | (simp at this; omega))).trans ((set_other _ (by omega)).trans h2)
  c1 := by
    have h2 := World.cell?_setCell_same' (X.setCell ⟨W.heap.size + 2, 0, none⟩ (.int .i64 z)) ⟨W.heap.size + 2, 1, none⟩ (.int .i64 (toF L z)) (by rw [set_other _ (by omega), h.c1]; rfl)
    exact (World.cell?_setCell_other _ _ _ _ (fun e => by have := congrArg Addr.block e; first | (simp at this; done) | (simp at this; omega))).trans h2
  c2 := World.cell?_setCell_same' _ ⟨W.heap.size + 3, 0, none⟩ (.bool true) (by
    rw [World.cell?_setCell_other _ _ _ _ (fun e => by have := congrArg Addr.block e; first | (simp at this; done) | (simp at this; omega)), World.cell?_setCell_other _ _ _ _ (fun e => by have := congrArg Addr.block e; first | (simp at this; done) | (simp at this; omega)), h.c2]; rfl)
  f0 := (World.frozen?_setCell _ _ _ _).trans ((World.frozen?_setCell _ _ _ _).trans ((World.frozen?_setCell _ _ _ _).trans h.f0))
  f1 := (World.frozen?_setCell _ _ _ _).trans ((World.frozen?_setCell _ _ _ _).trans ((World.frozen?_setCell _ _ _ _).trans h.f1))
  f2 := (World.frozen?_setCell _ _ _ _).trans ((World.frozen?_setCell _ _ _ _).trans ((World.frozen?_setCell _ _ _ _).trans h.f2))
set_option maxRecDepth 100000 in
set_option maxHeartbeats 8000000 in
theorem least_any (q r bw m : Nat) (n : Int) (L : List Lk) (hV : Valid n L) (node : Int) (hn1 : 0 ≤ node) (hn2 : node < n) (pw pt t : Nat) (ht : t < 16) (D : Nat → Nat) (W : World)
    (hR : NearRd q r bw m n L node W) (h0 : W.cell? ⟨pw, 0, none⟩ = some (.pointer (some ⟨bw, 0, none⟩))) (h1 : W.cell? ⟨pt, 0, none⟩ = some (.int .i64 (t : Int))) (hf : ∀ y, y < 16 → W.cell? ⟨bw, 1 + y * 16 + t, none⟩ = some (.int .i64 (D y : Int))) :
    Calls Tryz.prog 108 #[.func (.func 106) #[] #[.pointer (some ⟨q, 0, none⟩), .pointer (some ⟨r, 0, none⟩)], .func (.func 109) #[] #[.pointer (some ⟨pw, 0, none⟩), .pointer (some ⟨pt, 0, none⟩)]] W fun e w' =>
      e = .returned (.agg #[.int .i64 (oN (bst (gOf L D) (outs L node) none)), .int .i64 (oT L (bst (gOf L D) (outs L node) none))]) ∧ Below W.heap.size W w' := by
  have hn16 := hV.hi
  have CF := hidd (fun (z : Int) (Y : World) (hb : Below W.heap.size W Y) => (show Calls Tryz.prog 109 #[.agg #[.int .i64 z, .int .i64 (toF L z)], .pointer (some ⟨pw, 0, none⟩), .pointer (some ⟨pt, 0, none⟩)] Y fun e w' => e = .returned (.int .i64 (gOf L D z : Int)) ∧ Below Y.heap.size Y w' from by
    have hz := toF_in hV z
    obtain ⟨y, hy⟩ : ∃ y : Nat, toF L z = y := ⟨(toF L z).toNat, by omega⟩
    have e : gOf L D z = D y := by unfold gOf; rw [hy]; rfl
    rw [e, hy]
    rw [hy] at hz
    exact first1_any pw pt bw z y t (by omega) ht (D y) Y ((hb.cell (p := ⟨pw, 0, none⟩) (World.block_lt_of_cell? W _ h0)).trans h0) ((hb.cell (p := ⟨pt, 0, none⟩) (World.block_lt_of_cell? W _ h1)).trans h1) ((hb.cell (p := ⟨bw, 1 + y * 16 + t, none⟩) (World.block_lt_of_cell? W _ (hf y (by omega)))).trans (hf y (by omega)))))
  obtain ⟨FV, hFV⟩ : ∃ FV : Value, Value.func (.func 109) #[] #[.pointer (some ⟨pw, 0, none⟩), .pointer (some ⟨pt, 0, none⟩)] = FV := ⟨_, rfl⟩
  obtain ⟨W0, hW0⟩ : ∃ W0, (((W.alloc (.cells #[.func (.func 109) #[] #[.pointer (some ⟨pw, 0, none⟩), .pointer (some ⟨pt, 0, none⟩)]] 165)).alloc (.cells #[.int .i64 0, .int .i64 0] 148)).alloc (.cells #[.int .i64 0, .int .i64 0] 148)).alloc (.cells #[.bool false] 4) = W0 := ⟨_, rfl⟩
  have hs0 : W0.heap.size = W.heap.size + 4 := by rw [← hW0]; simp
  have hb0 : Below W.heap.size W W0 := by rw [← hW0]; (repeat' (first | (with_reducible exact Below.refl _ _) | (with_reducible assumption) | (with_reducible apply Below.setCell) | (with_reducible apply Below.alloc) | (with_reducible apply Below.drew) | (with_reducible apply below_drewN) | (with_reducible refine Below.trans ?_ (Below.mono (by assumption) ?_)) | omega | (simp; done) | (simp; omega)))
  have LA0 : Hid (LeastAt W W0 W0 L none) := hidd ⟨Below.refl _ _, Nat.le_refl _, by rw [← hW0]; simp [go_sem, oN], by rw [← hW0]; simp [go_sem, oT], by rw [← hW0]; simp [go_sem, oB], by rw [← hW0]; simp [go_sem], by rw [← hW0]; simp [go_sem], by rw [← hW0]; simp [go_sem]⟩
  have hby : W0.cell? ⟨W.heap.size, 0, none⟩ = some (.func (.func 109) #[] #[.pointer (some ⟨pw, 0, none⟩), .pointer (some ⟨pt, 0, none⟩)]) := by rw [← hW0]; simp [go_sem]
  have hres0 : W0.cell? ⟨W.heap.size + 1, 0, none⟩ = some (.int .i64 0) := by rw [← hW0]; simp [go_sem]
  have hres1 : W0.cell? ⟨W.heap.size + 1, 1, none⟩ = some (.int .i64 0) := by rw [← hW0]; simp [go_sem]
  have hresf0 : W0.frozen? ⟨W.heap.size + 1, 0, none⟩ = false := by rw [← hW0]; simp [go_sem]
  have hresf1 : W0.frozen? ⟨W.heap.size + 1, 1, none⟩ = false := by rw [← hW0]; simp [go_sem]
  have RD : Hid (NearRd q r bw m n L node W0) := hidd (hR.below hb0)
  have RDW := hidd (fun X (hb : Below W.heap.size W X) => hR.below hb)
  have HS0 := hidd hs0
  have HB0 := hidd hb0
  have HW := hidd hW0
  have HV := hidd hV
  have HBY := hidd hby
  clear hR h0 h1 hf hb0 hW0 hs0 hby hFV
  refine (callsIn_wide (n := 6)).1 ?_
  refine callsIn_of_wp_marks Tryz.func108 rfl trivial ?_ rfl
  simp only [Tryz.ntmps108, List.size_toArray, List.length_cons, List.length_nil, Nat.reduceAdd, Nat.reduceSub, Array.replicate_succ, Array.replicate_zero, List.push_toArray, List.append_toArray, List.nil_append, List.cons_append]
  refine wpIn_wide.2 ?_
  go_wp2_with fail
  rw [HW.out]
  refine (wpIn_wide (n := 6)).1 ?_
  have SQ := hidd (near1_seq (6 - 1) (by omega) q r bw m n L HV.out node hn1 hn2 W0)
  refine wpIn_rangeFunc_B rfl (by omega) (gf := 106) (lb := #[.pointer (some ⟨q, 0, none⟩), .pointer (some ⟨r, 0, none⟩)]) rfl trivial (enters_of Tryz.func106 (by kernel_rfl) rfl)
    SQ.out (fun _ => rfl)
    (fun pre X => LeastAt W W0 X L (bst (gOf L D) pre none)) (fun _ _ _ => False)
    (fun s X h => RDW.out X (HB0.out.trans (h.low.mono (by omega)))) (fun s X Y h hb => h.below HS0.out hb) (fun _ _ _ _ h _ => h) LA0.out
    (fun z => .cells #[.int .i64 z, .int .i64 (toF L z)] 148)
    ?a1 ?assign ?body ?done ?stop
  case assign =>
    intro l z X K hK
    unfold stepV
    gi_wp2
    generalize hq : X.heap.size = q
    exact hK q hq.symm
  case stop =>
    intro D2 c pre X _ _ h _
    exact h.elim
  case body =>
    rintro l q2 pre z X hq1 hq2 hqx hL hlen
    have hs0 := HS0.out
    have hq2' : W.heap.size + 3 < q2 := by omega
    have HBX := hidd (show Below W.heap.size W X from HB0.out.trans (hL.low.mono (by omega)))
    have d0 := (hL.low.cell (p := ⟨W.heap.size, 0, none⟩) (by show W.heap.size < _; omega)).trans HBY.out
    have c7 : X.cell? ⟨q2, 0, none⟩ = some (.int .i64 z) := by simp [World.cell?, hqx]
    have c8 : X.cell? ⟨q2, 1, none⟩ = some (.int .i64 (toF L z)) := by simp [World.cell?, hqx]
    have c0 := hL.c0
    have c1 := hL.c1
    have c2 := hL.c2
    have f0 := hL.f0
    have f1 := hL.f1
    have f2 := hL.f2
    have HSN := hidd (bst_snoc (gOf L D) z pre none)
    have HL := hidd hL
    have hmix : Tryz.prog.follows .mixedOrders = true := by kernel_rfl
    clear hL hqx SQ LA0 RD hres0 hres1 hresf0 hresf1
    generalize bst (gOf L D) pre none = o at *
    cases o with
    | none =>
      simp only [oN, oT, oB] at c0 c1 c2
      gi_wp2_with fail
      have HX0 := hidd c0
      have HX1 := hidd c1
      have HX2 := hidd c2
      have HX7 := hidd c7
      have HX8 := hidd c8
      have HXD := hidd d0
      have hsx := HL.out.le
      have l2 : W.heap.size + 2 < X.heap.size := by omega
      have l3 : W.heap.size + 3 < X.heap.size := by omega
      have l0 : W.heap.size < X.heap.size := by omega
      clear c0 c1 c2 c7 c8 d0
      refine wpIn_held_round (fun Y => Below X.heap.size X Y) hmix ?_ rfl (Below.drew (Below.refl _ _)) (fun hSW => ?_)
      · rintro ⟨_, _, h⟩
        exact h
      refine wpAnyH_take (i := 0) (v := .bool false) rfl (by kernel_rfl) (by kernel_rfl) (by kernel_rfl) (fun _ _ _ h => h) (Or.inl ⟨by rfl, fun Y hY => by (have y2 := (hY.cell (p := ⟨W.heap.size + 3, 0, none⟩) l3).trans HX2.out; go_simp)⟩) hSW ?_
      simp only [Act.put, List.getElem_toArray, List.getElem_cons_zero, List.setIfInBounds_toArray, List.set_cons_succ, List.set_cons_zero]
      refine wpAnyH_take (i := 1) (v := .bool true) rfl (by kernel_rfl) (by kernel_rfl) (by kernel_rfl) (fun _ _ _ h => h) (Or.inl ⟨by rfl, fun Y hY => by (go_simp)⟩) hSW ?_
      simp only [Act.put, List.getElem_toArray, List.getElem_cons_succ, List.getElem_cons_zero, List.setIfInBounds_toArray, List.set_cons_succ, List.set_cons_zero]
      refine wpAnyH_take (i := 2) (v := .bool true) rfl (by kernel_rfl) (by kernel_rfl) (by kernel_rfl) (fun _ _ _ h => h) (Or.inl ⟨by rfl, fun Y hY => by (go_simp)⟩) hSW ?_
      simp only [Act.put, List.getElem_toArray, List.getElem_cons_succ, List.getElem_cons_zero, List.setIfInBounds_toArray, List.set_cons_succ, List.set_cons_zero]
      refine wpAnyH_take (i := 3) (v := undef) rfl (by kernel_rfl) (by kernel_rfl) (by kernel_rfl) (fun _ _ _ h => h) (Or.inr ⟨by simp [Region.wanted, yielded], rfl⟩) hSW ?_
      simp only [Act.put, List.getElem_toArray, List.getElem_cons_succ, List.getElem_cons_zero, List.setIfInBounds_toArray, List.set_cons_succ, List.set_cons_zero]
      refine wpAnyH_take (i := 4) (v := undef) rfl (by kernel_rfl) (by kernel_rfl) (by kernel_rfl) (fun _ _ _ h => h) (Or.inr ⟨by simp [Region.wanted, yielded], rfl⟩) hSW ?_
      simp only [Act.put, List.getElem_toArray, List.getElem_cons_succ, List.getElem_cons_zero, List.setIfInBounds_toArray, List.set_cons_succ, List.set_cons_zero]
      refine wpAnyH_take (i := 5) (v := undef) rfl (by kernel_rfl) (by kernel_rfl) (by kernel_rfl) (fun _ _ _ h => h) (Or.inr ⟨by simp [Region.wanted, yielded], rfl⟩) hSW ?_
      simp only [Act.put, List.getElem_toArray, List.getElem_cons_succ, List.getElem_cons_zero, List.setIfInBounds_toArray, List.set_cons_succ, List.set_cons_zero]
      refine wpAnyH_take (i := 6) (v := undef) rfl (by kernel_rfl) (by kernel_rfl) (by kernel_rfl) (fun _ _ _ h => h) (Or.inr ⟨by simp [Region.wanted, yielded], rfl⟩) hSW ?_
      simp only [Act.put, List.getElem_toArray, List.getElem_cons_succ, List.getElem_cons_zero, List.setIfInBounds_toArray, List.set_cons_succ, List.set_cons_zero]
      refine wpAnyH_take (i := 7) (v := undef) rfl (by kernel_rfl) (by kernel_rfl) (by kernel_rfl) (fun _ _ _ h => h) (Or.inr ⟨by simp [Region.wanted, yielded], rfl⟩) hSW ?_
      simp only [Act.put, List.getElem_toArray, List.getElem_cons_succ, List.getElem_cons_zero, List.setIfInBounds_toArray, List.set_cons_succ, List.set_cons_zero]
      refine wpAnyH_take (i := 8) (v := undef) rfl (by kernel_rfl) (by kernel_rfl) (by kernel_rfl) (fun _ _ _ h => h) (Or.inr ⟨by simp [Region.wanted, yielded], rfl⟩) hSW ?_
      simp only [Act.put, List.getElem_toArray, List.getElem_cons_succ, List.getElem_cons_zero, List.setIfInBounds_toArray, List.set_cons_succ, List.set_cons_zero]
      refine wpAnyH_take (i := 9) (v := undef) rfl (by kernel_rfl) (by kernel_rfl) (by kernel_rfl) (fun _ _ _ h => h) (Or.inr ⟨by simp [Region.wanted, yielded], rfl⟩) hSW ?_
      simp only [Act.put, List.getElem_toArray, List.getElem_cons_succ, List.getElem_cons_zero, List.setIfInBounds_toArray, List.set_cons_succ, List.set_cons_zero]
      refine wpAnyH_take (i := 10) (v := .bool true) rfl (by kernel_rfl) (by kernel_rfl) (by kernel_rfl) (fun _ _ _ h => h) (Or.inl ⟨by rfl, fun Y hY => by (go_simp)⟩) hSW ?_
      simp only [Act.put, List.getElem_toArray, List.getElem_cons_succ, List.getElem_cons_zero, List.setIfInBounds_toArray, List.set_cons_succ, List.set_cons_zero]
      refine wpAnyH_done (by kernel_rfl) ?_ _
      clear hSW
      have b0 : X.drew.cell? ⟨q2, 0, none⟩ = some (.int .i64 z) := HX7.out
      have b1 : X.drew.cell? ⟨q2, 1, none⟩ = some (.int .i64 (toF L z)) := HX8.out
      have b2 : X.drew.cell? ⟨W.heap.size + 2, 0, none⟩ = some (.int .i64 0) := HX0.out
      have b3 : X.drew.cell? ⟨W.heap.size + 2, 1, none⟩ = some (.int .i64 0) := HX1.out
      have b4 : X.drew.cell? ⟨W.heap.size + 3, 0, none⟩ = some (.bool false) := HX2.out
      have z0 : X.drew.frozen? ⟨W.heap.size + 2, 0, none⟩ = false := f0
      have z1 : X.drew.frozen? ⟨W.heap.size + 2, 1, none⟩ = false := f1
      have z2 : X.drew.frozen? ⟨W.heap.size + 3, 0, none⟩ = false := f2
      have HBD := hidd (show Below X.heap.size X X.drew from Below.drew (Below.refl _ _))
      generalize X.drew = X1 at *
      clear f0 f1 f2
      gi_wp2_with fail
      have hl3 : W.heap.size + 3 < W0.heap.size := by omega
      refine ⟨(Above.below HBD.out).trans (((Above.set _ _ _ (by show W.heap.size + 1 + 1 < _; omega)).trans (Above.set _ _ _ (by show W.heap.size + 1 + 1 < _; omega))).trans (Above.set _ _ _ (by show W.heap.size + 1 + 1 + 1 < _; omega))), ?_⟩
      show LeastAt W W0 _ L (bst (gOf L D) (pre ++ [z]) none)
      rw [HSN.out]
      exact (HL.out.below HS0.out (HBD.out.mono HL.out.le)).put z
    | some b =>
      simp only [oN, oT, oB] at c0 c1 c2
      gi_wp2_with fail
      have HX0 := hidd c0
      have HX1 := hidd c1
      have HX2 := hidd c2
      have HX7 := hidd c7
      have HX8 := hidd c8
      have HXD := hidd d0
      have hsx := HL.out.le
      have l2 : W.heap.size + 2 < X.heap.size := by omega
      have l3 : W.heap.size + 3 < X.heap.size := by omega
      have l0 : W.heap.size < X.heap.size := by omega
      clear c0 c1 c2 c7 c8 d0
      refine wpIn_held_round (fun Y => Below X.heap.size X Y) hmix ?_ rfl (Below.drew (Below.refl _ _)) (fun hSW => ?_)
      · rintro ⟨_, _, h⟩
        exact h
      refine wpAnyH_take (i := 0) (v := .bool true) rfl (by kernel_rfl) (by kernel_rfl) (by kernel_rfl) (fun _ _ _ h => h) (Or.inl ⟨by rfl, fun Y hY => by (have y2 := (hY.cell (p := ⟨W.heap.size + 3, 0, none⟩) l3).trans HX2.out; go_simp)⟩) hSW ?_
      simp only [Act.put, List.getElem_toArray, List.getElem_cons_zero, List.setIfInBounds_toArray, List.set_cons_succ, List.set_cons_zero]
      refine wpAnyH_take (i := 1) (v := .bool false) rfl (by kernel_rfl) (by kernel_rfl) (by kernel_rfl) (fun _ _ _ h => h) (Or.inl ⟨by rfl, fun Y hY => by (go_simp)⟩) hSW ?_
      simp only [Act.put, List.getElem_toArray, List.getElem_cons_succ, List.getElem_cons_zero, List.setIfInBounds_toArray, List.set_cons_succ, List.set_cons_zero]
      refine wpAnyH_take (i := 2) (v := .bool false) rfl (by kernel_rfl) (by kernel_rfl) (by kernel_rfl) (fun _ _ _ h => h) (Or.inl ⟨by rfl, fun Y hY => by (go_simp)⟩) hSW ?_
      simp only [Act.put, List.getElem_toArray, List.getElem_cons_succ, List.getElem_cons_zero, List.setIfInBounds_toArray, List.set_cons_succ, List.set_cons_zero]
      refine wpAnyH_take (i := 3) (v := .func (.func 109) #[] #[.pointer (some ⟨pw, 0, none⟩), .pointer (some ⟨pt, 0, none⟩)]) rfl (by kernel_rfl) (by kernel_rfl) (by kernel_rfl) (fun _ _ _ h => h) (Or.inl ⟨by simp [Region.wanted, yielded], fun Y hY => by (have y2 := (hY.cell (p := ⟨W.heap.size, 0, none⟩) l0).trans HXD.out; go_simp)⟩) hSW ?_
      simp only [Act.put, List.getElem_toArray, List.getElem_cons_succ, List.getElem_cons_zero, List.setIfInBounds_toArray, List.set_cons_succ, List.set_cons_zero]
      refine wpAnyH_take (i := 4) (v := .agg #[.int .i64 z, .int .i64 (toF L z)]) rfl (by kernel_rfl) (by kernel_rfl) (by kernel_rfl) (fun _ _ _ h => h) (Or.inl ⟨by simp [Region.wanted, yielded], fun Y hY => by (have y2 := (hY.cell (p := ⟨q2, 0, none⟩) hq2).trans HX7.out; have y3 := (hY.cell (p := ⟨q2, 1, none⟩) hq2).trans HX8.out; go_simp)⟩) hSW ?_
      simp only [Act.put, List.getElem_toArray, List.getElem_cons_succ, List.getElem_cons_zero, List.setIfInBounds_toArray, List.set_cons_succ, List.set_cons_zero]
      refine wpAnyH_take (i := 6) (v := .func (.func 109) #[] #[.pointer (some ⟨pw, 0, none⟩), .pointer (some ⟨pt, 0, none⟩)]) rfl (by kernel_rfl) (by kernel_rfl) (by kernel_rfl) (fun _ _ _ h => h) (Or.inl ⟨by simp [Region.wanted, yielded], fun Y hY => by (have y2 := (hY.cell (p := ⟨W.heap.size, 0, none⟩) l0).trans HXD.out; go_simp)⟩) hSW ?_
      simp only [Act.put, List.getElem_toArray, List.getElem_cons_succ, List.getElem_cons_zero, List.setIfInBounds_toArray, List.set_cons_succ, List.set_cons_zero]
      refine wpAnyH_take (i := 7) (v := .agg #[.int .i64 b, .int .i64 (toF L b)]) rfl (by kernel_rfl) (by kernel_rfl) (by kernel_rfl) (fun _ _ _ h => h) (Or.inl ⟨by simp [Region.wanted, yielded], fun Y hY => by (have y2 := (hY.cell (p := ⟨W.heap.size + 2, 0, none⟩) l2).trans HX0.out; have y3 := (hY.cell (p := ⟨W.heap.size + 2, 1, none⟩) l2).trans HX1.out; go_simp)⟩) hSW ?_
      simp only [Act.put, List.getElem_toArray, List.getElem_cons_succ, List.getElem_cons_zero, List.setIfInBounds_toArray, List.set_cons_succ, List.set_cons_zero]
      refine wpAnyH_ready (rs := [5]) (by kernel_rfl) (by simp) ?_
      refine AllReadyH.cons rfl (fun K hK => ?_) AllReadyH.nil
      go_simp
      refine (CF.out z _ (HBX.out.trans ((Below.drew (Below.refl _ _)).mono HBX.out.size))).mono ?_
      rintro e Y1 ⟨rfl, hb1⟩
      refine hK.out _ _ (Below.trans (Below.drew (Below.refl _ _)) hb1) (fun hS1 => ?_)
      clear hK hb1 hSW
      refine wpAnyH_ready (rs := [8]) (by kernel_rfl) (by simp) ?_
      refine AllReadyH.cons rfl (fun K hK => ?_) AllReadyH.nil
      go_simp
      refine (CF.out b _ (HBX.out.trans (hS1.mono HBX.out.size))).mono ?_
      rintro e Y2 ⟨rfl, hb2⟩
      refine hK.out _ _ (hS1.trans (hb2.mono hS1.size)) (fun hS2 => ?_)
      clear hK hb2 hS1
      have HS2 := hidd hS2
      have b0 := (hS2.cell (p := ⟨q2, 0, none⟩) hq2).trans HX7.out
      have b1 := (hS2.cell (p := ⟨q2, 1, none⟩) hq2).trans HX8.out
      have b2 := (hS2.cell (p := ⟨W.heap.size + 2, 0, none⟩) l2).trans HX0.out
      have b3 := (hS2.cell (p := ⟨W.heap.size + 2, 1, none⟩) l2).trans HX1.out
      have b4 := (hS2.cell (p := ⟨W.heap.size + 3, 0, none⟩) l3).trans HX2.out
      have z0 := (hS2.frozen (p := ⟨W.heap.size + 2, 0, none⟩) l2).trans f0
      have z1 := (hS2.frozen (p := ⟨W.heap.size + 2, 1, none⟩) l2).trans f1
      have z2 := (hS2.frozen (p := ⟨W.heap.size + 3, 0, none⟩) l3).trans f2
      have hl3 : W.heap.size + 3 < W0.heap.size := by omega
      have HSN2 := hidd (show bst (gOf L D) (pre ++ [z]) none = some (if gOf L D z < gOf L D b then z else b) from HSN.out)
      clear f0 f1 f2
      generalize gOf L D z = gz at *
      generalize gOf L D b = gb at *
      by_cases hlt : gz < gb
      · have hd : decide ((gz : Int) < (gb : Int)) = true := decide_eq_true (by omega)
        refine wpAnyH_take (i := 9) (v := .bool true) rfl (by kernel_rfl) (by kernel_rfl) (by kernel_rfl) (fun _ _ _ h => h) (Or.inl ⟨by simp [Region.wanted, yielded], fun Y hY => by (go_simp)⟩) hS2 ?_
        simp only [Act.put, List.getElem_toArray, List.getElem_cons_succ, List.getElem_cons_zero, List.setIfInBounds_toArray, List.set_cons_succ, List.set_cons_zero]
        refine wpAnyH_take (i := 10) (v := .bool true) rfl (by kernel_rfl) (by kernel_rfl) (by kernel_rfl) (fun _ _ _ h => h) (Or.inl ⟨by rfl, fun Y hY => by (go_simp)⟩) hS2 ?_
        simp only [Act.put, List.getElem_toArray, List.getElem_cons_succ, List.getElem_cons_zero, List.setIfInBounds_toArray, List.set_cons_succ, List.set_cons_zero]
        refine wpAnyH_done (by kernel_rfl) ?_ _
        clear hS2
        gi_wp2_with fail
        refine ⟨(Above.below HS2.out).trans (((Above.set _ _ _ (by show W.heap.size + 1 + 1 < _; omega)).trans (Above.set _ _ _ (by show W.heap.size + 1 + 1 < _; omega))).trans (Above.set _ _ _ (by show W.heap.size + 1 + 1 + 1 < _; omega))), ?_⟩
        show LeastAt W W0 _ L (bst _ (pre ++ [z]) none)
        rw [HSN2.out, if_pos hlt]
        exact (HL.out.below HS0.out (HS2.out.mono HL.out.le)).put z
      · have hd : decide ((gz : Int) < (gb : Int)) = false := decide_eq_false (by omega)
        refine wpAnyH_take (i := 9) (v := .bool false) rfl (by kernel_rfl) (by kernel_rfl) (by kernel_rfl) (fun _ _ _ h => h) (Or.inl ⟨by simp [Region.wanted, yielded], fun Y hY => by (go_simp)⟩) hS2 ?_
        simp only [Act.put, List.getElem_toArray, List.getElem_cons_succ, List.getElem_cons_zero, List.setIfInBounds_toArray, List.set_cons_succ, List.set_cons_zero]
        refine wpAnyH_take (i := 10) (v := .bool false) rfl (by kernel_rfl) (by kernel_rfl) (by kernel_rfl) (fun _ _ _ h => h) (Or.inl ⟨by rfl, fun Y hY => by (go_simp)⟩) hS2 ?_
        simp only [Act.put, List.getElem_toArray, List.getElem_cons_succ, List.getElem_cons_zero, List.setIfInBounds_toArray, List.set_cons_succ, List.set_cons_zero]
        refine wpAnyH_done (by kernel_rfl) ?_ _
        clear hS2
        gi_wp2_with fail
        refine ⟨Above.below HS2.out, ?_⟩
        show LeastAt W W0 _ L (bst _ (pre ++ [z]) none)
        rw [HSN2.out, if_neg hlt]
        exact HL.out.below HS0.out (HS2.out.mono HL.out.le)
  case done =>
    rintro D2 xs X hD hxs hL hK
    subst hxs
    have hs0 := HS0.out
    have c0 := hL.c0
    have c1 := hL.c1
    have r0 := (hL.low.cell (p := ⟨W.heap.size + 1, 0, none⟩) (by show W.heap.size + 1 < _; omega)).trans hres0
    have r1 := (hL.low.cell (p := ⟨W.heap.size + 1, 1, none⟩) (by show W.heap.size + 1 < _; omega)).trans hres1
    have z0 := (hL.low.frozen (p := ⟨W.heap.size + 1, 0, none⟩) (by show W.heap.size + 1 < _; omega)).trans hresf0
    have z1 := (hL.low.frozen (p := ⟨W.heap.size + 1, 1, none⟩) (by show W.heap.size + 1 < _; omega)).trans hresf1
    have HBX := hidd (show Below W.heap.size W X from HB0.out.trans (hL.low.mono (by omega)))
    have HK := hidd hK
    have HD := hidd hD
    clear hL hK hD SQ LA0 RD hres0 hres1 hresf0 hresf1
    obtain ⟨vN, hN⟩ : ∃ v, oN (bst (gOf L D) (outs L node) none) = v := ⟨_, rfl⟩
    obtain ⟨vT, hT⟩ : ∃ v, oT L (bst (gOf L D) (outs L node) none) = v := ⟨_, rfl⟩
    rw [hN] at c0
    rw [hT] at c1
    have HN := hidd hN
    have HT := hidd hT
    clear hN hT
    go_wp2_with fail
    have hne : D2 ≠ W.heap.size + 1 := by have := HD.out; omega
    have HKS : ((X.setCell ⟨W.heap.size + 1, 0, none⟩ (.int .i64 vN)).setCell ⟨W.heap.size + 1, 1, none⟩ (.int .i64 vT)).heap[D2]? = some (.deferred (some [])) := (Below.heap_setCell _ _ _ _ hne).trans ((Below.heap_setCell _ _ _ _ hne).trans HK.out)
    refine ⟨by simp, .inl ⟨_, _, rfl, run_takeDeferred HKS, ?_⟩⟩
    have hgp := grownBy_putObj' ((X.setCell ⟨W.heap.size + 1, 0, none⟩ (.int .i64 vN)).setCell ⟨W.heap.size + 1, 1, none⟩ (.int .i64 vT)) D2 (.deferred none)
    have g0 : ((X.setCell ⟨W.heap.size + 1, 0, none⟩ (.int .i64 vN)).setCell ⟨W.heap.size + 1, 1, none⟩ (.int .i64 vT)).cell? ⟨W.heap.size + 1, 0, none⟩ = some (.int .i64 vN) := (set_other _ (by omega)).trans (World.cell?_setCell_same' _ _ _ (by rw [r0]; rfl))
    have g1 : ((X.setCell ⟨W.heap.size + 1, 0, none⟩ (.int .i64 vN)).setCell ⟨W.heap.size + 1, 1, none⟩ (.int .i64 vT)).cell? ⟨W.heap.size + 1, 1, none⟩ = some (.int .i64 vT) := World.cell?_setCell_same' _ _ _ (by rw [set_other _ (by omega), r1]; rfl)
    have hp0 := cell_kept g0 hgp (fun r e => by cases e; exact ⟨_, HKS, rfl⟩)
    have hp1 := cell_kept g1 hgp (fun r e => by cases e; exact ⟨_, HKS, rfl⟩)
    refine ⟨.agg #[.int .i64 vN, .int .i64 vT], ?_, by rw [HN.out, HT.out], ?_⟩
    · simp [results, Tryz.results108, go_sem, hp0, hp1]
    · have q1 := (HBX.out.setCell (p := ⟨W.heap.size + 1, 0, none⟩) (Nat.le_add_right _ _) (.int .i64 vN)).setCell (p := ⟨W.heap.size + 1, 1, none⟩) (Nat.le_add_right _ _) (.int .i64 vT)
      exact q1.grown hgp q1.size (fun k e => by cases e; have := HD.out; omega)
end Go.Proofs.YtalhbjmhipiiiaaGreat.Tp
