/- Shapers: Go. -/
import Derived.Test.YtiecailfndlgoaaShG
import Derived.Test.YtiecailfndlgoaaBkK
namespace Go.Proofs.Ytiecailfndlgoaa
open Go.RowKit Go.Sort
set_option linter.unusedVariables false
attribute [local go_sem] Oper.semAt_some
section
variable {w : World} {h g b : Nat} {v : Value} {p r u m l : Int} {s : BM.St} {room : Int} {L : List (Int × Int)}
theorem ShAt.but {w' : World} (H : ShAt w h g b v p r u m l s room L) {s' : BM.St} (hB : BktAt w' b p r u m l s') (hb : But b w w') (hs : BM.Ok u m s') : ShAt w' h g b v p r u m l s' room L := by
  have ch := fun o => World.cell?_of_block (w := w) (w' := w') (a := ⟨h, o, none⟩) (hb.block h H.hlt H.hb)
  have cg := fun o => World.cell?_of_block (w := w) (w' := w') (a := ⟨g, o, none⟩) (hb.block g H.glt H.gb)
  have fg := fun o => World.frozen?_of_block (w := w) (w' := w') (a := ⟨g, o, none⟩) (hb.block g H.glt H.gb)
  exact ⟨hB, H.q.keep (fun k e => hb.block k (H.q.lt k e) (fun e2 => by subst e2; exact H.vb e)) hb.size, (ch 0).trans H.h0, (cg 0).trans H.g0, (cg 1).trans H.g1, (cg 2).trans H.g2, (cg 3).trans H.g3, (fg 1).trans H.e1, (fg 2).trans H.e2, H.hg, H.hb, H.gb, H.vh, H.vg, H.vb, H.rt, hs, H.sz, H.r0, H.r1, H.sm⟩
theorem QL.form {w : World} {v : Value} {L : List (Int × Int)} (h : QL w v L) : ∃ A n c, v = .slice A n c := by
  obtain ⟨a, d, e, _⟩ := h.lie
  exact ⟨a, _, d, e⟩
/-- a region that does not panic. -/
def NoP (Q : Exit → Act → World → Prop) : Exit → Act → World → Prop
  | .panic _, _, _ => False
  | e, a, w => Q e a w
theorem wp_noP {P : Program} {c : Code} {Q : Exit → Act → World → Prop} {a : Act} {w : World} (h : c.wp P (NoP Q) a w) : c.wp P Q a w :=
  Code.wp_mono (fun e a w h => by cases e <;> first | exact h | exact h.elim) h
theorem noP_of {Q : Exit → Act → World → Prop} {a : Act} {w : World} (h : Q .normal a w) : NoP Q .normal a w := h
theorem But.sav {w w' : World} {b : Nat} {S : Nat → Prop} (h : But b w w') (hb : S b) : Sav S w w' := ⟨h.os, h.tape, h.output, h.size, fun k hk hn => h.block k hk (fun e => hn (e ▸ hb))⟩
set_option maxRecDepth 100000 in
set_option maxHeartbeats 4000000 in
theorem go_no (H : ShAt w h g b v p r u m l s room L) (n : Int) (hn : BM.askB s n = false) : Calls Try.prog 16 #[.pointer (some ⟨h, 0, none⟩), .int .i64 n] w fun e w' => e = .returned (.tuple #[.slice none 0 0, .int .i64 2]) ∧ ShAt w' h g b v p r u m l s room L ∧ Sav (ShBlk h g b v) w w' := by
  have HH := hidd H
  obtain ⟨W1, hW1⟩ : ∃ W1, (w.alloc (.cells #[.pointer (some ⟨h, 0, none⟩)] 26)).alloc (.cells #[.int .i64 n] 2) = W1 := ⟨_, rfl⟩
  have B1 := hidd (show Below w.heap.size w W1 from by rw [← hW1]; (repeat' (first | (with_reducible exact Below.refl _ _) | (with_reducible assumption) | (with_reducible apply Below.setCell) | (with_reducible apply Below.alloc) | (with_reducible apply Below.drew) | (with_reducible apply below_drewN) | (with_reducible refine Below.trans ?_ (Below.mono (by assumption) ?_)) | omega | (simp; done) | (simp; omega))))
  have H1 := hidd (H.below B1.out)
  have z1 : W1.heap.size = w.heap.size + 2 := by rw [← hW1]; simp
  have T0 : Hid (W1.cell? ⟨w.heap.size, 0, none⟩ = some (.pointer (some ⟨h, 0, none⟩))) := hidd (by rw [← hW1]; simp [go_sem])
  have T1 : Hid (W1.cell? ⟨w.heap.size + 1, 0, none⟩ = some (.int .i64 n)) := hidd (by rw [← hW1]; simp [go_sem])
  have c := hidd (shNone_yes H1.out.h0)
  have cM := hidd (moveTo_any (w := W1.drew) H1.out.bk.drew H1.out.g0 H1.out.rt H1.out.ok n)
  have Z1 := hidd z1
  have HW := hidd hW1
  clear hW1
  have hS1 : Hid (W1.drew.cell? ⟨w.heap.size, 0, none⟩ = some (.pointer (some ⟨h, 0, none⟩)) ∧ W1.drew.cell? ⟨w.heap.size + 1, 0, none⟩ = some (.int .i64 n) ∧ W1.drew.cell? ⟨h, 0, none⟩ = some (.pointer (some ⟨g, 0, none⟩))) := hidd ⟨T0.out, T1.out, H1.out.h0⟩
  have KM : Hid (∀ Y, But b W1.drew Y → Y.cell? ⟨w.heap.size, 0, none⟩ = some (.pointer (some ⟨h, 0, none⟩)) ∧ Y.cell? ⟨w.heap.size + 1, 0, none⟩ = some (.int .i64 n) ∧ Y.cell? ⟨h, 0, none⟩ = some (.pointer (some ⟨g, 0, none⟩))) := hidd (fun Y hb => by
    have hs := Z1.out
    have blt := HH.out.blt
    have hlt := HH.out.hlt
    exact ⟨(hb.cell (show w.heap.size < W1.drew.heap.size by show w.heap.size < W1.heap.size; omega) (by omega) 0).trans T0.out, (hb.cell (show w.heap.size + 1 < W1.drew.heap.size by show _ < W1.heap.size; omega) (by omega) 0).trans T1.out, (hb.cell (show h < W1.drew.heap.size by show h < W1.heap.size; omega) H1.out.hb 0).trans H1.out.h0⟩)
  have e : BM.step p r u m l s n 0 = (s, false, 2) := by unfold BM.step; rw [if_neg (by rw [hn]; simp)]
  rw [e] at cM
  clear H hn e z1
  go_enter Try.func16, Try.ntmps16
  go_wp2_with fail
  rw [HW.out]
  clear HW
  have t0 := T0.out
  refine wp_scope_straight ?_
  go_wp2_with fail
  refine c.out.mono ?_
  rintro e w' ⟨rfl, rfl⟩
  go_wp2_with fail
  refine wp_region_held_drew (S := (fun Y => Y.cell? ⟨w.heap.size, 0, none⟩ = some (.pointer (some ⟨h, 0, none⟩)) ∧ Y.cell? ⟨w.heap.size + 1, 0, none⟩ = some (.int .i64 n) ∧ Y.cell? ⟨h, 0, none⟩ = some (.pointer (some ⟨g, 0, none⟩)))) (by kernel_rfl) (hS1.out) (fun hH => ?_)
  refine wpAnyH_take (i := 0) (v := ?vm0_1) (by (conv => lhs; simp only [List.getElem?_toArray, List.getElem?_cons_succ, List.getElem?_cons_zero])) (by kernel_rfl) (by kernel_rfl) (by kernel_rfl) ?hQ (Or.inl ⟨by rfl, ?hym0_1⟩) hH ?restm0_1
  case hQ => exact fun _ _ _ h => h
  case hym0_1 => (intro Y hY; obtain ⟨y0, y1, y2⟩ := hY; go_simp; try (with_reducible rfl))
  try simp only [Act.put, List.setIfInBounds_toArray, List.set_cons_zero, List.set_cons_succ]
  refine wpAnyH_take (i := 1) (v := ?vm1_2) (by (conv => lhs; simp only [List.getElem?_toArray, List.getElem?_cons_succ, List.getElem?_cons_zero])) (by kernel_rfl) (by kernel_rfl) (by kernel_rfl) ?hQ (Or.inl ⟨by rfl, ?hym1_2⟩) hH ?restm1_2
  case hQ => exact fun _ _ _ h => h
  case hym1_2 => (intro Y hY; obtain ⟨y0, y1, y2⟩ := hY; go_simp; try (with_reducible rfl))
  try simp only [Act.put, List.setIfInBounds_toArray, List.set_cons_zero, List.set_cons_succ]
  refine wpAnyH_take (i := 2) (v := ?vm2_3) (by (conv => lhs; simp only [List.getElem?_toArray, List.getElem?_cons_succ, List.getElem?_cons_zero])) (by kernel_rfl) (by kernel_rfl) (by kernel_rfl) ?hQ (Or.inl ⟨by rfl, ?hym2_3⟩) hH ?restm2_3
  case hQ => exact fun _ _ _ h => h
  case hym2_3 => (intro Y hY; obtain ⟨y0, y1, y2⟩ := hY; go_simp; try (with_reducible rfl))
  try simp only [Act.put, List.setIfInBounds_toArray, List.set_cons_zero, List.set_cons_succ]
  refine wpAnyH_take (i := 3) (v := ?vm3_4) (by (conv => lhs; simp only [List.getElem?_toArray, List.getElem?_cons_succ, List.getElem?_cons_zero])) (by kernel_rfl) (by kernel_rfl) (by kernel_rfl) ?hQ (Or.inl ⟨by rfl, ?hym3_4⟩) hH ?restm3_4
  case hQ => exact fun _ _ _ h => h
  case hym3_4 => (intro Y hY; obtain ⟨y0, y1, y2⟩ := hY; go_simp; try (with_reducible rfl))
  try simp only [Act.put, List.setIfInBounds_toArray, List.set_cons_zero, List.set_cons_succ]
  refine wpAnyH_take (i := 4) (v := ?vm4_5) (by (conv => lhs; simp only [List.getElem?_toArray, List.getElem?_cons_succ, List.getElem?_cons_zero])) (by kernel_rfl) (by kernel_rfl) (by kernel_rfl) ?hQ (Or.inl ⟨by rfl, ?hym4_5⟩) hH ?restm4_5
  case hQ => exact fun _ _ _ h => h
  case hym4_5 => (intro Y hY; obtain ⟨y0, y1, y2⟩ := hY; go_simp; try (with_reducible rfl))
  try simp only [Act.put, List.setIfInBounds_toArray, List.set_cons_zero, List.set_cons_succ]
  refine wpAnyH_ready (rs := [5]) (by kernel_rfl) (by simp) ?_
  refine AllReadyH.cons (by (conv => lhs; simp only [List.getElem?_toArray, List.getElem?_cons_succ, List.getElem?_cons_zero])) (fun K hK => ?_) AllReadyH.nil
  go_simp
  go_at_call 34; refine cM.out.mono ?_; rintro e w2 ⟨rfl, hB2, hb2⟩
  have HB2 := hidd hB2
  have Hb2 := hidd hb2
  refine hK.out _ _ (KM.out _ hb2) (fun hHa => ?_)
  clear hK hH hB2 hb2
  try simp only [Act.put, List.setIfInBounds_toArray, List.set_cons_zero, List.set_cons_succ]
  refine wpAnyH_take (i := 6) (v := ?vm6_6) (by (conv => lhs; simp only [List.getElem?_toArray, List.getElem?_cons_succ, List.getElem?_cons_zero])) (by kernel_rfl) (by kernel_rfl) (by kernel_rfl) ?hQ (Or.inl ⟨by rfl, ?hym6_6⟩) hHa ?restm6_6
  case hQ => exact fun _ _ _ h => h
  case hym6_6 => (intro Y hY; obtain ⟨y0, y1, y2⟩ := hY; go_simp; try (with_reducible rfl))
  try simp only [Act.put, List.setIfInBounds_toArray, List.set_cons_zero, List.set_cons_succ]
  refine wpAnyH_done (by kernel_rfl) (?_) _
  go_wp2_with fail
  (try rw [Exit.noGoto_ret])
  go_ret2
  exact ⟨rfl, H1.out.but HB2.out (But.trans (below_but (Below.drew (Below.refl _ _)) b) Hb2.out) H1.out.ok, (Sav.of B1.out).trans ((But.trans (below_but (Below.drew (Below.refl _ _)) b) Hb2.out).sav (S := ShBlk h g b v) (.inr (.inr (.inl rfl)))) (fun _ _ q => q)⟩
theorem wpListIn_append_q {F : Fence} {n0 : Nat} {w : World} {ops : Array Oper} {rest : List Oper} {o : Oper} {a : Act} {Q : Exit → Act → World → Prop} (hgd : o.guard = none) (s x : Operand) (t : TypeId)
    (ho : o.op = .call { callee := .builtin .append, args := #[s, x], argTypes := #[t, t] }) (ht : Try.prog.underlying t = some (.slice 41))
    {v : Value} {L : List (Int × Int)} (hs : a.eval s = v) (hq : QL w v L) (hL : L.length ≤ 1000000000) (ad : Addr) (c : Nat) (y : Int × Int) (hx : a.eval x = .slice (some ad) 1 c) (hn : ∀ j u, (sendV y)[j]? = some u → w.cell? (ad.add j) = some u)
    (h : ∀ v' w', QL w' v' (L ++ [y]) → w.grownBy w' v.ownBlock → (v'.ownBlock = v.ownBlock ∨ ∃ g, v'.ownBlock = some g ∧ w.heap.size ≤ g) → wpListIn F n0 Try.prog ops Q rest (a.put o.dst v') w') : wpListIn F n0 Try.prog ops Q (o :: rest) a w := by
  refine wpListIn_plain hgd fun K hK' => ?_
  obtain ⟨v', w', hrun, h2, h3, h4⟩ := run_append_q w t o.type ht hq hL ad c y hn
  unfold Oper.wpIn
  refine ⟨?_, ?_⟩
  · simp [Oper.about, ho, resolve, Target.leads, Sem.run_pure]
  · rw [Oper.semAt_plain F _ _ (by rw [ho]; intro c hc'; cases hc')]
    simp [execOp, ho, resolve, invoke, builtin, hs, hx, hrun, Result.andThen]
    exact hK' _ _ (h v' w' h2 h3 h4)
/-- what a round keeps. -/
structure GI (W0 : World) (G b : Nat) (p r u m l : Int) (s1 : BM.St) (n : Int) (L : List (Int × Int)) (k : Nat) (W : World) : Prop where
  bk : BktAt W b p r u m l (BM.atK p r u m l s1 n L k)
  gv : ∃ gv, W.cell? ⟨G, 0, none⟩ = some gv ∧ W.frozen? ⟨G, 0, none⟩ = false ∧ QL W gv (L.take k) ∧ ∀ q, gv.ownBlock = some q → W0.heap.size + 2 ≤ q
  sv : Sav (fun j => j = b ∨ j = G) W0 W
  all : ∀ i (hi : i < L.length), i < k → (BM.step p r u m l (BM.atK p r u m l s1 n L i) n L[i].2).2.1 = true
theorem GI.rng {W0 W Y : World} {G b : Nat} {s1 : BM.St} {n : Int} {k : Nat} (h : GI W0 G b p r u m l s1 n L k W) (hG : G < W0.heap.size) (hb : b < W0.heap.size) (hr : Rng W0.heap.size W Y) : GI W0 G b p r u m l s1 n L k Y := by
  have hs := h.sv.size
  obtain ⟨gv, c0, f0, q0, o0⟩ := h.gv
  have eb := hr.block b h.bk.lt (by omega) (by omega)
  have eG := hr.block G (by omega) (by omega) (by omega)
  refine ⟨h.bk.of eb hr.size, ⟨gv, (World.cell?_of_block (a := ⟨G, 0, none⟩) eG).trans c0, (World.frozen?_of_block (a := ⟨G, 0, none⟩) eG).trans f0, q0.keep (fun q e => hr.block q (q0.lt q e) (by have := o0 q e; omega) (by have := o0 q e; omega)) hr.size, o0⟩, ⟨hr.os.trans h.sv.os, hr.tape.trans h.sv.tape, hr.output.trans h.sv.output, Nat.le_trans hs hr.size, fun j hj hn => (hr.block j (by omega) (by omega) (by omega)).trans (h.sv.block j hj hn)⟩, h.all⟩
theorem GI.but {W0 W Y : World} {G b : Nat} {s1 : BM.St} {n : Int} {k : Nat} (h : GI W0 G b p r u m l s1 n L k W) (hG : G < W0.heap.size) (hGb : G ≠ b) (hb : b < W0.heap.size) (hb4 : But b W Y) (hB : BktAt Y b p r u m l (BM.atK p r u m l s1 n L k)) : GI W0 G b p r u m l s1 n L k Y := by
  have hs := h.sv.size
  obtain ⟨gv, c0, f0, q0, o0⟩ := h.gv
  have eG := hb4.block G (by omega) hGb
  exact ⟨hB, ⟨gv, (World.cell?_of_block (a := ⟨G, 0, none⟩) eG).trans c0, (World.frozen?_of_block (a := ⟨G, 0, none⟩) eG).trans f0, q0.keep (fun q e => hb4.block q (q0.lt q e) (by have := o0 q e; omega)) hb4.size, o0⟩, h.sv.trans (hb4.sav (S := fun j => j = b ∨ j = G) (.inl rfl)) (fun _ _ q => q), h.all⟩
/-- one more is gone. -/
theorem GI.next {W0 W w4 w6 : World} {G b : Nat} {s1 : BM.St} {n : Int} {k : Nat} {gv v' : Value} {o : Obj} (h : GI W0 G b p r u m l s1 n L k W) (hG : G < W0.heap.size) (hb : b < W0.heap.size) (hGb : G ≠ b) (hk : k < L.length) (hW : W0.heap.size + 2 ≤ W.heap.size)
    (hB : BktAt w4 b p r u m l (BM.step p r u m l (BM.atK p r u m l s1 n L k) n L[k].2).1) (hb4 : But b W w4) (ht : (BM.step p r u m l (BM.atK p r u m l s1 n L k) n L[k].2).2.1 = true)
    (go : ∀ q, gv.ownBlock = some q → W0.heap.size + 2 ≤ q) (gf : W.frozen? ⟨G, 0, none⟩ = false) (gc : W.cell? ⟨G, 0, none⟩ = some gv)
    (hq : QL w6 v' (L.take k ++ [L[k]])) (hgr : (w4.alloc o).grownBy w6 gv.ownBlock) (hor : v'.ownBlock = gv.ownBlock ∨ ∃ q, v'.ownBlock = some q ∧ (w4.alloc o).heap.size ≤ q) :
    (w6.cell? ⟨G, 0, none⟩ = some gv ∧ w6.frozen? ⟨G, 0, none⟩ = false) ∧ GI W0 G b p r u m l s1 n L (k + 1) (w6.setCell ⟨G, 0, none⟩ v') ∧ (w6.setCell ⟨G, 0, none⟩ v').heap[W0.heap.size]? = W.heap[W0.heap.size]? ∧ (w6.setCell ⟨G, 0, none⟩ v').heap[W0.heap.size + 1]? = W.heap[W0.heap.size + 1]? := by
  have hs := h.sv.size
  have hs4 := hb4.size
  have hs5 : (w4.alloc o).heap.size = w4.heap.size + 1 := by simp
  have bl : ∀ j, j < w4.heap.size → gv.ownBlock ≠ some j → w6.heap[j]? = w4.heap[j]? := fun j hj hn => (hgr.block j (by omega) (fun e => hn e.symm)).trans (Below.heap_alloc _ _ _ hj)
  have nb : ∀ j, j < W0.heap.size + 2 → gv.ownBlock ≠ some j := fun j hj e => by have := go j e; omega
  have nG : ∀ q, v'.ownBlock = some q → W0.heap.size + 2 ≤ q := fun q e => by
    rcases hor with e2 | ⟨q2, e2, h2⟩
    · exact go q (e2.symm.trans e)
    · rw [e2] at e
      cases e
      omega
  have eb : (w6.setCell ⟨G, 0, none⟩ v').heap[b]? = w4.heap[b]? := (Below.heap_setCell w6 ⟨G, 0, none⟩ _ _ (fun e => hGb e.symm)).trans (bl b hB.lt (nb b (by omega)))
  have c6 := World.cell?_of_block (w := w4) (w' := w6) (a := ⟨G, 0, none⟩) (bl G (by omega) (nb G (by omega)))
  have f6 := World.frozen?_of_block (w := w4) (w' := w6) (a := ⟨G, 0, none⟩) (bl G (by omega) (nb G (by omega)))
  have c4 := World.cell?_of_block (w := W) (w' := w4) (a := ⟨G, 0, none⟩) (hb4.block G (by omega) hGb)
  have f4 := World.frozen?_of_block (w := W) (w' := w4) (a := ⟨G, 0, none⟩) (hb4.block G (by omega) hGb)
  have cc := c6.trans (c4.trans gc)
  have ff := f6.trans (f4.trans gf)
  have hs6 : w6.heap.size ≤ (w6.setCell ⟨G, 0, none⟩ v').heap.size := by simp [World.setCell]
  have hs56 := hgr.size
  refine ⟨⟨cc, ff⟩, ⟨?_, ⟨v', ?_, ?_, ?_, nG⟩, ⟨?_, ?_, ?_, by omega, fun j hj hn => ?_⟩, ?_⟩, ?_, ?_⟩
  · rw [BM.atK_succ _ _ _ _ _ _ _ hk]; exact hB.of eb (by omega)
  · simp [go_sem, cc]
  · simp [go_sem, ff]
  · rw [List.take_succ_eq_append_getElem hk]
    exact hq.keep (fun q e => Below.heap_setCell w6 ⟨G, 0, none⟩ _ _ (fun e2 => by have := nG q e; have : q = G := e2; omega)) hs6
  · exact hgr.os.trans (hb4.os.trans h.sv.os)
  · exact hgr.tape.trans (hb4.tape.trans h.sv.tape)
  · exact hgr.output.trans (hb4.output.trans h.sv.output)
  · exact (Below.heap_setCell w6 ⟨G, 0, none⟩ _ _ (fun e => hn (.inr e))).trans ((bl j (by omega) (nb j (by omega))).trans ((hb4.block j (by omega) (fun e => hn (.inl e))).trans (h.sv.block j hj hn)))
  · intro i hi hik
    rcases Nat.lt_or_ge i k with q | q
    · exact h.all i hi q
    · obtain rfl : i = k := by omega
      exact ht
  · exact (Below.heap_setCell w6 ⟨G, 0, none⟩ _ _ (fun e => by have : W0.heap.size = G := e; omega)).trans ((bl _ (by omega) (nb _ (by omega))).trans (hb4.block _ (by omega) (by omega)))
  · exact (Below.heap_setCell w6 ⟨G, 0, none⟩ _ _ (fun e => by have : W0.heap.size + 1 = G := e; omega)).trans ((bl _ (by omega) (nb _ (by omega))).trans (hb4.block _ (by omega) (by omega)))
/-- behind Go. -/
def GoEnd (h g b : Nat) (v : Value) (p r u m l : Int) (s : BM.St) (room : Int) (L : List (Int × Int)) (n : Int) (w : World) (e : Ending) (w' : World) : Prop :=
  ∃ (k : Nat) (s' : BM.St) (A2 : Option Addr) (c2 : Nat) (v2 : Value), e = .returned (.tuple #[.slice A2 k c2, .int .i64 0]) ∧ BM.Goes p r u m l (BM.step p r u m l s n 0).1 n L k s' ∧ ShAt w' h g b v2 p r u m l s' room (L.drop k) ∧ v2.ownBlock = v.ownBlock ∧
    QL w' (.slice A2 k c2) (L.take k) ∧ (∀ q, (Value.slice A2 k c2).ownBlock = some q → w.heap.size ≤ q) ∧ Sav (ShBlk h g b v) w w'
theorem cell_set_far {W : World} {g o : Nat} {v x : Value} {a : Addr} (hn : a.block ≠ g) (h : W.cell? a = some x) : (W.setCell ⟨g, o, none⟩ v).cell? a = some x := (World.cell?_of_block (Below.heap_setCell W ⟨g, o, none⟩ _ _ hn)).trans h
theorem Sav.putObj {W : World} {D : Nat} (o : Obj) : Sav (fun j => j = D) W (W.putObj D o) := ⟨rfl, rfl, rfl, by simp [World.putObj], fun j _ hn => World.putObj_heap_other hn⟩
/-- the shaper behind what went: the slice cut, then the bytes. -/
theorem go_fin {W4 W : World} {G : Nat} {s1 : BM.St} {n : Int} {k : Nat} {v2 gv : Value} (H : ShAt W4 h g b v p r u m l s1 room L) (hG : G < W4.heap.size) (nG : ¬ ShBlk h g b v G) (hI : GI W4 G b p r u m l s1 n L k W) (hk : k ≤ L.length)
    (h2 : QL W4 v2 (L.drop k)) (hv2 : v2.ownBlock = v.ownBlock) (gq : QL W gv (L.take k)) (go : ∀ q, gv.ownBlock = some q → W4.heap.size + 2 ≤ q) :
    ((W.drew.setCell ⟨g, 1, none⟩ v2).cell? ⟨g, 2, none⟩ = some (.int .i64 (sumB L)) ∧ (W.drew.setCell ⟨g, 1, none⟩ v2).frozen? ⟨g, 2, none⟩ = false) ∧
    ∀ w6, Below (W.drew.setCell ⟨g, 1, none⟩ v2).heap.size (W.drew.setCell ⟨g, 1, none⟩ v2) w6 →
      ShAt (w6.setCell ⟨g, 2, none⟩ (.int .i64 (sumB L - sumB (L.take k)))) h g b v2 p r u m l (BM.atK p r u m l s1 n L k) room (L.drop k) ∧ QL (w6.setCell ⟨g, 2, none⟩ (.int .i64 (sumB L - sumB (L.take k)))) gv (L.take k) ∧
        Sav (fun j => ShBlk h g b v j ∨ j = G) W4 (w6.setCell ⟨g, 2, none⟩ (.int .i64 (sumB L - sumB (L.take k)))) ∧ ∀ j, j < W.heap.size → j ≠ g → (w6.setCell ⟨g, 2, none⟩ (.int .i64 (sumB L - sumB (L.take k)))).heap[j]? = W.heap[j]? := by
  have hl1 : 1 ≤ l := by have := rightB_iff H.rt; omega
  have hs := hI.sv.size
  have hgb := H.gb
  have hgG : g ≠ G := fun e => nG (.inr (.inl e.symm))
  have hhG : h ≠ G := fun e => nG (.inl e.symm)
  have hvG : v.ownBlock ≠ some G := fun e => nG (.inr (.inr (.inr e)))
  have hg4 := H.glt
  have hh4 := H.hlt
  have hb4 := H.blt
  have eW : ∀ j, j < W4.heap.size → j ≠ b → j ≠ G → W.heap[j]? = W4.heap[j]? := fun j h1 h2 h3 => hI.sv.block j h1 (fun e => by rcases e with e | e; exact h2 e; exact h3 e)
  have e5 : ∀ j, j ≠ g → (W.drew.setCell ⟨g, 1, none⟩ v2).heap[j]? = W.heap[j]? := fun j hj => Below.heap_setCell W.drew ⟨g, 1, none⟩ _ _ (fun e => hj e)
  have cg := fun o => World.cell?_of_block (w := W4) (w' := W) (a := ⟨g, o, none⟩) (eW g hg4 hgb hgG)
  have fg := fun o => World.frozen?_of_block (w := W4) (w' := W) (a := ⟨g, o, none⟩) (eW g hg4 hgb hgG)
  have g0 : (W.drew.setCell ⟨g, 1, none⟩ v2).cell? ⟨g, 0, none⟩ = some (.pointer (some ⟨b, 0, none⟩)) := by
    have := (cg 0).trans H.g0
    simp [go_sem, this]
  have g1 : (W.drew.setCell ⟨g, 1, none⟩ v2).cell? ⟨g, 1, none⟩ = some v2 := by
    have := (cg 1).trans H.g1
    simp [go_sem, this]
  have g2 : (W.drew.setCell ⟨g, 1, none⟩ v2).cell? ⟨g, 2, none⟩ = some (.int .i64 (sumB L)) := by
    have := (cg 2).trans H.g2
    simp [go_sem, this]
  have g3 : (W.drew.setCell ⟨g, 1, none⟩ v2).cell? ⟨g, 3, none⟩ = some (.int .i64 room) := by
    have := (cg 3).trans H.g3
    simp [go_sem, this]
  have f1 : (W.drew.setCell ⟨g, 1, none⟩ v2).frozen? ⟨g, 1, none⟩ = false := by
    have := (fg 1).trans H.e1
    simp [go_sem, this]
  have f2 : (W.drew.setCell ⟨g, 1, none⟩ v2).frozen? ⟨g, 2, none⟩ = false := by
    have := (fg 2).trans H.e2
    simp [go_sem, this]
  have s5 : W.heap.size ≤ (W.drew.setCell ⟨g, 1, none⟩ v2).heap.size := by show W.drew.heap.size ≤ _; simp [World.setCell]
  refine ⟨⟨g2, f2⟩, fun w6 hb => ?_⟩
  have s6 := hb.size
  have c6 := fun o => hb.cell (p := ⟨g, o, none⟩) (show g < _ by omega)
  have ff6 := fun o => hb.frozen (p := ⟨g, o, none⟩) (show g < _ by omega)
  have s7 : w6.heap.size ≤ (w6.setCell ⟨g, 2, none⟩ (.int .i64 (sumB L - sumB (L.take k)))).heap.size := by simp [World.setCell]
  have e7 : ∀ j, j < W.heap.size → j ≠ g → (w6.setCell ⟨g, 2, none⟩ (.int .i64 (sumB L - sumB (L.take k)))).heap[j]? = W.heap[j]? := fun j h1 h2 =>
    (Below.heap_setCell w6 ⟨g, 2, none⟩ _ _ (fun e => h2 e)).trans ((hb.block j (by omega)).trans (e5 j h2))
  have k0 := (c6 0).trans g0
  have k1 := (c6 1).trans g1
  have k2 := (c6 2).trans g2
  have k3 := (c6 3).trans g3
  have l1 := (ff6 1).trans f1
  have l2 := (ff6 2).trans f2
  have hsum := sumB_take L k
  have hnn := sumB_le (L := L) (fun x hx => by have := H.sz x hx; omega) k
  have ch := World.cell?_of_block (w := W4) (w' := (w6.setCell ⟨g, 2, none⟩ (.int .i64 (sumB L - sumB (L.take k))))) (a := ⟨h, 0, none⟩) ((e7 h (by omega) H.hg).trans (eW h hh4 H.hb hhG))
  refine ⟨⟨hI.bk.of (e7 b (by omega) (fun e => hgb e.symm)) (by omega), h2.keep (fun q e => ?_) (by omega), ch.trans H.h0, ?_, ?_, ?_, ?_, ?_, ?_, H.hg, H.hb, H.gb, hv2 ▸ H.vh, hv2 ▸ H.vg, hv2 ▸ H.vb, H.rt, BM.atK_ok hl1 H.ok, H.sz.drop k, H.r0, H.r1, by have := H.sm; omega⟩,
    gq.keep (fun q e => e7 q (gq.lt q e) (by have := go q e; omega)) (by omega), ⟨hb.os.trans hI.sv.os, hb.tape.trans hI.sv.tape, hb.output.trans hI.sv.output, by omega, fun j hj hn => ?_⟩, e7⟩
  · rw [hv2] at e
    exact (e7 q (by have := H.q.lt q e; omega) (fun e2 => by subst e2; exact H.vg e)).trans (eW q (H.q.lt q e) (fun e2 => by subst e2; exact H.vb e) (fun e2 => by subst e2; exact hvG e))
  · simp [go_sem, k0]
  · simp [go_sem, k1]
  · rw [show sumB (L.drop k) = sumB L - sumB (L.take k) by omega]
    simp [go_sem, k2]
  · simp [go_sem, k3]
  · simp [go_sem, l1]
  · simp [go_sem, l2]
  · exact (e7 j (by omega) (fun e => hn (.inl (.inr (.inl e))))).trans (eW j hj (fun e => hn (.inl (.inr (.inr (.inl e))))) (fun e => hn (.inr e)))
set_option maxRecDepth 100000 in
set_option maxHeartbeats 8000000 in
set_option pp.deepTerms true in
set_option pp.maxSteps 100000 in
theorem go_yes (H : ShAt w h g b v p r u m l s room L) (n : Int) (hn : BM.askB s n = true) : Calls Try.prog 16 #[.pointer (some ⟨h, 0, none⟩), .int .i64 n] w (GoEnd h g b v p r u m l s room L n w) := by
  have HH := hidd H
  obtain ⟨W1, hW1⟩ : ∃ W1, (w.alloc (.cells #[.pointer (some ⟨h, 0, none⟩)] 26)).alloc (.cells #[.int .i64 n] 2) = W1 := ⟨_, rfl⟩
  have B1 := hidd (show Below w.heap.size w W1 from by rw [← hW1]; (repeat' (first | (with_reducible exact Below.refl _ _) | (with_reducible assumption) | (with_reducible apply Below.setCell) | (with_reducible apply Below.alloc) | (with_reducible apply Below.drew) | (with_reducible apply below_drewN) | (with_reducible refine Below.trans ?_ (Below.mono (by assumption) ?_)) | omega | (simp; done) | (simp; omega))))
  have H1 := hidd (H.below B1.out)
  have z1 : W1.heap.size = w.heap.size + 2 := by rw [← hW1]; simp
  have T0 : Hid (W1.cell? ⟨w.heap.size, 0, none⟩ = some (.pointer (some ⟨h, 0, none⟩))) := hidd (by rw [← hW1]; simp [go_sem])
  have T1 : Hid (W1.cell? ⟨w.heap.size + 1, 0, none⟩ = some (.int .i64 n)) := hidd (by rw [← hW1]; simp [go_sem])
  have c := hidd (shNone_yes H1.out.h0)
  have cM := hidd (moveTo_any (w := W1.drew) H1.out.bk.drew H1.out.g0 H1.out.rt H1.out.ok n)
  have Z1 := hidd z1
  have HW := hidd hW1
  clear hW1
  have hS1 : Hid (W1.drew.cell? ⟨w.heap.size, 0, none⟩ = some (.pointer (some ⟨h, 0, none⟩)) ∧ W1.drew.cell? ⟨w.heap.size + 1, 0, none⟩ = some (.int .i64 n) ∧ W1.drew.cell? ⟨h, 0, none⟩ = some (.pointer (some ⟨g, 0, none⟩))) := hidd ⟨T0.out, T1.out, H1.out.h0⟩
  have KM : Hid (∀ Y, But b W1.drew Y → Y.cell? ⟨w.heap.size, 0, none⟩ = some (.pointer (some ⟨h, 0, none⟩)) ∧ Y.cell? ⟨w.heap.size + 1, 0, none⟩ = some (.int .i64 n) ∧ Y.cell? ⟨h, 0, none⟩ = some (.pointer (some ⟨g, 0, none⟩))) := hidd (fun Y hb => by
    have hs := Z1.out
    have blt := HH.out.blt
    have hlt := HH.out.hlt
    exact ⟨(hb.cell (show w.heap.size < W1.drew.heap.size by show w.heap.size < W1.heap.size; omega) (by omega) 0).trans T0.out, (hb.cell (show w.heap.size + 1 < W1.drew.heap.size by show _ < W1.heap.size; omega) (by omega) 0).trans T1.out, (hb.cell (show h < W1.drew.heap.size by show h < W1.heap.size; omega) H1.out.hb 0).trans H1.out.h0⟩)
  have e : (BM.step p r u m l s n 0).2.2 = 0 := by unfold BM.step; rw [if_pos hn]; split <;> rfl
  have hok : Hid (BM.Ok u m (BM.step p r u m l s n 0).1) := hidd (BM.step_ok H.ok (by have := rightB_iff H.rt; omega) n 0)
  have hst : Hid ((BM.step p r u m l s n 0).1.1 = n ∧ n ≤ 2147483647) := hidd ⟨by unfold BM.step; rw [if_pos hn]; split <;> rfl, (of_decide_eq_true hn).2⟩
  rw [e] at cM
  clear H hn e z1
  unfold GoEnd
  obtain ⟨PO, hPO⟩ : ∃ PO : Ending → World → Prop, GoEnd h g b v p r u m l s room L n w = PO := ⟨_, rfl⟩
  have HPO := hidd hPO
  unfold GoEnd at hPO
  rw [hPO]
  clear hPO
  have HENDQ : Hid (∀ e w', GoEnd h g b v p r u m l s room L n w e w' → PO e w') := hidd (fun e w' q => by rw [← HPO.out]; exact q)
  unfold GoEnd at HENDQ
  clear HPO
  generalize (BM.step p r u m l s n 0).1 = s1 at *
  refine (callsIn_wide (n := 6)).1 ?_
  refine callsIn_of_wp_marks Try.func16 rfl trivial ?_ rfl
  simp only [Try.ntmps16, List.size_toArray, List.length_cons, List.length_nil, Nat.reduceAdd, Nat.reduceSub, Array.replicate_succ, Array.replicate_zero, List.push_toArray, List.append_toArray, List.nil_append, List.cons_append]
  refine wpIn_wide.2 ?_
  go_wp2_with fail
  rw [HW.out]
  clear HW
  have t0 := T0.out
  refine wp_scope_straight ?_
  go_wp2_with fail
  refine c.out.mono ?_
  rintro e w' ⟨rfl, rfl⟩
  go_wp2_with fail
  refine wp_noP ?_
  refine wp_region_held_drew (S := (fun Y => Y.cell? ⟨w.heap.size, 0, none⟩ = some (.pointer (some ⟨h, 0, none⟩)) ∧ Y.cell? ⟨w.heap.size + 1, 0, none⟩ = some (.int .i64 n) ∧ Y.cell? ⟨h, 0, none⟩ = some (.pointer (some ⟨g, 0, none⟩)))) (by kernel_rfl) (hS1.out) (fun hH => ?_)
  refine wpAnyH_take (i := 0) (v := ?vm0_1) (by (conv => lhs; simp only [List.getElem?_toArray, List.getElem?_cons_succ, List.getElem?_cons_zero])) (by kernel_rfl) (by kernel_rfl) (by kernel_rfl) ?hQ (Or.inl ⟨by rfl, ?hym0_1⟩) hH ?restm0_1
  case hQ => exact fun _ _ _ h => h
  case hym0_1 => (intro Y hY; obtain ⟨y0, y1, y2⟩ := hY; go_simp; try (with_reducible rfl))
  try simp only [Act.put, List.setIfInBounds_toArray, List.set_cons_zero, List.set_cons_succ]
  refine wpAnyH_take (i := 1) (v := ?vm1_2) (by (conv => lhs; simp only [List.getElem?_toArray, List.getElem?_cons_succ, List.getElem?_cons_zero])) (by kernel_rfl) (by kernel_rfl) (by kernel_rfl) ?hQ (Or.inl ⟨by rfl, ?hym1_2⟩) hH ?restm1_2
  case hQ => exact fun _ _ _ h => h
  case hym1_2 => (intro Y hY; obtain ⟨y0, y1, y2⟩ := hY; go_simp; try (with_reducible rfl))
  try simp only [Act.put, List.setIfInBounds_toArray, List.set_cons_zero, List.set_cons_succ]
  refine wpAnyH_take (i := 2) (v := ?vm2_3) (by (conv => lhs; simp only [List.getElem?_toArray, List.getElem?_cons_succ, List.getElem?_cons_zero])) (by kernel_rfl) (by kernel_rfl) (by kernel_rfl) ?hQ (Or.inl ⟨by rfl, ?hym2_3⟩) hH ?restm2_3
  case hQ => exact fun _ _ _ h => h
  case hym2_3 => (intro Y hY; obtain ⟨y0, y1, y2⟩ := hY; go_simp; try (with_reducible rfl))
  try simp only [Act.put, List.setIfInBounds_toArray, List.set_cons_zero, List.set_cons_succ]
  refine wpAnyH_take (i := 3) (v := ?vm3_4) (by (conv => lhs; simp only [List.getElem?_toArray, List.getElem?_cons_succ, List.getElem?_cons_zero])) (by kernel_rfl) (by kernel_rfl) (by kernel_rfl) ?hQ (Or.inl ⟨by rfl, ?hym3_4⟩) hH ?restm3_4
  case hQ => exact fun _ _ _ h => h
  case hym3_4 => (intro Y hY; obtain ⟨y0, y1, y2⟩ := hY; go_simp; try (with_reducible rfl))
  try simp only [Act.put, List.setIfInBounds_toArray, List.set_cons_zero, List.set_cons_succ]
  refine wpAnyH_take (i := 4) (v := ?vm4_5) (by (conv => lhs; simp only [List.getElem?_toArray, List.getElem?_cons_succ, List.getElem?_cons_zero])) (by kernel_rfl) (by kernel_rfl) (by kernel_rfl) ?hQ (Or.inl ⟨by rfl, ?hym4_5⟩) hH ?restm4_5
  case hQ => exact fun _ _ _ h => h
  case hym4_5 => (intro Y hY; obtain ⟨y0, y1, y2⟩ := hY; go_simp; try (with_reducible rfl))
  try simp only [Act.put, List.setIfInBounds_toArray, List.set_cons_zero, List.set_cons_succ]
  refine wpAnyH_ready (rs := [5]) (by kernel_rfl) (by simp) ?_
  refine AllReadyH.cons (by (conv => lhs; simp only [List.getElem?_toArray, List.getElem?_cons_succ, List.getElem?_cons_zero])) (fun K hK => ?_) AllReadyH.nil
  go_simp
  go_at_call 34; refine cM.out.mono ?_; rintro e w2 ⟨rfl, hB2, hb2⟩
  have HB2 := hidd hB2
  have Hb2 := hidd hb2
  refine hK.out _ _ (KM.out _ hb2) (fun hHa => ?_)
  clear hK hH hB2 hb2
  try simp only [Act.put, List.setIfInBounds_toArray, List.set_cons_zero, List.set_cons_succ]
  refine wpAnyH_take (i := 6) (v := ?vm6_6) (by (conv => lhs; simp only [List.getElem?_toArray, List.getElem?_cons_succ, List.getElem?_cons_zero])) (by kernel_rfl) (by kernel_rfl) (by kernel_rfl) ?hQ (Or.inl ⟨by rfl, ?hym6_6⟩) hHa ?restm6_6
  case hQ => exact fun _ _ _ h => h
  case hym6_6 => (intro Y hY; obtain ⟨y0, y1, y2⟩ := hY; go_simp; try (with_reducible rfl))
  try simp only [Act.put, List.setIfInBounds_toArray, List.set_cons_zero, List.set_cons_succ]
  refine wpAnyH_done (by kernel_rfl) (noP_of ?_) _
  have H2 := hidd (H1.out.but HB2.out (But.trans (below_but (Below.drew (Below.refl _ _)) b) Hb2.out) hok.out)
  have hb12 := hidd (But.trans (below_but (Below.drew (Below.refl W1.heap.size W1)) b) Hb2.out)
  obtain ⟨k0, k1, k2⟩ := hHa
  clear HB2 Hb2 cM KM hS1 t0 c
  go_wp2_with fail
  refine wp_label ?_
  simp only [Exit.then]
  go_at_K
  obtain ⟨W3, hW3⟩ : ∃ W3, w2.alloc (.cells #[.slice none 0 0] 33) = W3 := ⟨_, rfl⟩
  have b3 : Below w2.heap.size w2 W3 := by rw [← hW3]; exact below_new (Below.refl _ _) _
  have G0 := hidd (show W3.cell? ⟨w2.heap.size, 0, none⟩ = some (.slice none 0 0) ∧ W3.frozen? ⟨w2.heap.size, 0, none⟩ = false ∧ w2.heap.size < W3.heap.size from by rw [← hW3]; exact ⟨by simp [go_sem], by simp [go_sem], by simp⟩)
  have H3 := hidd (H2.out.below b3)
  have hz2 : w.heap.size + 2 ≤ w2.heap.size := by have := hb12.out.size; have := Z1.out; omega
  have q0 := (b3.cell (p := ⟨w.heap.size, 0, none⟩) (by show w.heap.size < _; omega)).trans k0
  have q1 := (b3.cell (p := ⟨w.heap.size + 1, 0, none⟩) (by show w.heap.size + 1 < _; omega)).trans k1
  have b23 := hidd b3
  rw [hW3]
  clear hW3 k0 k1 k2 b3
  have cA := hidd (all_any H3.out)
  go_wp2_with fail
  refine cA.out.mono ?_
  rintro e w' ⟨rfl, rfl⟩
  obtain ⟨A, c, rfl, hlc, hcm, hLie⟩ := H3.out.q.lie
  obtain ⟨W4, hW4⟩ : ∃ W4, W3.alloc (.cells #[.slice A L.length c] 33) = W4 := ⟨_, rfl⟩
  have b4 : Below W3.heap.size W3 W4 := by rw [← hW4]; exact below_new (Below.refl _ _) _
  have QC := hidd (show W4.cell? ⟨W3.heap.size, 0, none⟩ = some (.slice A L.length c) ∧ W3.heap.size < W4.heap.size from by rw [← hW4]; exact ⟨by simp [go_sem], by simp⟩)
  have H4 := hidd (H3.out.below b4)
  have q0 := hidd ((b4.cell (p := ⟨w.heap.size, 0, none⟩) (by show w.heap.size < _; have := G0.out.2.2; omega)).trans q0)
  have q1 := hidd ((b4.cell (p := ⟨w.heap.size + 1, 0, none⟩) (by show w.heap.size + 1 < _; have := G0.out.2.2; omega)).trans q1)
  have G4 := hidd (show W4.cell? ⟨w2.heap.size, 0, none⟩ = some (.slice none 0 0) ∧ W4.frozen? ⟨w2.heap.size, 0, none⟩ = false from ⟨(b4.cell (p := ⟨w2.heap.size, 0, none⟩) G0.out.2.2).trans G0.out.1, (b4.frozen (p := ⟨w2.heap.size, 0, none⟩) G0.out.2.2).trans G0.out.2.1⟩)
  have ZG : Hid (w2.heap.size < W3.heap.size) := hidd G0.out.2.2
  have b34 := hidd b4
  rw [hW4]
  have HS4 : Hid (Sav (ShBlk h g b (.slice A L.length c)) w W4) := hidd ((((Sav.of B1.out).trans (hb12.out.sav (S := ShBlk h g b (.slice A L.length c)) (.inr (.inr (.inl rfl)))) (fun _ _ q => q)).trans (Sav.of (S := ShBlk h g b (.slice A L.length c)) b23.out) (fun _ _ q => q)).trans (Sav.of (S := ShBlk h g b (.slice A L.length c)) b4) (fun _ _ q => q))
  clear hW4 b4 hLie G0 H3 cA
  generalize hQ : W3.heap.size = Q at *
  generalize hG : w2.heap.size = G at *
  go_wp2_with fail
  refine (wpIn_wide (n := 6)).1 ?_
  refine wpIn_rangeFunc_V (L := L) rfl (by omega) (gf := 57) (lb := #[.pointer (some ⟨Q, 0, none⟩)]) rfl trivial (enters_of Try.func57 (by kernel_rfl) rfl)
    (vals1_in (6 - 1) (by omega) Q A c L (by have := H4.out.len; omega)) (fun _ => rfl)
    (GI W4 G b p r u m l s1 n L) (fun c' k W => c' = .exit 0 ∧ GI W4 G b p r u m l s1 n L k W ∧ ∀ hk : k < L.length, (BM.step p r u m l (BM.atK p r u m l s1 n L k) n L[k].2).2.1 = false)
    ?read ?own ?ownx ?start (fun x => .cells #[.int .i64 x.1, .int .i64 x.2] 41)
    (fun x q => { tmps := #[.pointer (some ⟨h, 0, none⟩), .int .i64 n, .pointer (some ⟨w.heap.size, 0, none⟩), .pointer (some ⟨w.heap.size + 1, 0, none⟩), .slice none 0 0, .int .i64 0, .int .i64 0, .pointer (some ⟨G, 0, none⟩), .pointer (some ⟨q, 0, none⟩), undef, undef, .pointer (some ⟨h, 0, none⟩), .bool false, .pointer (some ⟨h, 0, none⟩), .pointer (some ⟨h, 0, none⟩), .pointer (some ⟨h, 0, none⟩), .pointer (some ⟨g, 0, none⟩), .int .i64 n, .int .i64 0, .int .i64 0, .bool false, undef, .pointer (some ⟨h, 0, none⟩), .func (.func 57) #[] #[.pointer (some ⟨Q, 0, none⟩)], agW x, undef, undef, undef, undef, undef, undef, undef, undef, undef, undef, undef, undef, undef, undef, undef, undef, undef, undef, undef, undef, undef, undef, undef, undef, undef, undef, undef, undef, undef, undef, undef, undef, undef, undef, undef, undef, undef, undef, undef, undef, undef, undef, undef, undef, undef, undef, undef, undef, undef], defers := [] })
    ?assign ?body ?done ?stop
  case read =>
    intro k W hI
    have hQ4 := QC.out.2
    have hGQ := ZG.out
    have hbw := HH.out.blt
    obtain ⟨A2, c2, e2, _, _, hl2⟩ := (H4.out.q.keep (w' := W) (fun j e => hI.sv.block j (H4.out.q.lt j e) (fun o => by
      rcases o with o | o
      · exact H4.out.vb (o ▸ e)
      · have := HH.out.q.lt j e; omega)) hI.sv.size).lie
    cases e2
    exact ⟨(hI.sv.cell (p := ⟨Q, 0, none⟩) hQ4 (fun o => by rcases o with o | o <;> (have : Q = _ := o; omega))).trans QC.out.1, hl2⟩
  case own => exact fun k W Y hI hr => hI.rng (by have := QC.out.2; have := ZG.out; omega) (H4.out.blt) hr
  case ownx => exact fun c k W Y hI hr => ⟨hI.1, hI.2.1.rng (by have := QC.out.2; have := ZG.out; omega) (H4.out.blt) hr, hI.2.2⟩
  case start => exact ⟨H4.out.bk, ⟨_, G4.out.1, G4.out.2, by rw [List.take_zero]; exact QL.nil _, fun q e => by cases e⟩, Sav.refl _ _, fun i hi h => absurd h (by omega)⟩
  case assign =>
    rintro l k x W K hI hK
    unfold agW
    gi_wp2
    exact hK
  case body =>
    rintro l' k q W hk hq hxq hI
    have hbw := HH.out.blt
    have hhw := HH.out.hlt
    have hgw := HH.out.glt
    have hQ4 := QC.out.2
    have hGQ := ZG.out
    have hWs := hI.sv.size
    have sk : ∀ j o, j < W4.heap.size → j ≠ b → j ≠ G → W.cell? ⟨j, o, none⟩ = W4.cell? ⟨j, o, none⟩ := fun j o h1 h2 h3 => hI.sv.cell (p := ⟨j, o, none⟩) h1 (fun e => by rcases e with e | e; exact h2 e; exact h3 e)
    have hqW : q < W.heap.size := (Array.getElem?_eq_some_iff.1 hxq).1
    have y0 : W.cell? ⟨w.heap.size, 0, none⟩ = some (.pointer (some ⟨h, 0, none⟩)) := (sk _ 0 (by omega) (by omega) (by omega)).trans q0.out
    have y1 : W.cell? ⟨w.heap.size + 1, 0, none⟩ = some (.int .i64 n) := (sk _ 0 (by omega) (by omega) (by omega)).trans q1.out
    have y2 : W.cell? ⟨h, 0, none⟩ = some (.pointer (some ⟨g, 0, none⟩)) := (sk _ 0 (by omega) H4.out.hb (by omega)).trans H4.out.h0
    have y3 : W.cell? ⟨g, 0, none⟩ = some (.pointer (some ⟨b, 0, none⟩)) := (sk _ 0 (by omega) H4.out.gb (by omega)).trans H4.out.g0
    have x0 : W.cell? ⟨q, 0, none⟩ = some (.int .i64 L[k].1) := by simp [World.cell?, hxq]
    have x1 : W.cell? ⟨q, 1, none⟩ = some (.int .i64 L[k].2) := by simp [World.cell?, hxq]
    have hl1 : 1 ≤ l := by have := rightB_iff H4.out.rt; omega
    have cT := hidd (btake_any (w := W.drew) hI.bk.drew H4.out.rt (BM.atK_ok hl1 hok.out) n L[k].2)
    unfold TakeEnd at cT
    have NEXT := hidd (fun (w4 w6 : World) (gv v2 : Value) (o : Obj) hB hb4 ht go gf gc hq hgr hor => GI.next (w4 := w4) (w6 := w6) (gv := gv) (v' := v2) (o := o) hI (by omega) (by omega) (by omega) hk (by omega) hB hb4 ht go gf gc hq hgr hor)
    have hnow := BM.atK_now (p := p) (r := r) (u := u) (m := m) (l := l) (L := L) (k := k) hst.out.1 hst.out.2 (by omega)
    have hask : BM.askB (BM.atK p r u m l s1 n L k) n = true := decide_eq_true ⟨by rw [hnow]; exact Int.le_refl _, hst.out.2⟩
    have hnow2 : (BM.step p r u m l (BM.atK p r u m l s1 n L k) n L[k].2).1.1 = n := by unfold BM.step; rw [if_pos hask]; split <;> rfl
    have STOP := hidd (fun (w4 : World) (hB : BktAt w4 b p r u m l (BM.step p r u m l (BM.atK p r u m l s1 n L k) n L[k].2).1) (hb4 : But b W w4) (hf : (BM.step p r u m l (BM.atK p r u m l s1 n L k) n L[k].2).2.1 = false) => (show GI W4 G b p r u m l s1 n L k w4 ∧ ∀ hk : k < L.length, (BM.step p r u m l (BM.atK p r u m l s1 n L k) n L[k].2).2.1 = false from ⟨hI.but (by omega) (by omega) (by omega) hb4 (by rw [BM.step_same (BM.atK_ok hl1 hok.out) hf (hnow2.trans hnow.symm)] at hB; exact hB), fun _ => hf⟩))
    obtain ⟨gv, gc, gf, gq, go⟩ := hI.gv
    have GQ := hidd gq
    have GO := hidd go
    have GC := hidd gc
    have GF := hidd gf
    have hkL : Hid (∀ w5 : World, (L.take k).length ≤ 1000000000) := hidd (fun _ => by have := H4.out.len; simp; omega)
    have hxy : Hid (L[k] = (L[k].1, L[k].2)) := hidd rfl
    have KB : Hid (∀ Y, But b W Y → Y.cell? ⟨w.heap.size, 0, none⟩ = some (.pointer (some ⟨h, 0, none⟩)) ∧ Y.cell? ⟨w.heap.size + 1, 0, none⟩ = some (.int .i64 n) ∧ Y.cell? ⟨h, 0, none⟩ = some (.pointer (some ⟨g, 0, none⟩)) ∧ Y.cell? ⟨g, 0, none⟩ = some (.pointer (some ⟨b, 0, none⟩)) ∧ Y.cell? ⟨q, 1, none⟩ = some (.int .i64 L[k].2)) := hidd (fun Y hb => ⟨(hb.cell (by omega) (by omega) 0).trans y0, (hb.cell (by omega) (by omega) 0).trans y1, (hb.cell (by omega) H4.out.hb 0).trans y2, (hb.cell (by omega) H4.out.gb 0).trans y3, (hb.cell hqW (by omega) 1).trans x1⟩)
    have KX : Hid (∀ Y, But b W Y → Y.cell? ⟨q, 0, none⟩ = some (.int .i64 L[k].1)) := hidd (fun Y hb => (hb.cell hqW (by omega) 0).trans x0)
    have hqb : q ≠ b := by omega
    have hqG : q ≠ G := by omega
    have HKB : Hid (W4.heap.size ≠ b ∧ W4.heap.size + 1 ≠ b ∧ W4.heap.size + 1 < W.heap.size) := hidd ⟨by omega, by omega, by omega⟩
    clear hI hxq sk x0 hnow hask hnow2 gq go gc gf hl1
    clear hxy
    generalize hxe : L[k] = x at *
    obtain ⟨i, z⟩ := x
    dsimp only at *
    have HXY := hidd hxe
    clear hxe
    generalize BM.step p r u m l (BM.atK p r u m l s1 n L k) n z = St at *
    obtain ⟨St1, is, St2⟩ := St
    dsimp only at *
    have hmix : Try.prog.follows .mixedOrders = true := by kernel_rfl
    unfold agW
    gi_wp2_with fail
    refine Tp.wpIn_held_round (fun Y => Y.cell? ⟨w.heap.size, 0, none⟩ = some (.pointer (some ⟨h, 0, none⟩)) ∧ Y.cell? ⟨w.heap.size + 1, 0, none⟩ = some (.int .i64 n) ∧ Y.cell? ⟨h, 0, none⟩ = some (.pointer (some ⟨g, 0, none⟩)) ∧ Y.cell? ⟨g, 0, none⟩ = some (.pointer (some ⟨b, 0, none⟩)) ∧ Y.cell? ⟨q, 1, none⟩ = some (.int .i64 z)) hmix ?_ rfl ⟨y0, y1, y2, y3, x1⟩ (fun hH => ?_)
    · rintro ⟨_, _, h⟩
      exact h
    refine wpAnyH_take (i := 0) (v := ?vb0_1) (by (conv => lhs; simp only [List.getElem?_toArray, List.getElem?_cons_succ, List.getElem?_cons_zero])) (by kernel_rfl) (by kernel_rfl) (by kernel_rfl) ?hQ (Or.inl ⟨by rfl, ?hyb0_1⟩) hH ?restb0_1
    case hQ => exact fun _ _ _ h => h
    case hyb0_1 => (intro Y hY; obtain ⟨y0, y1, y2, y3, y4⟩ := hY; go_simp; try (with_reducible rfl))
    try simp only [Act.put, List.setIfInBounds_toArray, List.set_cons_zero, List.set_cons_succ]
    refine wpAnyH_take (i := 1) (v := ?vb1_2) (by (conv => lhs; simp only [List.getElem?_toArray, List.getElem?_cons_succ, List.getElem?_cons_zero])) (by kernel_rfl) (by kernel_rfl) (by kernel_rfl) ?hQ (Or.inl ⟨by rfl, ?hyb1_2⟩) hH ?restb1_2
    case hQ => exact fun _ _ _ h => h
    case hyb1_2 => (intro Y hY; obtain ⟨y0, y1, y2, y3, y4⟩ := hY; go_simp; try (with_reducible rfl))
    try simp only [Act.put, List.setIfInBounds_toArray, List.set_cons_zero, List.set_cons_succ]
    refine wpAnyH_take (i := 2) (v := ?vb2_3) (by (conv => lhs; simp only [List.getElem?_toArray, List.getElem?_cons_succ, List.getElem?_cons_zero])) (by kernel_rfl) (by kernel_rfl) (by kernel_rfl) ?hQ (Or.inl ⟨by rfl, ?hyb2_3⟩) hH ?restb2_3
    case hQ => exact fun _ _ _ h => h
    case hyb2_3 => (intro Y hY; obtain ⟨y0, y1, y2, y3, y4⟩ := hY; go_simp; try (with_reducible rfl))
    try simp only [Act.put, List.setIfInBounds_toArray, List.set_cons_zero, List.set_cons_succ]
    refine wpAnyH_take (i := 3) (v := ?vb3_4) (by (conv => lhs; simp only [List.getElem?_toArray, List.getElem?_cons_succ, List.getElem?_cons_zero])) (by kernel_rfl) (by kernel_rfl) (by kernel_rfl) ?hQ (Or.inl ⟨by rfl, ?hyb3_4⟩) hH ?restb3_4
    case hQ => exact fun _ _ _ h => h
    case hyb3_4 => (intro Y hY; obtain ⟨y0, y1, y2, y3, y4⟩ := hY; go_simp; try (with_reducible rfl))
    try simp only [Act.put, List.setIfInBounds_toArray, List.set_cons_zero, List.set_cons_succ]
    refine wpAnyH_take (i := 4) (v := ?vb4_5) (by (conv => lhs; simp only [List.getElem?_toArray, List.getElem?_cons_succ, List.getElem?_cons_zero])) (by kernel_rfl) (by kernel_rfl) (by kernel_rfl) ?hQ (Or.inl ⟨by rfl, ?hyb4_5⟩) hH ?restb4_5
    case hQ => exact fun _ _ _ h => h
    case hyb4_5 => (intro Y hY; obtain ⟨y0, y1, y2, y3, y4⟩ := hY; go_simp; try (with_reducible rfl))
    try simp only [Act.put, List.setIfInBounds_toArray, List.set_cons_zero, List.set_cons_succ]
    refine wpAnyH_take (i := 5) (v := ?vb5_6) (by (conv => lhs; simp only [List.getElem?_toArray, List.getElem?_cons_succ, List.getElem?_cons_zero])) (by kernel_rfl) (by kernel_rfl) (by kernel_rfl) ?hQ (Or.inl ⟨by rfl, ?hyb5_6⟩) hH ?restb5_6
    case hQ => exact fun _ _ _ h => h
    case hyb5_6 => (intro Y hY; obtain ⟨y0, y1, y2, y3, y4⟩ := hY; go_simp; try (with_reducible rfl))
    try simp only [Act.put, List.setIfInBounds_toArray, List.set_cons_zero, List.set_cons_succ]
    refine wpAnyH_take (i := 6) (v := ?vb6_7) (by (conv => lhs; simp only [List.getElem?_toArray, List.getElem?_cons_succ, List.getElem?_cons_zero])) (by kernel_rfl) (by kernel_rfl) (by kernel_rfl) ?hQ (Or.inl ⟨by rfl, ?hyb6_7⟩) hH ?restb6_7
    case hQ => exact fun _ _ _ h => h
    case hyb6_7 => (intro Y hY; obtain ⟨y0, y1, y2, y3, y4⟩ := hY; go_simp; try (with_reducible rfl))
    try simp only [Act.put, List.setIfInBounds_toArray, List.set_cons_zero, List.set_cons_succ]
    refine wpAnyH_take (i := 7) (v := ?vb7_8) (by (conv => lhs; simp only [List.getElem?_toArray, List.getElem?_cons_succ, List.getElem?_cons_zero])) (by kernel_rfl) (by kernel_rfl) (by kernel_rfl) ?hQ (Or.inl ⟨by rfl, ?hyb7_8⟩) hH ?restb7_8
    case hQ => exact fun _ _ _ h => h
    case hyb7_8 => (intro Y hY; obtain ⟨y0, y1, y2, y3, y4⟩ := hY; go_simp; try (with_reducible rfl))
    try simp only [Act.put, List.setIfInBounds_toArray, List.set_cons_zero, List.set_cons_succ]
    refine wpAnyH_take (i := 8) (v := ?vb8_9) (by (conv => lhs; simp only [List.getElem?_toArray, List.getElem?_cons_succ, List.getElem?_cons_zero])) (by kernel_rfl) (by kernel_rfl) (by kernel_rfl) ?hQ (Or.inl ⟨by rfl, ?hyb8_9⟩) hH ?restb8_9
    case hQ => exact fun _ _ _ h => h
    case hyb8_9 => (intro Y hY; obtain ⟨y0, y1, y2, y3, y4⟩ := hY; go_simp; try (with_reducible rfl))
    try simp only [Act.put, List.setIfInBounds_toArray, List.set_cons_zero, List.set_cons_succ]
    refine wpAnyH_take (i := 9) (v := ?vb9_10) (by (conv => lhs; simp only [List.getElem?_toArray, List.getElem?_cons_succ, List.getElem?_cons_zero])) (by kernel_rfl) (by kernel_rfl) (by kernel_rfl) ?hQ (Or.inl ⟨by rfl, ?hyb9_10⟩) hH ?restb9_10
    case hQ => exact fun _ _ _ h => h
    case hyb9_10 => (intro Y hY; obtain ⟨y0, y1, y2, y3, y4⟩ := hY; go_simp; try (with_reducible rfl))
    try simp only [Act.put, List.setIfInBounds_toArray, List.set_cons_zero, List.set_cons_succ]
    refine wpAnyH_ready (rs := [10]) (by kernel_rfl) (by simp) ?_
    refine AllReadyH.cons (by (conv => lhs; simp only [List.getElem?_toArray, List.getElem?_cons_succ, List.getElem?_cons_zero])) (fun K hK => ?_) AllReadyH.nil
    go_simp
    go_at_call 35; refine cT.out.mono ?_; rintro e w4 ⟨rfl, hB4, hb4⟩
    have hb4 : But b W w4 := But.trans (below_but (Below.drew (Below.refl W.heap.size W)) b) hb4
    have HB4 := hidd hB4
    have Hb4 := hidd hb4
    refine hK.out _ _ (KB.out _ hb4) (fun hHa => ?_)
    clear hK hH hB4 hb4
    try simp only [Act.put, List.setIfInBounds_toArray, List.set_cons_zero, List.set_cons_succ]
    refine wpAnyH_take (i := 11) (v := ?vb11_11) (by (conv => lhs; simp only [List.getElem?_toArray, List.getElem?_cons_succ, List.getElem?_cons_zero])) (by kernel_rfl) (by kernel_rfl) (by kernel_rfl) ?hQ (Or.inl ⟨by rfl, ?hyb11_11⟩) hHa ?restb11_11
    case hQ => exact fun _ _ _ h => h
    case hyb11_11 => (intro Y hY; obtain ⟨y0, y1, y2, y3, y4⟩ := hY; go_simp; try (with_reducible rfl))
    try simp only [Act.put, List.setIfInBounds_toArray, List.set_cons_zero, List.set_cons_succ]
    refine wpAnyH_take (i := 12) (v := ?vb12_12) (by (conv => lhs; simp only [List.getElem?_toArray, List.getElem?_cons_succ, List.getElem?_cons_zero])) (by kernel_rfl) (by kernel_rfl) (by kernel_rfl) ?hQ (Or.inl ⟨by rfl, ?hyb12_12⟩) hHa ?restb12_12
    case hQ => exact fun _ _ _ h => h
    case hyb12_12 => (intro Y hY; obtain ⟨y0, y1, y2, y3, y4⟩ := hY; go_simp; try (with_reducible rfl))
    try simp only [Act.put, List.setIfInBounds_toArray, List.set_cons_zero, List.set_cons_succ]
    refine wpAnyH_take (i := 13) (v := ?vb13_13) (by (conv => lhs; simp only [List.getElem?_toArray, List.getElem?_cons_succ, List.getElem?_cons_zero])) (by kernel_rfl) (by kernel_rfl) (by kernel_rfl) ?hQ (Or.inl ⟨by rfl, ?hyb13_13⟩) hHa ?restb13_13
    case hQ => exact fun _ _ _ h => h
    case hyb13_13 => (intro Y hY; obtain ⟨y0, y1, y2, y3, y4⟩ := hY; go_simp; try (with_reducible rfl))
    try simp only [Act.put, List.setIfInBounds_toArray, List.set_cons_zero, List.set_cons_succ]
    refine wpAnyH_take (i := 14) (v := ?vb14_14) (by (conv => lhs; simp only [List.getElem?_toArray, List.getElem?_cons_succ, List.getElem?_cons_zero])) (by kernel_rfl) (by kernel_rfl) (by kernel_rfl) ?hQ (Or.inl ⟨by rfl, ?hyb14_14⟩) hHa ?restb14_14
    case hQ => exact fun _ _ _ h => h
    case hyb14_14 => (intro Y hY; obtain ⟨y0, y1, y2, y3, y4⟩ := hY; go_simp; try (with_reducible rfl))
    try simp only [Act.put, List.setIfInBounds_toArray, List.set_cons_zero, List.set_cons_succ]
    refine wpAnyH_take (i := 15) (v := ?vb15_15) (by (conv => lhs; simp only [List.getElem?_toArray, List.getElem?_cons_succ, List.getElem?_cons_zero])) (by kernel_rfl) (by kernel_rfl) (by kernel_rfl) ?hQ (Or.inl ⟨by rfl, ?hyb15_15⟩) hHa ?restb15_15
    case hQ => exact fun _ _ _ h => h
    case hyb15_15 => (intro Y hY; obtain ⟨y0, y1, y2, y3, y4⟩ := hY; go_simp; try (with_reducible rfl))
    try simp only [Act.put, List.setIfInBounds_toArray, List.set_cons_zero, List.set_cons_succ]
    refine wpAnyH_done (by kernel_rfl) (?_) _
    obtain ⟨-, -, -, -, x1⟩ := hHa
    have x0 := KX.out w4 Hb4.out
    have gcw := (Hb4.out.cell (k := G) (by omega) (by omega) 0).trans GC.out
    have QW := hidd (GQ.out.keep (w' := w4) (fun j e => Hb4.out.block j (GQ.out.lt j e) (by have := GO.out j e; omega)) Hb4.out.size)
    clear y0 y1 y2 y3 cT KB KX
    obtain ⟨A2, n2, c2, rfl⟩ : ∃ A2 n2 c2, gv = .slice A2 n2 c2 := by obtain ⟨a, d, e, _⟩ := GQ.out.lie; exact ⟨a, _, d, e⟩
    have QB := hidd (QW.out.below (w' := w4.alloc (.cells #[.int .i64 i, .int .i64 z] 41)) (below_new (Below.refl _ _) _))
    have NEW : Hid (∀ j u, (sendV (i, z))[j]? = some u → (w4.alloc (.cells #[.int .i64 i, .int .i64 z] 41)).cell? ((⟨w4.heap.size, 0, none⟩ : Addr).add j) = some u) := hidd (fun j u hj => by
      rw [Addr.add_lit]
      match j, hj with
      | 0, hj => simp [sendV] at hj; subst hj; simp [go_sem]
      | 1, hj => simp [sendV] at hj; subst hj; simp [go_sem])
    cases is
    · clear NEXT QB NEW gcw x0 x1 QW
      gi_wp2_with fail
      exact ⟨Hb4.out.block _ (by have := HKB.out; omega) HKB.out.1, Hb4.out.block _ HKB.out.2.2 HKB.out.2.1, rfl, STOP.out w4 HB4.out Hb4.out (by first | rfl | trivial)⟩
    · clear STOP
      gi_wp2_with (gi_at_builtin; refine wpListIn_append_q rfl (.tmp 41) (.tmp 43) 33 rfl Try.underlying33 (v := .slice A2 n2 c2) (L := L.take k) rfl QB.out (hkL.out w4) ⟨w4.heap.size, 0, none⟩ 1 (i, z) rfl NEW.out ?_; intro v2 w6 hq hgr hor; obtain ⟨A3, n3, c3, rfl⟩ := hq.form; have hfin := hidd (NEXT.out w4 w6 _ _ _ HB4.out Hb4.out (by first | rfl | trivial) GO.out GF.out GC.out hq hgr hor); obtain ⟨z0, z1⟩ := hfin.out.1; clear hq hgr hor)
      exact ⟨hfin.out.2.2.1, hfin.out.2.2.2, hfin.out.2.1⟩
  case done =>
    rintro D W hD hI hK
    subst hD
    gi_wp2_with fail
    obtain ⟨k, hkk⟩ : ∃ k, L.length = k := ⟨_, rfl⟩
    have hgoes : BM.Goes p r u m l s1 n L k (BM.atK p r u m l s1 n L k) := ⟨by omega, rfl, fun i hi _ => hI.all i hi hi, fun hk => absurd hk (by omega)⟩
    rw [hkk] at hI
    have hbw := HH.out.blt
    have hhw := HH.out.hlt
    have hgw := HH.out.glt
    have hQ4 := QC.out.2
    have hGQ := ZG.out
    have hWs := hI.sv.size
    have sk : ∀ j o, j < W4.heap.size → j ≠ b → j ≠ G → W.cell? ⟨j, o, none⟩ = W4.cell? ⟨j, o, none⟩ := fun j o h1 h2 h3 => hI.sv.cell (p := ⟨j, o, none⟩) h1 (fun e => by rcases e with e | e; exact h2 e; exact h3 e)
    have nG : ¬ ShBlk h g b (.slice A L.length c) G := fun e => by have := HH.out.lt e; omega
    have y0 : W.cell? ⟨w.heap.size, 0, none⟩ = some (.pointer (some ⟨h, 0, none⟩)) := (sk _ 0 (by omega) (by omega) (by omega)).trans q0.out
    have y2 : W.cell? ⟨h, 0, none⟩ = some (.pointer (some ⟨g, 0, none⟩)) := (sk _ 0 (by omega) H4.out.hb (by omega)).trans H4.out.h0
    have g1 : W.cell? ⟨g, 1, none⟩ = some (.slice A L.length c) := (sk _ 1 (by omega) H4.out.gb (by omega)).trans H4.out.g1
    have e1 : W.frozen? ⟨g, 1, none⟩ = false := (hI.sv.block g (by omega) (fun e => by rcases e with e | e; exact H4.out.gb e; omega) |> fun q => (World.frozen?_of_block (a := ⟨g, 1, none⟩) q)).trans H4.out.e1
    obtain ⟨gv, gc, gf, gq, go⟩ := hI.gv
    obtain ⟨A2, c2, hgv, hl2, hm2, hgl⟩ := gq.lie
    have hkl : (L.take k).length = k := by rw [List.length_take]; have := hgoes.le; omega
    rw [hkl] at hgv hl2
    subst hgv
    have hk0 := hgoes.le
    have HG := hidd hgoes
    have HGQ := hidd gq
    have HGO := hidd go
    have HGL := hidd hgl
    have HDK := hidd hK
    have HCUT := hidd (H4.out.q.cut hk0)
    have HI := hidd hI
    have HLC : Hid (L.length ≤ c ∧ c ≤ maxLen) := hidd ⟨hlc, hcm⟩
    have z1 : (k : Int) ≤ (L.length : Int) := by omega
    have z2 : (L.length : Int) ≤ (c : Int) := by omega
    have z3 : (0 : Int) ≤ (k : Int) := by omega
    clear hI hgoes gq go hgl hkl hK sk
    by_cases hck : c = k
    · have hlk : L.length = k := by omega
      have HV2 : Hid (QL W4 (.slice A 0 0) (L.drop k)) := hidd (by
        have q := HCUT.out
        rw [if_pos hck, show L.length - k = 0 by omega, show c - k = 0 by omega] at q
        exact q)
      have HOW : Hid ((Value.slice A 0 0 : Value).ownBlock = (Value.slice A L.length c).ownBlock) := hidd (by first | rfl | (cases A <;> rfl))
      have HLT : Hid (∀ j, ShBlk h g b (.slice A 0 0) j → j < W4.heap.size) := hidd (fun j hj => H4.out.lt (by unfold ShBlk at hj ⊢; rw [HOW.out] at hj; exact hj))
      have FIN := hidd (go_fin (v2 := .slice A 0 0) H4.out (by omega) nG HI.out hk0 HV2.out (by first | rfl | (cases A <;> rfl)) HGQ.out HGO.out)
      have SV5 : Hid ((W.drew.setCell ⟨g, 1, none⟩ (.slice A 0 0)).cell? ⟨w.heap.size, 0, none⟩ = some (.pointer (some ⟨h, 0, none⟩)) ∧ (W.drew.setCell ⟨g, 1, none⟩ (.slice A 0 0)).cell? ⟨h, 0, none⟩ = some (.pointer (some ⟨g, 0, none⟩)) ∧ (W.drew.setCell ⟨g, 1, none⟩ (.slice A 0 0)).cell? ⟨G, 0, none⟩ = some (.slice A2 k c2)) := hidd ⟨cell_set_far (show w.heap.size ≠ g by omega) y0, cell_set_far H4.out.hg y2, cell_set_far (show G ≠ g by omega) gc⟩
      have GQ5 := hidd (HGQ.out.keep (w' := (W.drew.setCell ⟨g, 1, none⟩ (.slice A 0 0))) (fun q e => Below.heap_setCell W.drew ⟨g, 1, none⟩ _ _ (fun e2 => by have h1 := HGO.out q e; have h2 : q = g := e2; omega)) (by show W.drew.heap.size ≤ _; simp [World.setCell]))
      have HNN := hidd (sumB_le (L := L) (fun x hx => by have := H4.out.sz x hx; have := rightB_iff H4.out.rt; omega) k)
      have HSM : Hid (sumB L ≤ 1000000000) := hidd (by have := H4.out.sm; have := H4.out.r1; omega)
      have ew : IntKind.i64.wrap (sumB L - sumB (L.take k)) = sumB L - sumB (L.take k) := IntWalk.i64_in _ (by have := HNN.out; have := HSM.out; omega)
      go_wp2_with fail
      refine wp_noP ?_
      refine wp_region_held_drew (S := (fun Y => Y.cell? ⟨w.heap.size, 0, none⟩ = some (.pointer (some ⟨h, 0, none⟩)) ∧ Y.cell? ⟨h, 0, none⟩ = some (.pointer (some ⟨g, 0, none⟩)) ∧ Y.cell? ⟨G, 0, none⟩ = some (.slice A2 k c2))) (by kernel_rfl) (⟨y0, y2, gc⟩) (fun hH => ?_)
      refine wpAnyH_take (i := 0) (v := ?vtd00_1) (by (conv => lhs; simp only [List.getElem?_toArray, List.getElem?_cons_succ, List.getElem?_cons_zero])) (by kernel_rfl) (by kernel_rfl) (by kernel_rfl) ?hQ (Or.inl ⟨by rfl, ?hytd00_1⟩) hH ?resttd00_1
      case hQ => exact fun _ _ _ h => h
      case hytd00_1 => (intro Y hY; obtain ⟨y0, y1, y2⟩ := hY; go_simp; try (with_reducible rfl))
      try simp only [Act.put, List.setIfInBounds_toArray, List.set_cons_zero, List.set_cons_succ]
      refine wpAnyH_take (i := 1) (v := ?vtd01_2) (by (conv => lhs; simp only [List.getElem?_toArray, List.getElem?_cons_succ, List.getElem?_cons_zero])) (by kernel_rfl) (by kernel_rfl) (by kernel_rfl) ?hQ (Or.inl ⟨by rfl, ?hytd01_2⟩) hH ?resttd01_2
      case hQ => exact fun _ _ _ h => h
      case hytd01_2 => (intro Y hY; obtain ⟨y0, y1, y2⟩ := hY; go_simp; try (with_reducible rfl))
      try simp only [Act.put, List.setIfInBounds_toArray, List.set_cons_zero, List.set_cons_succ]
      refine wpAnyH_take (i := 2) (v := ?vtd02_3) (by (conv => lhs; simp only [List.getElem?_toArray, List.getElem?_cons_succ, List.getElem?_cons_zero])) (by kernel_rfl) (by kernel_rfl) (by kernel_rfl) ?hQ (Or.inl ⟨by rfl, ?hytd02_3⟩) hH ?resttd02_3
      case hQ => exact fun _ _ _ h => h
      case hytd02_3 => (intro Y hY; obtain ⟨y0, y1, y2⟩ := hY; go_simp; try (with_reducible rfl))
      try simp only [Act.put, List.setIfInBounds_toArray, List.set_cons_zero, List.set_cons_succ]
      refine wpAnyH_take (i := 3) (v := ?vtd03_4) (by (conv => lhs; simp only [List.getElem?_toArray, List.getElem?_cons_succ, List.getElem?_cons_zero])) (by kernel_rfl) (by kernel_rfl) (by kernel_rfl) ?hQ (Or.inl ⟨by rfl, ?hytd03_4⟩) hH ?resttd03_4
      case hQ => exact fun _ _ _ h => h
      case hytd03_4 => (intro Y hY; obtain ⟨y0, y1, y2⟩ := hY; go_simp; try (with_reducible rfl))
      try simp only [Act.put, List.setIfInBounds_toArray, List.set_cons_zero, List.set_cons_succ]
      refine wpAnyH_take (i := 4) (v := ?vtd04_5) (by (conv => lhs; simp only [List.getElem?_toArray, List.getElem?_cons_succ, List.getElem?_cons_zero])) (by kernel_rfl) (by kernel_rfl) (by kernel_rfl) ?hQ (Or.inl ⟨by rfl, ?hytd04_5⟩) hH ?resttd04_5
      case hQ => exact fun _ _ _ h => h
      case hytd04_5 => (intro Y hY; obtain ⟨y0, y1, y2⟩ := hY; go_simp; try (with_reducible rfl))
      try simp only [Act.put, List.setIfInBounds_toArray, List.set_cons_zero, List.set_cons_succ]
      refine wpAnyH_take (i := 5) (v := ?vtd05_6) (by (conv => lhs; simp only [List.getElem?_toArray, List.getElem?_cons_succ, List.getElem?_cons_zero])) (by kernel_rfl) (by kernel_rfl) (by kernel_rfl) ?hQ (Or.inl ⟨by rfl, ?hytd05_6⟩) hH ?resttd05_6
      case hQ => exact fun _ _ _ h => h
      case hytd05_6 => (intro Y hY; obtain ⟨y0, y1, y2⟩ := hY; go_simp; try (with_reducible rfl))
      try simp only [Act.put, List.setIfInBounds_toArray, List.set_cons_zero, List.set_cons_succ]
      refine wpAnyH_take (i := 6) (v := ?vtd06_7) (by (conv => lhs; simp only [List.getElem?_toArray, List.getElem?_cons_succ, List.getElem?_cons_zero])) (by kernel_rfl) (by kernel_rfl) (by kernel_rfl) ?hQ (Or.inl ⟨by rfl, ?hytd06_7⟩) hH ?resttd06_7
      case hQ => exact fun _ _ _ h => h
      case hytd06_7 => (intro Y hY; obtain ⟨y0, y1, y2⟩ := hY; go_simp; try (with_reducible rfl))
      try simp only [Act.put, List.setIfInBounds_toArray, List.set_cons_zero, List.set_cons_succ]
      refine wpAnyH_take (i := 7) (v := ?vtd07_8) (by (conv => lhs; simp only [List.getElem?_toArray, List.getElem?_cons_succ, List.getElem?_cons_zero])) (by kernel_rfl) (by kernel_rfl) (by kernel_rfl) ?hQ (Or.inl ⟨by rfl, ?hytd07_8⟩) hH ?resttd07_8
      case hQ => exact fun _ _ _ h => h
      case hytd07_8 => (intro Y hY; obtain ⟨y0, y1, y2⟩ := hY; go_simp; try (with_reducible rfl))
      try simp only [Act.put, List.setIfInBounds_toArray, List.set_cons_zero, List.set_cons_succ]
      refine wpAnyH_take (i := 8) (v := ?vtd08_9) (by (conv => lhs; simp only [List.getElem?_toArray, List.getElem?_cons_succ, List.getElem?_cons_zero])) (by kernel_rfl) (by kernel_rfl) (by kernel_rfl) ?hQ (Or.inl ⟨by rfl, ?hytd08_9⟩) hH ?resttd08_9
      case hQ => exact fun _ _ _ h => h
      case hytd08_9 => (intro Y hY; obtain ⟨y0, y1, y2⟩ := hY; go_simp; try (with_reducible rfl))
      try simp only [Act.put, List.setIfInBounds_toArray, List.set_cons_zero, List.set_cons_succ]
      refine wpAnyH_take (i := 9) (v := ?vtd09_10) (by (conv => lhs; simp only [List.getElem?_toArray, List.getElem?_cons_succ, List.getElem?_cons_zero])) (by kernel_rfl) (by kernel_rfl) (by kernel_rfl) ?hQ (Or.inl ⟨by rfl, ?hytd09_10⟩) hH ?resttd09_10
      case hQ => exact fun _ _ _ h => h
      case hytd09_10 => (intro Y hY; obtain ⟨y0, y1, y2⟩ := hY; go_simp; try (with_reducible rfl))
      try simp only [Act.put, List.setIfInBounds_toArray, List.set_cons_zero, List.set_cons_succ]
      refine wpAnyH_take (i := 11) (v := ?vtd011_11) (by (conv => lhs; simp only [List.getElem?_toArray, List.getElem?_cons_succ, List.getElem?_cons_zero])) (by kernel_rfl) (by kernel_rfl) (by kernel_rfl) ?hQ (Or.inl ⟨by rfl, ?hytd011_11⟩) hH ?resttd011_11
      case hQ => exact fun _ _ _ h => h
      case hytd011_11 => (intro Y hY; obtain ⟨y0, y1, y2⟩ := hY; go_simp; try (with_reducible rfl))
      try simp only [Act.put, List.setIfInBounds_toArray, List.set_cons_zero, List.set_cons_succ]
      refine wpAnyH_take (i := 12) (v := ?vtd012_12) (by (conv => lhs; simp only [List.getElem?_toArray, List.getElem?_cons_succ, List.getElem?_cons_zero])) (by kernel_rfl) (by kernel_rfl) (by kernel_rfl) ?hQ (Or.inl ⟨by rfl, ?hytd012_12⟩) hH ?resttd012_12
      case hQ => exact fun _ _ _ h => h
      case hytd012_12 => (intro Y hY; obtain ⟨y0, y1, y2⟩ := hY; go_simp; try (with_reducible rfl))
      try simp only [Act.put, List.setIfInBounds_toArray, List.set_cons_zero, List.set_cons_succ]
      have u1 : W.drew.cell? ⟨g, 1, none⟩ = some (.slice A L.length c) := g1
      have u3 : W.drew.frozen? ⟨g, 1, none⟩ = false := e1
      refine wpAnyH_ready (rs := [10]) (by kernel_rfl) (by simp) ?_
      refine AllReadyH.cons (by (conv => lhs; simp only [List.getElem?_toArray, List.getElem?_cons_succ, List.getElem?_cons_zero])) (fun K hK => ?_) AllReadyH.nil
      go_simp
      refine hK.out _ _ hH (fun hHa => ?_)
      clear hK hH
      try simp only [Act.put, List.setIfInBounds_toArray, List.set_cons_zero, List.set_cons_succ]
      refine wpAnyH_take (i := 13) (v := ?vtd013_13) (by (conv => lhs; simp only [List.getElem?_toArray, List.getElem?_cons_succ, List.getElem?_cons_zero])) (by kernel_rfl) (by kernel_rfl) (by kernel_rfl) ?hQ (Or.inl ⟨by rfl, ?hytd013_13⟩) hHa ?resttd013_13
      case hQ => exact fun _ _ _ h => h
      case hytd013_13 => (intro Y hY; obtain ⟨y0, y1, y2⟩ := hY; go_simp; try (with_reducible rfl))
      try simp only [Act.put, List.setIfInBounds_toArray, List.set_cons_zero, List.set_cons_succ]
      refine wpAnyH_take (i := 14) (v := ?vtd014_14) (by (conv => lhs; simp only [List.getElem?_toArray, List.getElem?_cons_succ, List.getElem?_cons_zero])) (by kernel_rfl) (by kernel_rfl) (by kernel_rfl) ?hQ (Or.inl ⟨by rfl, ?hytd014_14⟩) hHa ?resttd014_14
      case hQ => exact fun _ _ _ h => h
      case hytd014_14 => (intro Y hY; obtain ⟨y0, y1, y2⟩ := hY; go_simp; try (with_reducible rfl))
      try simp only [Act.put, List.setIfInBounds_toArray, List.set_cons_zero, List.set_cons_succ]
      refine wpAnyH_take (i := 15) (v := ?vtd015_15) (by (conv => lhs; simp only [List.getElem?_toArray, List.getElem?_cons_succ, List.getElem?_cons_zero])) (by kernel_rfl) (by kernel_rfl) (by kernel_rfl) ?hQ (Or.inl ⟨by rfl, ?hytd015_15⟩) hHa ?resttd015_15
      case hQ => exact fun _ _ _ h => h
      case hytd015_15 => (intro Y hY; obtain ⟨y0, y1, y2⟩ := hY; go_simp; try (with_reducible rfl))
      try simp only [Act.put, List.setIfInBounds_toArray, List.set_cons_zero, List.set_cons_succ]
      refine wpAnyH_ready (rs := [16]) (by kernel_rfl) (by simp) ?_
      refine AllReadyH.cons (by (conv => lhs; simp only [List.getElem?_toArray, List.getElem?_cons_succ, List.getElem?_cons_zero])) (fun K hK => ?_) AllReadyH.nil
      go_simp
      refine hK.out _ _ SV5.out (fun hHb => ?_)
      clear hK hHa u1 u3 g1 e1
      try simp only [Act.put, List.setIfInBounds_toArray, List.set_cons_zero, List.set_cons_succ]
      refine wpAnyH_done (by kernel_rfl) (noP_of ?_) _
      obtain ⟨W5, hW5, hW5b⟩ : ∃ W5, (W.drew.setCell ⟨g, 1, none⟩ (.slice A 0 0)) = W5 ∧ (W.setCell ⟨g, 1, none⟩ (.slice A 0 0)).drew = W5 := ⟨_, rfl, rfl⟩
      have FIN2 := FIN.out
      rw [hW5] at FIN2 SV5 GQ5
      rw [hW5b]
      have FIN := hidd FIN2
      clear hW5 hW5b FIN2 hHb y0 y2 gc
      obtain ⟨⟨A9, c9, h9, _, _, hgl5⟩⟩ : Nonempty (∃ A c, Value.slice A2 k c2 = .slice A (L.take k).length c ∧ (L.take k).length ≤ c ∧ c ≤ maxLen ∧ Lie sendV 2 W5 W5.heap.size A (L.take k)) := ⟨GQ5.out.lie⟩
      injection h9 with h91 h92 h93
      subst h91
      have cS := hidd (sum_any A2 (L.take k) c2 (by have := H4.out.len; omega) (fun x hx => by have := H4.out.sz x (List.mem_of_mem_take hx); have := rightB_iff H4.out.rt; omega) (by have := HNN.out; have := HSM.out; omega) W5.drew hgl5)
      rw [← h92] at cS
      obtain ⟨g25, e25⟩ := FIN.out.1
      have KC : Hid (∀ Y, Below W5.heap.size W5.drew Y → (Y.cell? ⟨w.heap.size, 0, none⟩ = some (.pointer (some ⟨h, 0, none⟩)) ∧ Y.cell? ⟨h, 0, none⟩ = some (.pointer (some ⟨g, 0, none⟩)) ∧ Y.cell? ⟨G, 0, none⟩ = some (.slice A2 k c2)) ∧ Y.cell? ⟨g, 2, none⟩ = some (.int .i64 (sumB L)) ∧ Y.frozen? ⟨g, 2, none⟩ = false) := hidd (fun Y hb => ⟨⟨(hb.cell (p := ⟨w.heap.size, 0, none⟩) (World.block_lt_of_cell? W5 _ SV5.out.1)).trans SV5.out.1, (hb.cell (p := ⟨h, 0, none⟩) (World.block_lt_of_cell? W5 _ SV5.out.2.1)).trans SV5.out.2.1, (hb.cell (p := ⟨G, 0, none⟩) (World.block_lt_of_cell? W5 _ SV5.out.2.2)).trans SV5.out.2.2⟩, (hb.cell (p := ⟨g, 2, none⟩) (World.block_lt_of_cell? W5 _ g25)).trans g25, (hb.frozen (p := ⟨g, 2, none⟩) (World.block_lt_of_cell? W5 _ g25)).trans e25⟩)
      have KD : Hid (∀ Y, Below W5.drew.heap.size W5.drew Y → ((Y.setCell ⟨g, 2, none⟩ (.int .i64 (sumB L - sumB (L.take k)))).cell? ⟨w.heap.size, 0, none⟩ = some (.pointer (some ⟨h, 0, none⟩)) ∧ (Y.setCell ⟨g, 2, none⟩ (.int .i64 (sumB L - sumB (L.take k)))).cell? ⟨h, 0, none⟩ = some (.pointer (some ⟨g, 0, none⟩)) ∧ (Y.setCell ⟨g, 2, none⟩ (.int .i64 (sumB L - sumB (L.take k)))).cell? ⟨G, 0, none⟩ = some (.slice A2 k c2))) := hidd (fun Y hb => by
        obtain ⟨⟨a0, a1, a2⟩, _, _⟩ := KC.out Y hb
        exact ⟨cell_set_far (show w.heap.size ≠ g by omega) a0, cell_set_far H4.out.hg a1, cell_set_far (show G ≠ g by omega) a2⟩)
      clear hgl5 h92 h93
      go_wp2_with fail
      refine wp_noP ?_
      refine wp_region_held_drew (S := (fun Y => Y.cell? ⟨w.heap.size, 0, none⟩ = some (.pointer (some ⟨h, 0, none⟩)) ∧ Y.cell? ⟨h, 0, none⟩ = some (.pointer (some ⟨g, 0, none⟩)) ∧ Y.cell? ⟨G, 0, none⟩ = some (.slice A2 k c2))) (by kernel_rfl) (SV5.out) (fun hH => ?_)
      refine wpAnyH_take (i := 0) (v := ?vxd00_1) (by (conv => lhs; simp only [List.getElem?_toArray, List.getElem?_cons_succ, List.getElem?_cons_zero])) (by kernel_rfl) (by kernel_rfl) (by kernel_rfl) ?hQ (Or.inl ⟨by rfl, ?hyxd00_1⟩) hH ?restxd00_1
      case hQ => exact fun _ _ _ h => h
      case hyxd00_1 => (intro Y hY; obtain ⟨y0, y1, y2⟩ := hY; go_simp; try (with_reducible rfl))
      try simp only [Act.put, List.setIfInBounds_toArray, List.set_cons_zero, List.set_cons_succ]
      refine wpAnyH_take (i := 1) (v := ?vxd01_2) (by (conv => lhs; simp only [List.getElem?_toArray, List.getElem?_cons_succ, List.getElem?_cons_zero])) (by kernel_rfl) (by kernel_rfl) (by kernel_rfl) ?hQ (Or.inl ⟨by rfl, ?hyxd01_2⟩) hH ?restxd01_2
      case hQ => exact fun _ _ _ h => h
      case hyxd01_2 => (intro Y hY; obtain ⟨y0, y1, y2⟩ := hY; go_simp; try (with_reducible rfl))
      try simp only [Act.put, List.setIfInBounds_toArray, List.set_cons_zero, List.set_cons_succ]
      refine wpAnyH_take (i := 2) (v := ?vxd02_3) (by (conv => lhs; simp only [List.getElem?_toArray, List.getElem?_cons_succ, List.getElem?_cons_zero])) (by kernel_rfl) (by kernel_rfl) (by kernel_rfl) ?hQ (Or.inl ⟨by rfl, ?hyxd02_3⟩) hH ?restxd02_3
      case hQ => exact fun _ _ _ h => h
      case hyxd02_3 => (intro Y hY; obtain ⟨y0, y1, y2⟩ := hY; go_simp; try (with_reducible rfl))
      try simp only [Act.put, List.setIfInBounds_toArray, List.set_cons_zero, List.set_cons_succ]
      refine wpAnyH_take (i := 3) (v := ?vxd03_4) (by (conv => lhs; simp only [List.getElem?_toArray, List.getElem?_cons_succ, List.getElem?_cons_zero])) (by kernel_rfl) (by kernel_rfl) (by kernel_rfl) ?hQ (Or.inl ⟨by rfl, ?hyxd03_4⟩) hH ?restxd03_4
      case hQ => exact fun _ _ _ h => h
      case hyxd03_4 => (intro Y hY; obtain ⟨y0, y1, y2⟩ := hY; go_simp; try (with_reducible rfl))
      try simp only [Act.put, List.setIfInBounds_toArray, List.set_cons_zero, List.set_cons_succ]
      refine wpAnyH_take (i := 4) (v := ?vxd04_5) (by (conv => lhs; simp only [List.getElem?_toArray, List.getElem?_cons_succ, List.getElem?_cons_zero])) (by kernel_rfl) (by kernel_rfl) (by kernel_rfl) ?hQ (Or.inl ⟨by rfl, ?hyxd04_5⟩) hH ?restxd04_5
      case hQ => exact fun _ _ _ h => h
      case hyxd04_5 => (intro Y hY; obtain ⟨y0, y1, y2⟩ := hY; go_simp; try (with_reducible rfl))
      try simp only [Act.put, List.setIfInBounds_toArray, List.set_cons_zero, List.set_cons_succ]
      refine wpAnyH_take (i := 5) (v := ?vxd05_6) (by (conv => lhs; simp only [List.getElem?_toArray, List.getElem?_cons_succ, List.getElem?_cons_zero])) (by kernel_rfl) (by kernel_rfl) (by kernel_rfl) ?hQ (Or.inl ⟨by rfl, ?hyxd05_6⟩) hH ?restxd05_6
      case hQ => exact fun _ _ _ h => h
      case hyxd05_6 => (intro Y hY; obtain ⟨y0, y1, y2⟩ := hY; go_simp; try (with_reducible rfl))
      try simp only [Act.put, List.setIfInBounds_toArray, List.set_cons_zero, List.set_cons_succ]
      refine wpAnyH_take (i := 7) (v := ?vxd07_7) (by (conv => lhs; simp only [List.getElem?_toArray, List.getElem?_cons_succ, List.getElem?_cons_zero])) (by kernel_rfl) (by kernel_rfl) (by kernel_rfl) ?hQ (Or.inl ⟨by rfl, ?hyxd07_7⟩) hH ?restxd07_7
      case hQ => exact fun _ _ _ h => h
      case hyxd07_7 => (intro Y hY; obtain ⟨y0, y1, y2⟩ := hY; go_simp; try (with_reducible rfl))
      try simp only [Act.put, List.setIfInBounds_toArray, List.set_cons_zero, List.set_cons_succ]
      have u2 : W5.drew.cell? ⟨g, 2, none⟩ = some (.int .i64 (sumB L)) := g25
      refine wpAnyH_ready (rs := [6, 8]) (by kernel_rfl) (by simp) ?_
      refine AllReadyH.cons (by (conv => lhs; simp only [List.getElem?_toArray, List.getElem?_cons_succ, List.getElem?_cons_zero])) (fun K hK => ?_) (AllReadyH.cons (by (conv => lhs; simp only [List.getElem?_toArray, List.getElem?_cons_succ, List.getElem?_cons_zero])) (fun K hK => ?_) AllReadyH.nil)
      · go_simp
        refine hK.out _ _ hH (fun hHa => ?_)
        clear hK hH
        try simp only [Act.put, List.setIfInBounds_toArray, List.set_cons_zero, List.set_cons_succ]
        refine wpAnyH_ready (rs := [8]) (by kernel_rfl) (by simp) ?_
        refine AllReadyH.cons (by (conv => lhs; simp only [List.getElem?_toArray, List.getElem?_cons_succ, List.getElem?_cons_zero])) (fun K hK => ?_) AllReadyH.nil
        go_simp
        go_at_call 36; refine cS.out.mono ?_; rintro e w6 ⟨rfl, hb6⟩
        refine hK.out _ _ (KC.out _ hb6).1 (fun hHb => ?_)
        clear hK hHa u2
        try simp only [Act.put, List.setIfInBounds_toArray, List.set_cons_zero, List.set_cons_succ]
        obtain ⟨-, u4, u5⟩ := KC.out _ hb6
        refine wpAnyH_take (i := 9) (v := ?vyd0a9_1) (by (conv => lhs; simp only [List.getElem?_toArray, List.getElem?_cons_succ, List.getElem?_cons_zero])) (by kernel_rfl) (by kernel_rfl) (by kernel_rfl) ?hQ (Or.inl ⟨by rfl, ?hyyd0a9_1⟩) hHb ?restyd0a9_1
        case hQ => exact fun _ _ _ h => h
        case hyyd0a9_1 => (intro Y hY; obtain ⟨y0, y1, y2⟩ := hY; go_simp; try (with_reducible rfl))
        try simp only [Act.put, List.setIfInBounds_toArray, List.set_cons_zero, List.set_cons_succ]
        refine wpAnyH_take (i := 10) (v := ?vyd0a10_2) (by (conv => lhs; simp only [List.getElem?_toArray, List.getElem?_cons_succ, List.getElem?_cons_zero])) (by kernel_rfl) (by kernel_rfl) (by kernel_rfl) ?hQ (Or.inl ⟨by rfl, ?hyyd0a10_2⟩) hHb ?restyd0a10_2
        case hQ => exact fun _ _ _ h => h
        case hyyd0a10_2 => (intro Y hY; obtain ⟨y0, y1, y2⟩ := hY; go_simp; try (with_reducible rfl))
        try simp only [Act.put, List.setIfInBounds_toArray, List.set_cons_zero, List.set_cons_succ]
        refine wpAnyH_take (i := 11) (v := ?vyd0a11_3) (by (conv => lhs; simp only [List.getElem?_toArray, List.getElem?_cons_succ, List.getElem?_cons_zero])) (by kernel_rfl) (by kernel_rfl) (by kernel_rfl) ?hQ (Or.inl ⟨by rfl, ?hyyd0a11_3⟩) hHb ?restyd0a11_3
        case hQ => exact fun _ _ _ h => h
        case hyyd0a11_3 => (intro Y hY; obtain ⟨y0, y1, y2⟩ := hY; go_simp; try (with_reducible rfl))
        try simp only [Act.put, List.setIfInBounds_toArray, List.set_cons_zero, List.set_cons_succ]
        refine wpAnyH_ready (rs := [12]) (by kernel_rfl) (by simp) ?_
        refine AllReadyH.cons (by (conv => lhs; simp only [List.getElem?_toArray, List.getElem?_cons_succ, List.getElem?_cons_zero])) (fun K hK => ?_) AllReadyH.nil
        go_simp
        refine hK.out _ _ (KD.out _ hb6) (fun hHd => ?_)
        clear hK hHb u4 u5
        try simp only [Act.put, List.setIfInBounds_toArray, List.set_cons_zero, List.set_cons_succ]
        refine wpAnyH_done (by kernel_rfl) (noP_of ?_) _
        obtain ⟨k1, k2, k3, k4⟩ := FIN.out.2 w6 ((Below.drew (Below.refl _ _)).trans hb6)
        have kG := hHd.2.2
        have kD := (k4 W4.heap.size (Array.getElem?_eq_some_iff.1 HDK.out).1 (by omega)).trans HDK.out
        obtain ⟨W7, hW7⟩ : ∃ W7, w6.setCell ⟨g, 2, none⟩ (.int .i64 (sumB L - sumB (L.take k))) = W7 := ⟨_, rfl⟩
        rw [hW7] at k1 k2 k3 kG kD
        rw [hW7]
        have K1 := hidd k1
        have K2 := hidd k2
        have K3 := hidd k3
        have KDD := hidd kD
        clear hW7 k1 k2 k3 k4 kD hHd hb6 KC KD cS FIN SV5 GQ5 HNN HSM ew g25 e25
        go_wp2_with fail
        (try rw [Exit.noGoto_ret])
        refine ⟨by simp, .inl ⟨_, _, rfl, run_takeDeferred KDD.out, ?_⟩⟩
        refine ⟨.tuple #[.slice A2 k c2, .int .i64 0], by simp [results, Try.results16, go_sem], ?_⟩
        refine HENDQ.out _ (W7.putObj W4.heap.size (.deferred none)) ⟨k, _, A2, c2, _, rfl, HG.out, K1.out.keep (by simp [World.putObj]) (fun j hj => by refine World.putObj_heap_other ?_; have h9 := HLT.out j hj; omega), HOW.out, K2.out.keep (fun q e => by refine World.putObj_heap_other ?_; have h9 := HGO.out q e; omega) (by simp [World.putObj]), fun q e => by have h8 := HGO.out q e; have h9 := HS4.out.size; omega, ?_⟩
        exact (HS4.out.trans K3.out (fun j hj q => q.elim id (fun e => by omega))).trans (Sav.putObj _) (fun j hj q => by have h9 := HS4.out.size; omega)
      · go_simp
        go_at_call 36; refine cS.out.mono ?_; rintro e w6 ⟨rfl, hb6⟩
        refine hK.out _ _ (KC.out _ hb6).1 (fun hHb => ?_)
        clear hK hH u2
        try simp only [Act.put, List.setIfInBounds_toArray, List.set_cons_zero, List.set_cons_succ]
        obtain ⟨-, u4, u5⟩ := KC.out _ hb6
        refine wpAnyH_ready (rs := [6]) (by kernel_rfl) (by simp) ?_
        refine AllReadyH.cons (by (conv => lhs; simp only [List.getElem?_toArray, List.getElem?_cons_succ, List.getElem?_cons_zero])) (fun K hK => ?_) AllReadyH.nil
        go_simp
        refine hK.out _ _ hHb (fun hHc => ?_)
        clear hK hHb
        try simp only [Act.put, List.setIfInBounds_toArray, List.set_cons_zero, List.set_cons_succ]
        refine wpAnyH_take (i := 9) (v := ?vyd0b9_1) (by (conv => lhs; simp only [List.getElem?_toArray, List.getElem?_cons_succ, List.getElem?_cons_zero])) (by kernel_rfl) (by kernel_rfl) (by kernel_rfl) ?hQ (Or.inl ⟨by rfl, ?hyyd0b9_1⟩) hHc ?restyd0b9_1
        case hQ => exact fun _ _ _ h => h
        case hyyd0b9_1 => (intro Y hY; obtain ⟨y0, y1, y2⟩ := hY; go_simp; try (with_reducible rfl))
        try simp only [Act.put, List.setIfInBounds_toArray, List.set_cons_zero, List.set_cons_succ]
        refine wpAnyH_take (i := 10) (v := ?vyd0b10_2) (by (conv => lhs; simp only [List.getElem?_toArray, List.getElem?_cons_succ, List.getElem?_cons_zero])) (by kernel_rfl) (by kernel_rfl) (by kernel_rfl) ?hQ (Or.inl ⟨by rfl, ?hyyd0b10_2⟩) hHc ?restyd0b10_2
        case hQ => exact fun _ _ _ h => h
        case hyyd0b10_2 => (intro Y hY; obtain ⟨y0, y1, y2⟩ := hY; go_simp; try (with_reducible rfl))
        try simp only [Act.put, List.setIfInBounds_toArray, List.set_cons_zero, List.set_cons_succ]
        refine wpAnyH_take (i := 11) (v := ?vyd0b11_3) (by (conv => lhs; simp only [List.getElem?_toArray, List.getElem?_cons_succ, List.getElem?_cons_zero])) (by kernel_rfl) (by kernel_rfl) (by kernel_rfl) ?hQ (Or.inl ⟨by rfl, ?hyyd0b11_3⟩) hHc ?restyd0b11_3
        case hQ => exact fun _ _ _ h => h
        case hyyd0b11_3 => (intro Y hY; obtain ⟨y0, y1, y2⟩ := hY; go_simp; try (with_reducible rfl))
        try simp only [Act.put, List.setIfInBounds_toArray, List.set_cons_zero, List.set_cons_succ]
        refine wpAnyH_ready (rs := [12]) (by kernel_rfl) (by simp) ?_
        refine AllReadyH.cons (by (conv => lhs; simp only [List.getElem?_toArray, List.getElem?_cons_succ, List.getElem?_cons_zero])) (fun K hK => ?_) AllReadyH.nil
        go_simp
        refine hK.out _ _ (KD.out _ hb6) (fun hHd => ?_)
        clear hK hHc u4 u5
        try simp only [Act.put, List.setIfInBounds_toArray, List.set_cons_zero, List.set_cons_succ]
        refine wpAnyH_done (by kernel_rfl) (noP_of ?_) _
        obtain ⟨k1, k2, k3, k4⟩ := FIN.out.2 w6 ((Below.drew (Below.refl _ _)).trans hb6)
        have kG := hHd.2.2
        have kD := (k4 W4.heap.size (Array.getElem?_eq_some_iff.1 HDK.out).1 (by omega)).trans HDK.out
        obtain ⟨W7, hW7⟩ : ∃ W7, w6.setCell ⟨g, 2, none⟩ (.int .i64 (sumB L - sumB (L.take k))) = W7 := ⟨_, rfl⟩
        rw [hW7] at k1 k2 k3 kG kD
        rw [hW7]
        have K1 := hidd k1
        have K2 := hidd k2
        have K3 := hidd k3
        have KDD := hidd kD
        clear hW7 k1 k2 k3 k4 kD hHd hb6 KC KD cS FIN SV5 GQ5 HNN HSM ew g25 e25
        go_wp2_with fail
        (try rw [Exit.noGoto_ret])
        refine ⟨by simp, .inl ⟨_, _, rfl, run_takeDeferred KDD.out, ?_⟩⟩
        refine ⟨.tuple #[.slice A2 k c2, .int .i64 0], by simp [results, Try.results16, go_sem], ?_⟩
        refine HENDQ.out _ (W7.putObj W4.heap.size (.deferred none)) ⟨k, _, A2, c2, _, rfl, HG.out, K1.out.keep (by simp [World.putObj]) (fun j hj => by refine World.putObj_heap_other ?_; have h9 := HLT.out j hj; omega), HOW.out, K2.out.keep (fun q e => by refine World.putObj_heap_other ?_; have h9 := HGO.out q e; omega) (by simp [World.putObj]), fun q e => by have h8 := HGO.out q e; have h9 := HS4.out.size; omega, ?_⟩
        exact (HS4.out.trans K3.out (fun j hj q => q.elim id (fun e => by omega))).trans (Sav.putObj _) (fun j hj q => by have h9 := HS4.out.size; omega)
    · obtain ⟨ga, oa, rfl⟩ : ∃ ga oa, A = some ⟨ga, oa, none⟩ := by
        rcases H4.out.q with ⟨h0, A9, e9, _⟩ | ⟨g9, o9, c9, e9, _⟩
        · injection e9 with e91 e92 e93; exact absurd (show c = k by omega) hck
        · injection e9 with e91 e92 e93; exact ⟨_, _, e91⟩
      have HV2 : Hid (QL W4 (.slice (some ⟨ga, oa + k * 2, none⟩) 0 (c - k)) (L.drop k)) := hidd (by
        have q := HCUT.out
        rw [if_neg hck] at q
        rw [show L.length - k = 0 by omega] at q
        exact q)
      have HOW : Hid ((Value.slice (some ⟨ga, oa + k * 2, none⟩) 0 (c - k) : Value).ownBlock = (Value.slice (some ⟨ga, oa, none⟩) L.length c).ownBlock) := hidd (by first | rfl | (cases A <;> rfl))
      have HLT : Hid (∀ j, ShBlk h g b (.slice (some ⟨ga, oa + k * 2, none⟩) 0 (c - k)) j → j < W4.heap.size) := hidd (fun j hj => H4.out.lt (by unfold ShBlk at hj ⊢; rw [HOW.out] at hj; exact hj))
      have FIN := hidd (go_fin (v2 := .slice (some ⟨ga, oa + k * 2, none⟩) 0 (c - k)) H4.out (by omega) nG HI.out hk0 HV2.out (by first | rfl | (cases A <;> rfl)) HGQ.out HGO.out)
      have SV5 : Hid ((W.drew.setCell ⟨g, 1, none⟩ (.slice (some ⟨ga, oa + k * 2, none⟩) 0 (c - k))).cell? ⟨w.heap.size, 0, none⟩ = some (.pointer (some ⟨h, 0, none⟩)) ∧ (W.drew.setCell ⟨g, 1, none⟩ (.slice (some ⟨ga, oa + k * 2, none⟩) 0 (c - k))).cell? ⟨h, 0, none⟩ = some (.pointer (some ⟨g, 0, none⟩)) ∧ (W.drew.setCell ⟨g, 1, none⟩ (.slice (some ⟨ga, oa + k * 2, none⟩) 0 (c - k))).cell? ⟨G, 0, none⟩ = some (.slice A2 k c2)) := hidd ⟨cell_set_far (show w.heap.size ≠ g by omega) y0, cell_set_far H4.out.hg y2, cell_set_far (show G ≠ g by omega) gc⟩
      have GQ5 := hidd (HGQ.out.keep (w' := (W.drew.setCell ⟨g, 1, none⟩ (.slice (some ⟨ga, oa + k * 2, none⟩) 0 (c - k)))) (fun q e => Below.heap_setCell W.drew ⟨g, 1, none⟩ _ _ (fun e2 => by have h1 := HGO.out q e; have h2 : q = g := e2; omega)) (by show W.drew.heap.size ≤ _; simp [World.setCell]))
      have HNN := hidd (sumB_le (L := L) (fun x hx => by have := H4.out.sz x hx; have := rightB_iff H4.out.rt; omega) k)
      have HSM : Hid (sumB L ≤ 1000000000) := hidd (by have := H4.out.sm; have := H4.out.r1; omega)
      have ew : IntKind.i64.wrap (sumB L - sumB (L.take k)) = sumB L - sumB (L.take k) := IntWalk.i64_in _ (by have := HNN.out; have := HSM.out; omega)
      go_wp2_with fail
      refine wp_noP ?_
      refine wp_region_held_drew (S := (fun Y => Y.cell? ⟨w.heap.size, 0, none⟩ = some (.pointer (some ⟨h, 0, none⟩)) ∧ Y.cell? ⟨h, 0, none⟩ = some (.pointer (some ⟨g, 0, none⟩)) ∧ Y.cell? ⟨G, 0, none⟩ = some (.slice A2 k c2))) (by kernel_rfl) (⟨y0, y2, gc⟩) (fun hH => ?_)
      refine wpAnyH_take (i := 0) (v := ?vtd10_1) (by (conv => lhs; simp only [List.getElem?_toArray, List.getElem?_cons_succ, List.getElem?_cons_zero])) (by kernel_rfl) (by kernel_rfl) (by kernel_rfl) ?hQ (Or.inl ⟨by rfl, ?hytd10_1⟩) hH ?resttd10_1
      case hQ => exact fun _ _ _ h => h
      case hytd10_1 => (intro Y hY; obtain ⟨y0, y1, y2⟩ := hY; go_simp; try (with_reducible rfl))
      try simp only [Act.put, List.setIfInBounds_toArray, List.set_cons_zero, List.set_cons_succ]
      refine wpAnyH_take (i := 1) (v := ?vtd11_2) (by (conv => lhs; simp only [List.getElem?_toArray, List.getElem?_cons_succ, List.getElem?_cons_zero])) (by kernel_rfl) (by kernel_rfl) (by kernel_rfl) ?hQ (Or.inl ⟨by rfl, ?hytd11_2⟩) hH ?resttd11_2
      case hQ => exact fun _ _ _ h => h
      case hytd11_2 => (intro Y hY; obtain ⟨y0, y1, y2⟩ := hY; go_simp; try (with_reducible rfl))
      try simp only [Act.put, List.setIfInBounds_toArray, List.set_cons_zero, List.set_cons_succ]
      refine wpAnyH_take (i := 2) (v := ?vtd12_3) (by (conv => lhs; simp only [List.getElem?_toArray, List.getElem?_cons_succ, List.getElem?_cons_zero])) (by kernel_rfl) (by kernel_rfl) (by kernel_rfl) ?hQ (Or.inl ⟨by rfl, ?hytd12_3⟩) hH ?resttd12_3
      case hQ => exact fun _ _ _ h => h
      case hytd12_3 => (intro Y hY; obtain ⟨y0, y1, y2⟩ := hY; go_simp; try (with_reducible rfl))
      try simp only [Act.put, List.setIfInBounds_toArray, List.set_cons_zero, List.set_cons_succ]
      refine wpAnyH_take (i := 3) (v := ?vtd13_4) (by (conv => lhs; simp only [List.getElem?_toArray, List.getElem?_cons_succ, List.getElem?_cons_zero])) (by kernel_rfl) (by kernel_rfl) (by kernel_rfl) ?hQ (Or.inl ⟨by rfl, ?hytd13_4⟩) hH ?resttd13_4
      case hQ => exact fun _ _ _ h => h
      case hytd13_4 => (intro Y hY; obtain ⟨y0, y1, y2⟩ := hY; go_simp; try (with_reducible rfl))
      try simp only [Act.put, List.setIfInBounds_toArray, List.set_cons_zero, List.set_cons_succ]
      refine wpAnyH_take (i := 4) (v := ?vtd14_5) (by (conv => lhs; simp only [List.getElem?_toArray, List.getElem?_cons_succ, List.getElem?_cons_zero])) (by kernel_rfl) (by kernel_rfl) (by kernel_rfl) ?hQ (Or.inl ⟨by rfl, ?hytd14_5⟩) hH ?resttd14_5
      case hQ => exact fun _ _ _ h => h
      case hytd14_5 => (intro Y hY; obtain ⟨y0, y1, y2⟩ := hY; go_simp; try (with_reducible rfl))
      try simp only [Act.put, List.setIfInBounds_toArray, List.set_cons_zero, List.set_cons_succ]
      refine wpAnyH_take (i := 5) (v := ?vtd15_6) (by (conv => lhs; simp only [List.getElem?_toArray, List.getElem?_cons_succ, List.getElem?_cons_zero])) (by kernel_rfl) (by kernel_rfl) (by kernel_rfl) ?hQ (Or.inl ⟨by rfl, ?hytd15_6⟩) hH ?resttd15_6
      case hQ => exact fun _ _ _ h => h
      case hytd15_6 => (intro Y hY; obtain ⟨y0, y1, y2⟩ := hY; go_simp; try (with_reducible rfl))
      try simp only [Act.put, List.setIfInBounds_toArray, List.set_cons_zero, List.set_cons_succ]
      refine wpAnyH_take (i := 6) (v := ?vtd16_7) (by (conv => lhs; simp only [List.getElem?_toArray, List.getElem?_cons_succ, List.getElem?_cons_zero])) (by kernel_rfl) (by kernel_rfl) (by kernel_rfl) ?hQ (Or.inl ⟨by rfl, ?hytd16_7⟩) hH ?resttd16_7
      case hQ => exact fun _ _ _ h => h
      case hytd16_7 => (intro Y hY; obtain ⟨y0, y1, y2⟩ := hY; go_simp; try (with_reducible rfl))
      try simp only [Act.put, List.setIfInBounds_toArray, List.set_cons_zero, List.set_cons_succ]
      refine wpAnyH_take (i := 7) (v := ?vtd17_8) (by (conv => lhs; simp only [List.getElem?_toArray, List.getElem?_cons_succ, List.getElem?_cons_zero])) (by kernel_rfl) (by kernel_rfl) (by kernel_rfl) ?hQ (Or.inl ⟨by rfl, ?hytd17_8⟩) hH ?resttd17_8
      case hQ => exact fun _ _ _ h => h
      case hytd17_8 => (intro Y hY; obtain ⟨y0, y1, y2⟩ := hY; go_simp; try (with_reducible rfl))
      try simp only [Act.put, List.setIfInBounds_toArray, List.set_cons_zero, List.set_cons_succ]
      refine wpAnyH_take (i := 8) (v := ?vtd18_9) (by (conv => lhs; simp only [List.getElem?_toArray, List.getElem?_cons_succ, List.getElem?_cons_zero])) (by kernel_rfl) (by kernel_rfl) (by kernel_rfl) ?hQ (Or.inl ⟨by rfl, ?hytd18_9⟩) hH ?resttd18_9
      case hQ => exact fun _ _ _ h => h
      case hytd18_9 => (intro Y hY; obtain ⟨y0, y1, y2⟩ := hY; go_simp; try (with_reducible rfl))
      try simp only [Act.put, List.setIfInBounds_toArray, List.set_cons_zero, List.set_cons_succ]
      refine wpAnyH_take (i := 9) (v := ?vtd19_10) (by (conv => lhs; simp only [List.getElem?_toArray, List.getElem?_cons_succ, List.getElem?_cons_zero])) (by kernel_rfl) (by kernel_rfl) (by kernel_rfl) ?hQ (Or.inl ⟨by rfl, ?hytd19_10⟩) hH ?resttd19_10
      case hQ => exact fun _ _ _ h => h
      case hytd19_10 => (intro Y hY; obtain ⟨y0, y1, y2⟩ := hY; go_simp; try (with_reducible rfl))
      try simp only [Act.put, List.setIfInBounds_toArray, List.set_cons_zero, List.set_cons_succ]
      refine wpAnyH_take (i := 11) (v := ?vtd111_11) (by (conv => lhs; simp only [List.getElem?_toArray, List.getElem?_cons_succ, List.getElem?_cons_zero])) (by kernel_rfl) (by kernel_rfl) (by kernel_rfl) ?hQ (Or.inl ⟨by rfl, ?hytd111_11⟩) hH ?resttd111_11
      case hQ => exact fun _ _ _ h => h
      case hytd111_11 => (intro Y hY; obtain ⟨y0, y1, y2⟩ := hY; go_simp; try (with_reducible rfl))
      try simp only [Act.put, List.setIfInBounds_toArray, List.set_cons_zero, List.set_cons_succ]
      refine wpAnyH_take (i := 12) (v := ?vtd112_12) (by (conv => lhs; simp only [List.getElem?_toArray, List.getElem?_cons_succ, List.getElem?_cons_zero])) (by kernel_rfl) (by kernel_rfl) (by kernel_rfl) ?hQ (Or.inl ⟨by rfl, ?hytd112_12⟩) hH ?resttd112_12
      case hQ => exact fun _ _ _ h => h
      case hytd112_12 => (intro Y hY; obtain ⟨y0, y1, y2⟩ := hY; go_simp; try (with_reducible rfl))
      try simp only [Act.put, List.setIfInBounds_toArray, List.set_cons_zero, List.set_cons_succ]
      have u1 : W.drew.cell? ⟨g, 1, none⟩ = some (.slice (some ⟨ga, oa, none⟩) L.length c) := g1
      have u3 : W.drew.frozen? ⟨g, 1, none⟩ = false := e1
      refine wpAnyH_ready (rs := [10]) (by kernel_rfl) (by simp) ?_
      refine AllReadyH.cons (by (conv => lhs; simp only [List.getElem?_toArray, List.getElem?_cons_succ, List.getElem?_cons_zero])) (fun K hK => ?_) AllReadyH.nil
      go_simp
      refine hK.out _ _ hH (fun hHa => ?_)
      clear hK hH
      try simp only [Act.put, List.setIfInBounds_toArray, List.set_cons_zero, List.set_cons_succ]
      refine wpAnyH_take (i := 13) (v := ?vtd113_13) (by (conv => lhs; simp only [List.getElem?_toArray, List.getElem?_cons_succ, List.getElem?_cons_zero])) (by kernel_rfl) (by kernel_rfl) (by kernel_rfl) ?hQ (Or.inl ⟨by rfl, ?hytd113_13⟩) hHa ?resttd113_13
      case hQ => exact fun _ _ _ h => h
      case hytd113_13 => (intro Y hY; obtain ⟨y0, y1, y2⟩ := hY; go_simp; try (with_reducible rfl))
      try simp only [Act.put, List.setIfInBounds_toArray, List.set_cons_zero, List.set_cons_succ]
      refine wpAnyH_take (i := 14) (v := ?vtd114_14) (by (conv => lhs; simp only [List.getElem?_toArray, List.getElem?_cons_succ, List.getElem?_cons_zero])) (by kernel_rfl) (by kernel_rfl) (by kernel_rfl) ?hQ (Or.inl ⟨by rfl, ?hytd114_14⟩) hHa ?resttd114_14
      case hQ => exact fun _ _ _ h => h
      case hytd114_14 => (intro Y hY; obtain ⟨y0, y1, y2⟩ := hY; go_simp; try (with_reducible rfl))
      try simp only [Act.put, List.setIfInBounds_toArray, List.set_cons_zero, List.set_cons_succ]
      refine wpAnyH_take (i := 15) (v := ?vtd115_15) (by (conv => lhs; simp only [List.getElem?_toArray, List.getElem?_cons_succ, List.getElem?_cons_zero])) (by kernel_rfl) (by kernel_rfl) (by kernel_rfl) ?hQ (Or.inl ⟨by rfl, ?hytd115_15⟩) hHa ?resttd115_15
      case hQ => exact fun _ _ _ h => h
      case hytd115_15 => (intro Y hY; obtain ⟨y0, y1, y2⟩ := hY; go_simp; try (with_reducible rfl))
      try simp only [Act.put, List.setIfInBounds_toArray, List.set_cons_zero, List.set_cons_succ]
      refine wpAnyH_ready (rs := [16]) (by kernel_rfl) (by simp) ?_
      refine AllReadyH.cons (by (conv => lhs; simp only [List.getElem?_toArray, List.getElem?_cons_succ, List.getElem?_cons_zero])) (fun K hK => ?_) AllReadyH.nil
      go_simp
      refine hK.out _ _ SV5.out (fun hHb => ?_)
      clear hK hHa u1 u3 g1 e1
      try simp only [Act.put, List.setIfInBounds_toArray, List.set_cons_zero, List.set_cons_succ]
      refine wpAnyH_done (by kernel_rfl) (noP_of ?_) _
      obtain ⟨W5, hW5, hW5b⟩ : ∃ W5, (W.drew.setCell ⟨g, 1, none⟩ (.slice (some ⟨ga, oa + k * 2, none⟩) 0 (c - k))) = W5 ∧ (W.setCell ⟨g, 1, none⟩ (.slice (some ⟨ga, oa + k * 2, none⟩) 0 (c - k))).drew = W5 := ⟨_, rfl, rfl⟩
      have FIN2 := FIN.out
      rw [hW5] at FIN2 SV5 GQ5
      rw [hW5b]
      have FIN := hidd FIN2
      clear hW5 hW5b FIN2 hHb y0 y2 gc
      obtain ⟨⟨A9, c9, h9, _, _, hgl5⟩⟩ : Nonempty (∃ A c, Value.slice A2 k c2 = .slice A (L.take k).length c ∧ (L.take k).length ≤ c ∧ c ≤ maxLen ∧ Lie sendV 2 W5 W5.heap.size A (L.take k)) := ⟨GQ5.out.lie⟩
      injection h9 with h91 h92 h93
      subst h91
      have cS := hidd (sum_any A2 (L.take k) c2 (by have := H4.out.len; omega) (fun x hx => by have := H4.out.sz x (List.mem_of_mem_take hx); have := rightB_iff H4.out.rt; omega) (by have := HNN.out; have := HSM.out; omega) W5.drew hgl5)
      rw [← h92] at cS
      obtain ⟨g25, e25⟩ := FIN.out.1
      have KC : Hid (∀ Y, Below W5.heap.size W5.drew Y → (Y.cell? ⟨w.heap.size, 0, none⟩ = some (.pointer (some ⟨h, 0, none⟩)) ∧ Y.cell? ⟨h, 0, none⟩ = some (.pointer (some ⟨g, 0, none⟩)) ∧ Y.cell? ⟨G, 0, none⟩ = some (.slice A2 k c2)) ∧ Y.cell? ⟨g, 2, none⟩ = some (.int .i64 (sumB L)) ∧ Y.frozen? ⟨g, 2, none⟩ = false) := hidd (fun Y hb => ⟨⟨(hb.cell (p := ⟨w.heap.size, 0, none⟩) (World.block_lt_of_cell? W5 _ SV5.out.1)).trans SV5.out.1, (hb.cell (p := ⟨h, 0, none⟩) (World.block_lt_of_cell? W5 _ SV5.out.2.1)).trans SV5.out.2.1, (hb.cell (p := ⟨G, 0, none⟩) (World.block_lt_of_cell? W5 _ SV5.out.2.2)).trans SV5.out.2.2⟩, (hb.cell (p := ⟨g, 2, none⟩) (World.block_lt_of_cell? W5 _ g25)).trans g25, (hb.frozen (p := ⟨g, 2, none⟩) (World.block_lt_of_cell? W5 _ g25)).trans e25⟩)
      have KD : Hid (∀ Y, Below W5.drew.heap.size W5.drew Y → ((Y.setCell ⟨g, 2, none⟩ (.int .i64 (sumB L - sumB (L.take k)))).cell? ⟨w.heap.size, 0, none⟩ = some (.pointer (some ⟨h, 0, none⟩)) ∧ (Y.setCell ⟨g, 2, none⟩ (.int .i64 (sumB L - sumB (L.take k)))).cell? ⟨h, 0, none⟩ = some (.pointer (some ⟨g, 0, none⟩)) ∧ (Y.setCell ⟨g, 2, none⟩ (.int .i64 (sumB L - sumB (L.take k)))).cell? ⟨G, 0, none⟩ = some (.slice A2 k c2))) := hidd (fun Y hb => by
        obtain ⟨⟨a0, a1, a2⟩, _, _⟩ := KC.out Y hb
        exact ⟨cell_set_far (show w.heap.size ≠ g by omega) a0, cell_set_far H4.out.hg a1, cell_set_far (show G ≠ g by omega) a2⟩)
      clear hgl5 h92 h93
      go_wp2_with fail
      refine wp_noP ?_
      refine wp_region_held_drew (S := (fun Y => Y.cell? ⟨w.heap.size, 0, none⟩ = some (.pointer (some ⟨h, 0, none⟩)) ∧ Y.cell? ⟨h, 0, none⟩ = some (.pointer (some ⟨g, 0, none⟩)) ∧ Y.cell? ⟨G, 0, none⟩ = some (.slice A2 k c2))) (by kernel_rfl) (SV5.out) (fun hH => ?_)
      refine wpAnyH_take (i := 0) (v := ?vxd10_1) (by (conv => lhs; simp only [List.getElem?_toArray, List.getElem?_cons_succ, List.getElem?_cons_zero])) (by kernel_rfl) (by kernel_rfl) (by kernel_rfl) ?hQ (Or.inl ⟨by rfl, ?hyxd10_1⟩) hH ?restxd10_1
      case hQ => exact fun _ _ _ h => h
      case hyxd10_1 => (intro Y hY; obtain ⟨y0, y1, y2⟩ := hY; go_simp; try (with_reducible rfl))
      try simp only [Act.put, List.setIfInBounds_toArray, List.set_cons_zero, List.set_cons_succ]
      refine wpAnyH_take (i := 1) (v := ?vxd11_2) (by (conv => lhs; simp only [List.getElem?_toArray, List.getElem?_cons_succ, List.getElem?_cons_zero])) (by kernel_rfl) (by kernel_rfl) (by kernel_rfl) ?hQ (Or.inl ⟨by rfl, ?hyxd11_2⟩) hH ?restxd11_2
      case hQ => exact fun _ _ _ h => h
      case hyxd11_2 => (intro Y hY; obtain ⟨y0, y1, y2⟩ := hY; go_simp; try (with_reducible rfl))
      try simp only [Act.put, List.setIfInBounds_toArray, List.set_cons_zero, List.set_cons_succ]
      refine wpAnyH_take (i := 2) (v := ?vxd12_3) (by (conv => lhs; simp only [List.getElem?_toArray, List.getElem?_cons_succ, List.getElem?_cons_zero])) (by kernel_rfl) (by kernel_rfl) (by kernel_rfl) ?hQ (Or.inl ⟨by rfl, ?hyxd12_3⟩) hH ?restxd12_3
      case hQ => exact fun _ _ _ h => h
      case hyxd12_3 => (intro Y hY; obtain ⟨y0, y1, y2⟩ := hY; go_simp; try (with_reducible rfl))
      try simp only [Act.put, List.setIfInBounds_toArray, List.set_cons_zero, List.set_cons_succ]
      refine wpAnyH_take (i := 3) (v := ?vxd13_4) (by (conv => lhs; simp only [List.getElem?_toArray, List.getElem?_cons_succ, List.getElem?_cons_zero])) (by kernel_rfl) (by kernel_rfl) (by kernel_rfl) ?hQ (Or.inl ⟨by rfl, ?hyxd13_4⟩) hH ?restxd13_4
      case hQ => exact fun _ _ _ h => h
      case hyxd13_4 => (intro Y hY; obtain ⟨y0, y1, y2⟩ := hY; go_simp; try (with_reducible rfl))
      try simp only [Act.put, List.setIfInBounds_toArray, List.set_cons_zero, List.set_cons_succ]
      refine wpAnyH_take (i := 4) (v := ?vxd14_5) (by (conv => lhs; simp only [List.getElem?_toArray, List.getElem?_cons_succ, List.getElem?_cons_zero])) (by kernel_rfl) (by kernel_rfl) (by kernel_rfl) ?hQ (Or.inl ⟨by rfl, ?hyxd14_5⟩) hH ?restxd14_5
      case hQ => exact fun _ _ _ h => h
      case hyxd14_5 => (intro Y hY; obtain ⟨y0, y1, y2⟩ := hY; go_simp; try (with_reducible rfl))
      try simp only [Act.put, List.setIfInBounds_toArray, List.set_cons_zero, List.set_cons_succ]
      refine wpAnyH_take (i := 5) (v := ?vxd15_6) (by (conv => lhs; simp only [List.getElem?_toArray, List.getElem?_cons_succ, List.getElem?_cons_zero])) (by kernel_rfl) (by kernel_rfl) (by kernel_rfl) ?hQ (Or.inl ⟨by rfl, ?hyxd15_6⟩) hH ?restxd15_6
      case hQ => exact fun _ _ _ h => h
      case hyxd15_6 => (intro Y hY; obtain ⟨y0, y1, y2⟩ := hY; go_simp; try (with_reducible rfl))
      try simp only [Act.put, List.setIfInBounds_toArray, List.set_cons_zero, List.set_cons_succ]
      refine wpAnyH_take (i := 7) (v := ?vxd17_7) (by (conv => lhs; simp only [List.getElem?_toArray, List.getElem?_cons_succ, List.getElem?_cons_zero])) (by kernel_rfl) (by kernel_rfl) (by kernel_rfl) ?hQ (Or.inl ⟨by rfl, ?hyxd17_7⟩) hH ?restxd17_7
      case hQ => exact fun _ _ _ h => h
      case hyxd17_7 => (intro Y hY; obtain ⟨y0, y1, y2⟩ := hY; go_simp; try (with_reducible rfl))
      try simp only [Act.put, List.setIfInBounds_toArray, List.set_cons_zero, List.set_cons_succ]
      have u2 : W5.drew.cell? ⟨g, 2, none⟩ = some (.int .i64 (sumB L)) := g25
      refine wpAnyH_ready (rs := [6, 8]) (by kernel_rfl) (by simp) ?_
      refine AllReadyH.cons (by (conv => lhs; simp only [List.getElem?_toArray, List.getElem?_cons_succ, List.getElem?_cons_zero])) (fun K hK => ?_) (AllReadyH.cons (by (conv => lhs; simp only [List.getElem?_toArray, List.getElem?_cons_succ, List.getElem?_cons_zero])) (fun K hK => ?_) AllReadyH.nil)
      · go_simp
        refine hK.out _ _ hH (fun hHa => ?_)
        clear hK hH
        try simp only [Act.put, List.setIfInBounds_toArray, List.set_cons_zero, List.set_cons_succ]
        refine wpAnyH_ready (rs := [8]) (by kernel_rfl) (by simp) ?_
        refine AllReadyH.cons (by (conv => lhs; simp only [List.getElem?_toArray, List.getElem?_cons_succ, List.getElem?_cons_zero])) (fun K hK => ?_) AllReadyH.nil
        go_simp
        go_at_call 36; refine cS.out.mono ?_; rintro e w6 ⟨rfl, hb6⟩
        refine hK.out _ _ (KC.out _ hb6).1 (fun hHb => ?_)
        clear hK hHa u2
        try simp only [Act.put, List.setIfInBounds_toArray, List.set_cons_zero, List.set_cons_succ]
        obtain ⟨-, u4, u5⟩ := KC.out _ hb6
        refine wpAnyH_take (i := 9) (v := ?vyd1a9_1) (by (conv => lhs; simp only [List.getElem?_toArray, List.getElem?_cons_succ, List.getElem?_cons_zero])) (by kernel_rfl) (by kernel_rfl) (by kernel_rfl) ?hQ (Or.inl ⟨by rfl, ?hyyd1a9_1⟩) hHb ?restyd1a9_1
        case hQ => exact fun _ _ _ h => h
        case hyyd1a9_1 => (intro Y hY; obtain ⟨y0, y1, y2⟩ := hY; go_simp; try (with_reducible rfl))
        try simp only [Act.put, List.setIfInBounds_toArray, List.set_cons_zero, List.set_cons_succ]
        refine wpAnyH_take (i := 10) (v := ?vyd1a10_2) (by (conv => lhs; simp only [List.getElem?_toArray, List.getElem?_cons_succ, List.getElem?_cons_zero])) (by kernel_rfl) (by kernel_rfl) (by kernel_rfl) ?hQ (Or.inl ⟨by rfl, ?hyyd1a10_2⟩) hHb ?restyd1a10_2
        case hQ => exact fun _ _ _ h => h
        case hyyd1a10_2 => (intro Y hY; obtain ⟨y0, y1, y2⟩ := hY; go_simp; try (with_reducible rfl))
        try simp only [Act.put, List.setIfInBounds_toArray, List.set_cons_zero, List.set_cons_succ]
        refine wpAnyH_take (i := 11) (v := ?vyd1a11_3) (by (conv => lhs; simp only [List.getElem?_toArray, List.getElem?_cons_succ, List.getElem?_cons_zero])) (by kernel_rfl) (by kernel_rfl) (by kernel_rfl) ?hQ (Or.inl ⟨by rfl, ?hyyd1a11_3⟩) hHb ?restyd1a11_3
        case hQ => exact fun _ _ _ h => h
        case hyyd1a11_3 => (intro Y hY; obtain ⟨y0, y1, y2⟩ := hY; go_simp; try (with_reducible rfl))
        try simp only [Act.put, List.setIfInBounds_toArray, List.set_cons_zero, List.set_cons_succ]
        refine wpAnyH_ready (rs := [12]) (by kernel_rfl) (by simp) ?_
        refine AllReadyH.cons (by (conv => lhs; simp only [List.getElem?_toArray, List.getElem?_cons_succ, List.getElem?_cons_zero])) (fun K hK => ?_) AllReadyH.nil
        go_simp
        refine hK.out _ _ (KD.out _ hb6) (fun hHd => ?_)
        clear hK hHb u4 u5
        try simp only [Act.put, List.setIfInBounds_toArray, List.set_cons_zero, List.set_cons_succ]
        refine wpAnyH_done (by kernel_rfl) (noP_of ?_) _
        obtain ⟨k1, k2, k3, k4⟩ := FIN.out.2 w6 ((Below.drew (Below.refl _ _)).trans hb6)
        have kG := hHd.2.2
        have kD := (k4 W4.heap.size (Array.getElem?_eq_some_iff.1 HDK.out).1 (by omega)).trans HDK.out
        obtain ⟨W7, hW7⟩ : ∃ W7, w6.setCell ⟨g, 2, none⟩ (.int .i64 (sumB L - sumB (L.take k))) = W7 := ⟨_, rfl⟩
        rw [hW7] at k1 k2 k3 kG kD
        rw [hW7]
        have K1 := hidd k1
        have K2 := hidd k2
        have K3 := hidd k3
        have KDD := hidd kD
        clear hW7 k1 k2 k3 k4 kD hHd hb6 KC KD cS FIN SV5 GQ5 HNN HSM ew g25 e25
        go_wp2_with fail
        (try rw [Exit.noGoto_ret])
        refine ⟨by simp, .inl ⟨_, _, rfl, run_takeDeferred KDD.out, ?_⟩⟩
        refine ⟨.tuple #[.slice A2 k c2, .int .i64 0], by simp [results, Try.results16, go_sem], ?_⟩
        refine HENDQ.out _ (W7.putObj W4.heap.size (.deferred none)) ⟨k, _, A2, c2, _, rfl, HG.out, K1.out.keep (by simp [World.putObj]) (fun j hj => by refine World.putObj_heap_other ?_; have h9 := HLT.out j hj; omega), HOW.out, K2.out.keep (fun q e => by refine World.putObj_heap_other ?_; have h9 := HGO.out q e; omega) (by simp [World.putObj]), fun q e => by have h8 := HGO.out q e; have h9 := HS4.out.size; omega, ?_⟩
        exact (HS4.out.trans K3.out (fun j hj q => q.elim id (fun e => by omega))).trans (Sav.putObj _) (fun j hj q => by have h9 := HS4.out.size; omega)
      · go_simp
        go_at_call 36; refine cS.out.mono ?_; rintro e w6 ⟨rfl, hb6⟩
        refine hK.out _ _ (KC.out _ hb6).1 (fun hHb => ?_)
        clear hK hH u2
        try simp only [Act.put, List.setIfInBounds_toArray, List.set_cons_zero, List.set_cons_succ]
        obtain ⟨-, u4, u5⟩ := KC.out _ hb6
        refine wpAnyH_ready (rs := [6]) (by kernel_rfl) (by simp) ?_
        refine AllReadyH.cons (by (conv => lhs; simp only [List.getElem?_toArray, List.getElem?_cons_succ, List.getElem?_cons_zero])) (fun K hK => ?_) AllReadyH.nil
        go_simp
        refine hK.out _ _ hHb (fun hHc => ?_)
        clear hK hHb
        try simp only [Act.put, List.setIfInBounds_toArray, List.set_cons_zero, List.set_cons_succ]
        refine wpAnyH_take (i := 9) (v := ?vyd1b9_1) (by (conv => lhs; simp only [List.getElem?_toArray, List.getElem?_cons_succ, List.getElem?_cons_zero])) (by kernel_rfl) (by kernel_rfl) (by kernel_rfl) ?hQ (Or.inl ⟨by rfl, ?hyyd1b9_1⟩) hHc ?restyd1b9_1
        case hQ => exact fun _ _ _ h => h
        case hyyd1b9_1 => (intro Y hY; obtain ⟨y0, y1, y2⟩ := hY; go_simp; try (with_reducible rfl))
        try simp only [Act.put, List.setIfInBounds_toArray, List.set_cons_zero, List.set_cons_succ]
        refine wpAnyH_take (i := 10) (v := ?vyd1b10_2) (by (conv => lhs; simp only [List.getElem?_toArray, List.getElem?_cons_succ, List.getElem?_cons_zero])) (by kernel_rfl) (by kernel_rfl) (by kernel_rfl) ?hQ (Or.inl ⟨by rfl, ?hyyd1b10_2⟩) hHc ?restyd1b10_2
        case hQ => exact fun _ _ _ h => h
        case hyyd1b10_2 => (intro Y hY; obtain ⟨y0, y1, y2⟩ := hY; go_simp; try (with_reducible rfl))
        try simp only [Act.put, List.setIfInBounds_toArray, List.set_cons_zero, List.set_cons_succ]
        refine wpAnyH_take (i := 11) (v := ?vyd1b11_3) (by (conv => lhs; simp only [List.getElem?_toArray, List.getElem?_cons_succ, List.getElem?_cons_zero])) (by kernel_rfl) (by kernel_rfl) (by kernel_rfl) ?hQ (Or.inl ⟨by rfl, ?hyyd1b11_3⟩) hHc ?restyd1b11_3
        case hQ => exact fun _ _ _ h => h
        case hyyd1b11_3 => (intro Y hY; obtain ⟨y0, y1, y2⟩ := hY; go_simp; try (with_reducible rfl))
        try simp only [Act.put, List.setIfInBounds_toArray, List.set_cons_zero, List.set_cons_succ]
        refine wpAnyH_ready (rs := [12]) (by kernel_rfl) (by simp) ?_
        refine AllReadyH.cons (by (conv => lhs; simp only [List.getElem?_toArray, List.getElem?_cons_succ, List.getElem?_cons_zero])) (fun K hK => ?_) AllReadyH.nil
        go_simp
        refine hK.out _ _ (KD.out _ hb6) (fun hHd => ?_)
        clear hK hHc u4 u5
        try simp only [Act.put, List.setIfInBounds_toArray, List.set_cons_zero, List.set_cons_succ]
        refine wpAnyH_done (by kernel_rfl) (noP_of ?_) _
        obtain ⟨k1, k2, k3, k4⟩ := FIN.out.2 w6 ((Below.drew (Below.refl _ _)).trans hb6)
        have kG := hHd.2.2
        have kD := (k4 W4.heap.size (Array.getElem?_eq_some_iff.1 HDK.out).1 (by omega)).trans HDK.out
        obtain ⟨W7, hW7⟩ : ∃ W7, w6.setCell ⟨g, 2, none⟩ (.int .i64 (sumB L - sumB (L.take k))) = W7 := ⟨_, rfl⟩
        rw [hW7] at k1 k2 k3 kG kD
        rw [hW7]
        have K1 := hidd k1
        have K2 := hidd k2
        have K3 := hidd k3
        have KDD := hidd kD
        clear hW7 k1 k2 k3 k4 kD hHd hb6 KC KD cS FIN SV5 GQ5 HNN HSM ew g25 e25
        go_wp2_with fail
        (try rw [Exit.noGoto_ret])
        refine ⟨by simp, .inl ⟨_, _, rfl, run_takeDeferred KDD.out, ?_⟩⟩
        refine ⟨.tuple #[.slice A2 k c2, .int .i64 0], by simp [results, Try.results16, go_sem], ?_⟩
        refine HENDQ.out _ (W7.putObj W4.heap.size (.deferred none)) ⟨k, _, A2, c2, _, rfl, HG.out, K1.out.keep (by simp [World.putObj]) (fun j hj => by refine World.putObj_heap_other ?_; have h9 := HLT.out j hj; omega), HOW.out, K2.out.keep (fun q e => by refine World.putObj_heap_other ?_; have h9 := HGO.out q e; omega) (by simp [World.putObj]), fun q e => by have h8 := HGO.out q e; have h9 := HS4.out.size; omega, ?_⟩
        exact (HS4.out.trans K3.out (fun j hj q => q.elim id (fun e => by omega))).trans (Sav.putObj _) (fun j hj q => by have h9 := HS4.out.size; omega)
  case stop =>
    rintro D c' k W hD hk ⟨rfl, hI, hs⟩ hK
    subst hD
    gi_wp2_with fail
    have hgoes : BM.Goes p r u m l s1 n L k (BM.atK p r u m l s1 n L k) := ⟨by omega, rfl, hI.all, hs⟩
    have hbw := HH.out.blt
    have hhw := HH.out.hlt
    have hgw := HH.out.glt
    have hQ4 := QC.out.2
    have hGQ := ZG.out
    have hWs := hI.sv.size
    have sk : ∀ j o, j < W4.heap.size → j ≠ b → j ≠ G → W.cell? ⟨j, o, none⟩ = W4.cell? ⟨j, o, none⟩ := fun j o h1 h2 h3 => hI.sv.cell (p := ⟨j, o, none⟩) h1 (fun e => by rcases e with e | e; exact h2 e; exact h3 e)
    have nG : ¬ ShBlk h g b (.slice A L.length c) G := fun e => by have := HH.out.lt e; omega
    have y0 : W.cell? ⟨w.heap.size, 0, none⟩ = some (.pointer (some ⟨h, 0, none⟩)) := (sk _ 0 (by omega) (by omega) (by omega)).trans q0.out
    have y2 : W.cell? ⟨h, 0, none⟩ = some (.pointer (some ⟨g, 0, none⟩)) := (sk _ 0 (by omega) H4.out.hb (by omega)).trans H4.out.h0
    have g1 : W.cell? ⟨g, 1, none⟩ = some (.slice A L.length c) := (sk _ 1 (by omega) H4.out.gb (by omega)).trans H4.out.g1
    have e1 : W.frozen? ⟨g, 1, none⟩ = false := (hI.sv.block g (by omega) (fun e => by rcases e with e | e; exact H4.out.gb e; omega) |> fun q => (World.frozen?_of_block (a := ⟨g, 1, none⟩) q)).trans H4.out.e1
    obtain ⟨gv, gc, gf, gq, go⟩ := hI.gv
    obtain ⟨A2, c2, hgv, hl2, hm2, hgl⟩ := gq.lie
    have hkl : (L.take k).length = k := by rw [List.length_take]; have := hgoes.le; omega
    rw [hkl] at hgv hl2
    subst hgv
    have hk0 := hgoes.le
    have HG := hidd hgoes
    have HGQ := hidd gq
    have HGO := hidd go
    have HGL := hidd hgl
    have HDK := hidd hK
    have HCUT := hidd (H4.out.q.cut hk0)
    have HI := hidd hI
    have HLC : Hid (L.length ≤ c ∧ c ≤ maxLen) := hidd ⟨hlc, hcm⟩
    have z1 : (k : Int) ≤ (L.length : Int) := by omega
    have z2 : (L.length : Int) ≤ (c : Int) := by omega
    have z3 : (0 : Int) ≤ (k : Int) := by omega
    clear hI hgoes gq go hgl hkl hK sk
    by_cases hck : c = k
    · have hlk : L.length = k := by omega
      have HV2 : Hid (QL W4 (.slice A 0 0) (L.drop k)) := hidd (by
        have q := HCUT.out
        rw [if_pos hck, show L.length - k = 0 by omega, show c - k = 0 by omega] at q
        exact q)
      have HOW : Hid ((Value.slice A 0 0 : Value).ownBlock = (Value.slice A L.length c).ownBlock) := hidd (by first | rfl | (cases A <;> rfl))
      have HLT : Hid (∀ j, ShBlk h g b (.slice A 0 0) j → j < W4.heap.size) := hidd (fun j hj => H4.out.lt (by unfold ShBlk at hj ⊢; rw [HOW.out] at hj; exact hj))
      have FIN := hidd (go_fin (v2 := .slice A 0 0) H4.out (by omega) nG HI.out hk0 HV2.out (by first | rfl | (cases A <;> rfl)) HGQ.out HGO.out)
      have SV5 : Hid ((W.drew.setCell ⟨g, 1, none⟩ (.slice A 0 0)).cell? ⟨w.heap.size, 0, none⟩ = some (.pointer (some ⟨h, 0, none⟩)) ∧ (W.drew.setCell ⟨g, 1, none⟩ (.slice A 0 0)).cell? ⟨h, 0, none⟩ = some (.pointer (some ⟨g, 0, none⟩)) ∧ (W.drew.setCell ⟨g, 1, none⟩ (.slice A 0 0)).cell? ⟨G, 0, none⟩ = some (.slice A2 k c2)) := hidd ⟨cell_set_far (show w.heap.size ≠ g by omega) y0, cell_set_far H4.out.hg y2, cell_set_far (show G ≠ g by omega) gc⟩
      have GQ5 := hidd (HGQ.out.keep (w' := (W.drew.setCell ⟨g, 1, none⟩ (.slice A 0 0))) (fun q e => Below.heap_setCell W.drew ⟨g, 1, none⟩ _ _ (fun e2 => by have h1 := HGO.out q e; have h2 : q = g := e2; omega)) (by show W.drew.heap.size ≤ _; simp [World.setCell]))
      have HNN := hidd (sumB_le (L := L) (fun x hx => by have := H4.out.sz x hx; have := rightB_iff H4.out.rt; omega) k)
      have HSM : Hid (sumB L ≤ 1000000000) := hidd (by have := H4.out.sm; have := H4.out.r1; omega)
      have ew : IntKind.i64.wrap (sumB L - sumB (L.take k)) = sumB L - sumB (L.take k) := IntWalk.i64_in _ (by have := HNN.out; have := HSM.out; omega)
      go_wp2_with fail
      refine wp_noP ?_
      refine wp_region_held_drew (S := (fun Y => Y.cell? ⟨w.heap.size, 0, none⟩ = some (.pointer (some ⟨h, 0, none⟩)) ∧ Y.cell? ⟨h, 0, none⟩ = some (.pointer (some ⟨g, 0, none⟩)) ∧ Y.cell? ⟨G, 0, none⟩ = some (.slice A2 k c2))) (by kernel_rfl) (⟨y0, y2, gc⟩) (fun hH => ?_)
      refine wpAnyH_take (i := 0) (v := ?vts00_1) (by (conv => lhs; simp only [List.getElem?_toArray, List.getElem?_cons_succ, List.getElem?_cons_zero])) (by kernel_rfl) (by kernel_rfl) (by kernel_rfl) ?hQ (Or.inl ⟨by rfl, ?hyts00_1⟩) hH ?restts00_1
      case hQ => exact fun _ _ _ h => h
      case hyts00_1 => (intro Y hY; obtain ⟨y0, y1, y2⟩ := hY; go_simp; try (with_reducible rfl))
      try simp only [Act.put, List.setIfInBounds_toArray, List.set_cons_zero, List.set_cons_succ]
      refine wpAnyH_take (i := 1) (v := ?vts01_2) (by (conv => lhs; simp only [List.getElem?_toArray, List.getElem?_cons_succ, List.getElem?_cons_zero])) (by kernel_rfl) (by kernel_rfl) (by kernel_rfl) ?hQ (Or.inl ⟨by rfl, ?hyts01_2⟩) hH ?restts01_2
      case hQ => exact fun _ _ _ h => h
      case hyts01_2 => (intro Y hY; obtain ⟨y0, y1, y2⟩ := hY; go_simp; try (with_reducible rfl))
      try simp only [Act.put, List.setIfInBounds_toArray, List.set_cons_zero, List.set_cons_succ]
      refine wpAnyH_take (i := 2) (v := ?vts02_3) (by (conv => lhs; simp only [List.getElem?_toArray, List.getElem?_cons_succ, List.getElem?_cons_zero])) (by kernel_rfl) (by kernel_rfl) (by kernel_rfl) ?hQ (Or.inl ⟨by rfl, ?hyts02_3⟩) hH ?restts02_3
      case hQ => exact fun _ _ _ h => h
      case hyts02_3 => (intro Y hY; obtain ⟨y0, y1, y2⟩ := hY; go_simp; try (with_reducible rfl))
      try simp only [Act.put, List.setIfInBounds_toArray, List.set_cons_zero, List.set_cons_succ]
      refine wpAnyH_take (i := 3) (v := ?vts03_4) (by (conv => lhs; simp only [List.getElem?_toArray, List.getElem?_cons_succ, List.getElem?_cons_zero])) (by kernel_rfl) (by kernel_rfl) (by kernel_rfl) ?hQ (Or.inl ⟨by rfl, ?hyts03_4⟩) hH ?restts03_4
      case hQ => exact fun _ _ _ h => h
      case hyts03_4 => (intro Y hY; obtain ⟨y0, y1, y2⟩ := hY; go_simp; try (with_reducible rfl))
      try simp only [Act.put, List.setIfInBounds_toArray, List.set_cons_zero, List.set_cons_succ]
      refine wpAnyH_take (i := 4) (v := ?vts04_5) (by (conv => lhs; simp only [List.getElem?_toArray, List.getElem?_cons_succ, List.getElem?_cons_zero])) (by kernel_rfl) (by kernel_rfl) (by kernel_rfl) ?hQ (Or.inl ⟨by rfl, ?hyts04_5⟩) hH ?restts04_5
      case hQ => exact fun _ _ _ h => h
      case hyts04_5 => (intro Y hY; obtain ⟨y0, y1, y2⟩ := hY; go_simp; try (with_reducible rfl))
      try simp only [Act.put, List.setIfInBounds_toArray, List.set_cons_zero, List.set_cons_succ]
      refine wpAnyH_take (i := 5) (v := ?vts05_6) (by (conv => lhs; simp only [List.getElem?_toArray, List.getElem?_cons_succ, List.getElem?_cons_zero])) (by kernel_rfl) (by kernel_rfl) (by kernel_rfl) ?hQ (Or.inl ⟨by rfl, ?hyts05_6⟩) hH ?restts05_6
      case hQ => exact fun _ _ _ h => h
      case hyts05_6 => (intro Y hY; obtain ⟨y0, y1, y2⟩ := hY; go_simp; try (with_reducible rfl))
      try simp only [Act.put, List.setIfInBounds_toArray, List.set_cons_zero, List.set_cons_succ]
      refine wpAnyH_take (i := 6) (v := ?vts06_7) (by (conv => lhs; simp only [List.getElem?_toArray, List.getElem?_cons_succ, List.getElem?_cons_zero])) (by kernel_rfl) (by kernel_rfl) (by kernel_rfl) ?hQ (Or.inl ⟨by rfl, ?hyts06_7⟩) hH ?restts06_7
      case hQ => exact fun _ _ _ h => h
      case hyts06_7 => (intro Y hY; obtain ⟨y0, y1, y2⟩ := hY; go_simp; try (with_reducible rfl))
      try simp only [Act.put, List.setIfInBounds_toArray, List.set_cons_zero, List.set_cons_succ]
      refine wpAnyH_take (i := 7) (v := ?vts07_8) (by (conv => lhs; simp only [List.getElem?_toArray, List.getElem?_cons_succ, List.getElem?_cons_zero])) (by kernel_rfl) (by kernel_rfl) (by kernel_rfl) ?hQ (Or.inl ⟨by rfl, ?hyts07_8⟩) hH ?restts07_8
      case hQ => exact fun _ _ _ h => h
      case hyts07_8 => (intro Y hY; obtain ⟨y0, y1, y2⟩ := hY; go_simp; try (with_reducible rfl))
      try simp only [Act.put, List.setIfInBounds_toArray, List.set_cons_zero, List.set_cons_succ]
      refine wpAnyH_take (i := 8) (v := ?vts08_9) (by (conv => lhs; simp only [List.getElem?_toArray, List.getElem?_cons_succ, List.getElem?_cons_zero])) (by kernel_rfl) (by kernel_rfl) (by kernel_rfl) ?hQ (Or.inl ⟨by rfl, ?hyts08_9⟩) hH ?restts08_9
      case hQ => exact fun _ _ _ h => h
      case hyts08_9 => (intro Y hY; obtain ⟨y0, y1, y2⟩ := hY; go_simp; try (with_reducible rfl))
      try simp only [Act.put, List.setIfInBounds_toArray, List.set_cons_zero, List.set_cons_succ]
      refine wpAnyH_take (i := 9) (v := ?vts09_10) (by (conv => lhs; simp only [List.getElem?_toArray, List.getElem?_cons_succ, List.getElem?_cons_zero])) (by kernel_rfl) (by kernel_rfl) (by kernel_rfl) ?hQ (Or.inl ⟨by rfl, ?hyts09_10⟩) hH ?restts09_10
      case hQ => exact fun _ _ _ h => h
      case hyts09_10 => (intro Y hY; obtain ⟨y0, y1, y2⟩ := hY; go_simp; try (with_reducible rfl))
      try simp only [Act.put, List.setIfInBounds_toArray, List.set_cons_zero, List.set_cons_succ]
      refine wpAnyH_take (i := 11) (v := ?vts011_11) (by (conv => lhs; simp only [List.getElem?_toArray, List.getElem?_cons_succ, List.getElem?_cons_zero])) (by kernel_rfl) (by kernel_rfl) (by kernel_rfl) ?hQ (Or.inl ⟨by rfl, ?hyts011_11⟩) hH ?restts011_11
      case hQ => exact fun _ _ _ h => h
      case hyts011_11 => (intro Y hY; obtain ⟨y0, y1, y2⟩ := hY; go_simp; try (with_reducible rfl))
      try simp only [Act.put, List.setIfInBounds_toArray, List.set_cons_zero, List.set_cons_succ]
      refine wpAnyH_take (i := 12) (v := ?vts012_12) (by (conv => lhs; simp only [List.getElem?_toArray, List.getElem?_cons_succ, List.getElem?_cons_zero])) (by kernel_rfl) (by kernel_rfl) (by kernel_rfl) ?hQ (Or.inl ⟨by rfl, ?hyts012_12⟩) hH ?restts012_12
      case hQ => exact fun _ _ _ h => h
      case hyts012_12 => (intro Y hY; obtain ⟨y0, y1, y2⟩ := hY; go_simp; try (with_reducible rfl))
      try simp only [Act.put, List.setIfInBounds_toArray, List.set_cons_zero, List.set_cons_succ]
      have u1 : W.drew.cell? ⟨g, 1, none⟩ = some (.slice A L.length c) := g1
      have u3 : W.drew.frozen? ⟨g, 1, none⟩ = false := e1
      refine wpAnyH_ready (rs := [10]) (by kernel_rfl) (by simp) ?_
      refine AllReadyH.cons (by (conv => lhs; simp only [List.getElem?_toArray, List.getElem?_cons_succ, List.getElem?_cons_zero])) (fun K hK => ?_) AllReadyH.nil
      go_simp
      refine hK.out _ _ hH (fun hHa => ?_)
      clear hK hH
      try simp only [Act.put, List.setIfInBounds_toArray, List.set_cons_zero, List.set_cons_succ]
      refine wpAnyH_take (i := 13) (v := ?vts013_13) (by (conv => lhs; simp only [List.getElem?_toArray, List.getElem?_cons_succ, List.getElem?_cons_zero])) (by kernel_rfl) (by kernel_rfl) (by kernel_rfl) ?hQ (Or.inl ⟨by rfl, ?hyts013_13⟩) hHa ?restts013_13
      case hQ => exact fun _ _ _ h => h
      case hyts013_13 => (intro Y hY; obtain ⟨y0, y1, y2⟩ := hY; go_simp; try (with_reducible rfl))
      try simp only [Act.put, List.setIfInBounds_toArray, List.set_cons_zero, List.set_cons_succ]
      refine wpAnyH_take (i := 14) (v := ?vts014_14) (by (conv => lhs; simp only [List.getElem?_toArray, List.getElem?_cons_succ, List.getElem?_cons_zero])) (by kernel_rfl) (by kernel_rfl) (by kernel_rfl) ?hQ (Or.inl ⟨by rfl, ?hyts014_14⟩) hHa ?restts014_14
      case hQ => exact fun _ _ _ h => h
      case hyts014_14 => (intro Y hY; obtain ⟨y0, y1, y2⟩ := hY; go_simp; try (with_reducible rfl))
      try simp only [Act.put, List.setIfInBounds_toArray, List.set_cons_zero, List.set_cons_succ]
      refine wpAnyH_take (i := 15) (v := ?vts015_15) (by (conv => lhs; simp only [List.getElem?_toArray, List.getElem?_cons_succ, List.getElem?_cons_zero])) (by kernel_rfl) (by kernel_rfl) (by kernel_rfl) ?hQ (Or.inl ⟨by rfl, ?hyts015_15⟩) hHa ?restts015_15
      case hQ => exact fun _ _ _ h => h
      case hyts015_15 => (intro Y hY; obtain ⟨y0, y1, y2⟩ := hY; go_simp; try (with_reducible rfl))
      try simp only [Act.put, List.setIfInBounds_toArray, List.set_cons_zero, List.set_cons_succ]
      refine wpAnyH_ready (rs := [16]) (by kernel_rfl) (by simp) ?_
      refine AllReadyH.cons (by (conv => lhs; simp only [List.getElem?_toArray, List.getElem?_cons_succ, List.getElem?_cons_zero])) (fun K hK => ?_) AllReadyH.nil
      go_simp
      refine hK.out _ _ SV5.out (fun hHb => ?_)
      clear hK hHa u1 u3 g1 e1
      try simp only [Act.put, List.setIfInBounds_toArray, List.set_cons_zero, List.set_cons_succ]
      refine wpAnyH_done (by kernel_rfl) (noP_of ?_) _
      obtain ⟨W5, hW5, hW5b⟩ : ∃ W5, (W.drew.setCell ⟨g, 1, none⟩ (.slice A 0 0)) = W5 ∧ (W.setCell ⟨g, 1, none⟩ (.slice A 0 0)).drew = W5 := ⟨_, rfl, rfl⟩
      have FIN2 := FIN.out
      rw [hW5] at FIN2 SV5 GQ5
      rw [hW5b]
      have FIN := hidd FIN2
      clear hW5 hW5b FIN2 hHb y0 y2 gc
      obtain ⟨⟨A9, c9, h9, _, _, hgl5⟩⟩ : Nonempty (∃ A c, Value.slice A2 k c2 = .slice A (L.take k).length c ∧ (L.take k).length ≤ c ∧ c ≤ maxLen ∧ Lie sendV 2 W5 W5.heap.size A (L.take k)) := ⟨GQ5.out.lie⟩
      injection h9 with h91 h92 h93
      subst h91
      have cS := hidd (sum_any A2 (L.take k) c2 (by have := H4.out.len; omega) (fun x hx => by have := H4.out.sz x (List.mem_of_mem_take hx); have := rightB_iff H4.out.rt; omega) (by have := HNN.out; have := HSM.out; omega) W5.drew hgl5)
      rw [← h92] at cS
      obtain ⟨g25, e25⟩ := FIN.out.1
      have KC : Hid (∀ Y, Below W5.heap.size W5.drew Y → (Y.cell? ⟨w.heap.size, 0, none⟩ = some (.pointer (some ⟨h, 0, none⟩)) ∧ Y.cell? ⟨h, 0, none⟩ = some (.pointer (some ⟨g, 0, none⟩)) ∧ Y.cell? ⟨G, 0, none⟩ = some (.slice A2 k c2)) ∧ Y.cell? ⟨g, 2, none⟩ = some (.int .i64 (sumB L)) ∧ Y.frozen? ⟨g, 2, none⟩ = false) := hidd (fun Y hb => ⟨⟨(hb.cell (p := ⟨w.heap.size, 0, none⟩) (World.block_lt_of_cell? W5 _ SV5.out.1)).trans SV5.out.1, (hb.cell (p := ⟨h, 0, none⟩) (World.block_lt_of_cell? W5 _ SV5.out.2.1)).trans SV5.out.2.1, (hb.cell (p := ⟨G, 0, none⟩) (World.block_lt_of_cell? W5 _ SV5.out.2.2)).trans SV5.out.2.2⟩, (hb.cell (p := ⟨g, 2, none⟩) (World.block_lt_of_cell? W5 _ g25)).trans g25, (hb.frozen (p := ⟨g, 2, none⟩) (World.block_lt_of_cell? W5 _ g25)).trans e25⟩)
      have KD : Hid (∀ Y, Below W5.drew.heap.size W5.drew Y → ((Y.setCell ⟨g, 2, none⟩ (.int .i64 (sumB L - sumB (L.take k)))).cell? ⟨w.heap.size, 0, none⟩ = some (.pointer (some ⟨h, 0, none⟩)) ∧ (Y.setCell ⟨g, 2, none⟩ (.int .i64 (sumB L - sumB (L.take k)))).cell? ⟨h, 0, none⟩ = some (.pointer (some ⟨g, 0, none⟩)) ∧ (Y.setCell ⟨g, 2, none⟩ (.int .i64 (sumB L - sumB (L.take k)))).cell? ⟨G, 0, none⟩ = some (.slice A2 k c2))) := hidd (fun Y hb => by
        obtain ⟨⟨a0, a1, a2⟩, _, _⟩ := KC.out Y hb
        exact ⟨cell_set_far (show w.heap.size ≠ g by omega) a0, cell_set_far H4.out.hg a1, cell_set_far (show G ≠ g by omega) a2⟩)
      clear hgl5 h92 h93
      go_wp2_with fail
      refine wp_noP ?_
      refine wp_region_held_drew (S := (fun Y => Y.cell? ⟨w.heap.size, 0, none⟩ = some (.pointer (some ⟨h, 0, none⟩)) ∧ Y.cell? ⟨h, 0, none⟩ = some (.pointer (some ⟨g, 0, none⟩)) ∧ Y.cell? ⟨G, 0, none⟩ = some (.slice A2 k c2))) (by kernel_rfl) (SV5.out) (fun hH => ?_)
      refine wpAnyH_take (i := 0) (v := ?vxs00_1) (by (conv => lhs; simp only [List.getElem?_toArray, List.getElem?_cons_succ, List.getElem?_cons_zero])) (by kernel_rfl) (by kernel_rfl) (by kernel_rfl) ?hQ (Or.inl ⟨by rfl, ?hyxs00_1⟩) hH ?restxs00_1
      case hQ => exact fun _ _ _ h => h
      case hyxs00_1 => (intro Y hY; obtain ⟨y0, y1, y2⟩ := hY; go_simp; try (with_reducible rfl))
      try simp only [Act.put, List.setIfInBounds_toArray, List.set_cons_zero, List.set_cons_succ]
      refine wpAnyH_take (i := 1) (v := ?vxs01_2) (by (conv => lhs; simp only [List.getElem?_toArray, List.getElem?_cons_succ, List.getElem?_cons_zero])) (by kernel_rfl) (by kernel_rfl) (by kernel_rfl) ?hQ (Or.inl ⟨by rfl, ?hyxs01_2⟩) hH ?restxs01_2
      case hQ => exact fun _ _ _ h => h
      case hyxs01_2 => (intro Y hY; obtain ⟨y0, y1, y2⟩ := hY; go_simp; try (with_reducible rfl))
      try simp only [Act.put, List.setIfInBounds_toArray, List.set_cons_zero, List.set_cons_succ]
      refine wpAnyH_take (i := 2) (v := ?vxs02_3) (by (conv => lhs; simp only [List.getElem?_toArray, List.getElem?_cons_succ, List.getElem?_cons_zero])) (by kernel_rfl) (by kernel_rfl) (by kernel_rfl) ?hQ (Or.inl ⟨by rfl, ?hyxs02_3⟩) hH ?restxs02_3
      case hQ => exact fun _ _ _ h => h
      case hyxs02_3 => (intro Y hY; obtain ⟨y0, y1, y2⟩ := hY; go_simp; try (with_reducible rfl))
      try simp only [Act.put, List.setIfInBounds_toArray, List.set_cons_zero, List.set_cons_succ]
      refine wpAnyH_take (i := 3) (v := ?vxs03_4) (by (conv => lhs; simp only [List.getElem?_toArray, List.getElem?_cons_succ, List.getElem?_cons_zero])) (by kernel_rfl) (by kernel_rfl) (by kernel_rfl) ?hQ (Or.inl ⟨by rfl, ?hyxs03_4⟩) hH ?restxs03_4
      case hQ => exact fun _ _ _ h => h
      case hyxs03_4 => (intro Y hY; obtain ⟨y0, y1, y2⟩ := hY; go_simp; try (with_reducible rfl))
      try simp only [Act.put, List.setIfInBounds_toArray, List.set_cons_zero, List.set_cons_succ]
      refine wpAnyH_take (i := 4) (v := ?vxs04_5) (by (conv => lhs; simp only [List.getElem?_toArray, List.getElem?_cons_succ, List.getElem?_cons_zero])) (by kernel_rfl) (by kernel_rfl) (by kernel_rfl) ?hQ (Or.inl ⟨by rfl, ?hyxs04_5⟩) hH ?restxs04_5
      case hQ => exact fun _ _ _ h => h
      case hyxs04_5 => (intro Y hY; obtain ⟨y0, y1, y2⟩ := hY; go_simp; try (with_reducible rfl))
      try simp only [Act.put, List.setIfInBounds_toArray, List.set_cons_zero, List.set_cons_succ]
      refine wpAnyH_take (i := 5) (v := ?vxs05_6) (by (conv => lhs; simp only [List.getElem?_toArray, List.getElem?_cons_succ, List.getElem?_cons_zero])) (by kernel_rfl) (by kernel_rfl) (by kernel_rfl) ?hQ (Or.inl ⟨by rfl, ?hyxs05_6⟩) hH ?restxs05_6
      case hQ => exact fun _ _ _ h => h
      case hyxs05_6 => (intro Y hY; obtain ⟨y0, y1, y2⟩ := hY; go_simp; try (with_reducible rfl))
      try simp only [Act.put, List.setIfInBounds_toArray, List.set_cons_zero, List.set_cons_succ]
      refine wpAnyH_take (i := 7) (v := ?vxs07_7) (by (conv => lhs; simp only [List.getElem?_toArray, List.getElem?_cons_succ, List.getElem?_cons_zero])) (by kernel_rfl) (by kernel_rfl) (by kernel_rfl) ?hQ (Or.inl ⟨by rfl, ?hyxs07_7⟩) hH ?restxs07_7
      case hQ => exact fun _ _ _ h => h
      case hyxs07_7 => (intro Y hY; obtain ⟨y0, y1, y2⟩ := hY; go_simp; try (with_reducible rfl))
      try simp only [Act.put, List.setIfInBounds_toArray, List.set_cons_zero, List.set_cons_succ]
      have u2 : W5.drew.cell? ⟨g, 2, none⟩ = some (.int .i64 (sumB L)) := g25
      refine wpAnyH_ready (rs := [6, 8]) (by kernel_rfl) (by simp) ?_
      refine AllReadyH.cons (by (conv => lhs; simp only [List.getElem?_toArray, List.getElem?_cons_succ, List.getElem?_cons_zero])) (fun K hK => ?_) (AllReadyH.cons (by (conv => lhs; simp only [List.getElem?_toArray, List.getElem?_cons_succ, List.getElem?_cons_zero])) (fun K hK => ?_) AllReadyH.nil)
      · go_simp
        refine hK.out _ _ hH (fun hHa => ?_)
        clear hK hH
        try simp only [Act.put, List.setIfInBounds_toArray, List.set_cons_zero, List.set_cons_succ]
        refine wpAnyH_ready (rs := [8]) (by kernel_rfl) (by simp) ?_
        refine AllReadyH.cons (by (conv => lhs; simp only [List.getElem?_toArray, List.getElem?_cons_succ, List.getElem?_cons_zero])) (fun K hK => ?_) AllReadyH.nil
        go_simp
        go_at_call 36; refine cS.out.mono ?_; rintro e w6 ⟨rfl, hb6⟩
        refine hK.out _ _ (KC.out _ hb6).1 (fun hHb => ?_)
        clear hK hHa u2
        try simp only [Act.put, List.setIfInBounds_toArray, List.set_cons_zero, List.set_cons_succ]
        obtain ⟨-, u4, u5⟩ := KC.out _ hb6
        refine wpAnyH_take (i := 9) (v := ?vys0a9_1) (by (conv => lhs; simp only [List.getElem?_toArray, List.getElem?_cons_succ, List.getElem?_cons_zero])) (by kernel_rfl) (by kernel_rfl) (by kernel_rfl) ?hQ (Or.inl ⟨by rfl, ?hyys0a9_1⟩) hHb ?restys0a9_1
        case hQ => exact fun _ _ _ h => h
        case hyys0a9_1 => (intro Y hY; obtain ⟨y0, y1, y2⟩ := hY; go_simp; try (with_reducible rfl))
        try simp only [Act.put, List.setIfInBounds_toArray, List.set_cons_zero, List.set_cons_succ]
        refine wpAnyH_take (i := 10) (v := ?vys0a10_2) (by (conv => lhs; simp only [List.getElem?_toArray, List.getElem?_cons_succ, List.getElem?_cons_zero])) (by kernel_rfl) (by kernel_rfl) (by kernel_rfl) ?hQ (Or.inl ⟨by rfl, ?hyys0a10_2⟩) hHb ?restys0a10_2
        case hQ => exact fun _ _ _ h => h
        case hyys0a10_2 => (intro Y hY; obtain ⟨y0, y1, y2⟩ := hY; go_simp; try (with_reducible rfl))
        try simp only [Act.put, List.setIfInBounds_toArray, List.set_cons_zero, List.set_cons_succ]
        refine wpAnyH_take (i := 11) (v := ?vys0a11_3) (by (conv => lhs; simp only [List.getElem?_toArray, List.getElem?_cons_succ, List.getElem?_cons_zero])) (by kernel_rfl) (by kernel_rfl) (by kernel_rfl) ?hQ (Or.inl ⟨by rfl, ?hyys0a11_3⟩) hHb ?restys0a11_3
        case hQ => exact fun _ _ _ h => h
        case hyys0a11_3 => (intro Y hY; obtain ⟨y0, y1, y2⟩ := hY; go_simp; try (with_reducible rfl))
        try simp only [Act.put, List.setIfInBounds_toArray, List.set_cons_zero, List.set_cons_succ]
        refine wpAnyH_ready (rs := [12]) (by kernel_rfl) (by simp) ?_
        refine AllReadyH.cons (by (conv => lhs; simp only [List.getElem?_toArray, List.getElem?_cons_succ, List.getElem?_cons_zero])) (fun K hK => ?_) AllReadyH.nil
        go_simp
        refine hK.out _ _ (KD.out _ hb6) (fun hHd => ?_)
        clear hK hHb u4 u5
        try simp only [Act.put, List.setIfInBounds_toArray, List.set_cons_zero, List.set_cons_succ]
        refine wpAnyH_done (by kernel_rfl) (noP_of ?_) _
        obtain ⟨k1, k2, k3, k4⟩ := FIN.out.2 w6 ((Below.drew (Below.refl _ _)).trans hb6)
        have kG := hHd.2.2
        have kD := (k4 W4.heap.size (Array.getElem?_eq_some_iff.1 HDK.out).1 (by omega)).trans HDK.out
        obtain ⟨W7, hW7⟩ : ∃ W7, w6.setCell ⟨g, 2, none⟩ (.int .i64 (sumB L - sumB (L.take k))) = W7 := ⟨_, rfl⟩
        rw [hW7] at k1 k2 k3 kG kD
        rw [hW7]
        have K1 := hidd k1
        have K2 := hidd k2
        have K3 := hidd k3
        have KDD := hidd kD
        clear hW7 k1 k2 k3 k4 kD hHd hb6 KC KD cS FIN SV5 GQ5 HNN HSM ew g25 e25
        go_wp2_with fail
        (try rw [Exit.noGoto_ret])
        refine ⟨by simp, .inl ⟨_, _, rfl, run_takeDeferred KDD.out, ?_⟩⟩
        refine ⟨.tuple #[.slice A2 k c2, .int .i64 0], by simp [results, Try.results16, go_sem], ?_⟩
        refine HENDQ.out _ (W7.putObj W4.heap.size (.deferred none)) ⟨k, _, A2, c2, _, rfl, HG.out, K1.out.keep (by simp [World.putObj]) (fun j hj => by refine World.putObj_heap_other ?_; have h9 := HLT.out j hj; omega), HOW.out, K2.out.keep (fun q e => by refine World.putObj_heap_other ?_; have h9 := HGO.out q e; omega) (by simp [World.putObj]), fun q e => by have h8 := HGO.out q e; have h9 := HS4.out.size; omega, ?_⟩
        exact (HS4.out.trans K3.out (fun j hj q => q.elim id (fun e => by omega))).trans (Sav.putObj _) (fun j hj q => by have h9 := HS4.out.size; omega)
      · go_simp
        go_at_call 36; refine cS.out.mono ?_; rintro e w6 ⟨rfl, hb6⟩
        refine hK.out _ _ (KC.out _ hb6).1 (fun hHb => ?_)
        clear hK hH u2
        try simp only [Act.put, List.setIfInBounds_toArray, List.set_cons_zero, List.set_cons_succ]
        obtain ⟨-, u4, u5⟩ := KC.out _ hb6
        refine wpAnyH_ready (rs := [6]) (by kernel_rfl) (by simp) ?_
        refine AllReadyH.cons (by (conv => lhs; simp only [List.getElem?_toArray, List.getElem?_cons_succ, List.getElem?_cons_zero])) (fun K hK => ?_) AllReadyH.nil
        go_simp
        refine hK.out _ _ hHb (fun hHc => ?_)
        clear hK hHb
        try simp only [Act.put, List.setIfInBounds_toArray, List.set_cons_zero, List.set_cons_succ]
        refine wpAnyH_take (i := 9) (v := ?vys0b9_1) (by (conv => lhs; simp only [List.getElem?_toArray, List.getElem?_cons_succ, List.getElem?_cons_zero])) (by kernel_rfl) (by kernel_rfl) (by kernel_rfl) ?hQ (Or.inl ⟨by rfl, ?hyys0b9_1⟩) hHc ?restys0b9_1
        case hQ => exact fun _ _ _ h => h
        case hyys0b9_1 => (intro Y hY; obtain ⟨y0, y1, y2⟩ := hY; go_simp; try (with_reducible rfl))
        try simp only [Act.put, List.setIfInBounds_toArray, List.set_cons_zero, List.set_cons_succ]
        refine wpAnyH_take (i := 10) (v := ?vys0b10_2) (by (conv => lhs; simp only [List.getElem?_toArray, List.getElem?_cons_succ, List.getElem?_cons_zero])) (by kernel_rfl) (by kernel_rfl) (by kernel_rfl) ?hQ (Or.inl ⟨by rfl, ?hyys0b10_2⟩) hHc ?restys0b10_2
        case hQ => exact fun _ _ _ h => h
        case hyys0b10_2 => (intro Y hY; obtain ⟨y0, y1, y2⟩ := hY; go_simp; try (with_reducible rfl))
        try simp only [Act.put, List.setIfInBounds_toArray, List.set_cons_zero, List.set_cons_succ]
        refine wpAnyH_take (i := 11) (v := ?vys0b11_3) (by (conv => lhs; simp only [List.getElem?_toArray, List.getElem?_cons_succ, List.getElem?_cons_zero])) (by kernel_rfl) (by kernel_rfl) (by kernel_rfl) ?hQ (Or.inl ⟨by rfl, ?hyys0b11_3⟩) hHc ?restys0b11_3
        case hQ => exact fun _ _ _ h => h
        case hyys0b11_3 => (intro Y hY; obtain ⟨y0, y1, y2⟩ := hY; go_simp; try (with_reducible rfl))
        try simp only [Act.put, List.setIfInBounds_toArray, List.set_cons_zero, List.set_cons_succ]
        refine wpAnyH_ready (rs := [12]) (by kernel_rfl) (by simp) ?_
        refine AllReadyH.cons (by (conv => lhs; simp only [List.getElem?_toArray, List.getElem?_cons_succ, List.getElem?_cons_zero])) (fun K hK => ?_) AllReadyH.nil
        go_simp
        refine hK.out _ _ (KD.out _ hb6) (fun hHd => ?_)
        clear hK hHc u4 u5
        try simp only [Act.put, List.setIfInBounds_toArray, List.set_cons_zero, List.set_cons_succ]
        refine wpAnyH_done (by kernel_rfl) (noP_of ?_) _
        obtain ⟨k1, k2, k3, k4⟩ := FIN.out.2 w6 ((Below.drew (Below.refl _ _)).trans hb6)
        have kG := hHd.2.2
        have kD := (k4 W4.heap.size (Array.getElem?_eq_some_iff.1 HDK.out).1 (by omega)).trans HDK.out
        obtain ⟨W7, hW7⟩ : ∃ W7, w6.setCell ⟨g, 2, none⟩ (.int .i64 (sumB L - sumB (L.take k))) = W7 := ⟨_, rfl⟩
        rw [hW7] at k1 k2 k3 kG kD
        rw [hW7]
        have K1 := hidd k1
        have K2 := hidd k2
        have K3 := hidd k3
        have KDD := hidd kD
        clear hW7 k1 k2 k3 k4 kD hHd hb6 KC KD cS FIN SV5 GQ5 HNN HSM ew g25 e25
        go_wp2_with fail
        (try rw [Exit.noGoto_ret])
        refine ⟨by simp, .inl ⟨_, _, rfl, run_takeDeferred KDD.out, ?_⟩⟩
        refine ⟨.tuple #[.slice A2 k c2, .int .i64 0], by simp [results, Try.results16, go_sem], ?_⟩
        refine HENDQ.out _ (W7.putObj W4.heap.size (.deferred none)) ⟨k, _, A2, c2, _, rfl, HG.out, K1.out.keep (by simp [World.putObj]) (fun j hj => by refine World.putObj_heap_other ?_; have h9 := HLT.out j hj; omega), HOW.out, K2.out.keep (fun q e => by refine World.putObj_heap_other ?_; have h9 := HGO.out q e; omega) (by simp [World.putObj]), fun q e => by have h8 := HGO.out q e; have h9 := HS4.out.size; omega, ?_⟩
        exact (HS4.out.trans K3.out (fun j hj q => q.elim id (fun e => by omega))).trans (Sav.putObj _) (fun j hj q => by have h9 := HS4.out.size; omega)
    · obtain ⟨ga, oa, rfl⟩ : ∃ ga oa, A = some ⟨ga, oa, none⟩ := by
        rcases H4.out.q with ⟨h0, A9, e9, _⟩ | ⟨g9, o9, c9, e9, _⟩
        · injection e9 with e91 e92 e93; exact absurd (show c = k by omega) hck
        · injection e9 with e91 e92 e93; exact ⟨_, _, e91⟩
      have HV2 : Hid (QL W4 (.slice (some ⟨ga, oa + k * 2, none⟩) (L.length - k) (c - k)) (L.drop k)) := hidd (by
        have q := HCUT.out
        rw [if_neg hck] at q
        exact q)
      have HOW : Hid ((Value.slice (some ⟨ga, oa + k * 2, none⟩) (L.length - k) (c - k) : Value).ownBlock = (Value.slice (some ⟨ga, oa, none⟩) L.length c).ownBlock) := hidd (by first | rfl | (cases A <;> rfl))
      have HLT : Hid (∀ j, ShBlk h g b (.slice (some ⟨ga, oa + k * 2, none⟩) (L.length - k) (c - k)) j → j < W4.heap.size) := hidd (fun j hj => H4.out.lt (by unfold ShBlk at hj ⊢; rw [HOW.out] at hj; exact hj))
      have FIN := hidd (go_fin (v2 := .slice (some ⟨ga, oa + k * 2, none⟩) (L.length - k) (c - k)) H4.out (by omega) nG HI.out hk0 HV2.out (by first | rfl | (cases A <;> rfl)) HGQ.out HGO.out)
      have SV5 : Hid ((W.drew.setCell ⟨g, 1, none⟩ (.slice (some ⟨ga, oa + k * 2, none⟩) (L.length - k) (c - k))).cell? ⟨w.heap.size, 0, none⟩ = some (.pointer (some ⟨h, 0, none⟩)) ∧ (W.drew.setCell ⟨g, 1, none⟩ (.slice (some ⟨ga, oa + k * 2, none⟩) (L.length - k) (c - k))).cell? ⟨h, 0, none⟩ = some (.pointer (some ⟨g, 0, none⟩)) ∧ (W.drew.setCell ⟨g, 1, none⟩ (.slice (some ⟨ga, oa + k * 2, none⟩) (L.length - k) (c - k))).cell? ⟨G, 0, none⟩ = some (.slice A2 k c2)) := hidd ⟨cell_set_far (show w.heap.size ≠ g by omega) y0, cell_set_far H4.out.hg y2, cell_set_far (show G ≠ g by omega) gc⟩
      have GQ5 := hidd (HGQ.out.keep (w' := (W.drew.setCell ⟨g, 1, none⟩ (.slice (some ⟨ga, oa + k * 2, none⟩) (L.length - k) (c - k)))) (fun q e => Below.heap_setCell W.drew ⟨g, 1, none⟩ _ _ (fun e2 => by have h1 := HGO.out q e; have h2 : q = g := e2; omega)) (by show W.drew.heap.size ≤ _; simp [World.setCell]))
      have HNN := hidd (sumB_le (L := L) (fun x hx => by have := H4.out.sz x hx; have := rightB_iff H4.out.rt; omega) k)
      have HSM : Hid (sumB L ≤ 1000000000) := hidd (by have := H4.out.sm; have := H4.out.r1; omega)
      have ew : IntKind.i64.wrap (sumB L - sumB (L.take k)) = sumB L - sumB (L.take k) := IntWalk.i64_in _ (by have := HNN.out; have := HSM.out; omega)
      go_wp2_with fail
      refine wp_noP ?_
      refine wp_region_held_drew (S := (fun Y => Y.cell? ⟨w.heap.size, 0, none⟩ = some (.pointer (some ⟨h, 0, none⟩)) ∧ Y.cell? ⟨h, 0, none⟩ = some (.pointer (some ⟨g, 0, none⟩)) ∧ Y.cell? ⟨G, 0, none⟩ = some (.slice A2 k c2))) (by kernel_rfl) (⟨y0, y2, gc⟩) (fun hH => ?_)
      refine wpAnyH_take (i := 0) (v := ?vts10_1) (by (conv => lhs; simp only [List.getElem?_toArray, List.getElem?_cons_succ, List.getElem?_cons_zero])) (by kernel_rfl) (by kernel_rfl) (by kernel_rfl) ?hQ (Or.inl ⟨by rfl, ?hyts10_1⟩) hH ?restts10_1
      case hQ => exact fun _ _ _ h => h
      case hyts10_1 => (intro Y hY; obtain ⟨y0, y1, y2⟩ := hY; go_simp; try (with_reducible rfl))
      try simp only [Act.put, List.setIfInBounds_toArray, List.set_cons_zero, List.set_cons_succ]
      refine wpAnyH_take (i := 1) (v := ?vts11_2) (by (conv => lhs; simp only [List.getElem?_toArray, List.getElem?_cons_succ, List.getElem?_cons_zero])) (by kernel_rfl) (by kernel_rfl) (by kernel_rfl) ?hQ (Or.inl ⟨by rfl, ?hyts11_2⟩) hH ?restts11_2
      case hQ => exact fun _ _ _ h => h
      case hyts11_2 => (intro Y hY; obtain ⟨y0, y1, y2⟩ := hY; go_simp; try (with_reducible rfl))
      try simp only [Act.put, List.setIfInBounds_toArray, List.set_cons_zero, List.set_cons_succ]
      refine wpAnyH_take (i := 2) (v := ?vts12_3) (by (conv => lhs; simp only [List.getElem?_toArray, List.getElem?_cons_succ, List.getElem?_cons_zero])) (by kernel_rfl) (by kernel_rfl) (by kernel_rfl) ?hQ (Or.inl ⟨by rfl, ?hyts12_3⟩) hH ?restts12_3
      case hQ => exact fun _ _ _ h => h
      case hyts12_3 => (intro Y hY; obtain ⟨y0, y1, y2⟩ := hY; go_simp; try (with_reducible rfl))
      try simp only [Act.put, List.setIfInBounds_toArray, List.set_cons_zero, List.set_cons_succ]
      refine wpAnyH_take (i := 3) (v := ?vts13_4) (by (conv => lhs; simp only [List.getElem?_toArray, List.getElem?_cons_succ, List.getElem?_cons_zero])) (by kernel_rfl) (by kernel_rfl) (by kernel_rfl) ?hQ (Or.inl ⟨by rfl, ?hyts13_4⟩) hH ?restts13_4
      case hQ => exact fun _ _ _ h => h
      case hyts13_4 => (intro Y hY; obtain ⟨y0, y1, y2⟩ := hY; go_simp; try (with_reducible rfl))
      try simp only [Act.put, List.setIfInBounds_toArray, List.set_cons_zero, List.set_cons_succ]
      refine wpAnyH_take (i := 4) (v := ?vts14_5) (by (conv => lhs; simp only [List.getElem?_toArray, List.getElem?_cons_succ, List.getElem?_cons_zero])) (by kernel_rfl) (by kernel_rfl) (by kernel_rfl) ?hQ (Or.inl ⟨by rfl, ?hyts14_5⟩) hH ?restts14_5
      case hQ => exact fun _ _ _ h => h
      case hyts14_5 => (intro Y hY; obtain ⟨y0, y1, y2⟩ := hY; go_simp; try (with_reducible rfl))
      try simp only [Act.put, List.setIfInBounds_toArray, List.set_cons_zero, List.set_cons_succ]
      refine wpAnyH_take (i := 5) (v := ?vts15_6) (by (conv => lhs; simp only [List.getElem?_toArray, List.getElem?_cons_succ, List.getElem?_cons_zero])) (by kernel_rfl) (by kernel_rfl) (by kernel_rfl) ?hQ (Or.inl ⟨by rfl, ?hyts15_6⟩) hH ?restts15_6
      case hQ => exact fun _ _ _ h => h
      case hyts15_6 => (intro Y hY; obtain ⟨y0, y1, y2⟩ := hY; go_simp; try (with_reducible rfl))
      try simp only [Act.put, List.setIfInBounds_toArray, List.set_cons_zero, List.set_cons_succ]
      refine wpAnyH_take (i := 6) (v := ?vts16_7) (by (conv => lhs; simp only [List.getElem?_toArray, List.getElem?_cons_succ, List.getElem?_cons_zero])) (by kernel_rfl) (by kernel_rfl) (by kernel_rfl) ?hQ (Or.inl ⟨by rfl, ?hyts16_7⟩) hH ?restts16_7
      case hQ => exact fun _ _ _ h => h
      case hyts16_7 => (intro Y hY; obtain ⟨y0, y1, y2⟩ := hY; go_simp; try (with_reducible rfl))
      try simp only [Act.put, List.setIfInBounds_toArray, List.set_cons_zero, List.set_cons_succ]
      refine wpAnyH_take (i := 7) (v := ?vts17_8) (by (conv => lhs; simp only [List.getElem?_toArray, List.getElem?_cons_succ, List.getElem?_cons_zero])) (by kernel_rfl) (by kernel_rfl) (by kernel_rfl) ?hQ (Or.inl ⟨by rfl, ?hyts17_8⟩) hH ?restts17_8
      case hQ => exact fun _ _ _ h => h
      case hyts17_8 => (intro Y hY; obtain ⟨y0, y1, y2⟩ := hY; go_simp; try (with_reducible rfl))
      try simp only [Act.put, List.setIfInBounds_toArray, List.set_cons_zero, List.set_cons_succ]
      refine wpAnyH_take (i := 8) (v := ?vts18_9) (by (conv => lhs; simp only [List.getElem?_toArray, List.getElem?_cons_succ, List.getElem?_cons_zero])) (by kernel_rfl) (by kernel_rfl) (by kernel_rfl) ?hQ (Or.inl ⟨by rfl, ?hyts18_9⟩) hH ?restts18_9
      case hQ => exact fun _ _ _ h => h
      case hyts18_9 => (intro Y hY; obtain ⟨y0, y1, y2⟩ := hY; go_simp; try (with_reducible rfl))
      try simp only [Act.put, List.setIfInBounds_toArray, List.set_cons_zero, List.set_cons_succ]
      refine wpAnyH_take (i := 9) (v := ?vts19_10) (by (conv => lhs; simp only [List.getElem?_toArray, List.getElem?_cons_succ, List.getElem?_cons_zero])) (by kernel_rfl) (by kernel_rfl) (by kernel_rfl) ?hQ (Or.inl ⟨by rfl, ?hyts19_10⟩) hH ?restts19_10
      case hQ => exact fun _ _ _ h => h
      case hyts19_10 => (intro Y hY; obtain ⟨y0, y1, y2⟩ := hY; go_simp; try (with_reducible rfl))
      try simp only [Act.put, List.setIfInBounds_toArray, List.set_cons_zero, List.set_cons_succ]
      refine wpAnyH_take (i := 11) (v := ?vts111_11) (by (conv => lhs; simp only [List.getElem?_toArray, List.getElem?_cons_succ, List.getElem?_cons_zero])) (by kernel_rfl) (by kernel_rfl) (by kernel_rfl) ?hQ (Or.inl ⟨by rfl, ?hyts111_11⟩) hH ?restts111_11
      case hQ => exact fun _ _ _ h => h
      case hyts111_11 => (intro Y hY; obtain ⟨y0, y1, y2⟩ := hY; go_simp; try (with_reducible rfl))
      try simp only [Act.put, List.setIfInBounds_toArray, List.set_cons_zero, List.set_cons_succ]
      refine wpAnyH_take (i := 12) (v := ?vts112_12) (by (conv => lhs; simp only [List.getElem?_toArray, List.getElem?_cons_succ, List.getElem?_cons_zero])) (by kernel_rfl) (by kernel_rfl) (by kernel_rfl) ?hQ (Or.inl ⟨by rfl, ?hyts112_12⟩) hH ?restts112_12
      case hQ => exact fun _ _ _ h => h
      case hyts112_12 => (intro Y hY; obtain ⟨y0, y1, y2⟩ := hY; go_simp; try (with_reducible rfl))
      try simp only [Act.put, List.setIfInBounds_toArray, List.set_cons_zero, List.set_cons_succ]
      have u1 : W.drew.cell? ⟨g, 1, none⟩ = some (.slice (some ⟨ga, oa, none⟩) L.length c) := g1
      have u3 : W.drew.frozen? ⟨g, 1, none⟩ = false := e1
      refine wpAnyH_ready (rs := [10]) (by kernel_rfl) (by simp) ?_
      refine AllReadyH.cons (by (conv => lhs; simp only [List.getElem?_toArray, List.getElem?_cons_succ, List.getElem?_cons_zero])) (fun K hK => ?_) AllReadyH.nil
      go_simp
      refine hK.out _ _ hH (fun hHa => ?_)
      clear hK hH
      try simp only [Act.put, List.setIfInBounds_toArray, List.set_cons_zero, List.set_cons_succ]
      refine wpAnyH_take (i := 13) (v := ?vts113_13) (by (conv => lhs; simp only [List.getElem?_toArray, List.getElem?_cons_succ, List.getElem?_cons_zero])) (by kernel_rfl) (by kernel_rfl) (by kernel_rfl) ?hQ (Or.inl ⟨by rfl, ?hyts113_13⟩) hHa ?restts113_13
      case hQ => exact fun _ _ _ h => h
      case hyts113_13 => (intro Y hY; obtain ⟨y0, y1, y2⟩ := hY; go_simp; try (with_reducible rfl))
      try simp only [Act.put, List.setIfInBounds_toArray, List.set_cons_zero, List.set_cons_succ]
      refine wpAnyH_take (i := 14) (v := ?vts114_14) (by (conv => lhs; simp only [List.getElem?_toArray, List.getElem?_cons_succ, List.getElem?_cons_zero])) (by kernel_rfl) (by kernel_rfl) (by kernel_rfl) ?hQ (Or.inl ⟨by rfl, ?hyts114_14⟩) hHa ?restts114_14
      case hQ => exact fun _ _ _ h => h
      case hyts114_14 => (intro Y hY; obtain ⟨y0, y1, y2⟩ := hY; go_simp; try (with_reducible rfl))
      try simp only [Act.put, List.setIfInBounds_toArray, List.set_cons_zero, List.set_cons_succ]
      refine wpAnyH_take (i := 15) (v := ?vts115_15) (by (conv => lhs; simp only [List.getElem?_toArray, List.getElem?_cons_succ, List.getElem?_cons_zero])) (by kernel_rfl) (by kernel_rfl) (by kernel_rfl) ?hQ (Or.inl ⟨by rfl, ?hyts115_15⟩) hHa ?restts115_15
      case hQ => exact fun _ _ _ h => h
      case hyts115_15 => (intro Y hY; obtain ⟨y0, y1, y2⟩ := hY; go_simp; try (with_reducible rfl))
      try simp only [Act.put, List.setIfInBounds_toArray, List.set_cons_zero, List.set_cons_succ]
      refine wpAnyH_ready (rs := [16]) (by kernel_rfl) (by simp) ?_
      refine AllReadyH.cons (by (conv => lhs; simp only [List.getElem?_toArray, List.getElem?_cons_succ, List.getElem?_cons_zero])) (fun K hK => ?_) AllReadyH.nil
      go_simp
      refine hK.out _ _ SV5.out (fun hHb => ?_)
      clear hK hHa u1 u3 g1 e1
      try simp only [Act.put, List.setIfInBounds_toArray, List.set_cons_zero, List.set_cons_succ]
      refine wpAnyH_done (by kernel_rfl) (noP_of ?_) _
      obtain ⟨W5, hW5, hW5b⟩ : ∃ W5, (W.drew.setCell ⟨g, 1, none⟩ (.slice (some ⟨ga, oa + k * 2, none⟩) (L.length - k) (c - k))) = W5 ∧ (W.setCell ⟨g, 1, none⟩ (.slice (some ⟨ga, oa + k * 2, none⟩) (L.length - k) (c - k))).drew = W5 := ⟨_, rfl, rfl⟩
      have FIN2 := FIN.out
      rw [hW5] at FIN2 SV5 GQ5
      rw [hW5b]
      have FIN := hidd FIN2
      clear hW5 hW5b FIN2 hHb y0 y2 gc
      obtain ⟨⟨A9, c9, h9, _, _, hgl5⟩⟩ : Nonempty (∃ A c, Value.slice A2 k c2 = .slice A (L.take k).length c ∧ (L.take k).length ≤ c ∧ c ≤ maxLen ∧ Lie sendV 2 W5 W5.heap.size A (L.take k)) := ⟨GQ5.out.lie⟩
      injection h9 with h91 h92 h93
      subst h91
      have cS := hidd (sum_any A2 (L.take k) c2 (by have := H4.out.len; omega) (fun x hx => by have := H4.out.sz x (List.mem_of_mem_take hx); have := rightB_iff H4.out.rt; omega) (by have := HNN.out; have := HSM.out; omega) W5.drew hgl5)
      rw [← h92] at cS
      obtain ⟨g25, e25⟩ := FIN.out.1
      have KC : Hid (∀ Y, Below W5.heap.size W5.drew Y → (Y.cell? ⟨w.heap.size, 0, none⟩ = some (.pointer (some ⟨h, 0, none⟩)) ∧ Y.cell? ⟨h, 0, none⟩ = some (.pointer (some ⟨g, 0, none⟩)) ∧ Y.cell? ⟨G, 0, none⟩ = some (.slice A2 k c2)) ∧ Y.cell? ⟨g, 2, none⟩ = some (.int .i64 (sumB L)) ∧ Y.frozen? ⟨g, 2, none⟩ = false) := hidd (fun Y hb => ⟨⟨(hb.cell (p := ⟨w.heap.size, 0, none⟩) (World.block_lt_of_cell? W5 _ SV5.out.1)).trans SV5.out.1, (hb.cell (p := ⟨h, 0, none⟩) (World.block_lt_of_cell? W5 _ SV5.out.2.1)).trans SV5.out.2.1, (hb.cell (p := ⟨G, 0, none⟩) (World.block_lt_of_cell? W5 _ SV5.out.2.2)).trans SV5.out.2.2⟩, (hb.cell (p := ⟨g, 2, none⟩) (World.block_lt_of_cell? W5 _ g25)).trans g25, (hb.frozen (p := ⟨g, 2, none⟩) (World.block_lt_of_cell? W5 _ g25)).trans e25⟩)
      have KD : Hid (∀ Y, Below W5.drew.heap.size W5.drew Y → ((Y.setCell ⟨g, 2, none⟩ (.int .i64 (sumB L - sumB (L.take k)))).cell? ⟨w.heap.size, 0, none⟩ = some (.pointer (some ⟨h, 0, none⟩)) ∧ (Y.setCell ⟨g, 2, none⟩ (.int .i64 (sumB L - sumB (L.take k)))).cell? ⟨h, 0, none⟩ = some (.pointer (some ⟨g, 0, none⟩)) ∧ (Y.setCell ⟨g, 2, none⟩ (.int .i64 (sumB L - sumB (L.take k)))).cell? ⟨G, 0, none⟩ = some (.slice A2 k c2))) := hidd (fun Y hb => by
        obtain ⟨⟨a0, a1, a2⟩, _, _⟩ := KC.out Y hb
        exact ⟨cell_set_far (show w.heap.size ≠ g by omega) a0, cell_set_far H4.out.hg a1, cell_set_far (show G ≠ g by omega) a2⟩)
      clear hgl5 h92 h93
      go_wp2_with fail
      refine wp_noP ?_
      refine wp_region_held_drew (S := (fun Y => Y.cell? ⟨w.heap.size, 0, none⟩ = some (.pointer (some ⟨h, 0, none⟩)) ∧ Y.cell? ⟨h, 0, none⟩ = some (.pointer (some ⟨g, 0, none⟩)) ∧ Y.cell? ⟨G, 0, none⟩ = some (.slice A2 k c2))) (by kernel_rfl) (SV5.out) (fun hH => ?_)
      refine wpAnyH_take (i := 0) (v := ?vxs10_1) (by (conv => lhs; simp only [List.getElem?_toArray, List.getElem?_cons_succ, List.getElem?_cons_zero])) (by kernel_rfl) (by kernel_rfl) (by kernel_rfl) ?hQ (Or.inl ⟨by rfl, ?hyxs10_1⟩) hH ?restxs10_1
      case hQ => exact fun _ _ _ h => h
      case hyxs10_1 => (intro Y hY; obtain ⟨y0, y1, y2⟩ := hY; go_simp; try (with_reducible rfl))
      try simp only [Act.put, List.setIfInBounds_toArray, List.set_cons_zero, List.set_cons_succ]
      refine wpAnyH_take (i := 1) (v := ?vxs11_2) (by (conv => lhs; simp only [List.getElem?_toArray, List.getElem?_cons_succ, List.getElem?_cons_zero])) (by kernel_rfl) (by kernel_rfl) (by kernel_rfl) ?hQ (Or.inl ⟨by rfl, ?hyxs11_2⟩) hH ?restxs11_2
      case hQ => exact fun _ _ _ h => h
      case hyxs11_2 => (intro Y hY; obtain ⟨y0, y1, y2⟩ := hY; go_simp; try (with_reducible rfl))
      try simp only [Act.put, List.setIfInBounds_toArray, List.set_cons_zero, List.set_cons_succ]
      refine wpAnyH_take (i := 2) (v := ?vxs12_3) (by (conv => lhs; simp only [List.getElem?_toArray, List.getElem?_cons_succ, List.getElem?_cons_zero])) (by kernel_rfl) (by kernel_rfl) (by kernel_rfl) ?hQ (Or.inl ⟨by rfl, ?hyxs12_3⟩) hH ?restxs12_3
      case hQ => exact fun _ _ _ h => h
      case hyxs12_3 => (intro Y hY; obtain ⟨y0, y1, y2⟩ := hY; go_simp; try (with_reducible rfl))
      try simp only [Act.put, List.setIfInBounds_toArray, List.set_cons_zero, List.set_cons_succ]
      refine wpAnyH_take (i := 3) (v := ?vxs13_4) (by (conv => lhs; simp only [List.getElem?_toArray, List.getElem?_cons_succ, List.getElem?_cons_zero])) (by kernel_rfl) (by kernel_rfl) (by kernel_rfl) ?hQ (Or.inl ⟨by rfl, ?hyxs13_4⟩) hH ?restxs13_4
      case hQ => exact fun _ _ _ h => h
      case hyxs13_4 => (intro Y hY; obtain ⟨y0, y1, y2⟩ := hY; go_simp; try (with_reducible rfl))
      try simp only [Act.put, List.setIfInBounds_toArray, List.set_cons_zero, List.set_cons_succ]
      refine wpAnyH_take (i := 4) (v := ?vxs14_5) (by (conv => lhs; simp only [List.getElem?_toArray, List.getElem?_cons_succ, List.getElem?_cons_zero])) (by kernel_rfl) (by kernel_rfl) (by kernel_rfl) ?hQ (Or.inl ⟨by rfl, ?hyxs14_5⟩) hH ?restxs14_5
      case hQ => exact fun _ _ _ h => h
      case hyxs14_5 => (intro Y hY; obtain ⟨y0, y1, y2⟩ := hY; go_simp; try (with_reducible rfl))
      try simp only [Act.put, List.setIfInBounds_toArray, List.set_cons_zero, List.set_cons_succ]
      refine wpAnyH_take (i := 5) (v := ?vxs15_6) (by (conv => lhs; simp only [List.getElem?_toArray, List.getElem?_cons_succ, List.getElem?_cons_zero])) (by kernel_rfl) (by kernel_rfl) (by kernel_rfl) ?hQ (Or.inl ⟨by rfl, ?hyxs15_6⟩) hH ?restxs15_6
      case hQ => exact fun _ _ _ h => h
      case hyxs15_6 => (intro Y hY; obtain ⟨y0, y1, y2⟩ := hY; go_simp; try (with_reducible rfl))
      try simp only [Act.put, List.setIfInBounds_toArray, List.set_cons_zero, List.set_cons_succ]
      refine wpAnyH_take (i := 7) (v := ?vxs17_7) (by (conv => lhs; simp only [List.getElem?_toArray, List.getElem?_cons_succ, List.getElem?_cons_zero])) (by kernel_rfl) (by kernel_rfl) (by kernel_rfl) ?hQ (Or.inl ⟨by rfl, ?hyxs17_7⟩) hH ?restxs17_7
      case hQ => exact fun _ _ _ h => h
      case hyxs17_7 => (intro Y hY; obtain ⟨y0, y1, y2⟩ := hY; go_simp; try (with_reducible rfl))
      try simp only [Act.put, List.setIfInBounds_toArray, List.set_cons_zero, List.set_cons_succ]
      have u2 : W5.drew.cell? ⟨g, 2, none⟩ = some (.int .i64 (sumB L)) := g25
      refine wpAnyH_ready (rs := [6, 8]) (by kernel_rfl) (by simp) ?_
      refine AllReadyH.cons (by (conv => lhs; simp only [List.getElem?_toArray, List.getElem?_cons_succ, List.getElem?_cons_zero])) (fun K hK => ?_) (AllReadyH.cons (by (conv => lhs; simp only [List.getElem?_toArray, List.getElem?_cons_succ, List.getElem?_cons_zero])) (fun K hK => ?_) AllReadyH.nil)
      · go_simp
        refine hK.out _ _ hH (fun hHa => ?_)
        clear hK hH
        try simp only [Act.put, List.setIfInBounds_toArray, List.set_cons_zero, List.set_cons_succ]
        refine wpAnyH_ready (rs := [8]) (by kernel_rfl) (by simp) ?_
        refine AllReadyH.cons (by (conv => lhs; simp only [List.getElem?_toArray, List.getElem?_cons_succ, List.getElem?_cons_zero])) (fun K hK => ?_) AllReadyH.nil
        go_simp
        go_at_call 36; refine cS.out.mono ?_; rintro e w6 ⟨rfl, hb6⟩
        refine hK.out _ _ (KC.out _ hb6).1 (fun hHb => ?_)
        clear hK hHa u2
        try simp only [Act.put, List.setIfInBounds_toArray, List.set_cons_zero, List.set_cons_succ]
        obtain ⟨-, u4, u5⟩ := KC.out _ hb6
        refine wpAnyH_take (i := 9) (v := ?vys1a9_1) (by (conv => lhs; simp only [List.getElem?_toArray, List.getElem?_cons_succ, List.getElem?_cons_zero])) (by kernel_rfl) (by kernel_rfl) (by kernel_rfl) ?hQ (Or.inl ⟨by rfl, ?hyys1a9_1⟩) hHb ?restys1a9_1
        case hQ => exact fun _ _ _ h => h
        case hyys1a9_1 => (intro Y hY; obtain ⟨y0, y1, y2⟩ := hY; go_simp; try (with_reducible rfl))
        try simp only [Act.put, List.setIfInBounds_toArray, List.set_cons_zero, List.set_cons_succ]
        refine wpAnyH_take (i := 10) (v := ?vys1a10_2) (by (conv => lhs; simp only [List.getElem?_toArray, List.getElem?_cons_succ, List.getElem?_cons_zero])) (by kernel_rfl) (by kernel_rfl) (by kernel_rfl) ?hQ (Or.inl ⟨by rfl, ?hyys1a10_2⟩) hHb ?restys1a10_2
        case hQ => exact fun _ _ _ h => h
        case hyys1a10_2 => (intro Y hY; obtain ⟨y0, y1, y2⟩ := hY; go_simp; try (with_reducible rfl))
        try simp only [Act.put, List.setIfInBounds_toArray, List.set_cons_zero, List.set_cons_succ]
        refine wpAnyH_take (i := 11) (v := ?vys1a11_3) (by (conv => lhs; simp only [List.getElem?_toArray, List.getElem?_cons_succ, List.getElem?_cons_zero])) (by kernel_rfl) (by kernel_rfl) (by kernel_rfl) ?hQ (Or.inl ⟨by rfl, ?hyys1a11_3⟩) hHb ?restys1a11_3
        case hQ => exact fun _ _ _ h => h
        case hyys1a11_3 => (intro Y hY; obtain ⟨y0, y1, y2⟩ := hY; go_simp; try (with_reducible rfl))
        try simp only [Act.put, List.setIfInBounds_toArray, List.set_cons_zero, List.set_cons_succ]
        refine wpAnyH_ready (rs := [12]) (by kernel_rfl) (by simp) ?_
        refine AllReadyH.cons (by (conv => lhs; simp only [List.getElem?_toArray, List.getElem?_cons_succ, List.getElem?_cons_zero])) (fun K hK => ?_) AllReadyH.nil
        go_simp
        refine hK.out _ _ (KD.out _ hb6) (fun hHd => ?_)
        clear hK hHb u4 u5
        try simp only [Act.put, List.setIfInBounds_toArray, List.set_cons_zero, List.set_cons_succ]
        refine wpAnyH_done (by kernel_rfl) (noP_of ?_) _
        obtain ⟨k1, k2, k3, k4⟩ := FIN.out.2 w6 ((Below.drew (Below.refl _ _)).trans hb6)
        have kG := hHd.2.2
        have kD := (k4 W4.heap.size (Array.getElem?_eq_some_iff.1 HDK.out).1 (by omega)).trans HDK.out
        obtain ⟨W7, hW7⟩ : ∃ W7, w6.setCell ⟨g, 2, none⟩ (.int .i64 (sumB L - sumB (L.take k))) = W7 := ⟨_, rfl⟩
        rw [hW7] at k1 k2 k3 kG kD
        rw [hW7]
        have K1 := hidd k1
        have K2 := hidd k2
        have K3 := hidd k3
        have KDD := hidd kD
        clear hW7 k1 k2 k3 k4 kD hHd hb6 KC KD cS FIN SV5 GQ5 HNN HSM ew g25 e25
        go_wp2_with fail
        (try rw [Exit.noGoto_ret])
        refine ⟨by simp, .inl ⟨_, _, rfl, run_takeDeferred KDD.out, ?_⟩⟩
        refine ⟨.tuple #[.slice A2 k c2, .int .i64 0], by simp [results, Try.results16, go_sem], ?_⟩
        refine HENDQ.out _ (W7.putObj W4.heap.size (.deferred none)) ⟨k, _, A2, c2, _, rfl, HG.out, K1.out.keep (by simp [World.putObj]) (fun j hj => by refine World.putObj_heap_other ?_; have h9 := HLT.out j hj; omega), HOW.out, K2.out.keep (fun q e => by refine World.putObj_heap_other ?_; have h9 := HGO.out q e; omega) (by simp [World.putObj]), fun q e => by have h8 := HGO.out q e; have h9 := HS4.out.size; omega, ?_⟩
        exact (HS4.out.trans K3.out (fun j hj q => q.elim id (fun e => by omega))).trans (Sav.putObj _) (fun j hj q => by have h9 := HS4.out.size; omega)
      · go_simp
        go_at_call 36; refine cS.out.mono ?_; rintro e w6 ⟨rfl, hb6⟩
        refine hK.out _ _ (KC.out _ hb6).1 (fun hHb => ?_)
        clear hK hH u2
        try simp only [Act.put, List.setIfInBounds_toArray, List.set_cons_zero, List.set_cons_succ]
        obtain ⟨-, u4, u5⟩ := KC.out _ hb6
        refine wpAnyH_ready (rs := [6]) (by kernel_rfl) (by simp) ?_
        refine AllReadyH.cons (by (conv => lhs; simp only [List.getElem?_toArray, List.getElem?_cons_succ, List.getElem?_cons_zero])) (fun K hK => ?_) AllReadyH.nil
        go_simp
        refine hK.out _ _ hHb (fun hHc => ?_)
        clear hK hHb
        try simp only [Act.put, List.setIfInBounds_toArray, List.set_cons_zero, List.set_cons_succ]
        refine wpAnyH_take (i := 9) (v := ?vys1b9_1) (by (conv => lhs; simp only [List.getElem?_toArray, List.getElem?_cons_succ, List.getElem?_cons_zero])) (by kernel_rfl) (by kernel_rfl) (by kernel_rfl) ?hQ (Or.inl ⟨by rfl, ?hyys1b9_1⟩) hHc ?restys1b9_1
        case hQ => exact fun _ _ _ h => h
        case hyys1b9_1 => (intro Y hY; obtain ⟨y0, y1, y2⟩ := hY; go_simp; try (with_reducible rfl))
        try simp only [Act.put, List.setIfInBounds_toArray, List.set_cons_zero, List.set_cons_succ]
        refine wpAnyH_take (i := 10) (v := ?vys1b10_2) (by (conv => lhs; simp only [List.getElem?_toArray, List.getElem?_cons_succ, List.getElem?_cons_zero])) (by kernel_rfl) (by kernel_rfl) (by kernel_rfl) ?hQ (Or.inl ⟨by rfl, ?hyys1b10_2⟩) hHc ?restys1b10_2
        case hQ => exact fun _ _ _ h => h
        case hyys1b10_2 => (intro Y hY; obtain ⟨y0, y1, y2⟩ := hY; go_simp; try (with_reducible rfl))
        try simp only [Act.put, List.setIfInBounds_toArray, List.set_cons_zero, List.set_cons_succ]
        refine wpAnyH_take (i := 11) (v := ?vys1b11_3) (by (conv => lhs; simp only [List.getElem?_toArray, List.getElem?_cons_succ, List.getElem?_cons_zero])) (by kernel_rfl) (by kernel_rfl) (by kernel_rfl) ?hQ (Or.inl ⟨by rfl, ?hyys1b11_3⟩) hHc ?restys1b11_3
        case hQ => exact fun _ _ _ h => h
        case hyys1b11_3 => (intro Y hY; obtain ⟨y0, y1, y2⟩ := hY; go_simp; try (with_reducible rfl))
        try simp only [Act.put, List.setIfInBounds_toArray, List.set_cons_zero, List.set_cons_succ]
        refine wpAnyH_ready (rs := [12]) (by kernel_rfl) (by simp) ?_
        refine AllReadyH.cons (by (conv => lhs; simp only [List.getElem?_toArray, List.getElem?_cons_succ, List.getElem?_cons_zero])) (fun K hK => ?_) AllReadyH.nil
        go_simp
        refine hK.out _ _ (KD.out _ hb6) (fun hHd => ?_)
        clear hK hHc u4 u5
        try simp only [Act.put, List.setIfInBounds_toArray, List.set_cons_zero, List.set_cons_succ]
        refine wpAnyH_done (by kernel_rfl) (noP_of ?_) _
        obtain ⟨k1, k2, k3, k4⟩ := FIN.out.2 w6 ((Below.drew (Below.refl _ _)).trans hb6)
        have kG := hHd.2.2
        have kD := (k4 W4.heap.size (Array.getElem?_eq_some_iff.1 HDK.out).1 (by omega)).trans HDK.out
        obtain ⟨W7, hW7⟩ : ∃ W7, w6.setCell ⟨g, 2, none⟩ (.int .i64 (sumB L - sumB (L.take k))) = W7 := ⟨_, rfl⟩
        rw [hW7] at k1 k2 k3 kG kD
        rw [hW7]
        have K1 := hidd k1
        have K2 := hidd k2
        have K3 := hidd k3
        have KDD := hidd kD
        clear hW7 k1 k2 k3 k4 kD hHd hb6 KC KD cS FIN SV5 GQ5 HNN HSM ew g25 e25
        go_wp2_with fail
        (try rw [Exit.noGoto_ret])
        refine ⟨by simp, .inl ⟨_, _, rfl, run_takeDeferred KDD.out, ?_⟩⟩
        refine ⟨.tuple #[.slice A2 k c2, .int .i64 0], by simp [results, Try.results16, go_sem], ?_⟩
        refine HENDQ.out _ (W7.putObj W4.heap.size (.deferred none)) ⟨k, _, A2, c2, _, rfl, HG.out, K1.out.keep (by simp [World.putObj]) (fun j hj => by refine World.putObj_heap_other ?_; have h9 := HLT.out j hj; omega), HOW.out, K2.out.keep (fun q e => by refine World.putObj_heap_other ?_; have h9 := HGO.out q e; omega) (by simp [World.putObj]), fun q e => by have h8 := HGO.out q e; have h9 := HS4.out.size; omega, ?_⟩
        exact (HS4.out.trans K3.out (fun j hj q => q.elim id (fun e => by omega))).trans (Sav.putObj _) (fun j hj q => by have h9 := HS4.out.size; omega)
end
end Go.Proofs.Ytiecailfndlgoaa
