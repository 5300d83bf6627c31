/- Texts that the claim hangs on, in one. -/
import Derived.Test.YthaiphkmkchhoaaMgSpA
import Derived.Test.YthaiphkmkchhoaaBkK
import Derived.Test.YthaiphkmkchhoaaRowV
import Derived.Test.YthaiphkmkchhoaaRowZ
import Derived.Deep.Slices
/- Shapers: Go. -/
namespace Go.Proofs.Ythaiphkmkchhoaa
open Go.RowKit Go.Sort
set_option linter.unusedVariables false
attribute [local go_sem] Oper.semAt_some
section
variable {w : World} {h g b : Nat} {v : Value} {p r u m l : Int} {s : BM.St} {room : Int} {L : List (Int × Int)}
theorem ShAt.but {w' : World} (H : ShAt w h g b v p r u m l s room L) {s' : BM.St} (hB : BktAt w' b p r u m l s') (hb : But b w w') (hs : BM.Ok u m s') : ShAt w' h g b v p r u m l s' room L := by
  have ch := fun o => World.cell?_of_block (w := w) (w' := w') (a := ⟨h, o, none⟩) (hb.block h H.hlt H.hb)
  have cg := fun o => World.cell?_of_block (w := w) (w' := w') (a := ⟨g, o, none⟩) (hb.block g H.glt H.gb)
  have fg := fun o => World.frozen?_of_block (w := w) (w' := w') (a := ⟨g, o, none⟩) (hb.block g H.glt H.gb)
  exact ⟨hB, H.q.keep (fun k e => hb.block k (H.q.lt k e) (fun e2 => by subst e2; exact H.vb e)) hb.size, (ch 0).trans H.h0, (cg 0).trans H.g0, (cg 1).trans H.g1, (cg 2).trans H.g2, (cg 3).trans H.g3, (fg 1).trans H.e1, (fg 2).trans H.e2, H.hg, H.hb, H.gb, H.vh, H.vg, H.vb, H.rt, hs, H.sz, H.r0, H.r1, H.sm⟩
theorem QL.form {w : World} {v : Value} {L : List (Int × Int)} (h : QL w v L) : ∃ A n c, v = .slice A n c := by
  obtain ⟨a, d, e, _⟩ := h.lie
  exact ⟨a, _, d, e⟩
/-- a region that does not panic. -/
def NoP (Q : Exit → Act → World → Prop) : Exit → Act → World → Prop
  | .panic _, _, _ => False
  | e, a, w => Q e a w
theorem wp_noP {P : Program} {c : Code} {Q : Exit → Act → World → Prop} {a : Act} {w : World} (h : c.wp P (NoP Q) a w) : c.wp P Q a w :=
  Code.wp_mono (fun e a w h => by cases e <;> first | exact h | exact h.elim) h
theorem noP_of {Q : Exit → Act → World → Prop} {a : Act} {w : World} (h : Q .normal a w) : NoP Q .normal a w := h
theorem But.sav {w w' : World} {b : Nat} {S : Nat → Prop} (h : But b w w') (hb : S b) : Sav S w w' := ⟨h.os, h.tape, h.output, h.size, fun k hk hn => h.block k hk (fun e => hn (e ▸ hb))⟩
set_option maxRecDepth 100000 in
set_option maxHeartbeats 4000000 in
theorem go_no (H : ShAt w h g b v p r u m l s room L) (n : Int) (hn : BM.askB s n = false) : Calls Try.prog 16 #[.pointer (some ⟨h, 0, none⟩), .int .i64 n] w fun e w' => e = .returned (.tuple #[.slice none 0 0, .int .i64 2]) ∧ ShAt w' h g b v p r u m l s room L ∧ Sav (ShBlk h g b v) w w' := by
  have HH := hidd H
  obtain ⟨W1, hW1⟩ : ∃ W1, (w.alloc (.cells #[.pointer (some ⟨h, 0, none⟩)] 26)).alloc (.cells #[.int .i64 n] 2) = W1 := ⟨_, rfl⟩
  have B1 := hidd (show Below w.heap.size w W1 from by rw [← hW1]; (repeat' (first | (with_reducible exact Below.refl _ _) | (with_reducible assumption) | (with_reducible apply Below.setCell) | (with_reducible apply Below.alloc) | (with_reducible apply Below.drew) | (with_reducible apply below_drewN) | (with_reducible refine Below.trans ?_ (Below.mono (by assumption) ?_)) | omega | (simp; done) | (simp; omega))))
  have H1 := hidd (H.below B1.out)
  have z1 : W1.heap.size = w.heap.size + 2 := by rw [← hW1]; simp
  have T0 : Hid (W1.cell? ⟨w.heap.size, 0, none⟩ = some (.pointer (some ⟨h, 0, none⟩))) := hidd (by rw [← hW1]; simp [go_sem])
  have T1 : Hid (W1.cell? ⟨w.heap.size + 1, 0, none⟩ = some (.int .i64 n)) := hidd (by rw [← hW1]; simp [go_sem])
  have c := hidd (shNone_yes H1.out.h0)
  have cM := hidd (moveTo_any (w := W1.drew) H1.out.bk.drew H1.out.g0 H1.out.rt H1.out.ok n)
  have Z1 := hidd z1
  have HW := hidd hW1
  clear hW1
  have hS1 : Hid (W1.drew.cell? ⟨w.heap.size, 0, none⟩ = some (.pointer (some ⟨h, 0, none⟩)) ∧ W1.drew.cell? ⟨w.heap.size + 1, 0, none⟩ = some (.int .i64 n) ∧ W1.drew.cell? ⟨h, 0, none⟩ = some (.pointer (some ⟨g, 0, none⟩))) := hidd ⟨T0.out, T1.out, H1.out.h0⟩
  have KM : Hid (∀ Y, But b W1.drew Y → Y.cell? ⟨w.heap.size, 0, none⟩ = some (.pointer (some ⟨h, 0, none⟩)) ∧ Y.cell? ⟨w.heap.size + 1, 0, none⟩ = some (.int .i64 n) ∧ Y.cell? ⟨h, 0, none⟩ = some (.pointer (some ⟨g, 0, none⟩))) := hidd (fun Y hb => by
    have hs := Z1.out
    have blt := HH.out.blt
    have hlt := HH.out.hlt
    exact ⟨(hb.cell (show w.heap.size < W1.drew.heap.size by show w.heap.size < W1.heap.size; omega) (by omega) 0).trans T0.out, (hb.cell (show w.heap.size + 1 < W1.drew.heap.size by show _ < W1.heap.size; omega) (by omega) 0).trans T1.out, (hb.cell (show h < W1.drew.heap.size by show h < W1.heap.size; omega) H1.out.hb 0).trans H1.out.h0⟩)
  have e : BM.step p r u m l s n 0 = (s, false, 2) := by unfold BM.step; rw [if_neg (by rw [hn]; simp)]
  rw [e] at cM
  clear H hn e z1
  go_enter Try.func16, Try.ntmps16
  go_wp2_with fail
  rw [HW.out]
  clear HW
  have t0 := T0.out
  refine wp_scope_straight ?_
  go_wp2_with fail
  refine c.out.mono ?_
  rintro e w' ⟨rfl, rfl⟩
  go_wp2_with fail
  refine wp_region_held_drew (S := (fun Y => Y.cell? ⟨w.heap.size, 0, none⟩ = some (.pointer (some ⟨h, 0, none⟩)) ∧ Y.cell? ⟨w.heap.size + 1, 0, none⟩ = some (.int .i64 n) ∧ Y.cell? ⟨h, 0, none⟩ = some (.pointer (some ⟨g, 0, none⟩)))) (by kernel_rfl) (hS1.out) (fun hH => ?_)
  refine wpAnyH_take (i := 0) (v := ?vm0_1) (by (conv => lhs; simp only [List.getElem?_toArray, List.getElem?_cons_succ, List.getElem?_cons_zero])) (by kernel_rfl) (by kernel_rfl) (by kernel_rfl) ?hQ (Or.inl ⟨by rfl, ?hym0_1⟩) hH ?restm0_1
  case hQ => exact fun _ _ _ h => h
  case hym0_1 => (intro Y hY; obtain ⟨y0, y1, y2⟩ := hY; go_simp; try (with_reducible rfl))
  try simp only [Act.put, List.setIfInBounds_toArray, List.set_cons_zero, List.set_cons_succ]
  refine wpAnyH_take (i := 1) (v := ?vm1_2) (by (conv => lhs; simp only [List.getElem?_toArray, List.getElem?_cons_succ, List.getElem?_cons_zero])) (by kernel_rfl) (by kernel_rfl) (by kernel_rfl) ?hQ (Or.inl ⟨by rfl, ?hym1_2⟩) hH ?restm1_2
  case hQ => exact fun _ _ _ h => h
  case hym1_2 => (intro Y hY; obtain ⟨y0, y1, y2⟩ := hY; go_simp; try (with_reducible rfl))
  try simp only [Act.put, List.setIfInBounds_toArray, List.set_cons_zero, List.set_cons_succ]
  refine wpAnyH_take (i := 2) (v := ?vm2_3) (by (conv => lhs; simp only [List.getElem?_toArray, List.getElem?_cons_succ, List.getElem?_cons_zero])) (by kernel_rfl) (by kernel_rfl) (by kernel_rfl) ?hQ (Or.inl ⟨by rfl, ?hym2_3⟩) hH ?restm2_3
  case hQ => exact fun _ _ _ h => h
  case hym2_3 => (intro Y hY; obtain ⟨y0, y1, y2⟩ := hY; go_simp; try (with_reducible rfl))
  try simp only [Act.put, List.setIfInBounds_toArray, List.set_cons_zero, List.set_cons_succ]
  refine wpAnyH_take (i := 3) (v := ?vm3_4) (by (conv => lhs; simp only [List.getElem?_toArray, List.getElem?_cons_succ, List.getElem?_cons_zero])) (by kernel_rfl) (by kernel_rfl) (by kernel_rfl) ?hQ (Or.inl ⟨by rfl, ?hym3_4⟩) hH ?restm3_4
  case hQ => exact fun _ _ _ h => h
  case hym3_4 => (intro Y hY; obtain ⟨y0, y1, y2⟩ := hY; go_simp; try (with_reducible rfl))
  try simp only [Act.put, List.setIfInBounds_toArray, List.set_cons_zero, List.set_cons_succ]
  refine wpAnyH_take (i := 4) (v := ?vm4_5) (by (conv => lhs; simp only [List.getElem?_toArray, List.getElem?_cons_succ, List.getElem?_cons_zero])) (by kernel_rfl) (by kernel_rfl) (by kernel_rfl) ?hQ (Or.inl ⟨by rfl, ?hym4_5⟩) hH ?restm4_5
  case hQ => exact fun _ _ _ h => h
  case hym4_5 => (intro Y hY; obtain ⟨y0, y1, y2⟩ := hY; go_simp; try (with_reducible rfl))
  try simp only [Act.put, List.setIfInBounds_toArray, List.set_cons_zero, List.set_cons_succ]
  refine wpAnyH_ready (rs := [5]) (by kernel_rfl) (by simp) ?_
  refine AllReadyH.cons (by (conv => lhs; simp only [List.getElem?_toArray, List.getElem?_cons_succ, List.getElem?_cons_zero])) (fun K hK => ?_) AllReadyH.nil
  go_simp
  go_at_call 33; refine cM.out.mono ?_; rintro e w2 ⟨rfl, hB2, hb2⟩
  have HB2 := hidd hB2
  have Hb2 := hidd hb2
  refine hK.out _ _ (KM.out _ hb2) (fun hHa => ?_)
  clear hK hH hB2 hb2
  try simp only [Act.put, List.setIfInBounds_toArray, List.set_cons_zero, List.set_cons_succ]
  refine wpAnyH_take (i := 6) (v := ?vm6_6) (by (conv => lhs; simp only [List.getElem?_toArray, List.getElem?_cons_succ, List.getElem?_cons_zero])) (by kernel_rfl) (by kernel_rfl) (by kernel_rfl) ?hQ (Or.inl ⟨by rfl, ?hym6_6⟩) hHa ?restm6_6
  case hQ => exact fun _ _ _ h => h
  case hym6_6 => (intro Y hY; obtain ⟨y0, y1, y2⟩ := hY; go_simp; try (with_reducible rfl))
  try simp only [Act.put, List.setIfInBounds_toArray, List.set_cons_zero, List.set_cons_succ]
  refine wpAnyH_done (by kernel_rfl) (?_) _
  go_wp2_with fail
  (try rw [Exit.noGoto_ret])
  go_ret2
  exact ⟨rfl, H1.out.but HB2.out (But.trans (below_but (Below.drew (Below.refl _ _)) b) Hb2.out) H1.out.ok, (Sav.of B1.out).trans ((But.trans (below_but (Below.drew (Below.refl _ _)) b) Hb2.out).sav (S := ShBlk h g b v) (.inr (.inr (.inl rfl)))) (fun _ _ q => q)⟩
theorem wpListIn_append_q {F : Fence} {n0 : Nat} {w : World} {ops : Array Oper} {rest : List Oper} {o : Oper} {a : Act} {Q : Exit → Act → World → Prop} (hgd : o.guard = none) (s x : Operand) (t : TypeId)
    (ho : o.op = .call { callee := .builtin .append, args := #[s, x], argTypes := #[t, t] }) (ht : Try.prog.underlying t = some (.slice 41))
    {v : Value} {L : List (Int × Int)} (hs : a.eval s = v) (hq : QL w v L) (hL : L.length ≤ 1000000000) (ad : Addr) (c : Nat) (y : Int × Int) (hx : a.eval x = .slice (some ad) 1 c) (hn : ∀ j u, (sendV y)[j]? = some u → w.cell? (ad.add j) = some u)
    (h : ∀ v' w', QL w' v' (L ++ [y]) → w.grownBy w' v.ownBlock → (v'.ownBlock = v.ownBlock ∨ ∃ g, v'.ownBlock = some g ∧ w.heap.size ≤ g) → wpListIn F n0 Try.prog ops Q rest (a.put o.dst v') w') : wpListIn F n0 Try.prog ops Q (o :: rest) a w := by
  refine wpListIn_plain hgd fun K hK' => ?_
  obtain ⟨v', w', hrun, h2, h3, h4⟩ := run_append_q w t o.type ht hq hL ad c y hn
  unfold Oper.wpIn
  refine ⟨?_, ?_⟩
  · simp [Oper.about, ho, resolve, Target.leads, Sem.run_pure]
  · rw [Oper.semAt_plain F _ _ (by rw [ho]; intro c hc'; cases hc')]
    simp [execOp, ho, resolve, invoke, builtin, hs, hx, hrun, Result.andThen]
    exact hK' _ _ (h v' w' h2 h3 h4)
/-- what a round keeps. -/
structure GI (W0 : World) (G b : Nat) (p r u m l : Int) (s1 : BM.St) (n : Int) (L : List (Int × Int)) (k : Nat) (W : World) : Prop where
  bk : BktAt W b p r u m l (BM.atK p r u m l s1 n L k)
  gv : ∃ gv, W.cell? ⟨G, 0, none⟩ = some gv ∧ W.frozen? ⟨G, 0, none⟩ = false ∧ QL W gv (L.take k) ∧ ∀ q, gv.ownBlock = some q → W0.heap.size + 2 ≤ q
  sv : Sav (fun j => j = b ∨ j = G) W0 W
  all : ∀ i (hi : i < L.length), i < k → (BM.step p r u m l (BM.atK p r u m l s1 n L i) n L[i].2).2.1 = true
theorem GI.rng {W0 W Y : World} {G b : Nat} {s1 : BM.St} {n : Int} {k : Nat} (h : GI W0 G b p r u m l s1 n L k W) (hG : G < W0.heap.size) (hb : b < W0.heap.size) (hr : Rng W0.heap.size W Y) : GI W0 G b p r u m l s1 n L k Y := by
  have hs := h.sv.size
  obtain ⟨gv, c0, f0, q0, o0⟩ := h.gv
  have eb := hr.block b h.bk.lt (by omega) (by omega)
  have eG := hr.block G (by omega) (by omega) (by omega)
  refine ⟨h.bk.of eb hr.size, ⟨gv, (World.cell?_of_block (a := ⟨G, 0, none⟩) eG).trans c0, (World.frozen?_of_block (a := ⟨G, 0, none⟩) eG).trans f0, q0.keep (fun q e => hr.block q (q0.lt q e) (by have := o0 q e; omega) (by have := o0 q e; omega)) hr.size, o0⟩, ⟨hr.os.trans h.sv.os, hr.tape.trans h.sv.tape, hr.output.trans h.sv.output, Nat.le_trans hs hr.size, fun j hj hn => (hr.block j (by omega) (by omega) (by omega)).trans (h.sv.block j hj hn)⟩, h.all⟩
theorem GI.but {W0 W Y : World} {G b : Nat} {s1 : BM.St} {n : Int} {k : Nat} (h : GI W0 G b p r u m l s1 n L k W) (hG : G < W0.heap.size) (hGb : G ≠ b) (hb : b < W0.heap.size) (hb4 : But b W Y) (hB : BktAt Y b p r u m l (BM.atK p r u m l s1 n L k)) : GI W0 G b p r u m l s1 n L k Y := by
  have hs := h.sv.size
  obtain ⟨gv, c0, f0, q0, o0⟩ := h.gv
  have eG := hb4.block G (by omega) hGb
  exact ⟨hB, ⟨gv, (World.cell?_of_block (a := ⟨G, 0, none⟩) eG).trans c0, (World.frozen?_of_block (a := ⟨G, 0, none⟩) eG).trans f0, q0.keep (fun q e => hb4.block q (q0.lt q e) (by have := o0 q e; omega)) hb4.size, o0⟩, h.sv.trans (hb4.sav (S := fun j => j = b ∨ j = G) (.inl rfl)) (fun _ _ q => q), h.all⟩
/-- one more is gone. -/
theorem GI.next {W0 W w4 w6 : World} {G b : Nat} {s1 : BM.St} {n : Int} {k : Nat} {gv v' : Value} {o : Obj} (h : GI W0 G b p r u m l s1 n L k W) (hG : G < W0.heap.size) (hb : b < W0.heap.size) (hGb : G ≠ b) (hk : k < L.length) (hW : W0.heap.size + 2 ≤ W.heap.size)
    (hB : BktAt w4 b p r u m l (BM.step p r u m l (BM.atK p r u m l s1 n L k) n L[k].2).1) (hb4 : But b W w4) (ht : (BM.step p r u m l (BM.atK p r u m l s1 n L k) n L[k].2).2.1 = true)
    (go : ∀ q, gv.ownBlock = some q → W0.heap.size + 2 ≤ q) (gf : W.frozen? ⟨G, 0, none⟩ = false) (gc : W.cell? ⟨G, 0, none⟩ = some gv)
    (hq : QL w6 v' (L.take k ++ [L[k]])) (hgr : (w4.alloc o).grownBy w6 gv.ownBlock) (hor : v'.ownBlock = gv.ownBlock ∨ ∃ q, v'.ownBlock = some q ∧ (w4.alloc o).heap.size ≤ q) :
    (w6.cell? ⟨G, 0, none⟩ = some gv ∧ w6.frozen? ⟨G, 0, none⟩ = false) ∧ GI W0 G b p r u m l s1 n L (k + 1) (w6.setCell ⟨G, 0, none⟩ v') ∧ (w6.setCell ⟨G, 0, none⟩ v').heap[W0.heap.size]? = W.heap[W0.heap.size]? ∧ (w6.setCell ⟨G, 0, none⟩ v').heap[W0.heap.size + 1]? = W.heap[W0.heap.size + 1]? := by
  have hs := h.sv.size
  have hs4 := hb4.size
  have hs5 : (w4.alloc o).heap.size = w4.heap.size + 1 := by simp
  have bl : ∀ j, j < w4.heap.size → gv.ownBlock ≠ some j → w6.heap[j]? = w4.heap[j]? := fun j hj hn => (hgr.block j (by omega) (fun e => hn e.symm)).trans (Below.heap_alloc _ _ _ hj)
  have nb : ∀ j, j < W0.heap.size + 2 → gv.ownBlock ≠ some j := fun j hj e => by have := go j e; omega
  have nG : ∀ q, v'.ownBlock = some q → W0.heap.size + 2 ≤ q := fun q e => by
    rcases hor with e2 | ⟨q2, e2, h2⟩
    · exact go q (e2.symm.trans e)
    · rw [e2] at e
      cases e
      omega
  have eb : (w6.setCell ⟨G, 0, none⟩ v').heap[b]? = w4.heap[b]? := (Below.heap_setCell w6 ⟨G, 0, none⟩ _ _ (fun e => hGb e.symm)).trans (bl b hB.lt (nb b (by omega)))
  have c6 := World.cell?_of_block (w := w4) (w' := w6) (a := ⟨G, 0, none⟩) (bl G (by omega) (nb G (by omega)))
  have f6 := World.frozen?_of_block (w := w4) (w' := w6) (a := ⟨G, 0, none⟩) (bl G (by omega) (nb G (by omega)))
  have c4 := World.cell?_of_block (w := W) (w' := w4) (a := ⟨G, 0, none⟩) (hb4.block G (by omega) hGb)
  have f4 := World.frozen?_of_block (w := W) (w' := w4) (a := ⟨G, 0, none⟩) (hb4.block G (by omega) hGb)
  have cc := c6.trans (c4.trans gc)
  have ff := f6.trans (f4.trans gf)
  have hs6 : w6.heap.size ≤ (w6.setCell ⟨G, 0, none⟩ v').heap.size := by simp [World.setCell]
  have hs56 := hgr.size
  refine ⟨⟨cc, ff⟩, ⟨?_, ⟨v', ?_, ?_, ?_, nG⟩, ⟨?_, ?_, ?_, by omega, fun j hj hn => ?_⟩, ?_⟩, ?_, ?_⟩
  · rw [BM.atK_succ _ _ _ _ _ _ _ hk]; exact hB.of eb (by omega)
  · simp [go_sem, cc]
  · simp [go_sem, ff]
  · rw [List.take_succ_eq_append_getElem hk]
    exact hq.keep (fun q e => Below.heap_setCell w6 ⟨G, 0, none⟩ _ _ (fun e2 => by have := nG q e; have : q = G := e2; omega)) hs6
  · exact hgr.os.trans (hb4.os.trans h.sv.os)
  · exact hgr.tape.trans (hb4.tape.trans h.sv.tape)
  · exact hgr.output.trans (hb4.output.trans h.sv.output)
  · exact (Below.heap_setCell w6 ⟨G, 0, none⟩ _ _ (fun e => hn (.inr e))).trans ((bl j (by omega) (nb j (by omega))).trans ((hb4.block j (by omega) (fun e => hn (.inl e))).trans (h.sv.block j hj hn)))
  · intro i hi hik
    rcases Nat.lt_or_ge i k with q | q
    · exact h.all i hi q
    · obtain rfl : i = k := by omega
      exact ht
  · exact (Below.heap_setCell w6 ⟨G, 0, none⟩ _ _ (fun e => by have : W0.heap.size = G := e; omega)).trans ((bl _ (by omega) (nb _ (by omega))).trans (hb4.block _ (by omega) (by omega)))
  · exact (Below.heap_setCell w6 ⟨G, 0, none⟩ _ _ (fun e => by have : W0.heap.size + 1 = G := e; omega)).trans ((bl _ (by omega) (nb _ (by omega))).trans (hb4.block _ (by omega) (by omega)))
/-- behind Go. -/
def GoEnd (h g b : Nat) (v : Value) (p r u m l : Int) (s : BM.St) (room : Int) (L : List (Int × Int)) (n : Int) (w : World) (e : Ending) (w' : World) : Prop :=
  ∃ (k : Nat) (s' : BM.St) (A2 : Option Addr) (c2 : Nat) (v2 : Value), e = .returned (.tuple #[.slice A2 k c2, .int .i64 0]) ∧ BM.Goes p r u m l (BM.step p r u m l s n 0).1 n L k s' ∧ ShAt w' h g b v2 p r u m l s' room (L.drop k) ∧ v2.ownBlock = v.ownBlock ∧
    QL w' (.slice A2 k c2) (L.take k) ∧ (∀ q, (Value.slice A2 k c2).ownBlock = some q → w.heap.size ≤ q) ∧ Sav (ShBlk h g b v) w w'
theorem cell_set_far {W : World} {g o : Nat} {v x : Value} {a : Addr} (hn : a.block ≠ g) (h : W.cell? a = some x) : (W.setCell ⟨g, o, none⟩ v).cell? a = some x := (World.cell?_of_block (Below.heap_setCell W ⟨g, o, none⟩ _ _ hn)).trans h
theorem Sav.putObj {W : World} {D : Nat} (o : Obj) : Sav (fun j => j = D) W (W.putObj D o) := ⟨rfl, rfl, rfl, by simp [World.putObj], fun j _ hn => World.putObj_heap_other hn⟩
/-- the shaper behind what went: the slice cut, then the bytes. -/
theorem go_fin {W4 W : World} {G : Nat} {s1 : BM.St} {n : Int} {k : Nat} {v2 gv : Value} (H : ShAt W4 h g b v p r u m l s1 room L) (hG : G < W4.heap.size) (nG : ¬ ShBlk h g b v G) (hI : GI W4 G b p r u m l s1 n L k W) (hk : k ≤ L.length)
    (h2 : QL W4 v2 (L.drop k)) (hv2 : v2.ownBlock = v.ownBlock) (gq : QL W gv (L.take k)) (go : ∀ q, gv.ownBlock = some q → W4.heap.size + 2 ≤ q) :
    ((W.drew.setCell ⟨g, 1, none⟩ v2).cell? ⟨g, 2, none⟩ = some (.int .i64 (sumB L)) ∧ (W.drew.setCell ⟨g, 1, none⟩ v2).frozen? ⟨g, 2, none⟩ = false) ∧
    ∀ w6, Below (W.drew.setCell ⟨g, 1, none⟩ v2).heap.size (W.drew.setCell ⟨g, 1, none⟩ v2) w6 →
      ShAt (w6.setCell ⟨g, 2, none⟩ (.int .i64 (sumB L - sumB (L.take k)))) h g b v2 p r u m l (BM.atK p r u m l s1 n L k) room (L.drop k) ∧ QL (w6.setCell ⟨g, 2, none⟩ (.int .i64 (sumB L - sumB (L.take k)))) gv (L.take k) ∧
        Sav (fun j => ShBlk h g b v j ∨ j = G) W4 (w6.setCell ⟨g, 2, none⟩ (.int .i64 (sumB L - sumB (L.take k)))) ∧ ∀ j, j < W.heap.size → j ≠ g → (w6.setCell ⟨g, 2, none⟩ (.int .i64 (sumB L - sumB (L.take k)))).heap[j]? = W.heap[j]? := by
  have hl1 : 1 ≤ l := by have := rightB_iff H.rt; omega
  have hs := hI.sv.size
  have hgb := H.gb
  have hgG : g ≠ G := fun e => nG (.inr (.inl e.symm))
  have hhG : h ≠ G := fun e => nG (.inl e.symm)
  have hvG : v.ownBlock ≠ some G := fun e => nG (.inr (.inr (.inr e)))
  have hg4 := H.glt
  have hh4 := H.hlt
  have hb4 := H.blt
  have eW : ∀ j, j < W4.heap.size → j ≠ b → j ≠ G → W.heap[j]? = W4.heap[j]? := fun j h1 h2 h3 => hI.sv.block j h1 (fun e => by rcases e with e | e; exact h2 e; exact h3 e)
  have e5 : ∀ j, j ≠ g → (W.drew.setCell ⟨g, 1, none⟩ v2).heap[j]? = W.heap[j]? := fun j hj => Below.heap_setCell W.drew ⟨g, 1, none⟩ _ _ (fun e => hj e)
  have cg := fun o => World.cell?_of_block (w := W4) (w' := W) (a := ⟨g, o, none⟩) (eW g hg4 hgb hgG)
  have fg := fun o => World.frozen?_of_block (w := W4) (w' := W) (a := ⟨g, o, none⟩) (eW g hg4 hgb hgG)
  have g0 : (W.drew.setCell ⟨g, 1, none⟩ v2).cell? ⟨g, 0, none⟩ = some (.pointer (some ⟨b, 0, none⟩)) := by
    have := (cg 0).trans H.g0
    simp [go_sem, this]
  have g1 : (W.drew.setCell ⟨g, 1, none⟩ v2).cell? ⟨g, 1, none⟩ = some v2 := by
    have := (cg 1).trans H.g1
    simp [go_sem, this]
  have g2 : (W.drew.setCell ⟨g, 1, none⟩ v2).cell? ⟨g, 2, none⟩ = some (.int .i64 (sumB L)) := by
    have := (cg 2).trans H.g2
    simp [go_sem, this]
  have g3 : (W.drew.setCell ⟨g, 1, none⟩ v2).cell? ⟨g, 3, none⟩ = some (.int .i64 room) := by
    have := (cg 3).trans H.g3
    simp [go_sem, this]
  have f1 : (W.drew.setCell ⟨g, 1, none⟩ v2).frozen? ⟨g, 1, none⟩ = false := by
    have := (fg 1).trans H.e1
    simp [go_sem, this]
  have f2 : (W.drew.setCell ⟨g, 1, none⟩ v2).frozen? ⟨g, 2, none⟩ = false := by
    have := (fg 2).trans H.e2
    simp [go_sem, this]
  have s5 : W.heap.size ≤ (W.drew.setCell ⟨g, 1, none⟩ v2).heap.size := by show W.drew.heap.size ≤ _; simp [World.setCell]
  refine ⟨⟨g2, f2⟩, fun w6 hb => ?_⟩
  have s6 := hb.size
  have c6 := fun o => hb.cell (p := ⟨g, o, none⟩) (show g < _ by omega)
  have ff6 := fun o => hb.frozen (p := ⟨g, o, none⟩) (show g < _ by omega)
  have s7 : w6.heap.size ≤ (w6.setCell ⟨g, 2, none⟩ (.int .i64 (sumB L - sumB (L.take k)))).heap.size := by simp [World.setCell]
  have e7 : ∀ j, j < W.heap.size → j ≠ g → (w6.setCell ⟨g, 2, none⟩ (.int .i64 (sumB L - sumB (L.take k)))).heap[j]? = W.heap[j]? := fun j h1 h2 =>
    (Below.heap_setCell w6 ⟨g, 2, none⟩ _ _ (fun e => h2 e)).trans ((hb.block j (by omega)).trans (e5 j h2))
  have k0 := (c6 0).trans g0
  have k1 := (c6 1).trans g1
  have k2 := (c6 2).trans g2
  have k3 := (c6 3).trans g3
  have l1 := (ff6 1).trans f1
  have l2 := (ff6 2).trans f2
  have hsum := sumB_take L k
  have hnn := sumB_le (L := L) (fun x hx => by have := H.sz x hx; omega) k
  have ch := World.cell?_of_block (w := W4) (w' := (w6.setCell ⟨g, 2, none⟩ (.int .i64 (sumB L - sumB (L.take k))))) (a := ⟨h, 0, none⟩) ((e7 h (by omega) H.hg).trans (eW h hh4 H.hb hhG))
  refine ⟨⟨hI.bk.of (e7 b (by omega) (fun e => hgb e.symm)) (by omega), h2.keep (fun q e => ?_) (by omega), ch.trans H.h0, ?_, ?_, ?_, ?_, ?_, ?_, H.hg, H.hb, H.gb, hv2 ▸ H.vh, hv2 ▸ H.vg, hv2 ▸ H.vb, H.rt, BM.atK_ok hl1 H.ok, H.sz.drop k, H.r0, H.r1, by have := H.sm; omega⟩,
    gq.keep (fun q e => e7 q (gq.lt q e) (by have := go q e; omega)) (by omega), ⟨hb.os.trans hI.sv.os, hb.tape.trans hI.sv.tape, hb.output.trans hI.sv.output, by omega, fun j hj hn => ?_⟩, e7⟩
  · rw [hv2] at e
    exact (e7 q (by have := H.q.lt q e; omega) (fun e2 => by subst e2; exact H.vg e)).trans (eW q (H.q.lt q e) (fun e2 => by subst e2; exact H.vb e) (fun e2 => by subst e2; exact hvG e))
  · simp [go_sem, k0]
  · simp [go_sem, k1]
  · rw [show sumB (L.drop k) = sumB L - sumB (L.take k) by omega]
    simp [go_sem, k2]
  · simp [go_sem, k3]
  · simp [go_sem, l1]
  · simp [go_sem, l2]
  · exact (e7 j (by omega) (fun e => hn (.inl (.inr (.inl e))))).trans (eW j hj (fun e => hn (.inl (.inr (.inr (.inl e))))) (fun e => hn (.inr e)))
set_option maxRecDepth 100000 in
set_option maxHeartbeats 8000000 in
set_option pp.deepTerms true in
set_option pp.maxSteps 100000 in
theorem go_yes (H : ShAt w h g b v p r u m l s room L) (n : Int) (hn : BM.askB s n = true) : Calls Try.prog 16 #[.pointer (some ⟨h, 0, none⟩), .int .i64 n] w (GoEnd h g b v p r u m l s room L n w) := by
  have HH := hidd H
  obtain ⟨W1, hW1⟩ : ∃ W1, (w.alloc (.cells #[.pointer (some ⟨h, 0, none⟩)] 26)).alloc (.cells #[.int .i64 n] 2) = W1 := ⟨_, rfl⟩
  have B1 := hidd (show Below w.heap.size w W1 from by rw [← hW1]; (repeat' (first | (with_reducible exact Below.refl _ _) | (with_reducible assumption) | (with_reducible apply Below.setCell) | (with_reducible apply Below.alloc) | (with_reducible apply Below.drew) | (with_reducible apply below_drewN) | (with_reducible refine Below.trans ?_ (Below.mono (by assumption) ?_)) | omega | (simp; done) | (simp; omega))))
  have H1 := hidd (H.below B1.out)
  have z1 : W1.heap.size = w.heap.size + 2 := by rw [← hW1]; simp
  have T0 : Hid (W1.cell? ⟨w.heap.size, 0, none⟩ = some (.pointer (some ⟨h, 0, none⟩))) := hidd (by rw [← hW1]; simp [go_sem])
  have T1 : Hid (W1.cell? ⟨w.heap.size + 1, 0, none⟩ = some (.int .i64 n)) := hidd (by rw [← hW1]; simp [go_sem])
  have c := hidd (shNone_yes H1.out.h0)
  have cM := hidd (moveTo_any (w := W1.drew) H1.out.bk.drew H1.out.g0 H1.out.rt H1.out.ok n)
  have Z1 := hidd z1
  have HW := hidd hW1
  clear hW1
  have hS1 : Hid (W1.drew.cell? ⟨w.heap.size, 0, none⟩ = some (.pointer (some ⟨h, 0, none⟩)) ∧ W1.drew.cell? ⟨w.heap.size + 1, 0, none⟩ = some (.int .i64 n) ∧ W1.drew.cell? ⟨h, 0, none⟩ = some (.pointer (some ⟨g, 0, none⟩))) := hidd ⟨T0.out, T1.out, H1.out.h0⟩
  have KM : Hid (∀ Y, But b W1.drew Y → Y.cell? ⟨w.heap.size, 0, none⟩ = some (.pointer (some ⟨h, 0, none⟩)) ∧ Y.cell? ⟨w.heap.size + 1, 0, none⟩ = some (.int .i64 n) ∧ Y.cell? ⟨h, 0, none⟩ = some (.pointer (some ⟨g, 0, none⟩))) := hidd (fun Y hb => by
    have hs := Z1.out
    have blt := HH.out.blt
    have hlt := HH.out.hlt
    exact ⟨(hb.cell (show w.heap.size < W1.drew.heap.size by show w.heap.size < W1.heap.size; omega) (by omega) 0).trans T0.out, (hb.cell (show w.heap.size + 1 < W1.drew.heap.size by show _ < W1.heap.size; omega) (by omega) 0).trans T1.out, (hb.cell (show h < W1.drew.heap.size by show h < W1.heap.size; omega) H1.out.hb 0).trans H1.out.h0⟩)
  have e : (BM.step p r u m l s n 0).2.2 = 0 := by unfold BM.step; rw [if_pos hn]; split <;> rfl
  have hok : Hid (BM.Ok u m (BM.step p r u m l s n 0).1) := hidd (BM.step_ok H.ok (by have := rightB_iff H.rt; omega) n 0)
  have hst : Hid ((BM.step p r u m l s n 0).1.1 = n ∧ n ≤ 2147483647) := hidd ⟨by unfold BM.step; rw [if_pos hn]; split <;> rfl, (of_decide_eq_true hn).2⟩
  rw [e] at cM
  clear H hn e z1
  unfold GoEnd
  obtain ⟨PO, hPO⟩ : ∃ PO : Ending → World → Prop, GoEnd h g b v p r u m l s room L n w = PO := ⟨_, rfl⟩
  have HPO := hidd hPO
  unfold GoEnd at hPO
  rw [hPO]
  clear hPO
  have HENDQ : Hid (∀ e w', GoEnd h g b v p r u m l s room L n w e w' → PO e w') := hidd (fun e w' q => by rw [← HPO.out]; exact q)
  unfold GoEnd at HENDQ
  clear HPO
  generalize (BM.step p r u m l s n 0).1 = s1 at *
  refine (callsIn_wide (n := 6)).1 ?_
  refine callsIn_of_wp_marks Try.func16 rfl trivial ?_ rfl
  simp only [Try.ntmps16, List.size_toArray, List.length_cons, List.length_nil, Nat.reduceAdd, Nat.reduceSub, Array.replicate_succ, Array.replicate_zero, List.push_toArray, List.append_toArray, List.nil_append, List.cons_append]
  refine wpIn_wide.2 ?_
  go_wp2_with fail
  rw [HW.out]
  clear HW
  have t0 := T0.out
  refine wp_scope_straight ?_
  go_wp2_with fail
  refine c.out.mono ?_
  rintro e w' ⟨rfl, rfl⟩
  go_wp2_with fail
  refine wp_noP ?_
  refine wp_region_held_drew (S := (fun Y => Y.cell? ⟨w.heap.size, 0, none⟩ = some (.pointer (some ⟨h, 0, none⟩)) ∧ Y.cell? ⟨w.heap.size + 1, 0, none⟩ = some (.int .i64 n) ∧ Y.cell? ⟨h, 0, none⟩ = some (.pointer (some ⟨g, 0, none⟩)))) (by kernel_rfl) (hS1.out) (fun hH => ?_)
  refine wpAnyH_take (i := 0) (v := ?vm0_1) (by (conv => lhs; simp only [List.getElem?_toArray, List.getElem?_cons_succ, List.getElem?_cons_zero])) (by kernel_rfl) (by kernel_rfl) (by kernel_rfl) ?hQ (Or.inl ⟨by rfl, ?hym0_1⟩) hH ?restm0_1
  case hQ => exact fun _ _ _ h => h
  case hym0_1 => (intro Y hY; obtain ⟨y0, y1, y2⟩ := hY; go_simp; try (with_reducible rfl))
  try simp only [Act.put, List.setIfInBounds_toArray, List.set_cons_zero, List.set_cons_succ]
  refine wpAnyH_take (i := 1) (v := ?vm1_2) (by (conv => lhs; simp only [List.getElem?_toArray, List.getElem?_cons_succ, List.getElem?_cons_zero])) (by kernel_rfl) (by kernel_rfl) (by kernel_rfl) ?hQ (Or.inl ⟨by rfl, ?hym1_2⟩) hH ?restm1_2
  case hQ => exact fun _ _ _ h => h
  case hym1_2 => (intro Y hY; obtain ⟨y0, y1, y2⟩ := hY; go_simp; try (with_reducible rfl))
  try simp only [Act.put, List.setIfInBounds_toArray, List.set_cons_zero, List.set_cons_succ]
  refine wpAnyH_take (i := 2) (v := ?vm2_3) (by (conv => lhs; simp only [List.getElem?_toArray, List.getElem?_cons_succ, List.getElem?_cons_zero])) (by kernel_rfl) (by kernel_rfl) (by kernel_rfl) ?hQ (Or.inl ⟨by rfl, ?hym2_3⟩) hH ?restm2_3
  case hQ => exact fun _ _ _ h => h
  case hym2_3 => (intro Y hY; obtain ⟨y0, y1, y2⟩ := hY; go_simp; try (with_reducible rfl))
  try simp only [Act.put, List.setIfInBounds_toArray, List.set_cons_zero, List.set_cons_succ]
  refine wpAnyH_take (i := 3) (v := ?vm3_4) (by (conv => lhs; simp only [List.getElem?_toArray, List.getElem?_cons_succ, List.getElem?_cons_zero])) (by kernel_rfl) (by kernel_rfl) (by kernel_rfl) ?hQ (Or.inl ⟨by rfl, ?hym3_4⟩) hH ?restm3_4
  case hQ => exact fun _ _ _ h => h
  case hym3_4 => (intro Y hY; obtain ⟨y0, y1, y2⟩ := hY; go_simp; try (with_reducible rfl))
  try simp only [Act.put, List.setIfInBounds_toArray, List.set_cons_zero, List.set_cons_succ]
  refine wpAnyH_take (i := 4) (v := ?vm4_5) (by (conv => lhs; simp only [List.getElem?_toArray, List.getElem?_cons_succ, List.getElem?_cons_zero])) (by kernel_rfl) (by kernel_rfl) (by kernel_rfl) ?hQ (Or.inl ⟨by rfl, ?hym4_5⟩) hH ?restm4_5
  case hQ => exact fun _ _ _ h => h
  case hym4_5 => (intro Y hY; obtain ⟨y0, y1, y2⟩ := hY; go_simp; try (with_reducible rfl))
  try simp only [Act.put, List.setIfInBounds_toArray, List.set_cons_zero, List.set_cons_succ]
  refine wpAnyH_ready (rs := [5]) (by kernel_rfl) (by simp) ?_
  refine AllReadyH.cons (by (conv => lhs; simp only [List.getElem?_toArray, List.getElem?_cons_succ, List.getElem?_cons_zero])) (fun K hK => ?_) AllReadyH.nil
  go_simp
  go_at_call 33; refine cM.out.mono ?_; rintro e w2 ⟨rfl, hB2, hb2⟩
  have HB2 := hidd hB2
  have Hb2 := hidd hb2
  refine hK.out _ _ (KM.out _ hb2) (fun hHa => ?_)
  clear hK hH hB2 hb2
  try simp only [Act.put, List.setIfInBounds_toArray, List.set_cons_zero, List.set_cons_succ]
  refine wpAnyH_take (i := 6) (v := ?vm6_6) (by (conv => lhs; simp only [List.getElem?_toArray, List.getElem?_cons_succ, List.getElem?_cons_zero])) (by kernel_rfl) (by kernel_rfl) (by kernel_rfl) ?hQ (Or.inl ⟨by rfl, ?hym6_6⟩) hHa ?restm6_6
  case hQ => exact fun _ _ _ h => h
  case hym6_6 => (intro Y hY; obtain ⟨y0, y1, y2⟩ := hY; go_simp; try (with_reducible rfl))
  try simp only [Act.put, List.setIfInBounds_toArray, List.set_cons_zero, List.set_cons_succ]
  refine wpAnyH_done (by kernel_rfl) (noP_of ?_) _
  have H2 := hidd (H1.out.but HB2.out (But.trans (below_but (Below.drew (Below.refl _ _)) b) Hb2.out) hok.out)
  have hb12 := hidd (But.trans (below_but (Below.drew (Below.refl W1.heap.size W1)) b) Hb2.out)
  obtain ⟨k0, k1, k2⟩ := hHa
  clear HB2 Hb2 cM KM hS1 t0 c
  go_wp2_with fail
  refine wp_label ?_
  simp only [Exit.then]
  go_at_K
  obtain ⟨W3, hW3⟩ : ∃ W3, w2.alloc (.cells #[.slice none 0 0] 33) = W3 := ⟨_, rfl⟩
  have b3 : Below w2.heap.size w2 W3 := by rw [← hW3]; exact below_new (Below.refl _ _) _
  have G0 := hidd (show W3.cell? ⟨w2.heap.size, 0, none⟩ = some (.slice none 0 0) ∧ W3.frozen? ⟨w2.heap.size, 0, none⟩ = false ∧ w2.heap.size < W3.heap.size from by rw [← hW3]; exact ⟨by simp [go_sem], by simp [go_sem], by simp⟩)
  have H3 := hidd (H2.out.below b3)
  have hz2 : w.heap.size + 2 ≤ w2.heap.size := by have := hb12.out.size; have := Z1.out; omega
  have q0 := (b3.cell (p := ⟨w.heap.size, 0, none⟩) (by show w.heap.size < _; omega)).trans k0
  have q1 := (b3.cell (p := ⟨w.heap.size + 1, 0, none⟩) (by show w.heap.size + 1 < _; omega)).trans k1
  have b23 := hidd b3
  rw [hW3]
  clear hW3 k0 k1 k2 b3
  have cA := hidd (all_any H3.out)
  go_wp2_with fail
  refine cA.out.mono ?_
  rintro e w' ⟨rfl, rfl⟩
  obtain ⟨A, c, rfl, hlc, hcm, hLie⟩ := H3.out.q.lie
  obtain ⟨W4, hW4⟩ : ∃ W4, W3.alloc (.cells #[.slice A L.length c] 33) = W4 := ⟨_, rfl⟩
  have b4 : Below W3.heap.size W3 W4 := by rw [← hW4]; exact below_new (Below.refl _ _) _
  have QC := hidd (show W4.cell? ⟨W3.heap.size, 0, none⟩ = some (.slice A L.length c) ∧ W3.heap.size < W4.heap.size from by rw [← hW4]; exact ⟨by simp [go_sem], by simp⟩)
  have H4 := hidd (H3.out.below b4)
  have q0 := hidd ((b4.cell (p := ⟨w.heap.size, 0, none⟩) (by show w.heap.size < _; have := G0.out.2.2; omega)).trans q0)
  have q1 := hidd ((b4.cell (p := ⟨w.heap.size + 1, 0, none⟩) (by show w.heap.size + 1 < _; have := G0.out.2.2; omega)).trans q1)
  have G4 := hidd (show W4.cell? ⟨w2.heap.size, 0, none⟩ = some (.slice none 0 0) ∧ W4.frozen? ⟨w2.heap.size, 0, none⟩ = false from ⟨(b4.cell (p := ⟨w2.heap.size, 0, none⟩) G0.out.2.2).trans G0.out.1, (b4.frozen (p := ⟨w2.heap.size, 0, none⟩) G0.out.2.2).trans G0.out.2.1⟩)
  have ZG : Hid (w2.heap.size < W3.heap.size) := hidd G0.out.2.2
  have b34 := hidd b4
  rw [hW4]
  have HS4 : Hid (Sav (ShBlk h g b (.slice A L.length c)) w W4) := hidd ((((Sav.of B1.out).trans (hb12.out.sav (S := ShBlk h g b (.slice A L.length c)) (.inr (.inr (.inl rfl)))) (fun _ _ q => q)).trans (Sav.of (S := ShBlk h g b (.slice A L.length c)) b23.out) (fun _ _ q => q)).trans (Sav.of (S := ShBlk h g b (.slice A L.length c)) b4) (fun _ _ q => q))
  clear hW4 b4 hLie G0 H3 cA
  generalize hQ : W3.heap.size = Q at *
  generalize hG : w2.heap.size = G at *
  go_wp2_with fail
  refine (wpIn_wide (n := 6)).1 ?_
  refine wpIn_rangeFunc_V (L := L) rfl (by omega) (gf := 54) (lb := #[.pointer (some ⟨Q, 0, none⟩)]) rfl trivial (enters_of Try.func54 (by kernel_rfl) rfl)
    (vals1_in (6 - 1) (by omega) Q A c L (by have := H4.out.len; omega)) (fun _ => rfl)
    (GI W4 G b p r u m l s1 n L) (fun c' k W => c' = .exit 0 ∧ GI W4 G b p r u m l s1 n L k W ∧ ∀ hk : k < L.length, (BM.step p r u m l (BM.atK p r u m l s1 n L k) n L[k].2).2.1 = false)
    ?read ?own ?ownx ?start (fun x => .cells #[.int .i64 x.1, .int .i64 x.2] 41)
    (fun x q => { tmps := #[.pointer (some ⟨h, 0, none⟩), .int .i64 n, .pointer (some ⟨w.heap.size, 0, none⟩), .pointer (some ⟨w.heap.size + 1, 0, none⟩), .slice none 0 0, .int .i64 0, .int .i64 0, .pointer (some ⟨G, 0, none⟩), .pointer (some ⟨q, 0, none⟩), undef, undef, .pointer (some ⟨h, 0, none⟩), .bool false, .pointer (some ⟨h, 0, none⟩), .pointer (some ⟨h, 0, none⟩), .pointer (some ⟨h, 0, none⟩), .pointer (some ⟨g, 0, none⟩), .int .i64 n, .int .i64 0, .int .i64 0, .bool false, undef, .pointer (some ⟨h, 0, none⟩), .func (.func 54) #[] #[.pointer (some ⟨Q, 0, none⟩)], agW x, undef, undef, undef, undef, undef, undef, undef, undef, undef, undef, undef, undef, undef, undef, undef, undef, undef, undef, undef, undef, undef, undef, undef, undef, undef, undef, undef, undef, undef, undef, undef, undef, undef, undef, undef, undef, undef, undef, undef, undef, undef, undef, undef, undef, undef, undef, undef, undef, undef], defers := [] })
    ?assign ?body ?done ?stop
  case read =>
    intro k W hI
    have hQ4 := QC.out.2
    have hGQ := ZG.out
    have hbw := HH.out.blt
    obtain ⟨A2, c2, e2, _, _, hl2⟩ := (H4.out.q.keep (w' := W) (fun j e => hI.sv.block j (H4.out.q.lt j e) (fun o => by
      rcases o with o | o
      · exact H4.out.vb (o ▸ e)
      · have := HH.out.q.lt j e; omega)) hI.sv.size).lie
    cases e2
    exact ⟨(hI.sv.cell (p := ⟨Q, 0, none⟩) hQ4 (fun o => by rcases o with o | o <;> (have : Q = _ := o; omega))).trans QC.out.1, hl2⟩
  case own => exact fun k W Y hI hr => hI.rng (by have := QC.out.2; have := ZG.out; omega) (H4.out.blt) hr
  case ownx => exact fun c k W Y hI hr => ⟨hI.1, hI.2.1.rng (by have := QC.out.2; have := ZG.out; omega) (H4.out.blt) hr, hI.2.2⟩
  case start => exact ⟨H4.out.bk, ⟨_, G4.out.1, G4.out.2, by rw [List.take_zero]; exact QL.nil _, fun q e => by cases e⟩, Sav.refl _ _, fun i hi h => absurd h (by omega)⟩
  case assign =>
    rintro l k x W K hI hK
    unfold agW
    gi_wp2
    exact hK
  case body =>
    rintro l' k q W hk hq hxq hI
    have hbw := HH.out.blt
    have hhw := HH.out.hlt
    have hgw := HH.out.glt
    have hQ4 := QC.out.2
    have hGQ := ZG.out
    have hWs := hI.sv.size
    have sk : ∀ j o, j < W4.heap.size → j ≠ b → j ≠ G → W.cell? ⟨j, o, none⟩ = W4.cell? ⟨j, o, none⟩ := fun j o h1 h2 h3 => hI.sv.cell (p := ⟨j, o, none⟩) h1 (fun e => by rcases e with e | e; exact h2 e; exact h3 e)
    have hqW : q < W.heap.size := (Array.getElem?_eq_some_iff.1 hxq).1
    have y0 : W.cell? ⟨w.heap.size, 0, none⟩ = some (.pointer (some ⟨h, 0, none⟩)) := (sk _ 0 (by omega) (by omega) (by omega)).trans q0.out
    have y1 : W.cell? ⟨w.heap.size + 1, 0, none⟩ = some (.int .i64 n) := (sk _ 0 (by omega) (by omega) (by omega)).trans q1.out
    have y2 : W.cell? ⟨h, 0, none⟩ = some (.pointer (some ⟨g, 0, none⟩)) := (sk _ 0 (by omega) H4.out.hb (by omega)).trans H4.out.h0
    have y3 : W.cell? ⟨g, 0, none⟩ = some (.pointer (some ⟨b, 0, none⟩)) := (sk _ 0 (by omega) H4.out.gb (by omega)).trans H4.out.g0
    have x0 : W.cell? ⟨q, 0, none⟩ = some (.int .i64 L[k].1) := by simp [World.cell?, hxq]
    have x1 : W.cell? ⟨q, 1, none⟩ = some (.int .i64 L[k].2) := by simp [World.cell?, hxq]
    have hl1 : 1 ≤ l := by have := rightB_iff H4.out.rt; omega
    have cT := hidd (btake_any (w := W.drew) hI.bk.drew H4.out.rt (BM.atK_ok hl1 hok.out) n L[k].2)
    unfold TakeEnd at cT
    have NEXT := hidd (fun (w4 w6 : World) (gv v2 : Value) (o : Obj) hB hb4 ht go gf gc hq hgr hor => GI.next (w4 := w4) (w6 := w6) (gv := gv) (v' := v2) (o := o) hI (by omega) (by omega) (by omega) hk (by omega) hB hb4 ht go gf gc hq hgr hor)
    have hnow := BM.atK_now (p := p) (r := r) (u := u) (m := m) (l := l) (L := L) (k := k) hst.out.1 hst.out.2 (by omega)
    have hask : BM.askB (BM.atK p r u m l s1 n L k) n = true := decide_eq_true ⟨by rw [hnow]; exact Int.le_refl _, hst.out.2⟩
    have hnow2 : (BM.step p r u m l (BM.atK p r u m l s1 n L k) n L[k].2).1.1 = n := by unfold BM.step; rw [if_pos hask]; split <;> rfl
    have STOP := hidd (fun (w4 : World) (hB : BktAt w4 b p r u m l (BM.step p r u m l (BM.atK p r u m l s1 n L k) n L[k].2).1) (hb4 : But b W w4) (hf : (BM.step p r u m l (BM.atK p r u m l s1 n L k) n L[k].2).2.1 = false) => (show GI W4 G b p r u m l s1 n L k w4 ∧ ∀ hk : k < L.length, (BM.step p r u m l (BM.atK p r u m l s1 n L k) n L[k].2).2.1 = false from ⟨hI.but (by omega) (by omega) (by omega) hb4 (by rw [BM.step_same (BM.atK_ok hl1 hok.out) hf (hnow2.trans hnow.symm)] at hB; exact hB), fun _ => hf⟩))
    obtain ⟨gv, gc, gf, gq, go⟩ := hI.gv
    have GQ := hidd gq
    have GO := hidd go
    have GC := hidd gc
    have GF := hidd gf
    have hkL : Hid (∀ w5 : World, (L.take k).length ≤ 1000000000) := hidd (fun _ => by have := H4.out.len; simp; omega)
    have hxy : Hid (L[k] = (L[k].1, L[k].2)) := hidd rfl
    have KB : Hid (∀ Y, But b W Y → Y.cell? ⟨w.heap.size, 0, none⟩ = some (.pointer (some ⟨h, 0, none⟩)) ∧ Y.cell? ⟨w.heap.size + 1, 0, none⟩ = some (.int .i64 n) ∧ Y.cell? ⟨h, 0, none⟩ = some (.pointer (some ⟨g, 0, none⟩)) ∧ Y.cell? ⟨g, 0, none⟩ = some (.pointer (some ⟨b, 0, none⟩)) ∧ Y.cell? ⟨q, 1, none⟩ = some (.int .i64 L[k].2)) := hidd (fun Y hb => ⟨(hb.cell (by omega) (by omega) 0).trans y0, (hb.cell (by omega) (by omega) 0).trans y1, (hb.cell (by omega) H4.out.hb 0).trans y2, (hb.cell (by omega) H4.out.gb 0).trans y3, (hb.cell hqW (by omega) 1).trans x1⟩)
    have KX : Hid (∀ Y, But b W Y → Y.cell? ⟨q, 0, none⟩ = some (.int .i64 L[k].1)) := hidd (fun Y hb => (hb.cell hqW (by omega) 0).trans x0)
    have hqb : q ≠ b := by omega
    have hqG : q ≠ G := by omega
    have HKB : Hid (W4.heap.size ≠ b ∧ W4.heap.size + 1 ≠ b ∧ W4.heap.size + 1 < W.heap.size) := hidd ⟨by omega, by omega, by omega⟩
    clear hI hxq sk x0 hnow hask hnow2 gq go gc gf hl1
    clear hxy
    generalize hxe : L[k] = x at *
    obtain ⟨i, z⟩ := x
    dsimp only at *
    have HXY := hidd hxe
    clear hxe
    generalize BM.step p r u m l (BM.atK p r u m l s1 n L k) n z = St at *
    obtain ⟨St1, is, St2⟩ := St
    dsimp only at *
    have hmix : Try.prog.follows .mixedOrders = true := by kernel_rfl
    unfold agW
    gi_wp2_with fail
    refine Tp.wpIn_held_round (fun Y => Y.cell? ⟨w.heap.size, 0, none⟩ = some (.pointer (some ⟨h, 0, none⟩)) ∧ Y.cell? ⟨w.heap.size + 1, 0, none⟩ = some (.int .i64 n) ∧ Y.cell? ⟨h, 0, none⟩ = some (.pointer (some ⟨g, 0, none⟩)) ∧ Y.cell? ⟨g, 0, none⟩ = some (.pointer (some ⟨b, 0, none⟩)) ∧ Y.cell? ⟨q, 1, none⟩ = some (.int .i64 z)) hmix ?_ rfl ⟨y0, y1, y2, y3, x1⟩ (fun hH => ?_)
    · rintro ⟨_, _, h⟩
      exact h
    refine wpAnyH_take (i := 0) (v := ?vb0_1) (by (conv => lhs; simp only [List.getElem?_toArray, List.getElem?_cons_succ, List.getElem?_cons_zero])) (by kernel_rfl) (by kernel_rfl) (by kernel_rfl) ?hQ (Or.inl ⟨by rfl, ?hyb0_1⟩) hH ?restb0_1
    case hQ => exact fun _ _ _ h => h
    case hyb0_1 => (intro Y hY; obtain ⟨y0, y1, y2, y3, y4⟩ := hY; go_simp; try (with_reducible rfl))
    try simp only [Act.put, List.setIfInBounds_toArray, List.set_cons_zero, List.set_cons_succ]
    refine wpAnyH_take (i := 1) (v := ?vb1_2) (by (conv => lhs; simp only [List.getElem?_toArray, List.getElem?_cons_succ, List.getElem?_cons_zero])) (by kernel_rfl) (by kernel_rfl) (by kernel_rfl) ?hQ (Or.inl ⟨by rfl, ?hyb1_2⟩) hH ?restb1_2
    case hQ => exact fun _ _ _ h => h
    case hyb1_2 => (intro Y hY; obtain ⟨y0, y1, y2, y3, y4⟩ := hY; go_simp; try (with_reducible rfl))
    try simp only [Act.put, List.setIfInBounds_toArray, List.set_cons_zero, List.set_cons_succ]
    refine wpAnyH_take (i := 2) (v := ?vb2_3) (by (conv => lhs; simp only [List.getElem?_toArray, List.getElem?_cons_succ, List.getElem?_cons_zero])) (by kernel_rfl) (by kernel_rfl) (by kernel_rfl) ?hQ (Or.inl ⟨by rfl, ?hyb2_3⟩) hH ?restb2_3
    case hQ => exact fun _ _ _ h => h
    case hyb2_3 => (intro Y hY; obtain ⟨y0, y1, y2, y3, y4⟩ := hY; go_simp; try (with_reducible rfl))
    try simp only [Act.put, List.setIfInBounds_toArray, List.set_cons_zero, List.set_cons_succ]
    refine wpAnyH_take (i := 3) (v := ?vb3_4) (by (conv => lhs; simp only [List.getElem?_toArray, List.getElem?_cons_succ, List.getElem?_cons_zero])) (by kernel_rfl) (by kernel_rfl) (by kernel_rfl) ?hQ (Or.inl ⟨by rfl, ?hyb3_4⟩) hH ?restb3_4
    case hQ => exact fun _ _ _ h => h
    case hyb3_4 => (intro Y hY; obtain ⟨y0, y1, y2, y3, y4⟩ := hY; go_simp; try (with_reducible rfl))
    try simp only [Act.put, List.setIfInBounds_toArray, List.set_cons_zero, List.set_cons_succ]
    refine wpAnyH_take (i := 4) (v := ?vb4_5) (by (conv => lhs; simp only [List.getElem?_toArray, List.getElem?_cons_succ, List.getElem?_cons_zero])) (by kernel_rfl) (by kernel_rfl) (by kernel_rfl) ?hQ (Or.inl ⟨by rfl, ?hyb4_5⟩) hH ?restb4_5
    case hQ => exact fun _ _ _ h => h
    case hyb4_5 => (intro Y hY; obtain ⟨y0, y1, y2, y3, y4⟩ := hY; go_simp; try (with_reducible rfl))
    try simp only [Act.put, List.setIfInBounds_toArray, List.set_cons_zero, List.set_cons_succ]
    refine wpAnyH_take (i := 5) (v := ?vb5_6) (by (conv => lhs; simp only [List.getElem?_toArray, List.getElem?_cons_succ, List.getElem?_cons_zero])) (by kernel_rfl) (by kernel_rfl) (by kernel_rfl) ?hQ (Or.inl ⟨by rfl, ?hyb5_6⟩) hH ?restb5_6
    case hQ => exact fun _ _ _ h => h
    case hyb5_6 => (intro Y hY; obtain ⟨y0, y1, y2, y3, y4⟩ := hY; go_simp; try (with_reducible rfl))
    try simp only [Act.put, List.setIfInBounds_toArray, List.set_cons_zero, List.set_cons_succ]
    refine wpAnyH_take (i := 6) (v := ?vb6_7) (by (conv => lhs; simp only [List.getElem?_toArray, List.getElem?_cons_succ, List.getElem?_cons_zero])) (by kernel_rfl) (by kernel_rfl) (by kernel_rfl) ?hQ (Or.inl ⟨by rfl, ?hyb6_7⟩) hH ?restb6_7
    case hQ => exact fun _ _ _ h => h
    case hyb6_7 => (intro Y hY; obtain ⟨y0, y1, y2, y3, y4⟩ := hY; go_simp; try (with_reducible rfl))
    try simp only [Act.put, List.setIfInBounds_toArray, List.set_cons_zero, List.set_cons_succ]
    refine wpAnyH_take (i := 7) (v := ?vb7_8) (by (conv => lhs; simp only [List.getElem?_toArray, List.getElem?_cons_succ, List.getElem?_cons_zero])) (by kernel_rfl) (by kernel_rfl) (by kernel_rfl) ?hQ (Or.inl ⟨by rfl, ?hyb7_8⟩) hH ?restb7_8
    case hQ => exact fun _ _ _ h => h
    case hyb7_8 => (intro Y hY; obtain ⟨y0, y1, y2, y3, y4⟩ := hY; go_simp; try (with_reducible rfl))
    try simp only [Act.put, List.setIfInBounds_toArray, List.set_cons_zero, List.set_cons_succ]
    refine wpAnyH_take (i := 8) (v := ?vb8_9) (by (conv => lhs; simp only [List.getElem?_toArray, List.getElem?_cons_succ, List.getElem?_cons_zero])) (by kernel_rfl) (by kernel_rfl) (by kernel_rfl) ?hQ (Or.inl ⟨by rfl, ?hyb8_9⟩) hH ?restb8_9
    case hQ => exact fun _ _ _ h => h
    case hyb8_9 => (intro Y hY; obtain ⟨y0, y1, y2, y3, y4⟩ := hY; go_simp; try (with_reducible rfl))
    try simp only [Act.put, List.setIfInBounds_toArray, List.set_cons_zero, List.set_cons_succ]
    refine wpAnyH_take (i := 9) (v := ?vb9_10) (by (conv => lhs; simp only [List.getElem?_toArray, List.getElem?_cons_succ, List.getElem?_cons_zero])) (by kernel_rfl) (by kernel_rfl) (by kernel_rfl) ?hQ (Or.inl ⟨by rfl, ?hyb9_10⟩) hH ?restb9_10
    case hQ => exact fun _ _ _ h => h
    case hyb9_10 => (intro Y hY; obtain ⟨y0, y1, y2, y3, y4⟩ := hY; go_simp; try (with_reducible rfl))
    try simp only [Act.put, List.setIfInBounds_toArray, List.set_cons_zero, List.set_cons_succ]
    refine wpAnyH_ready (rs := [10]) (by kernel_rfl) (by simp) ?_
    refine AllReadyH.cons (by (conv => lhs; simp only [List.getElem?_toArray, List.getElem?_cons_succ, List.getElem?_cons_zero])) (fun K hK => ?_) AllReadyH.nil
    go_simp
    go_at_call 34; refine cT.out.mono ?_; rintro e w4 ⟨rfl, hB4, hb4⟩
    have hb4 : But b W w4 := But.trans (below_but (Below.drew (Below.refl W.heap.size W)) b) hb4
    have HB4 := hidd hB4
    have Hb4 := hidd hb4
    refine hK.out _ _ (KB.out _ hb4) (fun hHa => ?_)
    clear hK hH hB4 hb4
    try simp only [Act.put, List.setIfInBounds_toArray, List.set_cons_zero, List.set_cons_succ]
    refine wpAnyH_take (i := 11) (v := ?vb11_11) (by (conv => lhs; simp only [List.getElem?_toArray, List.getElem?_cons_succ, List.getElem?_cons_zero])) (by kernel_rfl) (by kernel_rfl) (by kernel_rfl) ?hQ (Or.inl ⟨by rfl, ?hyb11_11⟩) hHa ?restb11_11
    case hQ => exact fun _ _ _ h => h
    case hyb11_11 => (intro Y hY; obtain ⟨y0, y1, y2, y3, y4⟩ := hY; go_simp; try (with_reducible rfl))
    try simp only [Act.put, List.setIfInBounds_toArray, List.set_cons_zero, List.set_cons_succ]
    refine wpAnyH_take (i := 12) (v := ?vb12_12) (by (conv => lhs; simp only [List.getElem?_toArray, List.getElem?_cons_succ, List.getElem?_cons_zero])) (by kernel_rfl) (by kernel_rfl) (by kernel_rfl) ?hQ (Or.inl ⟨by rfl, ?hyb12_12⟩) hHa ?restb12_12
    case hQ => exact fun _ _ _ h => h
    case hyb12_12 => (intro Y hY; obtain ⟨y0, y1, y2, y3, y4⟩ := hY; go_simp; try (with_reducible rfl))
    try simp only [Act.put, List.setIfInBounds_toArray, List.set_cons_zero, List.set_cons_succ]
    refine wpAnyH_take (i := 13) (v := ?vb13_13) (by (conv => lhs; simp only [List.getElem?_toArray, List.getElem?_cons_succ, List.getElem?_cons_zero])) (by kernel_rfl) (by kernel_rfl) (by kernel_rfl) ?hQ (Or.inl ⟨by rfl, ?hyb13_13⟩) hHa ?restb13_13
    case hQ => exact fun _ _ _ h => h
    case hyb13_13 => (intro Y hY; obtain ⟨y0, y1, y2, y3, y4⟩ := hY; go_simp; try (with_reducible rfl))
    try simp only [Act.put, List.setIfInBounds_toArray, List.set_cons_zero, List.set_cons_succ]
    refine wpAnyH_take (i := 14) (v := ?vb14_14) (by (conv => lhs; simp only [List.getElem?_toArray, List.getElem?_cons_succ, List.getElem?_cons_zero])) (by kernel_rfl) (by kernel_rfl) (by kernel_rfl) ?hQ (Or.inl ⟨by rfl, ?hyb14_14⟩) hHa ?restb14_14
    case hQ => exact fun _ _ _ h => h
    case hyb14_14 => (intro Y hY; obtain ⟨y0, y1, y2, y3, y4⟩ := hY; go_simp; try (with_reducible rfl))
    try simp only [Act.put, List.setIfInBounds_toArray, List.set_cons_zero, List.set_cons_succ]
    refine wpAnyH_take (i := 15) (v := ?vb15_15) (by (conv => lhs; simp only [List.getElem?_toArray, List.getElem?_cons_succ, List.getElem?_cons_zero])) (by kernel_rfl) (by kernel_rfl) (by kernel_rfl) ?hQ (Or.inl ⟨by rfl, ?hyb15_15⟩) hHa ?restb15_15
    case hQ => exact fun _ _ _ h => h
    case hyb15_15 => (intro Y hY; obtain ⟨y0, y1, y2, y3, y4⟩ := hY; go_simp; try (with_reducible rfl))
    try simp only [Act.put, List.setIfInBounds_toArray, List.set_cons_zero, List.set_cons_succ]
    refine wpAnyH_done (by kernel_rfl) (?_) _
    obtain ⟨-, -, -, -, x1⟩ := hHa
    have x0 := KX.out w4 Hb4.out
    have gcw := (Hb4.out.cell (k := G) (by omega) (by omega) 0).trans GC.out
    have QW := hidd (GQ.out.keep (w' := w4) (fun j e => Hb4.out.block j (GQ.out.lt j e) (by have := GO.out j e; omega)) Hb4.out.size)
    clear y0 y1 y2 y3 cT KB KX
    obtain ⟨A2, n2, c2, rfl⟩ : ∃ A2 n2 c2, gv = .slice A2 n2 c2 := by obtain ⟨a, d, e, _⟩ := GQ.out.lie; exact ⟨a, _, d, e⟩
    have QB := hidd (QW.out.below (w' := w4.alloc (.cells #[.int .i64 i, .int .i64 z] 41)) (below_new (Below.refl _ _) _))
    have NEW : Hid (∀ j u, (sendV (i, z))[j]? = some u → (w4.alloc (.cells #[.int .i64 i, .int .i64 z] 41)).cell? ((⟨w4.heap.size, 0, none⟩ : Addr).add j) = some u) := hidd (fun j u hj => by
      rw [Addr.add_lit]
      match j, hj with
      | 0, hj => simp [sendV] at hj; subst hj; simp [go_sem]
      | 1, hj => simp [sendV] at hj; subst hj; simp [go_sem])
    cases is
    · clear NEXT QB NEW gcw x0 x1 QW
      gi_wp2_with fail
      exact ⟨Hb4.out.block _ (by have := HKB.out; omega) HKB.out.1, Hb4.out.block _ HKB.out.2.2 HKB.out.2.1, rfl, STOP.out w4 HB4.out Hb4.out (by first | rfl | trivial)⟩
    · clear STOP
      gi_wp2_with (gi_at_builtin; refine wpListIn_append_q rfl (.tmp 41) (.tmp 43) 33 rfl Try.underlying33 (v := .slice A2 n2 c2) (L := L.take k) rfl QB.out (hkL.out w4) ⟨w4.heap.size, 0, none⟩ 1 (i, z) rfl NEW.out ?_; intro v2 w6 hq hgr hor; obtain ⟨A3, n3, c3, rfl⟩ := hq.form; have hfin := hidd (NEXT.out w4 w6 _ _ _ HB4.out Hb4.out (by first | rfl | trivial) GO.out GF.out GC.out hq hgr hor); obtain ⟨z0, z1⟩ := hfin.out.1; clear hq hgr hor)
      exact ⟨hfin.out.2.2.1, hfin.out.2.2.2, hfin.out.2.1⟩
  case done =>
    rintro D W hD hI hK
    subst hD
    gi_wp2_with fail
    obtain ⟨k, hkk⟩ : ∃ k, L.length = k := ⟨_, rfl⟩
    have hgoes : BM.Goes p r u m l s1 n L k (BM.atK p r u m l s1 n L k) := ⟨by omega, rfl, fun i hi _ => hI.all i hi hi, fun hk => absurd hk (by omega)⟩
    rw [hkk] at hI
    have hbw := HH.out.blt
    have hhw := HH.out.hlt
    have hgw := HH.out.glt
    have hQ4 := QC.out.2
    have hGQ := ZG.out
    have hWs := hI.sv.size
    have sk : ∀ j o, j < W4.heap.size → j ≠ b → j ≠ G → W.cell? ⟨j, o, none⟩ = W4.cell? ⟨j, o, none⟩ := fun j o h1 h2 h3 => hI.sv.cell (p := ⟨j, o, none⟩) h1 (fun e => by rcases e with e | e; exact h2 e; exact h3 e)
    have nG : ¬ ShBlk h g b (.slice A L.length c) G := fun e => by have := HH.out.lt e; omega
    have y0 : W.cell? ⟨w.heap.size, 0, none⟩ = some (.pointer (some ⟨h, 0, none⟩)) := (sk _ 0 (by omega) (by omega) (by omega)).trans q0.out
    have y2 : W.cell? ⟨h, 0, none⟩ = some (.pointer (some ⟨g, 0, none⟩)) := (sk _ 0 (by omega) H4.out.hb (by omega)).trans H4.out.h0
    have g1 : W.cell? ⟨g, 1, none⟩ = some (.slice A L.length c) := (sk _ 1 (by omega) H4.out.gb (by omega)).trans H4.out.g1
    have e1 : W.frozen? ⟨g, 1, none⟩ = false := (hI.sv.block g (by omega) (fun e => by rcases e with e | e; exact H4.out.gb e; omega) |> fun q => (World.frozen?_of_block (a := ⟨g, 1, none⟩) q)).trans H4.out.e1
    obtain ⟨gv, gc, gf, gq, go⟩ := hI.gv
    obtain ⟨A2, c2, hgv, hl2, hm2, hgl⟩ := gq.lie
    have hkl : (L.take k).length = k := by rw [List.length_take]; have := hgoes.le; omega
    rw [hkl] at hgv hl2
    subst hgv
    have hk0 := hgoes.le
    have HG := hidd hgoes
    have HGQ := hidd gq
    have HGO := hidd go
    have HGL := hidd hgl
    have HDK := hidd hK
    have HCUT := hidd (H4.out.q.cut hk0)
    have HI := hidd hI
    have HLC : Hid (L.length ≤ c ∧ c ≤ maxLen) := hidd ⟨hlc, hcm⟩
    have z1 : (k : Int) ≤ (L.length : Int) := by omega
    have z2 : (L.length : Int) ≤ (c : Int) := by omega
    have z3 : (0 : Int) ≤ (k : Int) := by omega
    clear hI hgoes gq go hgl hkl hK sk
    by_cases hck : c = k
    · have hlk : L.length = k := by omega
      have HV2 : Hid (QL W4 (.slice A 0 0) (L.drop k)) := hidd (by
        have q := HCUT.out
        rw [if_pos hck, show L.length - k = 0 by omega, show c - k = 0 by omega] at q
        exact q)
      have HOW : Hid ((Value.slice A 0 0 : Value).ownBlock = (Value.slice A L.length c).ownBlock) := hidd (by first | rfl | (cases A <;> rfl))
      have HLT : Hid (∀ j, ShBlk h g b (.slice A 0 0) j → j < W4.heap.size) := hidd (fun j hj => H4.out.lt (by unfold ShBlk at hj ⊢; rw [HOW.out] at hj; exact hj))
      have FIN := hidd (go_fin (v2 := .slice A 0 0) H4.out (by omega) nG HI.out hk0 HV2.out (by first | rfl | (cases A <;> rfl)) HGQ.out HGO.out)
      have SV5 : Hid ((W.drew.setCell ⟨g, 1, none⟩ (.slice A 0 0)).cell? ⟨w.heap.size, 0, none⟩ = some (.pointer (some ⟨h, 0, none⟩)) ∧ (W.drew.setCell ⟨g, 1, none⟩ (.slice A 0 0)).cell? ⟨h, 0, none⟩ = some (.pointer (some ⟨g, 0, none⟩)) ∧ (W.drew.setCell ⟨g, 1, none⟩ (.slice A 0 0)).cell? ⟨G, 0, none⟩ = some (.slice A2 k c2)) := hidd ⟨cell_set_far (show w.heap.size ≠ g by omega) y0, cell_set_far H4.out.hg y2, cell_set_far (show G ≠ g by omega) gc⟩
      have GQ5 := hidd (HGQ.out.keep (w' := (W.drew.setCell ⟨g, 1, none⟩ (.slice A 0 0))) (fun q e => Below.heap_setCell W.drew ⟨g, 1, none⟩ _ _ (fun e2 => by have h1 := HGO.out q e; have h2 : q = g := e2; omega)) (by show W.drew.heap.size ≤ _; simp [World.setCell]))
      have HNN := hidd (sumB_le (L := L) (fun x hx => by have := H4.out.sz x hx; have := rightB_iff H4.out.rt; omega) k)
      have HSM : Hid (sumB L ≤ 1000000000) := hidd (by have := H4.out.sm; have := H4.out.r1; omega)
      have ew : IntKind.i64.wrap (sumB L - sumB (L.take k)) = sumB L - sumB (L.take k) := IntWalk.i64_in _ (by have := HNN.out; have := HSM.out; omega)
      go_wp2_with fail
      refine wp_noP ?_
      refine wp_region_held_drew (S := (fun Y => Y.cell? ⟨w.heap.size, 0, none⟩ = some (.pointer (some ⟨h, 0, none⟩)) ∧ Y.cell? ⟨h, 0, none⟩ = some (.pointer (some ⟨g, 0, none⟩)) ∧ Y.cell? ⟨G, 0, none⟩ = some (.slice A2 k c2))) (by kernel_rfl) (⟨y0, y2, gc⟩) (fun hH => ?_)
      refine wpAnyH_take (i := 0) (v := ?vtd00_1) (by (conv => lhs; simp only [List.getElem?_toArray, List.getElem?_cons_succ, List.getElem?_cons_zero])) (by kernel_rfl) (by kernel_rfl) (by kernel_rfl) ?hQ (Or.inl ⟨by rfl, ?hytd00_1⟩) hH ?resttd00_1
      case hQ => exact fun _ _ _ h => h
      case hytd00_1 => (intro Y hY; obtain ⟨y0, y1, y2⟩ := hY; go_simp; try (with_reducible rfl))
      try simp only [Act.put, List.setIfInBounds_toArray, List.set_cons_zero, List.set_cons_succ]
      refine wpAnyH_take (i := 1) (v := ?vtd01_2) (by (conv => lhs; simp only [List.getElem?_toArray, List.getElem?_cons_succ, List.getElem?_cons_zero])) (by kernel_rfl) (by kernel_rfl) (by kernel_rfl) ?hQ (Or.inl ⟨by rfl, ?hytd01_2⟩) hH ?resttd01_2
      case hQ => exact fun _ _ _ h => h
      case hytd01_2 => (intro Y hY; obtain ⟨y0, y1, y2⟩ := hY; go_simp; try (with_reducible rfl))
      try simp only [Act.put, List.setIfInBounds_toArray, List.set_cons_zero, List.set_cons_succ]
      refine wpAnyH_take (i := 2) (v := ?vtd02_3) (by (conv => lhs; simp only [List.getElem?_toArray, List.getElem?_cons_succ, List.getElem?_cons_zero])) (by kernel_rfl) (by kernel_rfl) (by kernel_rfl) ?hQ (Or.inl ⟨by rfl, ?hytd02_3⟩) hH ?resttd02_3
      case hQ => exact fun _ _ _ h => h
      case hytd02_3 => (intro Y hY; obtain ⟨y0, y1, y2⟩ := hY; go_simp; try (with_reducible rfl))
      try simp only [Act.put, List.setIfInBounds_toArray, List.set_cons_zero, List.set_cons_succ]
      refine wpAnyH_take (i := 3) (v := ?vtd03_4) (by (conv => lhs; simp only [List.getElem?_toArray, List.getElem?_cons_succ, List.getElem?_cons_zero])) (by kernel_rfl) (by kernel_rfl) (by kernel_rfl) ?hQ (Or.inl ⟨by rfl, ?hytd03_4⟩) hH ?resttd03_4
      case hQ => exact fun _ _ _ h => h
      case hytd03_4 => (intro Y hY; obtain ⟨y0, y1, y2⟩ := hY; go_simp; try (with_reducible rfl))
      try simp only [Act.put, List.setIfInBounds_toArray, List.set_cons_zero, List.set_cons_succ]
      refine wpAnyH_take (i := 4) (v := ?vtd04_5) (by (conv => lhs; simp only [List.getElem?_toArray, List.getElem?_cons_succ, List.getElem?_cons_zero])) (by kernel_rfl) (by kernel_rfl) (by kernel_rfl) ?hQ (Or.inl ⟨by rfl, ?hytd04_5⟩) hH ?resttd04_5
      case hQ => exact fun _ _ _ h => h
      case hytd04_5 => (intro Y hY; obtain ⟨y0, y1, y2⟩ := hY; go_simp; try (with_reducible rfl))
      try simp only [Act.put, List.setIfInBounds_toArray, List.set_cons_zero, List.set_cons_succ]
      refine wpAnyH_take (i := 5) (v := ?vtd05_6) (by (conv => lhs; simp only [List.getElem?_toArray, List.getElem?_cons_succ, List.getElem?_cons_zero])) (by kernel_rfl) (by kernel_rfl) (by kernel_rfl) ?hQ (Or.inl ⟨by rfl, ?hytd05_6⟩) hH ?resttd05_6
      case hQ => exact fun _ _ _ h => h
      case hytd05_6 => (intro Y hY; obtain ⟨y0, y1, y2⟩ := hY; go_simp; try (with_reducible rfl))
      try simp only [Act.put, List.setIfInBounds_toArray, List.set_cons_zero, List.set_cons_succ]
      refine wpAnyH_take (i := 6) (v := ?vtd06_7) (by (conv => lhs; simp only [List.getElem?_toArray, List.getElem?_cons_succ, List.getElem?_cons_zero])) (by kernel_rfl) (by kernel_rfl) (by kernel_rfl) ?hQ (Or.inl ⟨by rfl, ?hytd06_7⟩) hH ?resttd06_7
      case hQ => exact fun _ _ _ h => h
      case hytd06_7 => (intro Y hY; obtain ⟨y0, y1, y2⟩ := hY; go_simp; try (with_reducible rfl))
      try simp only [Act.put, List.setIfInBounds_toArray, List.set_cons_zero, List.set_cons_succ]
      refine wpAnyH_take (i := 7) (v := ?vtd07_8) (by (conv => lhs; simp only [List.getElem?_toArray, List.getElem?_cons_succ, List.getElem?_cons_zero])) (by kernel_rfl) (by kernel_rfl) (by kernel_rfl) ?hQ (Or.inl ⟨by rfl, ?hytd07_8⟩) hH ?resttd07_8
      case hQ => exact fun _ _ _ h => h
      case hytd07_8 => (intro Y hY; obtain ⟨y0, y1, y2⟩ := hY; go_simp; try (with_reducible rfl))
      try simp only [Act.put, List.setIfInBounds_toArray, List.set_cons_zero, List.set_cons_succ]
      refine wpAnyH_take (i := 8) (v := ?vtd08_9) (by (conv => lhs; simp only [List.getElem?_toArray, List.getElem?_cons_succ, List.getElem?_cons_zero])) (by kernel_rfl) (by kernel_rfl) (by kernel_rfl) ?hQ (Or.inl ⟨by rfl, ?hytd08_9⟩) hH ?resttd08_9
      case hQ => exact fun _ _ _ h => h
      case hytd08_9 => (intro Y hY; obtain ⟨y0, y1, y2⟩ := hY; go_simp; try (with_reducible rfl))
      try simp only [Act.put, List.setIfInBounds_toArray, List.set_cons_zero, List.set_cons_succ]
      refine wpAnyH_take (i := 9) (v := ?vtd09_10) (by (conv => lhs; simp only [List.getElem?_toArray, List.getElem?_cons_succ, List.getElem?_cons_zero])) (by kernel_rfl) (by kernel_rfl) (by kernel_rfl) ?hQ (Or.inl ⟨by rfl, ?hytd09_10⟩) hH ?resttd09_10
      case hQ => exact fun _ _ _ h => h
      case hytd09_10 => (intro Y hY; obtain ⟨y0, y1, y2⟩ := hY; go_simp; try (with_reducible rfl))
      try simp only [Act.put, List.setIfInBounds_toArray, List.set_cons_zero, List.set_cons_succ]
      refine wpAnyH_take (i := 11) (v := ?vtd011_11) (by (conv => lhs; simp only [List.getElem?_toArray, List.getElem?_cons_succ, List.getElem?_cons_zero])) (by kernel_rfl) (by kernel_rfl) (by kernel_rfl) ?hQ (Or.inl ⟨by rfl, ?hytd011_11⟩) hH ?resttd011_11
      case hQ => exact fun _ _ _ h => h
      case hytd011_11 => (intro Y hY; obtain ⟨y0, y1, y2⟩ := hY; go_simp; try (with_reducible rfl))
      try simp only [Act.put, List.setIfInBounds_toArray, List.set_cons_zero, List.set_cons_succ]
      refine wpAnyH_take (i := 12) (v := ?vtd012_12) (by (conv => lhs; simp only [List.getElem?_toArray, List.getElem?_cons_succ, List.getElem?_cons_zero])) (by kernel_rfl) (by kernel_rfl) (by kernel_rfl) ?hQ (Or.inl ⟨by rfl, ?hytd012_12⟩) hH ?resttd012_12
      case hQ => exact fun _ _ _ h => h
      case hytd012_12 => (intro Y hY; obtain ⟨y0, y1, y2⟩ := hY; go_simp; try (with_reducible rfl))
      try simp only [Act.put, List.setIfInBounds_toArray, List.set_cons_zero, List.set_cons_succ]
      have u1 : W.drew.cell? ⟨g, 1, none⟩ = some (.slice A L.length c) := g1
      have u3 : W.drew.frozen? ⟨g, 1, none⟩ = false := e1
      refine wpAnyH_ready (rs := [10]) (by kernel_rfl) (by simp) ?_
      refine AllReadyH.cons (by (conv => lhs; simp only [List.getElem?_toArray, List.getElem?_cons_succ, List.getElem?_cons_zero])) (fun K hK => ?_) AllReadyH.nil
      go_simp
      refine hK.out _ _ hH (fun hHa => ?_)
      clear hK hH
      try simp only [Act.put, List.setIfInBounds_toArray, List.set_cons_zero, List.set_cons_succ]
      refine wpAnyH_take (i := 13) (v := ?vtd013_13) (by (conv => lhs; simp only [List.getElem?_toArray, List.getElem?_cons_succ, List.getElem?_cons_zero])) (by kernel_rfl) (by kernel_rfl) (by kernel_rfl) ?hQ (Or.inl ⟨by rfl, ?hytd013_13⟩) hHa ?resttd013_13
      case hQ => exact fun _ _ _ h => h
      case hytd013_13 => (intro Y hY; obtain ⟨y0, y1, y2⟩ := hY; go_simp; try (with_reducible rfl))
      try simp only [Act.put, List.setIfInBounds_toArray, List.set_cons_zero, List.set_cons_succ]
      refine wpAnyH_take (i := 14) (v := ?vtd014_14) (by (conv => lhs; simp only [List.getElem?_toArray, List.getElem?_cons_succ, List.getElem?_cons_zero])) (by kernel_rfl) (by kernel_rfl) (by kernel_rfl) ?hQ (Or.inl ⟨by rfl, ?hytd014_14⟩) hHa ?resttd014_14
      case hQ => exact fun _ _ _ h => h
      case hytd014_14 => (intro Y hY; obtain ⟨y0, y1, y2⟩ := hY; go_simp; try (with_reducible rfl))
      try simp only [Act.put, List.setIfInBounds_toArray, List.set_cons_zero, List.set_cons_succ]
      refine wpAnyH_take (i := 15) (v := ?vtd015_15) (by (conv => lhs; simp only [List.getElem?_toArray, List.getElem?_cons_succ, List.getElem?_cons_zero])) (by kernel_rfl) (by kernel_rfl) (by kernel_rfl) ?hQ (Or.inl ⟨by rfl, ?hytd015_15⟩) hHa ?resttd015_15
      case hQ => exact fun _ _ _ h => h
      case hytd015_15 => (intro Y hY; obtain ⟨y0, y1, y2⟩ := hY; go_simp; try (with_reducible rfl))
      try simp only [Act.put, List.setIfInBounds_toArray, List.set_cons_zero, List.set_cons_succ]
      refine wpAnyH_ready (rs := [16]) (by kernel_rfl) (by simp) ?_
      refine AllReadyH.cons (by (conv => lhs; simp only [List.getElem?_toArray, List.getElem?_cons_succ, List.getElem?_cons_zero])) (fun K hK => ?_) AllReadyH.nil
      go_simp
      refine hK.out _ _ SV5.out (fun hHb => ?_)
      clear hK hHa u1 u3 g1 e1
      try simp only [Act.put, List.setIfInBounds_toArray, List.set_cons_zero, List.set_cons_succ]
      refine wpAnyH_done (by kernel_rfl) (noP_of ?_) _
      obtain ⟨W5, hW5, hW5b⟩ : ∃ W5, (W.drew.setCell ⟨g, 1, none⟩ (.slice A 0 0)) = W5 ∧ (W.setCell ⟨g, 1, none⟩ (.slice A 0 0)).drew = W5 := ⟨_, rfl, rfl⟩
      have FIN2 := FIN.out
      rw [hW5] at FIN2 SV5 GQ5
      rw [hW5b]
      have FIN := hidd FIN2
      clear hW5 hW5b FIN2 hHb y0 y2 gc
      obtain ⟨⟨A9, c9, h9, _, _, hgl5⟩⟩ : Nonempty (∃ A c, Value.slice A2 k c2 = .slice A (L.take k).length c ∧ (L.take k).length ≤ c ∧ c ≤ maxLen ∧ Lie sendV 2 W5 W5.heap.size A (L.take k)) := ⟨GQ5.out.lie⟩
      injection h9 with h91 h92 h93
      subst h91
      have cS := hidd (sum_any A2 (L.take k) c2 (by have := H4.out.len; omega) (fun x hx => by have := H4.out.sz x (List.mem_of_mem_take hx); have := rightB_iff H4.out.rt; omega) (by have := HNN.out; have := HSM.out; omega) W5.drew hgl5)
      rw [← h92] at cS
      obtain ⟨g25, e25⟩ := FIN.out.1
      have KC : Hid (∀ Y, Below W5.heap.size W5.drew Y → (Y.cell? ⟨w.heap.size, 0, none⟩ = some (.pointer (some ⟨h, 0, none⟩)) ∧ Y.cell? ⟨h, 0, none⟩ = some (.pointer (some ⟨g, 0, none⟩)) ∧ Y.cell? ⟨G, 0, none⟩ = some (.slice A2 k c2)) ∧ Y.cell? ⟨g, 2, none⟩ = some (.int .i64 (sumB L)) ∧ Y.frozen? ⟨g, 2, none⟩ = false) := hidd (fun Y hb => ⟨⟨(hb.cell (p := ⟨w.heap.size, 0, none⟩) (World.block_lt_of_cell? W5 _ SV5.out.1)).trans SV5.out.1, (hb.cell (p := ⟨h, 0, none⟩) (World.block_lt_of_cell? W5 _ SV5.out.2.1)).trans SV5.out.2.1, (hb.cell (p := ⟨G, 0, none⟩) (World.block_lt_of_cell? W5 _ SV5.out.2.2)).trans SV5.out.2.2⟩, (hb.cell (p := ⟨g, 2, none⟩) (World.block_lt_of_cell? W5 _ g25)).trans g25, (hb.frozen (p := ⟨g, 2, none⟩) (World.block_lt_of_cell? W5 _ g25)).trans e25⟩)
      have KD : Hid (∀ Y, Below W5.drew.heap.size W5.drew Y → ((Y.setCell ⟨g, 2, none⟩ (.int .i64 (sumB L - sumB (L.take k)))).cell? ⟨w.heap.size, 0, none⟩ = some (.pointer (some ⟨h, 0, none⟩)) ∧ (Y.setCell ⟨g, 2, none⟩ (.int .i64 (sumB L - sumB (L.take k)))).cell? ⟨h, 0, none⟩ = some (.pointer (some ⟨g, 0, none⟩)) ∧ (Y.setCell ⟨g, 2, none⟩ (.int .i64 (sumB L - sumB (L.take k)))).cell? ⟨G, 0, none⟩ = some (.slice A2 k c2))) := hidd (fun Y hb => by
        obtain ⟨⟨a0, a1, a2⟩, _, _⟩ := KC.out Y hb
        exact ⟨cell_set_far (show w.heap.size ≠ g by omega) a0, cell_set_far H4.out.hg a1, cell_set_far (show G ≠ g by omega) a2⟩)
      clear hgl5 h92 h93
      go_wp2_with fail
      refine wp_noP ?_
      refine wp_region_held_drew (S := (fun Y => Y.cell? ⟨w.heap.size, 0, none⟩ = some (.pointer (some ⟨h, 0, none⟩)) ∧ Y.cell? ⟨h, 0, none⟩ = some (.pointer (some ⟨g, 0, none⟩)) ∧ Y.cell? ⟨G, 0, none⟩ = some (.slice A2 k c2))) (by kernel_rfl) (SV5.out) (fun hH => ?_)
      refine wpAnyH_take (i := 0) (v := ?vxd00_1) (by (conv => lhs; simp only [List.getElem?_toArray, List.getElem?_cons_succ, List.getElem?_cons_zero])) (by kernel_rfl) (by kernel_rfl) (by kernel_rfl) ?hQ (Or.inl ⟨by rfl, ?hyxd00_1⟩) hH ?restxd00_1
      case hQ => exact fun _ _ _ h => h
      case hyxd00_1 => (intro Y hY; obtain ⟨y0, y1, y2⟩ := hY; go_simp; try (with_reducible rfl))
      try simp only [Act.put, List.setIfInBounds_toArray, List.set_cons_zero, List.set_cons_succ]
      refine wpAnyH_take (i := 1) (v := ?vxd01_2) (by (conv => lhs; simp only [List.getElem?_toArray, List.getElem?_cons_succ, List.getElem?_cons_zero])) (by kernel_rfl) (by kernel_rfl) (by kernel_rfl) ?hQ (Or.inl ⟨by rfl, ?hyxd01_2⟩) hH ?restxd01_2
      case hQ => exact fun _ _ _ h => h
      case hyxd01_2 => (intro Y hY; obtain ⟨y0, y1, y2⟩ := hY; go_simp; try (with_reducible rfl))
      try simp only [Act.put, List.setIfInBounds_toArray, List.set_cons_zero, List.set_cons_succ]
      refine wpAnyH_take (i := 2) (v := ?vxd02_3) (by (conv => lhs; simp only [List.getElem?_toArray, List.getElem?_cons_succ, List.getElem?_cons_zero])) (by kernel_rfl) (by kernel_rfl) (by kernel_rfl) ?hQ (Or.inl ⟨by rfl, ?hyxd02_3⟩) hH ?restxd02_3
      case hQ => exact fun _ _ _ h => h
      case hyxd02_3 => (intro Y hY; obtain ⟨y0, y1, y2⟩ := hY; go_simp; try (with_reducible rfl))
      try simp only [Act.put, List.setIfInBounds_toArray, List.set_cons_zero, List.set_cons_succ]
      refine wpAnyH_take (i := 3) (v := ?vxd03_4) (by (conv => lhs; simp only [List.getElem?_toArray, List.getElem?_cons_succ, List.getElem?_cons_zero])) (by kernel_rfl) (by kernel_rfl) (by kernel_rfl) ?hQ (Or.inl ⟨by rfl, ?hyxd03_4⟩) hH ?restxd03_4
      case hQ => exact fun _ _ _ h => h
      case hyxd03_4 => (intro Y hY; obtain ⟨y0, y1, y2⟩ := hY; go_simp; try (with_reducible rfl))
      try simp only [Act.put, List.setIfInBounds_toArray, List.set_cons_zero, List.set_cons_succ]
      refine wpAnyH_take (i := 4) (v := ?vxd04_5) (by (conv => lhs; simp only [List.getElem?_toArray, List.getElem?_cons_succ, List.getElem?_cons_zero])) (by kernel_rfl) (by kernel_rfl) (by kernel_rfl) ?hQ (Or.inl ⟨by rfl, ?hyxd04_5⟩) hH ?restxd04_5
      case hQ => exact fun _ _ _ h => h
      case hyxd04_5 => (intro Y hY; obtain ⟨y0, y1, y2⟩ := hY; go_simp; try (with_reducible rfl))
      try simp only [Act.put, List.setIfInBounds_toArray, List.set_cons_zero, List.set_cons_succ]
      refine wpAnyH_take (i := 5) (v := ?vxd05_6) (by (conv => lhs; simp only [List.getElem?_toArray, List.getElem?_cons_succ, List.getElem?_cons_zero])) (by kernel_rfl) (by kernel_rfl) (by kernel_rfl) ?hQ (Or.inl ⟨by rfl, ?hyxd05_6⟩) hH ?restxd05_6
      case hQ => exact fun _ _ _ h => h
      case hyxd05_6 => (intro Y hY; obtain ⟨y0, y1, y2⟩ := hY; go_simp; try (with_reducible rfl))
      try simp only [Act.put, List.setIfInBounds_toArray, List.set_cons_zero, List.set_cons_succ]
      refine wpAnyH_take (i := 7) (v := ?vxd07_7) (by (conv => lhs; simp only [List.getElem?_toArray, List.getElem?_cons_succ, List.getElem?_cons_zero])) (by kernel_rfl) (by kernel_rfl) (by kernel_rfl) ?hQ (Or.inl ⟨by rfl, ?hyxd07_7⟩) hH ?restxd07_7
      case hQ => exact fun _ _ _ h => h
      case hyxd07_7 => (intro Y hY; obtain ⟨y0, y1, y2⟩ := hY; go_simp; try (with_reducible rfl))
      try simp only [Act.put, List.setIfInBounds_toArray, List.set_cons_zero, List.set_cons_succ]
      have u2 : W5.drew.cell? ⟨g, 2, none⟩ = some (.int .i64 (sumB L)) := g25
      refine wpAnyH_ready (rs := [6, 8]) (by kernel_rfl) (by simp) ?_
      refine AllReadyH.cons (by (conv => lhs; simp only [List.getElem?_toArray, List.getElem?_cons_succ, List.getElem?_cons_zero])) (fun K hK => ?_) (AllReadyH.cons (by (conv => lhs; simp only [List.getElem?_toArray, List.getElem?_cons_succ, List.getElem?_cons_zero])) (fun K hK => ?_) AllReadyH.nil)
      · go_simp
        refine hK.out _ _ hH (fun hHa => ?_)
        clear hK hH
        try simp only [Act.put, List.setIfInBounds_toArray, List.set_cons_zero, List.set_cons_succ]
        refine wpAnyH_ready (rs := [8]) (by kernel_rfl) (by simp) ?_
        refine AllReadyH.cons (by (conv => lhs; simp only [List.getElem?_toArray, List.getElem?_cons_succ, List.getElem?_cons_zero])) (fun K hK => ?_) AllReadyH.nil
        go_simp
        go_at_call 35; refine cS.out.mono ?_; rintro e w6 ⟨rfl, hb6⟩
        refine hK.out _ _ (KC.out _ hb6).1 (fun hHb => ?_)
        clear hK hHa u2
        try simp only [Act.put, List.setIfInBounds_toArray, List.set_cons_zero, List.set_cons_succ]
        obtain ⟨-, u4, u5⟩ := KC.out _ hb6
        refine wpAnyH_take (i := 9) (v := ?vyd0a9_1) (by (conv => lhs; simp only [List.getElem?_toArray, List.getElem?_cons_succ, List.getElem?_cons_zero])) (by kernel_rfl) (by kernel_rfl) (by kernel_rfl) ?hQ (Or.inl ⟨by rfl, ?hyyd0a9_1⟩) hHb ?restyd0a9_1
        case hQ => exact fun _ _ _ h => h
        case hyyd0a9_1 => (intro Y hY; obtain ⟨y0, y1, y2⟩ := hY; go_simp; try (with_reducible rfl))
        try simp only [Act.put, List.setIfInBounds_toArray, List.set_cons_zero, List.set_cons_succ]
        refine wpAnyH_take (i := 10) (v := ?vyd0a10_2) (by (conv => lhs; simp only [List.getElem?_toArray, List.getElem?_cons_succ, List.getElem?_cons_zero])) (by kernel_rfl) (by kernel_rfl) (by kernel_rfl) ?hQ (Or.inl ⟨by rfl, ?hyyd0a10_2⟩) hHb ?restyd0a10_2
        case hQ => exact fun _ _ _ h => h
        case hyyd0a10_2 => (intro Y hY; obtain ⟨y0, y1, y2⟩ := hY; go_simp; try (with_reducible rfl))
        try simp only [Act.put, List.setIfInBounds_toArray, List.set_cons_zero, List.set_cons_succ]
        refine wpAnyH_take (i := 11) (v := ?vyd0a11_3) (by (conv => lhs; simp only [List.getElem?_toArray, List.getElem?_cons_succ, List.getElem?_cons_zero])) (by kernel_rfl) (by kernel_rfl) (by kernel_rfl) ?hQ (Or.inl ⟨by rfl, ?hyyd0a11_3⟩) hHb ?restyd0a11_3
        case hQ => exact fun _ _ _ h => h
        case hyyd0a11_3 => (intro Y hY; obtain ⟨y0, y1, y2⟩ := hY; go_simp; try (with_reducible rfl))
        try simp only [Act.put, List.setIfInBounds_toArray, List.set_cons_zero, List.set_cons_succ]
        refine wpAnyH_ready (rs := [12]) (by kernel_rfl) (by simp) ?_
        refine AllReadyH.cons (by (conv => lhs; simp only [List.getElem?_toArray, List.getElem?_cons_succ, List.getElem?_cons_zero])) (fun K hK => ?_) AllReadyH.nil
        go_simp
        refine hK.out _ _ (KD.out _ hb6) (fun hHd => ?_)
        clear hK hHb u4 u5
        try simp only [Act.put, List.setIfInBounds_toArray, List.set_cons_zero, List.set_cons_succ]
        refine wpAnyH_done (by kernel_rfl) (noP_of ?_) _
        obtain ⟨k1, k2, k3, k4⟩ := FIN.out.2 w6 ((Below.drew (Below.refl _ _)).trans hb6)
        have kG := hHd.2.2
        have kD := (k4 W4.heap.size (Array.getElem?_eq_some_iff.1 HDK.out).1 (by omega)).trans HDK.out
        obtain ⟨W7, hW7⟩ : ∃ W7, w6.setCell ⟨g, 2, none⟩ (.int .i64 (sumB L - sumB (L.take k))) = W7 := ⟨_, rfl⟩
        rw [hW7] at k1 k2 k3 kG kD
        rw [hW7]
        have K1 := hidd k1
        have K2 := hidd k2
        have K3 := hidd k3
        have KDD := hidd kD
        clear hW7 k1 k2 k3 k4 kD hHd hb6 KC KD cS FIN SV5 GQ5 HNN HSM ew g25 e25
        go_wp2_with fail
        (try rw [Exit.noGoto_ret])
        refine ⟨by simp, .inl ⟨_, _, rfl, run_takeDeferred KDD.out, ?_⟩⟩
        refine ⟨.tuple #[.slice A2 k c2, .int .i64 0], by simp [results, Try.results16, go_sem], ?_⟩
        refine HENDQ.out _ (W7.putObj W4.heap.size (.deferred none)) ⟨k, _, A2, c2, _, rfl, HG.out, K1.out.keep (by simp [World.putObj]) (fun j hj => by refine World.putObj_heap_other ?_; have h9 := HLT.out j hj; omega), HOW.out, K2.out.keep (fun q e => by refine World.putObj_heap_other ?_; have h9 := HGO.out q e; omega) (by simp [World.putObj]), fun q e => by have h8 := HGO.out q e; have h9 := HS4.out.size; omega, ?_⟩
        exact (HS4.out.trans K3.out (fun j hj q => q.elim id (fun e => by omega))).trans (Sav.putObj _) (fun j hj q => by have h9 := HS4.out.size; omega)
      · go_simp
        go_at_call 35; refine cS.out.mono ?_; rintro e w6 ⟨rfl, hb6⟩
        refine hK.out _ _ (KC.out _ hb6).1 (fun hHb => ?_)
        clear hK hH u2
        try simp only [Act.put, List.setIfInBounds_toArray, List.set_cons_zero, List.set_cons_succ]
        obtain ⟨-, u4, u5⟩ := KC.out _ hb6
        refine wpAnyH_ready (rs := [6]) (by kernel_rfl) (by simp) ?_
        refine AllReadyH.cons (by (conv => lhs; simp only [List.getElem?_toArray, List.getElem?_cons_succ, List.getElem?_cons_zero])) (fun K hK => ?_) AllReadyH.nil
        go_simp
        refine hK.out _ _ hHb (fun hHc => ?_)
        clear hK hHb
        try simp only [Act.put, List.setIfInBounds_toArray, List.set_cons_zero, List.set_cons_succ]
        refine wpAnyH_take (i := 9) (v := ?vyd0b9_1) (by (conv => lhs; simp only [List.getElem?_toArray, List.getElem?_cons_succ, List.getElem?_cons_zero])) (by kernel_rfl) (by kernel_rfl) (by kernel_rfl) ?hQ (Or.inl ⟨by rfl, ?hyyd0b9_1⟩) hHc ?restyd0b9_1
        case hQ => exact fun _ _ _ h => h
        case hyyd0b9_1 => (intro Y hY; obtain ⟨y0, y1, y2⟩ := hY; go_simp; try (with_reducible rfl))
        try simp only [Act.put, List.setIfInBounds_toArray, List.set_cons_zero, List.set_cons_succ]
        refine wpAnyH_take (i := 10) (v := ?vyd0b10_2) (by (conv => lhs; simp only [List.getElem?_toArray, List.getElem?_cons_succ, List.getElem?_cons_zero])) (by kernel_rfl) (by kernel_rfl) (by kernel_rfl) ?hQ (Or.inl ⟨by rfl, ?hyyd0b10_2⟩) hHc ?restyd0b10_2
        case hQ => exact fun _ _ _ h => h
        case hyyd0b10_2 => (intro Y hY; obtain ⟨y0, y1, y2⟩ := hY; go_simp; try (with_reducible rfl))
        try simp only [Act.put, List.setIfInBounds_toArray, List.set_cons_zero, List.set_cons_succ]
        refine wpAnyH_take (i := 11) (v := ?vyd0b11_3) (by (conv => lhs; simp only [List.getElem?_toArray, List.getElem?_cons_succ, List.getElem?_cons_zero])) (by kernel_rfl) (by kernel_rfl) (by kernel_rfl) ?hQ (Or.inl ⟨by rfl, ?hyyd0b11_3⟩) hHc ?restyd0b11_3
        case hQ => exact fun _ _ _ h => h
        case hyyd0b11_3 => (intro Y hY; obtain ⟨y0, y1, y2⟩ := hY; go_simp; try (with_reducible rfl))
        try simp only [Act.put, List.setIfInBounds_toArray, List.set_cons_zero, List.set_cons_succ]
        refine wpAnyH_ready (rs := [12]) (by kernel_rfl) (by simp) ?_
        refine AllReadyH.cons (by (conv => lhs; simp only [List.getElem?_toArray, List.getElem?_cons_succ, List.getElem?_cons_zero])) (fun K hK => ?_) AllReadyH.nil
        go_simp
        refine hK.out _ _ (KD.out _ hb6) (fun hHd => ?_)
        clear hK hHc u4 u5
        try simp only [Act.put, List.setIfInBounds_toArray, List.set_cons_zero, List.set_cons_succ]
        refine wpAnyH_done (by kernel_rfl) (noP_of ?_) _
        obtain ⟨k1, k2, k3, k4⟩ := FIN.out.2 w6 ((Below.drew (Below.refl _ _)).trans hb6)
        have kG := hHd.2.2
        have kD := (k4 W4.heap.size (Array.getElem?_eq_some_iff.1 HDK.out).1 (by omega)).trans HDK.out
        obtain ⟨W7, hW7⟩ : ∃ W7, w6.setCell ⟨g, 2, none⟩ (.int .i64 (sumB L - sumB (L.take k))) = W7 := ⟨_, rfl⟩
        rw [hW7] at k1 k2 k3 kG kD
        rw [hW7]
        have K1 := hidd k1
        have K2 := hidd k2
        have K3 := hidd k3
        have KDD := hidd kD
        clear hW7 k1 k2 k3 k4 kD hHd hb6 KC KD cS FIN SV5 GQ5 HNN HSM ew g25 e25
        go_wp2_with fail
        (try rw [Exit.noGoto_ret])
        refine ⟨by simp, .inl ⟨_, _, rfl, run_takeDeferred KDD.out, ?_⟩⟩
        refine ⟨.tuple #[.slice A2 k c2, .int .i64 0], by simp [results, Try.results16, go_sem], ?_⟩
        refine HENDQ.out _ (W7.putObj W4.heap.size (.deferred none)) ⟨k, _, A2, c2, _, rfl, HG.out, K1.out.keep (by simp [World.putObj]) (fun j hj => by refine World.putObj_heap_other ?_; have h9 := HLT.out j hj; omega), HOW.out, K2.out.keep (fun q e => by refine World.putObj_heap_other ?_; have h9 := HGO.out q e; omega) (by simp [World.putObj]), fun q e => by have h8 := HGO.out q e; have h9 := HS4.out.size; omega, ?_⟩
        exact (HS4.out.trans K3.out (fun j hj q => q.elim id (fun e => by omega))).trans (Sav.putObj _) (fun j hj q => by have h9 := HS4.out.size; omega)
    · obtain ⟨ga, oa, rfl⟩ : ∃ ga oa, A = some ⟨ga, oa, none⟩ := by
        rcases H4.out.q with ⟨h0, A9, e9, _⟩ | ⟨g9, o9, c9, e9, _⟩
        · injection e9 with e91 e92 e93; exact absurd (show c = k by omega) hck
        · injection e9 with e91 e92 e93; exact ⟨_, _, e91⟩
      have HV2 : Hid (QL W4 (.slice (some ⟨ga, oa + k * 2, none⟩) 0 (c - k)) (L.drop k)) := hidd (by
        have q := HCUT.out
        rw [if_neg hck] at q
        rw [show L.length - k = 0 by omega] at q
        exact q)
      have HOW : Hid ((Value.slice (some ⟨ga, oa + k * 2, none⟩) 0 (c - k) : Value).ownBlock = (Value.slice (some ⟨ga, oa, none⟩) L.length c).ownBlock) := hidd (by first | rfl | (cases A <;> rfl))
      have HLT : Hid (∀ j, ShBlk h g b (.slice (some ⟨ga, oa + k * 2, none⟩) 0 (c - k)) j → j < W4.heap.size) := hidd (fun j hj => H4.out.lt (by unfold ShBlk at hj ⊢; rw [HOW.out] at hj; exact hj))
      have FIN := hidd (go_fin (v2 := .slice (some ⟨ga, oa + k * 2, none⟩) 0 (c - k)) H4.out (by omega) nG HI.out hk0 HV2.out (by first | rfl | (cases A <;> rfl)) HGQ.out HGO.out)
      have SV5 : Hid ((W.drew.setCell ⟨g, 1, none⟩ (.slice (some ⟨ga, oa + k * 2, none⟩) 0 (c - k))).cell? ⟨w.heap.size, 0, none⟩ = some (.pointer (some ⟨h, 0, none⟩)) ∧ (W.drew.setCell ⟨g, 1, none⟩ (.slice (some ⟨ga, oa + k * 2, none⟩) 0 (c - k))).cell? ⟨h, 0, none⟩ = some (.pointer (some ⟨g, 0, none⟩)) ∧ (W.drew.setCell ⟨g, 1, none⟩ (.slice (some ⟨ga, oa + k * 2, none⟩) 0 (c - k))).cell? ⟨G, 0, none⟩ = some (.slice A2 k c2)) := hidd ⟨cell_set_far (show w.heap.size ≠ g by omega) y0, cell_set_far H4.out.hg y2, cell_set_far (show G ≠ g by omega) gc⟩
      have GQ5 := hidd (HGQ.out.keep (w' := (W.drew.setCell ⟨g, 1, none⟩ (.slice (some ⟨ga, oa + k * 2, none⟩) 0 (c - k)))) (fun q e => Below.heap_setCell W.drew ⟨g, 1, none⟩ _ _ (fun e2 => by have h1 := HGO.out q e; have h2 : q = g := e2; omega)) (by show W.drew.heap.size ≤ _; simp [World.setCell]))
      have HNN := hidd (sumB_le (L := L) (fun x hx => by have := H4.out.sz x hx; have := rightB_iff H4.out.rt; omega) k)
      have HSM : Hid (sumB L ≤ 1000000000) := hidd (by have := H4.out.sm; have := H4.out.r1; omega)
      have ew : IntKind.i64.wrap (sumB L - sumB (L.take k)) = sumB L - sumB (L.take k) := IntWalk.i64_in _ (by have := HNN.out; have := HSM.out; omega)
      go_wp2_with fail
      refine wp_noP ?_
      refine wp_region_held_drew (S := (fun Y => Y.cell? ⟨w.heap.size, 0, none⟩ = some (.pointer (some ⟨h, 0, none⟩)) ∧ Y.cell? ⟨h, 0, none⟩ = some (.pointer (some ⟨g, 0, none⟩)) ∧ Y.cell? ⟨G, 0, none⟩ = some (.slice A2 k c2))) (by kernel_rfl) (⟨y0, y2, gc⟩) (fun hH => ?_)
      refine wpAnyH_take (i := 0) (v := ?vtd10_1) (by (conv => lhs; simp only [List.getElem?_toArray, List.getElem?_cons_succ, List.getElem?_cons_zero])) (by kernel_rfl) (by kernel_rfl) (by kernel_rfl) ?hQ (Or.inl ⟨by rfl, ?hytd10_1⟩) hH ?resttd10_1
      case hQ => exact fun _ _ _ h => h
      case hytd10_1 => (intro Y hY; obtain ⟨y0, y1, y2⟩ := hY; go_simp; try (with_reducible rfl))
      try simp only [Act.put, List.setIfInBounds_toArray, List.set_cons_zero, List.set_cons_succ]
      refine wpAnyH_take (i := 1) (v := ?vtd11_2) (by (conv => lhs; simp only [List.getElem?_toArray, List.getElem?_cons_succ, List.getElem?_cons_zero])) (by kernel_rfl) (by kernel_rfl) (by kernel_rfl) ?hQ (Or.inl ⟨by rfl, ?hytd11_2⟩) hH ?resttd11_2
      case hQ => exact fun _ _ _ h => h
      case hytd11_2 => (intro Y hY; obtain ⟨y0, y1, y2⟩ := hY; go_simp; try (with_reducible rfl))
      try simp only [Act.put, List.setIfInBounds_toArray, List.set_cons_zero, List.set_cons_succ]
      refine wpAnyH_take (i := 2) (v := ?vtd12_3) (by (conv => lhs; simp only [List.getElem?_toArray, List.getElem?_cons_succ, List.getElem?_cons_zero])) (by kernel_rfl) (by kernel_rfl) (by kernel_rfl) ?hQ (Or.inl ⟨by rfl, ?hytd12_3⟩) hH ?resttd12_3
      case hQ => exact fun _ _ _ h => h
      case hytd12_3 => (intro Y hY; obtain ⟨y0, y1, y2⟩ := hY; go_simp; try (with_reducible rfl))
      try simp only [Act.put, List.setIfInBounds_toArray, List.set_cons_zero, List.set_cons_succ]
      refine wpAnyH_take (i := 3) (v := ?vtd13_4) (by (conv => lhs; simp only [List.getElem?_toArray, List.getElem?_cons_succ, List.getElem?_cons_zero])) (by kernel_rfl) (by kernel_rfl) (by kernel_rfl) ?hQ (Or.inl ⟨by rfl, ?hytd13_4⟩) hH ?resttd13_4
      case hQ => exact fun _ _ _ h => h
      case hytd13_4 => (intro Y hY; obtain ⟨y0, y1, y2⟩ := hY; go_simp; try (with_reducible rfl))
      try simp only [Act.put, List.setIfInBounds_toArray, List.set_cons_zero, List.set_cons_succ]
      refine wpAnyH_take (i := 4) (v := ?vtd14_5) (by (conv => lhs; simp only [List.getElem?_toArray, List.getElem?_cons_succ, List.getElem?_cons_zero])) (by kernel_rfl) (by kernel_rfl) (by kernel_rfl) ?hQ (Or.inl ⟨by rfl, ?hytd14_5⟩) hH ?resttd14_5
      case hQ => exact fun _ _ _ h => h
      case hytd14_5 => (intro Y hY; obtain ⟨y0, y1, y2⟩ := hY; go_simp; try (with_reducible rfl))
      try simp only [Act.put, List.setIfInBounds_toArray, List.set_cons_zero, List.set_cons_succ]
      refine wpAnyH_take (i := 5) (v := ?vtd15_6) (by (conv => lhs; simp only [List.getElem?_toArray, List.getElem?_cons_succ, List.getElem?_cons_zero])) (by kernel_rfl) (by kernel_rfl) (by kernel_rfl) ?hQ (Or.inl ⟨by rfl, ?hytd15_6⟩) hH ?resttd15_6
      case hQ => exact fun _ _ _ h => h
      case hytd15_6 => (intro Y hY; obtain ⟨y0, y1, y2⟩ := hY; go_simp; try (with_reducible rfl))
      try simp only [Act.put, List.setIfInBounds_toArray, List.set_cons_zero, List.set_cons_succ]
      refine wpAnyH_take (i := 6) (v := ?vtd16_7) (by (conv => lhs; simp only [List.getElem?_toArray, List.getElem?_cons_succ, List.getElem?_cons_zero])) (by kernel_rfl) (by kernel_rfl) (by kernel_rfl) ?hQ (Or.inl ⟨by rfl, ?hytd16_7⟩) hH ?resttd16_7
      case hQ => exact fun _ _ _ h => h
      case hytd16_7 => (intro Y hY; obtain ⟨y0, y1, y2⟩ := hY; go_simp; try (with_reducible rfl))
      try simp only [Act.put, List.setIfInBounds_toArray, List.set_cons_zero, List.set_cons_succ]
      refine wpAnyH_take (i := 7) (v := ?vtd17_8) (by (conv => lhs; simp only [List.getElem?_toArray, List.getElem?_cons_succ, List.getElem?_cons_zero])) (by kernel_rfl) (by kernel_rfl) (by kernel_rfl) ?hQ (Or.inl ⟨by rfl, ?hytd17_8⟩) hH ?resttd17_8
      case hQ => exact fun _ _ _ h => h
      case hytd17_8 => (intro Y hY; obtain ⟨y0, y1, y2⟩ := hY; go_simp; try (with_reducible rfl))
      try simp only [Act.put, List.setIfInBounds_toArray, List.set_cons_zero, List.set_cons_succ]
      refine wpAnyH_take (i := 8) (v := ?vtd18_9) (by (conv => lhs; simp only [List.getElem?_toArray, List.getElem?_cons_succ, List.getElem?_cons_zero])) (by kernel_rfl) (by kernel_rfl) (by kernel_rfl) ?hQ (Or.inl ⟨by rfl, ?hytd18_9⟩) hH ?resttd18_9
      case hQ => exact fun _ _ _ h => h
      case hytd18_9 => (intro Y hY; obtain ⟨y0, y1, y2⟩ := hY; go_simp; try (with_reducible rfl))
      try simp only [Act.put, List.setIfInBounds_toArray, List.set_cons_zero, List.set_cons_succ]
      refine wpAnyH_take (i := 9) (v := ?vtd19_10) (by (conv => lhs; simp only [List.getElem?_toArray, List.getElem?_cons_succ, List.getElem?_cons_zero])) (by kernel_rfl) (by kernel_rfl) (by kernel_rfl) ?hQ (Or.inl ⟨by rfl, ?hytd19_10⟩) hH ?resttd19_10
      case hQ => exact fun _ _ _ h => h
      case hytd19_10 => (intro Y hY; obtain ⟨y0, y1, y2⟩ := hY; go_simp; try (with_reducible rfl))
      try simp only [Act.put, List.setIfInBounds_toArray, List.set_cons_zero, List.set_cons_succ]
      refine wpAnyH_take (i := 11) (v := ?vtd111_11) (by (conv => lhs; simp only [List.getElem?_toArray, List.getElem?_cons_succ, List.getElem?_cons_zero])) (by kernel_rfl) (by kernel_rfl) (by kernel_rfl) ?hQ (Or.inl ⟨by rfl, ?hytd111_11⟩) hH ?resttd111_11
      case hQ => exact fun _ _ _ h => h
      case hytd111_11 => (intro Y hY; obtain ⟨y0, y1, y2⟩ := hY; go_simp; try (with_reducible rfl))
      try simp only [Act.put, List.setIfInBounds_toArray, List.set_cons_zero, List.set_cons_succ]
      refine wpAnyH_take (i := 12) (v := ?vtd112_12) (by (conv => lhs; simp only [List.getElem?_toArray, List.getElem?_cons_succ, List.getElem?_cons_zero])) (by kernel_rfl) (by kernel_rfl) (by kernel_rfl) ?hQ (Or.inl ⟨by rfl, ?hytd112_12⟩) hH ?resttd112_12
      case hQ => exact fun _ _ _ h => h
      case hytd112_12 => (intro Y hY; obtain ⟨y0, y1, y2⟩ := hY; go_simp; try (with_reducible rfl))
      try simp only [Act.put, List.setIfInBounds_toArray, List.set_cons_zero, List.set_cons_succ]
      have u1 : W.drew.cell? ⟨g, 1, none⟩ = some (.slice (some ⟨ga, oa, none⟩) L.length c) := g1
      have u3 : W.drew.frozen? ⟨g, 1, none⟩ = false := e1
      refine wpAnyH_ready (rs := [10]) (by kernel_rfl) (by simp) ?_
      refine AllReadyH.cons (by (conv => lhs; simp only [List.getElem?_toArray, List.getElem?_cons_succ, List.getElem?_cons_zero])) (fun K hK => ?_) AllReadyH.nil
      go_simp
      refine hK.out _ _ hH (fun hHa => ?_)
      clear hK hH
      try simp only [Act.put, List.setIfInBounds_toArray, List.set_cons_zero, List.set_cons_succ]
      refine wpAnyH_take (i := 13) (v := ?vtd113_13) (by (conv => lhs; simp only [List.getElem?_toArray, List.getElem?_cons_succ, List.getElem?_cons_zero])) (by kernel_rfl) (by kernel_rfl) (by kernel_rfl) ?hQ (Or.inl ⟨by rfl, ?hytd113_13⟩) hHa ?resttd113_13
      case hQ => exact fun _ _ _ h => h
      case hytd113_13 => (intro Y hY; obtain ⟨y0, y1, y2⟩ := hY; go_simp; try (with_reducible rfl))
      try simp only [Act.put, List.setIfInBounds_toArray, List.set_cons_zero, List.set_cons_succ]
      refine wpAnyH_take (i := 14) (v := ?vtd114_14) (by (conv => lhs; simp only [List.getElem?_toArray, List.getElem?_cons_succ, List.getElem?_cons_zero])) (by kernel_rfl) (by kernel_rfl) (by kernel_rfl) ?hQ (Or.inl ⟨by rfl, ?hytd114_14⟩) hHa ?resttd114_14
      case hQ => exact fun _ _ _ h => h
      case hytd114_14 => (intro Y hY; obtain ⟨y0, y1, y2⟩ := hY; go_simp; try (with_reducible rfl))
      try simp only [Act.put, List.setIfInBounds_toArray, List.set_cons_zero, List.set_cons_succ]
      refine wpAnyH_take (i := 15) (v := ?vtd115_15) (by (conv => lhs; simp only [List.getElem?_toArray, List.getElem?_cons_succ, List.getElem?_cons_zero])) (by kernel_rfl) (by kernel_rfl) (by kernel_rfl) ?hQ (Or.inl ⟨by rfl, ?hytd115_15⟩) hHa ?resttd115_15
      case hQ => exact fun _ _ _ h => h
      case hytd115_15 => (intro Y hY; obtain ⟨y0, y1, y2⟩ := hY; go_simp; try (with_reducible rfl))
      try simp only [Act.put, List.setIfInBounds_toArray, List.set_cons_zero, List.set_cons_succ]
      refine wpAnyH_ready (rs := [16]) (by kernel_rfl) (by simp) ?_
      refine AllReadyH.cons (by (conv => lhs; simp only [List.getElem?_toArray, List.getElem?_cons_succ, List.getElem?_cons_zero])) (fun K hK => ?_) AllReadyH.nil
      go_simp
      refine hK.out _ _ SV5.out (fun hHb => ?_)
      clear hK hHa u1 u3 g1 e1
      try simp only [Act.put, List.setIfInBounds_toArray, List.set_cons_zero, List.set_cons_succ]
      refine wpAnyH_done (by kernel_rfl) (noP_of ?_) _
      obtain ⟨W5, hW5, hW5b⟩ : ∃ W5, (W.drew.setCell ⟨g, 1, none⟩ (.slice (some ⟨ga, oa + k * 2, none⟩) 0 (c - k))) = W5 ∧ (W.setCell ⟨g, 1, none⟩ (.slice (some ⟨ga, oa + k * 2, none⟩) 0 (c - k))).drew = W5 := ⟨_, rfl, rfl⟩
      have FIN2 := FIN.out
      rw [hW5] at FIN2 SV5 GQ5
      rw [hW5b]
      have FIN := hidd FIN2
      clear hW5 hW5b FIN2 hHb y0 y2 gc
      obtain ⟨⟨A9, c9, h9, _, _, hgl5⟩⟩ : Nonempty (∃ A c, Value.slice A2 k c2 = .slice A (L.take k).length c ∧ (L.take k).length ≤ c ∧ c ≤ maxLen ∧ Lie sendV 2 W5 W5.heap.size A (L.take k)) := ⟨GQ5.out.lie⟩
      injection h9 with h91 h92 h93
      subst h91
      have cS := hidd (sum_any A2 (L.take k) c2 (by have := H4.out.len; omega) (fun x hx => by have := H4.out.sz x (List.mem_of_mem_take hx); have := rightB_iff H4.out.rt; omega) (by have := HNN.out; have := HSM.out; omega) W5.drew hgl5)
      rw [← h92] at cS
      obtain ⟨g25, e25⟩ := FIN.out.1
      have KC : Hid (∀ Y, Below W5.heap.size W5.drew Y → (Y.cell? ⟨w.heap.size, 0, none⟩ = some (.pointer (some ⟨h, 0, none⟩)) ∧ Y.cell? ⟨h, 0, none⟩ = some (.pointer (some ⟨g, 0, none⟩)) ∧ Y.cell? ⟨G, 0, none⟩ = some (.slice A2 k c2)) ∧ Y.cell? ⟨g, 2, none⟩ = some (.int .i64 (sumB L)) ∧ Y.frozen? ⟨g, 2, none⟩ = false) := hidd (fun Y hb => ⟨⟨(hb.cell (p := ⟨w.heap.size, 0, none⟩) (World.block_lt_of_cell? W5 _ SV5.out.1)).trans SV5.out.1, (hb.cell (p := ⟨h, 0, none⟩) (World.block_lt_of_cell? W5 _ SV5.out.2.1)).trans SV5.out.2.1, (hb.cell (p := ⟨G, 0, none⟩) (World.block_lt_of_cell? W5 _ SV5.out.2.2)).trans SV5.out.2.2⟩, (hb.cell (p := ⟨g, 2, none⟩) (World.block_lt_of_cell? W5 _ g25)).trans g25, (hb.frozen (p := ⟨g, 2, none⟩) (World.block_lt_of_cell? W5 _ g25)).trans e25⟩)
      have KD : Hid (∀ Y, Below W5.drew.heap.size W5.drew Y → ((Y.setCell ⟨g, 2, none⟩ (.int .i64 (sumB L - sumB (L.take k)))).cell? ⟨w.heap.size, 0, none⟩ = some (.pointer (some ⟨h, 0, none⟩)) ∧ (Y.setCell ⟨g, 2, none⟩ (.int .i64 (sumB L - sumB (L.take k)))).cell? ⟨h, 0, none⟩ = some (.pointer (some ⟨g, 0, none⟩)) ∧ (Y.setCell ⟨g, 2, none⟩ (.int .i64 (sumB L - sumB (L.take k)))).cell? ⟨G, 0, none⟩ = some (.slice A2 k c2))) := hidd (fun Y hb => by
        obtain ⟨⟨a0, a1, a2⟩, _, _⟩ := KC.out Y hb
        exact ⟨cell_set_far (show w.heap.size ≠ g by omega) a0, cell_set_far H4.out.hg a1, cell_set_far (show G ≠ g by omega) a2⟩)
      clear hgl5 h92 h93
      go_wp2_with fail
      refine wp_noP ?_
      refine wp_region_held_drew (S := (fun Y => Y.cell? ⟨w.heap.size, 0, none⟩ = some (.pointer (some ⟨h, 0, none⟩)) ∧ Y.cell? ⟨h, 0, none⟩ = some (.pointer (some ⟨g, 0, none⟩)) ∧ Y.cell? ⟨G, 0, none⟩ = some (.slice A2 k c2))) (by kernel_rfl) (SV5.out) (fun hH => ?_)
      refine wpAnyH_take (i := 0) (v := ?vxd10_1) (by (conv => lhs; simp only [List.getElem?_toArray, List.getElem?_cons_succ, List.getElem?_cons_zero])) (by kernel_rfl) (by kernel_rfl) (by kernel_rfl) ?hQ (Or.inl ⟨by rfl, ?hyxd10_1⟩) hH ?restxd10_1
      case hQ => exact fun _ _ _ h => h
      case hyxd10_1 => (intro Y hY; obtain ⟨y0, y1, y2⟩ := hY; go_simp; try (with_reducible rfl))
      try simp only [Act.put, List.setIfInBounds_toArray, List.set_cons_zero, List.set_cons_succ]
      refine wpAnyH_take (i := 1) (v := ?vxd11_2) (by (conv => lhs; simp only [List.getElem?_toArray, List.getElem?_cons_succ, List.getElem?_cons_zero])) (by kernel_rfl) (by kernel_rfl) (by kernel_rfl) ?hQ (Or.inl ⟨by rfl, ?hyxd11_2⟩) hH ?restxd11_2
      case hQ => exact fun _ _ _ h => h
      case hyxd11_2 => (intro Y hY; obtain ⟨y0, y1, y2⟩ := hY; go_simp; try (with_reducible rfl))
      try simp only [Act.put, List.setIfInBounds_toArray, List.set_cons_zero, List.set_cons_succ]
      refine wpAnyH_take (i := 2) (v := ?vxd12_3) (by (conv => lhs; simp only [List.getElem?_toArray, List.getElem?_cons_succ, List.getElem?_cons_zero])) (by kernel_rfl) (by kernel_rfl) (by kernel_rfl) ?hQ (Or.inl ⟨by rfl, ?hyxd12_3⟩) hH ?restxd12_3
      case hQ => exact fun _ _ _ h => h
      case hyxd12_3 => (intro Y hY; obtain ⟨y0, y1, y2⟩ := hY; go_simp; try (with_reducible rfl))
      try simp only [Act.put, List.setIfInBounds_toArray, List.set_cons_zero, List.set_cons_succ]
      refine wpAnyH_take (i := 3) (v := ?vxd13_4) (by (conv => lhs; simp only [List.getElem?_toArray, List.getElem?_cons_succ, List.getElem?_cons_zero])) (by kernel_rfl) (by kernel_rfl) (by kernel_rfl) ?hQ (Or.inl ⟨by rfl, ?hyxd13_4⟩) hH ?restxd13_4
      case hQ => exact fun _ _ _ h => h
      case hyxd13_4 => (intro Y hY; obtain ⟨y0, y1, y2⟩ := hY; go_simp; try (with_reducible rfl))
      try simp only [Act.put, List.setIfInBounds_toArray, List.set_cons_zero, List.set_cons_succ]
      refine wpAnyH_take (i := 4) (v := ?vxd14_5) (by (conv => lhs; simp only [List.getElem?_toArray, List.getElem?_cons_succ, List.getElem?_cons_zero])) (by kernel_rfl) (by kernel_rfl) (by kernel_rfl) ?hQ (Or.inl ⟨by rfl, ?hyxd14_5⟩) hH ?restxd14_5
      case hQ => exact fun _ _ _ h => h
      case hyxd14_5 => (intro Y hY; obtain ⟨y0, y1, y2⟩ := hY; go_simp; try (with_reducible rfl))
      try simp only [Act.put, List.setIfInBounds_toArray, List.set_cons_zero, List.set_cons_succ]
      refine wpAnyH_take (i := 5) (v := ?vxd15_6) (by (conv => lhs; simp only [List.getElem?_toArray, List.getElem?_cons_succ, List.getElem?_cons_zero])) (by kernel_rfl) (by kernel_rfl) (by kernel_rfl) ?hQ (Or.inl ⟨by rfl, ?hyxd15_6⟩) hH ?restxd15_6
      case hQ => exact fun _ _ _ h => h
      case hyxd15_6 => (intro Y hY; obtain ⟨y0, y1, y2⟩ := hY; go_simp; try (with_reducible rfl))
      try simp only [Act.put, List.setIfInBounds_toArray, List.set_cons_zero, List.set_cons_succ]
      refine wpAnyH_take (i := 7) (v := ?vxd17_7) (by (conv => lhs; simp only [List.getElem?_toArray, List.getElem?_cons_succ, List.getElem?_cons_zero])) (by kernel_rfl) (by kernel_rfl) (by kernel_rfl) ?hQ (Or.inl ⟨by rfl, ?hyxd17_7⟩) hH ?restxd17_7
      case hQ => exact fun _ _ _ h => h
      case hyxd17_7 => (intro Y hY; obtain ⟨y0, y1, y2⟩ := hY; go_simp; try (with_reducible rfl))
      try simp only [Act.put, List.setIfInBounds_toArray, List.set_cons_zero, List.set_cons_succ]
      have u2 : W5.drew.cell? ⟨g, 2, none⟩ = some (.int .i64 (sumB L)) := g25
      refine wpAnyH_ready (rs := [6, 8]) (by kernel_rfl) (by simp) ?_
      refine AllReadyH.cons (by (conv => lhs; simp only [List.getElem?_toArray, List.getElem?_cons_succ, List.getElem?_cons_zero])) (fun K hK => ?_) (AllReadyH.cons (by (conv => lhs; simp only [List.getElem?_toArray, List.getElem?_cons_succ, List.getElem?_cons_zero])) (fun K hK => ?_) AllReadyH.nil)
      · go_simp
        refine hK.out _ _ hH (fun hHa => ?_)
        clear hK hH
        try simp only [Act.put, List.setIfInBounds_toArray, List.set_cons_zero, List.set_cons_succ]
        refine wpAnyH_ready (rs := [8]) (by kernel_rfl) (by simp) ?_
        refine AllReadyH.cons (by (conv => lhs; simp only [List.getElem?_toArray, List.getElem?_cons_succ, List.getElem?_cons_zero])) (fun K hK => ?_) AllReadyH.nil
        go_simp
        go_at_call 35; refine cS.out.mono ?_; rintro e w6 ⟨rfl, hb6⟩
        refine hK.out _ _ (KC.out _ hb6).1 (fun hHb => ?_)
        clear hK hHa u2
        try simp only [Act.put, List.setIfInBounds_toArray, List.set_cons_zero, List.set_cons_succ]
        obtain ⟨-, u4, u5⟩ := KC.out _ hb6
        refine wpAnyH_take (i := 9) (v := ?vyd1a9_1) (by (conv => lhs; simp only [List.getElem?_toArray, List.getElem?_cons_succ, List.getElem?_cons_zero])) (by kernel_rfl) (by kernel_rfl) (by kernel_rfl) ?hQ (Or.inl ⟨by rfl, ?hyyd1a9_1⟩) hHb ?restyd1a9_1
        case hQ => exact fun _ _ _ h => h
        case hyyd1a9_1 => (intro Y hY; obtain ⟨y0, y1, y2⟩ := hY; go_simp; try (with_reducible rfl))
        try simp only [Act.put, List.setIfInBounds_toArray, List.set_cons_zero, List.set_cons_succ]
        refine wpAnyH_take (i := 10) (v := ?vyd1a10_2) (by (conv => lhs; simp only [List.getElem?_toArray, List.getElem?_cons_succ, List.getElem?_cons_zero])) (by kernel_rfl) (by kernel_rfl) (by kernel_rfl) ?hQ (Or.inl ⟨by rfl, ?hyyd1a10_2⟩) hHb ?restyd1a10_2
        case hQ => exact fun _ _ _ h => h
        case hyyd1a10_2 => (intro Y hY; obtain ⟨y0, y1, y2⟩ := hY; go_simp; try (with_reducible rfl))
        try simp only [Act.put, List.setIfInBounds_toArray, List.set_cons_zero, List.set_cons_succ]
        refine wpAnyH_take (i := 11) (v := ?vyd1a11_3) (by (conv => lhs; simp only [List.getElem?_toArray, List.getElem?_cons_succ, List.getElem?_cons_zero])) (by kernel_rfl) (by kernel_rfl) (by kernel_rfl) ?hQ (Or.inl ⟨by rfl, ?hyyd1a11_3⟩) hHb ?restyd1a11_3
        case hQ => exact fun _ _ _ h => h
        case hyyd1a11_3 => (intro Y hY; obtain ⟨y0, y1, y2⟩ := hY; go_simp; try (with_reducible rfl))
        try simp only [Act.put, List.setIfInBounds_toArray, List.set_cons_zero, List.set_cons_succ]
        refine wpAnyH_ready (rs := [12]) (by kernel_rfl) (by simp) ?_
        refine AllReadyH.cons (by (conv => lhs; simp only [List.getElem?_toArray, List.getElem?_cons_succ, List.getElem?_cons_zero])) (fun K hK => ?_) AllReadyH.nil
        go_simp
        refine hK.out _ _ (KD.out _ hb6) (fun hHd => ?_)
        clear hK hHb u4 u5
        try simp only [Act.put, List.setIfInBounds_toArray, List.set_cons_zero, List.set_cons_succ]
        refine wpAnyH_done (by kernel_rfl) (noP_of ?_) _
        obtain ⟨k1, k2, k3, k4⟩ := FIN.out.2 w6 ((Below.drew (Below.refl _ _)).trans hb6)
        have kG := hHd.2.2
        have kD := (k4 W4.heap.size (Array.getElem?_eq_some_iff.1 HDK.out).1 (by omega)).trans HDK.out
        obtain ⟨W7, hW7⟩ : ∃ W7, w6.setCell ⟨g, 2, none⟩ (.int .i64 (sumB L - sumB (L.take k))) = W7 := ⟨_, rfl⟩
        rw [hW7] at k1 k2 k3 kG kD
        rw [hW7]
        have K1 := hidd k1
        have K2 := hidd k2
        have K3 := hidd k3
        have KDD := hidd kD
        clear hW7 k1 k2 k3 k4 kD hHd hb6 KC KD cS FIN SV5 GQ5 HNN HSM ew g25 e25
        go_wp2_with fail
        (try rw [Exit.noGoto_ret])
        refine ⟨by simp, .inl ⟨_, _, rfl, run_takeDeferred KDD.out, ?_⟩⟩
        refine ⟨.tuple #[.slice A2 k c2, .int .i64 0], by simp [results, Try.results16, go_sem], ?_⟩
        refine HENDQ.out _ (W7.putObj W4.heap.size (.deferred none)) ⟨k, _, A2, c2, _, rfl, HG.out, K1.out.keep (by simp [World.putObj]) (fun j hj => by refine World.putObj_heap_other ?_; have h9 := HLT.out j hj; omega), HOW.out, K2.out.keep (fun q e => by refine World.putObj_heap_other ?_; have h9 := HGO.out q e; omega) (by simp [World.putObj]), fun q e => by have h8 := HGO.out q e; have h9 := HS4.out.size; omega, ?_⟩
        exact (HS4.out.trans K3.out (fun j hj q => q.elim id (fun e => by omega))).trans (Sav.putObj _) (fun j hj q => by have h9 := HS4.out.size; omega)
      · go_simp
        go_at_call 35; refine cS.out.mono ?_; rintro e w6 ⟨rfl, hb6⟩
        refine hK.out _ _ (KC.out _ hb6).1 (fun hHb => ?_)
        clear hK hH u2
        try simp only [Act.put, List.setIfInBounds_toArray, List.set_cons_zero, List.set_cons_succ]
        obtain ⟨-, u4, u5⟩ := KC.out _ hb6
        refine wpAnyH_ready (rs := [6]) (by kernel_rfl) (by simp) ?_
        refine AllReadyH.cons (by (conv => lhs; simp only [List.getElem?_toArray, List.getElem?_cons_succ, List.getElem?_cons_zero])) (fun K hK => ?_) AllReadyH.nil
        go_simp
        refine hK.out _ _ hHb (fun hHc => ?_)
        clear hK hHb
        try simp only [Act.put, List.setIfInBounds_toArray, List.set_cons_zero, List.set_cons_succ]
        refine wpAnyH_take (i := 9) (v := ?vyd1b9_1) (by (conv => lhs; simp only [List.getElem?_toArray, List.getElem?_cons_succ, List.getElem?_cons_zero])) (by kernel_rfl) (by kernel_rfl) (by kernel_rfl) ?hQ (Or.inl ⟨by rfl, ?hyyd1b9_1⟩) hHc ?restyd1b9_1
        case hQ => exact fun _ _ _ h => h
        case hyyd1b9_1 => (intro Y hY; obtain ⟨y0, y1, y2⟩ := hY; go_simp; try (with_reducible rfl))
        try simp only [Act.put, List.setIfInBounds_toArray, List.set_cons_zero, List.set_cons_succ]
        refine wpAnyH_take (i := 10) (v := ?vyd1b10_2) (by (conv => lhs; simp only [List.getElem?_toArray, List.getElem?_cons_succ, List.getElem?_cons_zero])) (by kernel_rfl) (by kernel_rfl) (by kernel_rfl) ?hQ (Or.inl ⟨by rfl, ?hyyd1b10_2⟩) hHc ?restyd1b10_2
        case hQ => exact fun _ _ _ h => h
        case hyyd1b10_2 => (intro Y hY; obtain ⟨y0, y1, y2⟩ := hY; go_simp; try (with_reducible rfl))
        try simp only [Act.put, List.setIfInBounds_toArray, List.set_cons_zero, List.set_cons_succ]
        refine wpAnyH_take (i := 11) (v := ?vyd1b11_3) (by (conv => lhs; simp only [List.getElem?_toArray, List.getElem?_cons_succ, List.getElem?_cons_zero])) (by kernel_rfl) (by kernel_rfl) (by kernel_rfl) ?hQ (Or.inl ⟨by rfl, ?hyyd1b11_3⟩) hHc ?restyd1b11_3
        case hQ => exact fun _ _ _ h => h
        case hyyd1b11_3 => (intro Y hY; obtain ⟨y0, y1, y2⟩ := hY; go_simp; try (with_reducible rfl))
        try simp only [Act.put, List.setIfInBounds_toArray, List.set_cons_zero, List.set_cons_succ]
        refine wpAnyH_ready (rs := [12]) (by kernel_rfl) (by simp) ?_
        refine AllReadyH.cons (by (conv => lhs; simp only [List.getElem?_toArray, List.getElem?_cons_succ, List.getElem?_cons_zero])) (fun K hK => ?_) AllReadyH.nil
        go_simp
        refine hK.out _ _ (KD.out _ hb6) (fun hHd => ?_)
        clear hK hHc u4 u5
        try simp only [Act.put, List.setIfInBounds_toArray, List.set_cons_zero, List.set_cons_succ]
        refine wpAnyH_done (by kernel_rfl) (noP_of ?_) _
        obtain ⟨k1, k2, k3, k4⟩ := FIN.out.2 w6 ((Below.drew (Below.refl _ _)).trans hb6)
        have kG := hHd.2.2
        have kD := (k4 W4.heap.size (Array.getElem?_eq_some_iff.1 HDK.out).1 (by omega)).trans HDK.out
        obtain ⟨W7, hW7⟩ : ∃ W7, w6.setCell ⟨g, 2, none⟩ (.int .i64 (sumB L - sumB (L.take k))) = W7 := ⟨_, rfl⟩
        rw [hW7] at k1 k2 k3 kG kD
        rw [hW7]
        have K1 := hidd k1
        have K2 := hidd k2
        have K3 := hidd k3
        have KDD := hidd kD
        clear hW7 k1 k2 k3 k4 kD hHd hb6 KC KD cS FIN SV5 GQ5 HNN HSM ew g25 e25
        go_wp2_with fail
        (try rw [Exit.noGoto_ret])
        refine ⟨by simp, .inl ⟨_, _, rfl, run_takeDeferred KDD.out, ?_⟩⟩
        refine ⟨.tuple #[.slice A2 k c2, .int .i64 0], by simp [results, Try.results16, go_sem], ?_⟩
        refine HENDQ.out _ (W7.putObj W4.heap.size (.deferred none)) ⟨k, _, A2, c2, _, rfl, HG.out, K1.out.keep (by simp [World.putObj]) (fun j hj => by refine World.putObj_heap_other ?_; have h9 := HLT.out j hj; omega), HOW.out, K2.out.keep (fun q e => by refine World.putObj_heap_other ?_; have h9 := HGO.out q e; omega) (by simp [World.putObj]), fun q e => by have h8 := HGO.out q e; have h9 := HS4.out.size; omega, ?_⟩
        exact (HS4.out.trans K3.out (fun j hj q => q.elim id (fun e => by omega))).trans (Sav.putObj _) (fun j hj q => by have h9 := HS4.out.size; omega)
  case stop =>
    rintro D c' k W hD hk ⟨rfl, hI, hs⟩ hK
    subst hD
    gi_wp2_with fail
    have hgoes : BM.Goes p r u m l s1 n L k (BM.atK p r u m l s1 n L k) := ⟨by omega, rfl, hI.all, hs⟩
    have hbw := HH.out.blt
    have hhw := HH.out.hlt
    have hgw := HH.out.glt
    have hQ4 := QC.out.2
    have hGQ := ZG.out
    have hWs := hI.sv.size
    have sk : ∀ j o, j < W4.heap.size → j ≠ b → j ≠ G → W.cell? ⟨j, o, none⟩ = W4.cell? ⟨j, o, none⟩ := fun j o h1 h2 h3 => hI.sv.cell (p := ⟨j, o, none⟩) h1 (fun e => by rcases e with e | e; exact h2 e; exact h3 e)
    have nG : ¬ ShBlk h g b (.slice A L.length c) G := fun e => by have := HH.out.lt e; omega
    have y0 : W.cell? ⟨w.heap.size, 0, none⟩ = some (.pointer (some ⟨h, 0, none⟩)) := (sk _ 0 (by omega) (by omega) (by omega)).trans q0.out
    have y2 : W.cell? ⟨h, 0, none⟩ = some (.pointer (some ⟨g, 0, none⟩)) := (sk _ 0 (by omega) H4.out.hb (by omega)).trans H4.out.h0
    have g1 : W.cell? ⟨g, 1, none⟩ = some (.slice A L.length c) := (sk _ 1 (by omega) H4.out.gb (by omega)).trans H4.out.g1
    have e1 : W.frozen? ⟨g, 1, none⟩ = false := (hI.sv.block g (by omega) (fun e => by rcases e with e | e; exact H4.out.gb e; omega) |> fun q => (World.frozen?_of_block (a := ⟨g, 1, none⟩) q)).trans H4.out.e1
    obtain ⟨gv, gc, gf, gq, go⟩ := hI.gv
    obtain ⟨A2, c2, hgv, hl2, hm2, hgl⟩ := gq.lie
    have hkl : (L.take k).length = k := by rw [List.length_take]; have := hgoes.le; omega
    rw [hkl] at hgv hl2
    subst hgv
    have hk0 := hgoes.le
    have HG := hidd hgoes
    have HGQ := hidd gq
    have HGO := hidd go
    have HGL := hidd hgl
    have HDK := hidd hK
    have HCUT := hidd (H4.out.q.cut hk0)
    have HI := hidd hI
    have HLC : Hid (L.length ≤ c ∧ c ≤ maxLen) := hidd ⟨hlc, hcm⟩
    have z1 : (k : Int) ≤ (L.length : Int) := by omega
    have z2 : (L.length : Int) ≤ (c : Int) := by omega
    have z3 : (0 : Int) ≤ (k : Int) := by omega
    clear hI hgoes gq go hgl hkl hK sk
    by_cases hck : c = k
    · have hlk : L.length = k := by omega
      have HV2 : Hid (QL W4 (.slice A 0 0) (L.drop k)) := hidd (by
        have q := HCUT.out
        rw [if_pos hck, show L.length - k = 0 by omega, show c - k = 0 by omega] at q
        exact q)
      have HOW : Hid ((Value.slice A 0 0 : Value).ownBlock = (Value.slice A L.length c).ownBlock) := hidd (by first | rfl | (cases A <;> rfl))
      have HLT : Hid (∀ j, ShBlk h g b (.slice A 0 0) j → j < W4.heap.size) := hidd (fun j hj => H4.out.lt (by unfold ShBlk at hj ⊢; rw [HOW.out] at hj; exact hj))
      have FIN := hidd (go_fin (v2 := .slice A 0 0) H4.out (by omega) nG HI.out hk0 HV2.out (by first | rfl | (cases A <;> rfl)) HGQ.out HGO.out)
      have SV5 : Hid ((W.drew.setCell ⟨g, 1, none⟩ (.slice A 0 0)).cell? ⟨w.heap.size, 0, none⟩ = some (.pointer (some ⟨h, 0, none⟩)) ∧ (W.drew.setCell ⟨g, 1, none⟩ (.slice A 0 0)).cell? ⟨h, 0, none⟩ = some (.pointer (some ⟨g, 0, none⟩)) ∧ (W.drew.setCell ⟨g, 1, none⟩ (.slice A 0 0)).cell? ⟨G, 0, none⟩ = some (.slice A2 k c2)) := hidd ⟨cell_set_far (show w.heap.size ≠ g by omega) y0, cell_set_far H4.out.hg y2, cell_set_far (show G ≠ g by omega) gc⟩
      have GQ5 := hidd (HGQ.out.keep (w' := (W.drew.setCell ⟨g, 1, none⟩ (.slice A 0 0))) (fun q e => Below.heap_setCell W.drew ⟨g, 1, none⟩ _ _ (fun e2 => by have h1 := HGO.out q e; have h2 : q = g := e2; omega)) (by show W.drew.heap.size ≤ _; simp [World.setCell]))
      have HNN := hidd (sumB_le (L := L) (fun x hx => by have := H4.out.sz x hx; have := rightB_iff H4.out.rt; omega) k)
      have HSM : Hid (sumB L ≤ 1000000000) := hidd (by have := H4.out.sm; have := H4.out.r1; omega)
      have ew : IntKind.i64.wrap (sumB L - sumB (L.take k)) = sumB L - sumB (L.take k) := IntWalk.i64_in _ (by have := HNN.out; have := HSM.out; omega)
      go_wp2_with fail
      refine wp_noP ?_
      refine wp_region_held_drew (S := (fun Y => Y.cell? ⟨w.heap.size, 0, none⟩ = some (.pointer (some ⟨h, 0, none⟩)) ∧ Y.cell? ⟨h, 0, none⟩ = some (.pointer (some ⟨g, 0, none⟩)) ∧ Y.cell? ⟨G, 0, none⟩ = some (.slice A2 k c2))) (by kernel_rfl) (⟨y0, y2, gc⟩) (fun hH => ?_)
      refine wpAnyH_take (i := 0) (v := ?vts00_1) (by (conv => lhs; simp only [List.getElem?_toArray, List.getElem?_cons_succ, List.getElem?_cons_zero])) (by kernel_rfl) (by kernel_rfl) (by kernel_rfl) ?hQ (Or.inl ⟨by rfl, ?hyts00_1⟩) hH ?restts00_1
      case hQ => exact fun _ _ _ h => h
      case hyts00_1 => (intro Y hY; obtain ⟨y0, y1, y2⟩ := hY; go_simp; try (with_reducible rfl))
      try simp only [Act.put, List.setIfInBounds_toArray, List.set_cons_zero, List.set_cons_succ]
      refine wpAnyH_take (i := 1) (v := ?vts01_2) (by (conv => lhs; simp only [List.getElem?_toArray, List.getElem?_cons_succ, List.getElem?_cons_zero])) (by kernel_rfl) (by kernel_rfl) (by kernel_rfl) ?hQ (Or.inl ⟨by rfl, ?hyts01_2⟩) hH ?restts01_2
      case hQ => exact fun _ _ _ h => h
      case hyts01_2 => (intro Y hY; obtain ⟨y0, y1, y2⟩ := hY; go_simp; try (with_reducible rfl))
      try simp only [Act.put, List.setIfInBounds_toArray, List.set_cons_zero, List.set_cons_succ]
      refine wpAnyH_take (i := 2) (v := ?vts02_3) (by (conv => lhs; simp only [List.getElem?_toArray, List.getElem?_cons_succ, List.getElem?_cons_zero])) (by kernel_rfl) (by kernel_rfl) (by kernel_rfl) ?hQ (Or.inl ⟨by rfl, ?hyts02_3⟩) hH ?restts02_3
      case hQ => exact fun _ _ _ h => h
      case hyts02_3 => (intro Y hY; obtain ⟨y0, y1, y2⟩ := hY; go_simp; try (with_reducible rfl))
      try simp only [Act.put, List.setIfInBounds_toArray, List.set_cons_zero, List.set_cons_succ]
      refine wpAnyH_take (i := 3) (v := ?vts03_4) (by (conv => lhs; simp only [List.getElem?_toArray, List.getElem?_cons_succ, List.getElem?_cons_zero])) (by kernel_rfl) (by kernel_rfl) (by kernel_rfl) ?hQ (Or.inl ⟨by rfl, ?hyts03_4⟩) hH ?restts03_4
      case hQ => exact fun _ _ _ h => h
      case hyts03_4 => (intro Y hY; obtain ⟨y0, y1, y2⟩ := hY; go_simp; try (with_reducible rfl))
      try simp only [Act.put, List.setIfInBounds_toArray, List.set_cons_zero, List.set_cons_succ]
      refine wpAnyH_take (i := 4) (v := ?vts04_5) (by (conv => lhs; simp only [List.getElem?_toArray, List.getElem?_cons_succ, List.getElem?_cons_zero])) (by kernel_rfl) (by kernel_rfl) (by kernel_rfl) ?hQ (Or.inl ⟨by rfl, ?hyts04_5⟩) hH ?restts04_5
      case hQ => exact fun _ _ _ h => h
      case hyts04_5 => (intro Y hY; obtain ⟨y0, y1, y2⟩ := hY; go_simp; try (with_reducible rfl))
      try simp only [Act.put, List.setIfInBounds_toArray, List.set_cons_zero, List.set_cons_succ]
      refine wpAnyH_take (i := 5) (v := ?vts05_6) (by (conv => lhs; simp only [List.getElem?_toArray, List.getElem?_cons_succ, List.getElem?_cons_zero])) (by kernel_rfl) (by kernel_rfl) (by kernel_rfl) ?hQ (Or.inl ⟨by rfl, ?hyts05_6⟩) hH ?restts05_6
      case hQ => exact fun _ _ _ h => h
      case hyts05_6 => (intro Y hY; obtain ⟨y0, y1, y2⟩ := hY; go_simp; try (with_reducible rfl))
      try simp only [Act.put, List.setIfInBounds_toArray, List.set_cons_zero, List.set_cons_succ]
      refine wpAnyH_take (i := 6) (v := ?vts06_7) (by (conv => lhs; simp only [List.getElem?_toArray, List.getElem?_cons_succ, List.getElem?_cons_zero])) (by kernel_rfl) (by kernel_rfl) (by kernel_rfl) ?hQ (Or.inl ⟨by rfl, ?hyts06_7⟩) hH ?restts06_7
      case hQ => exact fun _ _ _ h => h
      case hyts06_7 => (intro Y hY; obtain ⟨y0, y1, y2⟩ := hY; go_simp; try (with_reducible rfl))
      try simp only [Act.put, List.setIfInBounds_toArray, List.set_cons_zero, List.set_cons_succ]
      refine wpAnyH_take (i := 7) (v := ?vts07_8) (by (conv => lhs; simp only [List.getElem?_toArray, List.getElem?_cons_succ, List.getElem?_cons_zero])) (by kernel_rfl) (by kernel_rfl) (by kernel_rfl) ?hQ (Or.inl ⟨by rfl, ?hyts07_8⟩) hH ?restts07_8
      case hQ => exact fun _ _ _ h => h
      case hyts07_8 => (intro Y hY; obtain ⟨y0, y1, y2⟩ := hY; go_simp; try (with_reducible rfl))
      try simp only [Act.put, List.setIfInBounds_toArray, List.set_cons_zero, List.set_cons_succ]
      refine wpAnyH_take (i := 8) (v := ?vts08_9) (by (conv => lhs; simp only [List.getElem?_toArray, List.getElem?_cons_succ, List.getElem?_cons_zero])) (by kernel_rfl) (by kernel_rfl) (by kernel_rfl) ?hQ (Or.inl ⟨by rfl, ?hyts08_9⟩) hH ?restts08_9
      case hQ => exact fun _ _ _ h => h
      case hyts08_9 => (intro Y hY; obtain ⟨y0, y1, y2⟩ := hY; go_simp; try (with_reducible rfl))
      try simp only [Act.put, List.setIfInBounds_toArray, List.set_cons_zero, List.set_cons_succ]
      refine wpAnyH_take (i := 9) (v := ?vts09_10) (by (conv => lhs; simp only [List.getElem?_toArray, List.getElem?_cons_succ, List.getElem?_cons_zero])) (by kernel_rfl) (by kernel_rfl) (by kernel_rfl) ?hQ (Or.inl ⟨by rfl, ?hyts09_10⟩) hH ?restts09_10
      case hQ => exact fun _ _ _ h => h
      case hyts09_10 => (intro Y hY; obtain ⟨y0, y1, y2⟩ := hY; go_simp; try (with_reducible rfl))
      try simp only [Act.put, List.setIfInBounds_toArray, List.set_cons_zero, List.set_cons_succ]
      refine wpAnyH_take (i := 11) (v := ?vts011_11) (by (conv => lhs; simp only [List.getElem?_toArray, List.getElem?_cons_succ, List.getElem?_cons_zero])) (by kernel_rfl) (by kernel_rfl) (by kernel_rfl) ?hQ (Or.inl ⟨by rfl, ?hyts011_11⟩) hH ?restts011_11
      case hQ => exact fun _ _ _ h => h
      case hyts011_11 => (intro Y hY; obtain ⟨y0, y1, y2⟩ := hY; go_simp; try (with_reducible rfl))
      try simp only [Act.put, List.setIfInBounds_toArray, List.set_cons_zero, List.set_cons_succ]
      refine wpAnyH_take (i := 12) (v := ?vts012_12) (by (conv => lhs; simp only [List.getElem?_toArray, List.getElem?_cons_succ, List.getElem?_cons_zero])) (by kernel_rfl) (by kernel_rfl) (by kernel_rfl) ?hQ (Or.inl ⟨by rfl, ?hyts012_12⟩) hH ?restts012_12
      case hQ => exact fun _ _ _ h => h
      case hyts012_12 => (intro Y hY; obtain ⟨y0, y1, y2⟩ := hY; go_simp; try (with_reducible rfl))
      try simp only [Act.put, List.setIfInBounds_toArray, List.set_cons_zero, List.set_cons_succ]
      have u1 : W.drew.cell? ⟨g, 1, none⟩ = some (.slice A L.length c) := g1
      have u3 : W.drew.frozen? ⟨g, 1, none⟩ = false := e1
      refine wpAnyH_ready (rs := [10]) (by kernel_rfl) (by simp) ?_
      refine AllReadyH.cons (by (conv => lhs; simp only [List.getElem?_toArray, List.getElem?_cons_succ, List.getElem?_cons_zero])) (fun K hK => ?_) AllReadyH.nil
      go_simp
      refine hK.out _ _ hH (fun hHa => ?_)
      clear hK hH
      try simp only [Act.put, List.setIfInBounds_toArray, List.set_cons_zero, List.set_cons_succ]
      refine wpAnyH_take (i := 13) (v := ?vts013_13) (by (conv => lhs; simp only [List.getElem?_toArray, List.getElem?_cons_succ, List.getElem?_cons_zero])) (by kernel_rfl) (by kernel_rfl) (by kernel_rfl) ?hQ (Or.inl ⟨by rfl, ?hyts013_13⟩) hHa ?restts013_13
      case hQ => exact fun _ _ _ h => h
      case hyts013_13 => (intro Y hY; obtain ⟨y0, y1, y2⟩ := hY; go_simp; try (with_reducible rfl))
      try simp only [Act.put, List.setIfInBounds_toArray, List.set_cons_zero, List.set_cons_succ]
      refine wpAnyH_take (i := 14) (v := ?vts014_14) (by (conv => lhs; simp only [List.getElem?_toArray, List.getElem?_cons_succ, List.getElem?_cons_zero])) (by kernel_rfl) (by kernel_rfl) (by kernel_rfl) ?hQ (Or.inl ⟨by rfl, ?hyts014_14⟩) hHa ?restts014_14
      case hQ => exact fun _ _ _ h => h
      case hyts014_14 => (intro Y hY; obtain ⟨y0, y1, y2⟩ := hY; go_simp; try (with_reducible rfl))
      try simp only [Act.put, List.setIfInBounds_toArray, List.set_cons_zero, List.set_cons_succ]
      refine wpAnyH_take (i := 15) (v := ?vts015_15) (by (conv => lhs; simp only [List.getElem?_toArray, List.getElem?_cons_succ, List.getElem?_cons_zero])) (by kernel_rfl) (by kernel_rfl) (by kernel_rfl) ?hQ (Or.inl ⟨by rfl, ?hyts015_15⟩) hHa ?restts015_15
      case hQ => exact fun _ _ _ h => h
      case hyts015_15 => (intro Y hY; obtain ⟨y0, y1, y2⟩ := hY; go_simp; try (with_reducible rfl))
      try simp only [Act.put, List.setIfInBounds_toArray, List.set_cons_zero, List.set_cons_succ]
      refine wpAnyH_ready (rs := [16]) (by kernel_rfl) (by simp) ?_
      refine AllReadyH.cons (by (conv => lhs; simp only [List.getElem?_toArray, List.getElem?_cons_succ, List.getElem?_cons_zero])) (fun K hK => ?_) AllReadyH.nil
      go_simp
      refine hK.out _ _ SV5.out (fun hHb => ?_)
      clear hK hHa u1 u3 g1 e1
      try simp only [Act.put, List.setIfInBounds_toArray, List.set_cons_zero, List.set_cons_succ]
      refine wpAnyH_done (by kernel_rfl) (noP_of ?_) _
      obtain ⟨W5, hW5, hW5b⟩ : ∃ W5, (W.drew.setCell ⟨g, 1, none⟩ (.slice A 0 0)) = W5 ∧ (W.setCell ⟨g, 1, none⟩ (.slice A 0 0)).drew = W5 := ⟨_, rfl, rfl⟩
      have FIN2 := FIN.out
      rw [hW5] at FIN2 SV5 GQ5
      rw [hW5b]
      have FIN := hidd FIN2
      clear hW5 hW5b FIN2 hHb y0 y2 gc
      obtain ⟨⟨A9, c9, h9, _, _, hgl5⟩⟩ : Nonempty (∃ A c, Value.slice A2 k c2 = .slice A (L.take k).length c ∧ (L.take k).length ≤ c ∧ c ≤ maxLen ∧ Lie sendV 2 W5 W5.heap.size A (L.take k)) := ⟨GQ5.out.lie⟩
      injection h9 with h91 h92 h93
      subst h91
      have cS := hidd (sum_any A2 (L.take k) c2 (by have := H4.out.len; omega) (fun x hx => by have := H4.out.sz x (List.mem_of_mem_take hx); have := rightB_iff H4.out.rt; omega) (by have := HNN.out; have := HSM.out; omega) W5.drew hgl5)
      rw [← h92] at cS
      obtain ⟨g25, e25⟩ := FIN.out.1
      have KC : Hid (∀ Y, Below W5.heap.size W5.drew Y → (Y.cell? ⟨w.heap.size, 0, none⟩ = some (.pointer (some ⟨h, 0, none⟩)) ∧ Y.cell? ⟨h, 0, none⟩ = some (.pointer (some ⟨g, 0, none⟩)) ∧ Y.cell? ⟨G, 0, none⟩ = some (.slice A2 k c2)) ∧ Y.cell? ⟨g, 2, none⟩ = some (.int .i64 (sumB L)) ∧ Y.frozen? ⟨g, 2, none⟩ = false) := hidd (fun Y hb => ⟨⟨(hb.cell (p := ⟨w.heap.size, 0, none⟩) (World.block_lt_of_cell? W5 _ SV5.out.1)).trans SV5.out.1, (hb.cell (p := ⟨h, 0, none⟩) (World.block_lt_of_cell? W5 _ SV5.out.2.1)).trans SV5.out.2.1, (hb.cell (p := ⟨G, 0, none⟩) (World.block_lt_of_cell? W5 _ SV5.out.2.2)).trans SV5.out.2.2⟩, (hb.cell (p := ⟨g, 2, none⟩) (World.block_lt_of_cell? W5 _ g25)).trans g25, (hb.frozen (p := ⟨g, 2, none⟩) (World.block_lt_of_cell? W5 _ g25)).trans e25⟩)
      have KD : Hid (∀ Y, Below W5.drew.heap.size W5.drew Y → ((Y.setCell ⟨g, 2, none⟩ (.int .i64 (sumB L - sumB (L.take k)))).cell? ⟨w.heap.size, 0, none⟩ = some (.pointer (some ⟨h, 0, none⟩)) ∧ (Y.setCell ⟨g, 2, none⟩ (.int .i64 (sumB L - sumB (L.take k)))).cell? ⟨h, 0, none⟩ = some (.pointer (some ⟨g, 0, none⟩)) ∧ (Y.setCell ⟨g, 2, none⟩ (.int .i64 (sumB L - sumB (L.take k)))).cell? ⟨G, 0, none⟩ = some (.slice A2 k c2))) := hidd (fun Y hb => by
        obtain ⟨⟨a0, a1, a2⟩, _, _⟩ := KC.out Y hb
        exact ⟨cell_set_far (show w.heap.size ≠ g by omega) a0, cell_set_far H4.out.hg a1, cell_set_far (show G ≠ g by omega) a2⟩)
      clear hgl5 h92 h93
      go_wp2_with fail
      refine wp_noP ?_
      refine wp_region_held_drew (S := (fun Y => Y.cell? ⟨w.heap.size, 0, none⟩ = some (.pointer (some ⟨h, 0, none⟩)) ∧ Y.cell? ⟨h, 0, none⟩ = some (.pointer (some ⟨g, 0, none⟩)) ∧ Y.cell? ⟨G, 0, none⟩ = some (.slice A2 k c2))) (by kernel_rfl) (SV5.out) (fun hH => ?_)
      refine wpAnyH_take (i := 0) (v := ?vxs00_1) (by (conv => lhs; simp only [List.getElem?_toArray, List.getElem?_cons_succ, List.getElem?_cons_zero])) (by kernel_rfl) (by kernel_rfl) (by kernel_rfl) ?hQ (Or.inl ⟨by rfl, ?hyxs00_1⟩) hH ?restxs00_1
      case hQ => exact fun _ _ _ h => h
      case hyxs00_1 => (intro Y hY; obtain ⟨y0, y1, y2⟩ := hY; go_simp; try (with_reducible rfl))
      try simp only [Act.put, List.setIfInBounds_toArray, List.set_cons_zero, List.set_cons_succ]
      refine wpAnyH_take (i := 1) (v := ?vxs01_2) (by (conv => lhs; simp only [List.getElem?_toArray, List.getElem?_cons_succ, List.getElem?_cons_zero])) (by kernel_rfl) (by kernel_rfl) (by kernel_rfl) ?hQ (Or.inl ⟨by rfl, ?hyxs01_2⟩) hH ?restxs01_2
      case hQ => exact fun _ _ _ h => h
      case hyxs01_2 => (intro Y hY; obtain ⟨y0, y1, y2⟩ := hY; go_simp; try (with_reducible rfl))
      try simp only [Act.put, List.setIfInBounds_toArray, List.set_cons_zero, List.set_cons_succ]
      refine wpAnyH_take (i := 2) (v := ?vxs02_3) (by (conv => lhs; simp only [List.getElem?_toArray, List.getElem?_cons_succ, List.getElem?_cons_zero])) (by kernel_rfl) (by kernel_rfl) (by kernel_rfl) ?hQ (Or.inl ⟨by rfl, ?hyxs02_3⟩) hH ?restxs02_3
      case hQ => exact fun _ _ _ h => h
      case hyxs02_3 => (intro Y hY; obtain ⟨y0, y1, y2⟩ := hY; go_simp; try (with_reducible rfl))
      try simp only [Act.put, List.setIfInBounds_toArray, List.set_cons_zero, List.set_cons_succ]
      refine wpAnyH_take (i := 3) (v := ?vxs03_4) (by (conv => lhs; simp only [List.getElem?_toArray, List.getElem?_cons_succ, List.getElem?_cons_zero])) (by kernel_rfl) (by kernel_rfl) (by kernel_rfl) ?hQ (Or.inl ⟨by rfl, ?hyxs03_4⟩) hH ?restxs03_4
      case hQ => exact fun _ _ _ h => h
      case hyxs03_4 => (intro Y hY; obtain ⟨y0, y1, y2⟩ := hY; go_simp; try (with_reducible rfl))
      try simp only [Act.put, List.setIfInBounds_toArray, List.set_cons_zero, List.set_cons_succ]
      refine wpAnyH_take (i := 4) (v := ?vxs04_5) (by (conv => lhs; simp only [List.getElem?_toArray, List.getElem?_cons_succ, List.getElem?_cons_zero])) (by kernel_rfl) (by kernel_rfl) (by kernel_rfl) ?hQ (Or.inl ⟨by rfl, ?hyxs04_5⟩) hH ?restxs04_5
      case hQ => exact fun _ _ _ h => h
      case hyxs04_5 => (intro Y hY; obtain ⟨y0, y1, y2⟩ := hY; go_simp; try (with_reducible rfl))
      try simp only [Act.put, List.setIfInBounds_toArray, List.set_cons_zero, List.set_cons_succ]
      refine wpAnyH_take (i := 5) (v := ?vxs05_6) (by (conv => lhs; simp only [List.getElem?_toArray, List.getElem?_cons_succ, List.getElem?_cons_zero])) (by kernel_rfl) (by kernel_rfl) (by kernel_rfl) ?hQ (Or.inl ⟨by rfl, ?hyxs05_6⟩) hH ?restxs05_6
      case hQ => exact fun _ _ _ h => h
      case hyxs05_6 => (intro Y hY; obtain ⟨y0, y1, y2⟩ := hY; go_simp; try (with_reducible rfl))
      try simp only [Act.put, List.setIfInBounds_toArray, List.set_cons_zero, List.set_cons_succ]
      refine wpAnyH_take (i := 7) (v := ?vxs07_7) (by (conv => lhs; simp only [List.getElem?_toArray, List.getElem?_cons_succ, List.getElem?_cons_zero])) (by kernel_rfl) (by kernel_rfl) (by kernel_rfl) ?hQ (Or.inl ⟨by rfl, ?hyxs07_7⟩) hH ?restxs07_7
      case hQ => exact fun _ _ _ h => h
      case hyxs07_7 => (intro Y hY; obtain ⟨y0, y1, y2⟩ := hY; go_simp; try (with_reducible rfl))
      try simp only [Act.put, List.setIfInBounds_toArray, List.set_cons_zero, List.set_cons_succ]
      have u2 : W5.drew.cell? ⟨g, 2, none⟩ = some (.int .i64 (sumB L)) := g25
      refine wpAnyH_ready (rs := [6, 8]) (by kernel_rfl) (by simp) ?_
      refine AllReadyH.cons (by (conv => lhs; simp only [List.getElem?_toArray, List.getElem?_cons_succ, List.getElem?_cons_zero])) (fun K hK => ?_) (AllReadyH.cons (by (conv => lhs; simp only [List.getElem?_toArray, List.getElem?_cons_succ, List.getElem?_cons_zero])) (fun K hK => ?_) AllReadyH.nil)
      · go_simp
        refine hK.out _ _ hH (fun hHa => ?_)
        clear hK hH
        try simp only [Act.put, List.setIfInBounds_toArray, List.set_cons_zero, List.set_cons_succ]
        refine wpAnyH_ready (rs := [8]) (by kernel_rfl) (by simp) ?_
        refine AllReadyH.cons (by (conv => lhs; simp only [List.getElem?_toArray, List.getElem?_cons_succ, List.getElem?_cons_zero])) (fun K hK => ?_) AllReadyH.nil
        go_simp
        go_at_call 35; refine cS.out.mono ?_; rintro e w6 ⟨rfl, hb6⟩
        refine hK.out _ _ (KC.out _ hb6).1 (fun hHb => ?_)
        clear hK hHa u2
        try simp only [Act.put, List.setIfInBounds_toArray, List.set_cons_zero, List.set_cons_succ]
        obtain ⟨-, u4, u5⟩ := KC.out _ hb6
        refine wpAnyH_take (i := 9) (v := ?vys0a9_1) (by (conv => lhs; simp only [List.getElem?_toArray, List.getElem?_cons_succ, List.getElem?_cons_zero])) (by kernel_rfl) (by kernel_rfl) (by kernel_rfl) ?hQ (Or.inl ⟨by rfl, ?hyys0a9_1⟩) hHb ?restys0a9_1
        case hQ => exact fun _ _ _ h => h
        case hyys0a9_1 => (intro Y hY; obtain ⟨y0, y1, y2⟩ := hY; go_simp; try (with_reducible rfl))
        try simp only [Act.put, List.setIfInBounds_toArray, List.set_cons_zero, List.set_cons_succ]
        refine wpAnyH_take (i := 10) (v := ?vys0a10_2) (by (conv => lhs; simp only [List.getElem?_toArray, List.getElem?_cons_succ, List.getElem?_cons_zero])) (by kernel_rfl) (by kernel_rfl) (by kernel_rfl) ?hQ (Or.inl ⟨by rfl, ?hyys0a10_2⟩) hHb ?restys0a10_2
        case hQ => exact fun _ _ _ h => h
        case hyys0a10_2 => (intro Y hY; obtain ⟨y0, y1, y2⟩ := hY; go_simp; try (with_reducible rfl))
        try simp only [Act.put, List.setIfInBounds_toArray, List.set_cons_zero, List.set_cons_succ]
        refine wpAnyH_take (i := 11) (v := ?vys0a11_3) (by (conv => lhs; simp only [List.getElem?_toArray, List.getElem?_cons_succ, List.getElem?_cons_zero])) (by kernel_rfl) (by kernel_rfl) (by kernel_rfl) ?hQ (Or.inl ⟨by rfl, ?hyys0a11_3⟩) hHb ?restys0a11_3
        case hQ => exact fun _ _ _ h => h
        case hyys0a11_3 => (intro Y hY; obtain ⟨y0, y1, y2⟩ := hY; go_simp; try (with_reducible rfl))
        try simp only [Act.put, List.setIfInBounds_toArray, List.set_cons_zero, List.set_cons_succ]
        refine wpAnyH_ready (rs := [12]) (by kernel_rfl) (by simp) ?_
        refine AllReadyH.cons (by (conv => lhs; simp only [List.getElem?_toArray, List.getElem?_cons_succ, List.getElem?_cons_zero])) (fun K hK => ?_) AllReadyH.nil
        go_simp
        refine hK.out _ _ (KD.out _ hb6) (fun hHd => ?_)
        clear hK hHb u4 u5
        try simp only [Act.put, List.setIfInBounds_toArray, List.set_cons_zero, List.set_cons_succ]
        refine wpAnyH_done (by kernel_rfl) (noP_of ?_) _
        obtain ⟨k1, k2, k3, k4⟩ := FIN.out.2 w6 ((Below.drew (Below.refl _ _)).trans hb6)
        have kG := hHd.2.2
        have kD := (k4 W4.heap.size (Array.getElem?_eq_some_iff.1 HDK.out).1 (by omega)).trans HDK.out
        obtain ⟨W7, hW7⟩ : ∃ W7, w6.setCell ⟨g, 2, none⟩ (.int .i64 (sumB L - sumB (L.take k))) = W7 := ⟨_, rfl⟩
        rw [hW7] at k1 k2 k3 kG kD
        rw [hW7]
        have K1 := hidd k1
        have K2 := hidd k2
        have K3 := hidd k3
        have KDD := hidd kD
        clear hW7 k1 k2 k3 k4 kD hHd hb6 KC KD cS FIN SV5 GQ5 HNN HSM ew g25 e25
        go_wp2_with fail
        (try rw [Exit.noGoto_ret])
        refine ⟨by simp, .inl ⟨_, _, rfl, run_takeDeferred KDD.out, ?_⟩⟩
        refine ⟨.tuple #[.slice A2 k c2, .int .i64 0], by simp [results, Try.results16, go_sem], ?_⟩
        refine HENDQ.out _ (W7.putObj W4.heap.size (.deferred none)) ⟨k, _, A2, c2, _, rfl, HG.out, K1.out.keep (by simp [World.putObj]) (fun j hj => by refine World.putObj_heap_other ?_; have h9 := HLT.out j hj; omega), HOW.out, K2.out.keep (fun q e => by refine World.putObj_heap_other ?_; have h9 := HGO.out q e; omega) (by simp [World.putObj]), fun q e => by have h8 := HGO.out q e; have h9 := HS4.out.size; omega, ?_⟩
        exact (HS4.out.trans K3.out (fun j hj q => q.elim id (fun e => by omega))).trans (Sav.putObj _) (fun j hj q => by have h9 := HS4.out.size; omega)
      · go_simp
        go_at_call 35; refine cS.out.mono ?_; rintro e w6 ⟨rfl, hb6⟩
        refine hK.out _ _ (KC.out _ hb6).1 (fun hHb => ?_)
        clear hK hH u2
        try simp only [Act.put, List.setIfInBounds_toArray, List.set_cons_zero, List.set_cons_succ]
        obtain ⟨-, u4, u5⟩ := KC.out _ hb6
        refine wpAnyH_ready (rs := [6]) (by kernel_rfl) (by simp) ?_
        refine AllReadyH.cons (by (conv => lhs; simp only [List.getElem?_toArray, List.getElem?_cons_succ, List.getElem?_cons_zero])) (fun K hK => ?_) AllReadyH.nil
        go_simp
        refine hK.out _ _ hHb (fun hHc => ?_)
        clear hK hHb
        try simp only [Act.put, List.setIfInBounds_toArray, List.set_cons_zero, List.set_cons_succ]
        refine wpAnyH_take (i := 9) (v := ?vys0b9_1) (by (conv => lhs; simp only [List.getElem?_toArray, List.getElem?_cons_succ, List.getElem?_cons_zero])) (by kernel_rfl) (by kernel_rfl) (by kernel_rfl) ?hQ (Or.inl ⟨by rfl, ?hyys0b9_1⟩) hHc ?restys0b9_1
        case hQ => exact fun _ _ _ h => h
        case hyys0b9_1 => (intro Y hY; obtain ⟨y0, y1, y2⟩ := hY; go_simp; try (with_reducible rfl))
        try simp only [Act.put, List.setIfInBounds_toArray, List.set_cons_zero, List.set_cons_succ]
        refine wpAnyH_take (i := 10) (v := ?vys0b10_2) (by (conv => lhs; simp only [List.getElem?_toArray, List.getElem?_cons_succ, List.getElem?_cons_zero])) (by kernel_rfl) (by kernel_rfl) (by kernel_rfl) ?hQ (Or.inl ⟨by rfl, ?hyys0b10_2⟩) hHc ?restys0b10_2
        case hQ => exact fun _ _ _ h => h
        case hyys0b10_2 => (intro Y hY; obtain ⟨y0, y1, y2⟩ := hY; go_simp; try (with_reducible rfl))
        try simp only [Act.put, List.setIfInBounds_toArray, List.set_cons_zero, List.set_cons_succ]
        refine wpAnyH_take (i := 11) (v := ?vys0b11_3) (by (conv => lhs; simp only [List.getElem?_toArray, List.getElem?_cons_succ, List.getElem?_cons_zero])) (by kernel_rfl) (by kernel_rfl) (by kernel_rfl) ?hQ (Or.inl ⟨by rfl, ?hyys0b11_3⟩) hHc ?restys0b11_3
        case hQ => exact fun _ _ _ h => h
        case hyys0b11_3 => (intro Y hY; obtain ⟨y0, y1, y2⟩ := hY; go_simp; try (with_reducible rfl))
        try simp only [Act.put, List.setIfInBounds_toArray, List.set_cons_zero, List.set_cons_succ]
        refine wpAnyH_ready (rs := [12]) (by kernel_rfl) (by simp) ?_
        refine AllReadyH.cons (by (conv => lhs; simp only [List.getElem?_toArray, List.getElem?_cons_succ, List.getElem?_cons_zero])) (fun K hK => ?_) AllReadyH.nil
        go_simp
        refine hK.out _ _ (KD.out _ hb6) (fun hHd => ?_)
        clear hK hHc u4 u5
        try simp only [Act.put, List.setIfInBounds_toArray, List.set_cons_zero, List.set_cons_succ]
        refine wpAnyH_done (by kernel_rfl) (noP_of ?_) _
        obtain ⟨k1, k2, k3, k4⟩ := FIN.out.2 w6 ((Below.drew (Below.refl _ _)).trans hb6)
        have kG := hHd.2.2
        have kD := (k4 W4.heap.size (Array.getElem?_eq_some_iff.1 HDK.out).1 (by omega)).trans HDK.out
        obtain ⟨W7, hW7⟩ : ∃ W7, w6.setCell ⟨g, 2, none⟩ (.int .i64 (sumB L - sumB (L.take k))) = W7 := ⟨_, rfl⟩
        rw [hW7] at k1 k2 k3 kG kD
        rw [hW7]
        have K1 := hidd k1
        have K2 := hidd k2
        have K3 := hidd k3
        have KDD := hidd kD
        clear hW7 k1 k2 k3 k4 kD hHd hb6 KC KD cS FIN SV5 GQ5 HNN HSM ew g25 e25
        go_wp2_with fail
        (try rw [Exit.noGoto_ret])
        refine ⟨by simp, .inl ⟨_, _, rfl, run_takeDeferred KDD.out, ?_⟩⟩
        refine ⟨.tuple #[.slice A2 k c2, .int .i64 0], by simp [results, Try.results16, go_sem], ?_⟩
        refine HENDQ.out _ (W7.putObj W4.heap.size (.deferred none)) ⟨k, _, A2, c2, _, rfl, HG.out, K1.out.keep (by simp [World.putObj]) (fun j hj => by refine World.putObj_heap_other ?_; have h9 := HLT.out j hj; omega), HOW.out, K2.out.keep (fun q e => by refine World.putObj_heap_other ?_; have h9 := HGO.out q e; omega) (by simp [World.putObj]), fun q e => by have h8 := HGO.out q e; have h9 := HS4.out.size; omega, ?_⟩
        exact (HS4.out.trans K3.out (fun j hj q => q.elim id (fun e => by omega))).trans (Sav.putObj _) (fun j hj q => by have h9 := HS4.out.size; omega)
    · obtain ⟨ga, oa, rfl⟩ : ∃ ga oa, A = some ⟨ga, oa, none⟩ := by
        rcases H4.out.q with ⟨h0, A9, e9, _⟩ | ⟨g9, o9, c9, e9, _⟩
        · injection e9 with e91 e92 e93; exact absurd (show c = k by omega) hck
        · injection e9 with e91 e92 e93; exact ⟨_, _, e91⟩
      have HV2 : Hid (QL W4 (.slice (some ⟨ga, oa + k * 2, none⟩) (L.length - k) (c - k)) (L.drop k)) := hidd (by
        have q := HCUT.out
        rw [if_neg hck] at q
        exact q)
      have HOW : Hid ((Value.slice (some ⟨ga, oa + k * 2, none⟩) (L.length - k) (c - k) : Value).ownBlock = (Value.slice (some ⟨ga, oa, none⟩) L.length c).ownBlock) := hidd (by first | rfl | (cases A <;> rfl))
      have HLT : Hid (∀ j, ShBlk h g b (.slice (some ⟨ga, oa + k * 2, none⟩) (L.length - k) (c - k)) j → j < W4.heap.size) := hidd (fun j hj => H4.out.lt (by unfold ShBlk at hj ⊢; rw [HOW.out] at hj; exact hj))
      have FIN := hidd (go_fin (v2 := .slice (some ⟨ga, oa + k * 2, none⟩) (L.length - k) (c - k)) H4.out (by omega) nG HI.out hk0 HV2.out (by first | rfl | (cases A <;> rfl)) HGQ.out HGO.out)
      have SV5 : Hid ((W.drew.setCell ⟨g, 1, none⟩ (.slice (some ⟨ga, oa + k * 2, none⟩) (L.length - k) (c - k))).cell? ⟨w.heap.size, 0, none⟩ = some (.pointer (some ⟨h, 0, none⟩)) ∧ (W.drew.setCell ⟨g, 1, none⟩ (.slice (some ⟨ga, oa + k * 2, none⟩) (L.length - k) (c - k))).cell? ⟨h, 0, none⟩ = some (.pointer (some ⟨g, 0, none⟩)) ∧ (W.drew.setCell ⟨g, 1, none⟩ (.slice (some ⟨ga, oa + k * 2, none⟩) (L.length - k) (c - k))).cell? ⟨G, 0, none⟩ = some (.slice A2 k c2)) := hidd ⟨cell_set_far (show w.heap.size ≠ g by omega) y0, cell_set_far H4.out.hg y2, cell_set_far (show G ≠ g by omega) gc⟩
      have GQ5 := hidd (HGQ.out.keep (w' := (W.drew.setCell ⟨g, 1, none⟩ (.slice (some ⟨ga, oa + k * 2, none⟩) (L.length - k) (c - k)))) (fun q e => Below.heap_setCell W.drew ⟨g, 1, none⟩ _ _ (fun e2 => by have h1 := HGO.out q e; have h2 : q = g := e2; omega)) (by show W.drew.heap.size ≤ _; simp [World.setCell]))
      have HNN := hidd (sumB_le (L := L) (fun x hx => by have := H4.out.sz x hx; have := rightB_iff H4.out.rt; omega) k)
      have HSM : Hid (sumB L ≤ 1000000000) := hidd (by have := H4.out.sm; have := H4.out.r1; omega)
      have ew : IntKind.i64.wrap (sumB L - sumB (L.take k)) = sumB L - sumB (L.take k) := IntWalk.i64_in _ (by have := HNN.out; have := HSM.out; omega)
      go_wp2_with fail
      refine wp_noP ?_
      refine wp_region_held_drew (S := (fun Y => Y.cell? ⟨w.heap.size, 0, none⟩ = some (.pointer (some ⟨h, 0, none⟩)) ∧ Y.cell? ⟨h, 0, none⟩ = some (.pointer (some ⟨g, 0, none⟩)) ∧ Y.cell? ⟨G, 0, none⟩ = some (.slice A2 k c2))) (by kernel_rfl) (⟨y0, y2, gc⟩) (fun hH => ?_)
      refine wpAnyH_take (i := 0) (v := ?vts10_1) (by (conv => lhs; simp only [List.getElem?_toArray, List.getElem?_cons_succ, List.getElem?_cons_zero])) (by kernel_rfl) (by kernel_rfl) (by kernel_rfl) ?hQ (Or.inl ⟨by rfl, ?hyts10_1⟩) hH ?restts10_1
      case hQ => exact fun _ _ _ h => h
      case hyts10_1 => (intro Y hY; obtain ⟨y0, y1, y2⟩ := hY; go_simp; try (with_reducible rfl))
      try simp only [Act.put, List.setIfInBounds_toArray, List.set_cons_zero, List.set_cons_succ]
      refine wpAnyH_take (i := 1) (v := ?vts11_2) (by (conv => lhs; simp only [List.getElem?_toArray, List.getElem?_cons_succ, List.getElem?_cons_zero])) (by kernel_rfl) (by kernel_rfl) (by kernel_rfl) ?hQ (Or.inl ⟨by rfl, ?hyts11_2⟩) hH ?restts11_2
      case hQ => exact fun _ _ _ h => h
      case hyts11_2 => (intro Y hY; obtain ⟨y0, y1, y2⟩ := hY; go_simp; try (with_reducible rfl))
      try simp only [Act.put, List.setIfInBounds_toArray, List.set_cons_zero, List.set_cons_succ]
      refine wpAnyH_take (i := 2) (v := ?vts12_3) (by (conv => lhs; simp only [List.getElem?_toArray, List.getElem?_cons_succ, List.getElem?_cons_zero])) (by kernel_rfl) (by kernel_rfl) (by kernel_rfl) ?hQ (Or.inl ⟨by rfl, ?hyts12_3⟩) hH ?restts12_3
      case hQ => exact fun _ _ _ h => h
      case hyts12_3 => (intro Y hY; obtain ⟨y0, y1, y2⟩ := hY; go_simp; try (with_reducible rfl))
      try simp only [Act.put, List.setIfInBounds_toArray, List.set_cons_zero, List.set_cons_succ]
      refine wpAnyH_take (i := 3) (v := ?vts13_4) (by (conv => lhs; simp only [List.getElem?_toArray, List.getElem?_cons_succ, List.getElem?_cons_zero])) (by kernel_rfl) (by kernel_rfl) (by kernel_rfl) ?hQ (Or.inl ⟨by rfl, ?hyts13_4⟩) hH ?restts13_4
      case hQ => exact fun _ _ _ h => h
      case hyts13_4 => (intro Y hY; obtain ⟨y0, y1, y2⟩ := hY; go_simp; try (with_reducible rfl))
      try simp only [Act.put, List.setIfInBounds_toArray, List.set_cons_zero, List.set_cons_succ]
      refine wpAnyH_take (i := 4) (v := ?vts14_5) (by (conv => lhs; simp only [List.getElem?_toArray, List.getElem?_cons_succ, List.getElem?_cons_zero])) (by kernel_rfl) (by kernel_rfl) (by kernel_rfl) ?hQ (Or.inl ⟨by rfl, ?hyts14_5⟩) hH ?restts14_5
      case hQ => exact fun _ _ _ h => h
      case hyts14_5 => (intro Y hY; obtain ⟨y0, y1, y2⟩ := hY; go_simp; try (with_reducible rfl))
      try simp only [Act.put, List.setIfInBounds_toArray, List.set_cons_zero, List.set_cons_succ]
      refine wpAnyH_take (i := 5) (v := ?vts15_6) (by (conv => lhs; simp only [List.getElem?_toArray, List.getElem?_cons_succ, List.getElem?_cons_zero])) (by kernel_rfl) (by kernel_rfl) (by kernel_rfl) ?hQ (Or.inl ⟨by rfl, ?hyts15_6⟩) hH ?restts15_6
      case hQ => exact fun _ _ _ h => h
      case hyts15_6 => (intro Y hY; obtain ⟨y0, y1, y2⟩ := hY; go_simp; try (with_reducible rfl))
      try simp only [Act.put, List.setIfInBounds_toArray, List.set_cons_zero, List.set_cons_succ]
      refine wpAnyH_take (i := 6) (v := ?vts16_7) (by (conv => lhs; simp only [List.getElem?_toArray, List.getElem?_cons_succ, List.getElem?_cons_zero])) (by kernel_rfl) (by kernel_rfl) (by kernel_rfl) ?hQ (Or.inl ⟨by rfl, ?hyts16_7⟩) hH ?restts16_7
      case hQ => exact fun _ _ _ h => h
      case hyts16_7 => (intro Y hY; obtain ⟨y0, y1, y2⟩ := hY; go_simp; try (with_reducible rfl))
      try simp only [Act.put, List.setIfInBounds_toArray, List.set_cons_zero, List.set_cons_succ]
      refine wpAnyH_take (i := 7) (v := ?vts17_8) (by (conv => lhs; simp only [List.getElem?_toArray, List.getElem?_cons_succ, List.getElem?_cons_zero])) (by kernel_rfl) (by kernel_rfl) (by kernel_rfl) ?hQ (Or.inl ⟨by rfl, ?hyts17_8⟩) hH ?restts17_8
      case hQ => exact fun _ _ _ h => h
      case hyts17_8 => (intro Y hY; obtain ⟨y0, y1, y2⟩ := hY; go_simp; try (with_reducible rfl))
      try simp only [Act.put, List.setIfInBounds_toArray, List.set_cons_zero, List.set_cons_succ]
      refine wpAnyH_take (i := 8) (v := ?vts18_9) (by (conv => lhs; simp only [List.getElem?_toArray, List.getElem?_cons_succ, List.getElem?_cons_zero])) (by kernel_rfl) (by kernel_rfl) (by kernel_rfl) ?hQ (Or.inl ⟨by rfl, ?hyts18_9⟩) hH ?restts18_9
      case hQ => exact fun _ _ _ h => h
      case hyts18_9 => (intro Y hY; obtain ⟨y0, y1, y2⟩ := hY; go_simp; try (with_reducible rfl))
      try simp only [Act.put, List.setIfInBounds_toArray, List.set_cons_zero, List.set_cons_succ]
      refine wpAnyH_take (i := 9) (v := ?vts19_10) (by (conv => lhs; simp only [List.getElem?_toArray, List.getElem?_cons_succ, List.getElem?_cons_zero])) (by kernel_rfl) (by kernel_rfl) (by kernel_rfl) ?hQ (Or.inl ⟨by rfl, ?hyts19_10⟩) hH ?restts19_10
      case hQ => exact fun _ _ _ h => h
      case hyts19_10 => (intro Y hY; obtain ⟨y0, y1, y2⟩ := hY; go_simp; try (with_reducible rfl))
      try simp only [Act.put, List.setIfInBounds_toArray, List.set_cons_zero, List.set_cons_succ]
      refine wpAnyH_take (i := 11) (v := ?vts111_11) (by (conv => lhs; simp only [List.getElem?_toArray, List.getElem?_cons_succ, List.getElem?_cons_zero])) (by kernel_rfl) (by kernel_rfl) (by kernel_rfl) ?hQ (Or.inl ⟨by rfl, ?hyts111_11⟩) hH ?restts111_11
      case hQ => exact fun _ _ _ h => h
      case hyts111_11 => (intro Y hY; obtain ⟨y0, y1, y2⟩ := hY; go_simp; try (with_reducible rfl))
      try simp only [Act.put, List.setIfInBounds_toArray, List.set_cons_zero, List.set_cons_succ]
      refine wpAnyH_take (i := 12) (v := ?vts112_12) (by (conv => lhs; simp only [List.getElem?_toArray, List.getElem?_cons_succ, List.getElem?_cons_zero])) (by kernel_rfl) (by kernel_rfl) (by kernel_rfl) ?hQ (Or.inl ⟨by rfl, ?hyts112_12⟩) hH ?restts112_12
      case hQ => exact fun _ _ _ h => h
      case hyts112_12 => (intro Y hY; obtain ⟨y0, y1, y2⟩ := hY; go_simp; try (with_reducible rfl))
      try simp only [Act.put, List.setIfInBounds_toArray, List.set_cons_zero, List.set_cons_succ]
      have u1 : W.drew.cell? ⟨g, 1, none⟩ = some (.slice (some ⟨ga, oa, none⟩) L.length c) := g1
      have u3 : W.drew.frozen? ⟨g, 1, none⟩ = false := e1
      refine wpAnyH_ready (rs := [10]) (by kernel_rfl) (by simp) ?_
      refine AllReadyH.cons (by (conv => lhs; simp only [List.getElem?_toArray, List.getElem?_cons_succ, List.getElem?_cons_zero])) (fun K hK => ?_) AllReadyH.nil
      go_simp
      refine hK.out _ _ hH (fun hHa => ?_)
      clear hK hH
      try simp only [Act.put, List.setIfInBounds_toArray, List.set_cons_zero, List.set_cons_succ]
      refine wpAnyH_take (i := 13) (v := ?vts113_13) (by (conv => lhs; simp only [List.getElem?_toArray, List.getElem?_cons_succ, List.getElem?_cons_zero])) (by kernel_rfl) (by kernel_rfl) (by kernel_rfl) ?hQ (Or.inl ⟨by rfl, ?hyts113_13⟩) hHa ?restts113_13
      case hQ => exact fun _ _ _ h => h
      case hyts113_13 => (intro Y hY; obtain ⟨y0, y1, y2⟩ := hY; go_simp; try (with_reducible rfl))
      try simp only [Act.put, List.setIfInBounds_toArray, List.set_cons_zero, List.set_cons_succ]
      refine wpAnyH_take (i := 14) (v := ?vts114_14) (by (conv => lhs; simp only [List.getElem?_toArray, List.getElem?_cons_succ, List.getElem?_cons_zero])) (by kernel_rfl) (by kernel_rfl) (by kernel_rfl) ?hQ (Or.inl ⟨by rfl, ?hyts114_14⟩) hHa ?restts114_14
      case hQ => exact fun _ _ _ h => h
      case hyts114_14 => (intro Y hY; obtain ⟨y0, y1, y2⟩ := hY; go_simp; try (with_reducible rfl))
      try simp only [Act.put, List.setIfInBounds_toArray, List.set_cons_zero, List.set_cons_succ]
      refine wpAnyH_take (i := 15) (v := ?vts115_15) (by (conv => lhs; simp only [List.getElem?_toArray, List.getElem?_cons_succ, List.getElem?_cons_zero])) (by kernel_rfl) (by kernel_rfl) (by kernel_rfl) ?hQ (Or.inl ⟨by rfl, ?hyts115_15⟩) hHa ?restts115_15
      case hQ => exact fun _ _ _ h => h
      case hyts115_15 => (intro Y hY; obtain ⟨y0, y1, y2⟩ := hY; go_simp; try (with_reducible rfl))
      try simp only [Act.put, List.setIfInBounds_toArray, List.set_cons_zero, List.set_cons_succ]
      refine wpAnyH_ready (rs := [16]) (by kernel_rfl) (by simp) ?_
      refine AllReadyH.cons (by (conv => lhs; simp only [List.getElem?_toArray, List.getElem?_cons_succ, List.getElem?_cons_zero])) (fun K hK => ?_) AllReadyH.nil
      go_simp
      refine hK.out _ _ SV5.out (fun hHb => ?_)
      clear hK hHa u1 u3 g1 e1
      try simp only [Act.put, List.setIfInBounds_toArray, List.set_cons_zero, List.set_cons_succ]
      refine wpAnyH_done (by kernel_rfl) (noP_of ?_) _
      obtain ⟨W5, hW5, hW5b⟩ : ∃ W5, (W.drew.setCell ⟨g, 1, none⟩ (.slice (some ⟨ga, oa + k * 2, none⟩) (L.length - k) (c - k))) = W5 ∧ (W.setCell ⟨g, 1, none⟩ (.slice (some ⟨ga, oa + k * 2, none⟩) (L.length - k) (c - k))).drew = W5 := ⟨_, rfl, rfl⟩
      have FIN2 := FIN.out
      rw [hW5] at FIN2 SV5 GQ5
      rw [hW5b]
      have FIN := hidd FIN2
      clear hW5 hW5b FIN2 hHb y0 y2 gc
      obtain ⟨⟨A9, c9, h9, _, _, hgl5⟩⟩ : Nonempty (∃ A c, Value.slice A2 k c2 = .slice A (L.take k).length c ∧ (L.take k).length ≤ c ∧ c ≤ maxLen ∧ Lie sendV 2 W5 W5.heap.size A (L.take k)) := ⟨GQ5.out.lie⟩
      injection h9 with h91 h92 h93
      subst h91
      have cS := hidd (sum_any A2 (L.take k) c2 (by have := H4.out.len; omega) (fun x hx => by have := H4.out.sz x (List.mem_of_mem_take hx); have := rightB_iff H4.out.rt; omega) (by have := HNN.out; have := HSM.out; omega) W5.drew hgl5)
      rw [← h92] at cS
      obtain ⟨g25, e25⟩ := FIN.out.1
      have KC : Hid (∀ Y, Below W5.heap.size W5.drew Y → (Y.cell? ⟨w.heap.size, 0, none⟩ = some (.pointer (some ⟨h, 0, none⟩)) ∧ Y.cell? ⟨h, 0, none⟩ = some (.pointer (some ⟨g, 0, none⟩)) ∧ Y.cell? ⟨G, 0, none⟩ = some (.slice A2 k c2)) ∧ Y.cell? ⟨g, 2, none⟩ = some (.int .i64 (sumB L)) ∧ Y.frozen? ⟨g, 2, none⟩ = false) := hidd (fun Y hb => ⟨⟨(hb.cell (p := ⟨w.heap.size, 0, none⟩) (World.block_lt_of_cell? W5 _ SV5.out.1)).trans SV5.out.1, (hb.cell (p := ⟨h, 0, none⟩) (World.block_lt_of_cell? W5 _ SV5.out.2.1)).trans SV5.out.2.1, (hb.cell (p := ⟨G, 0, none⟩) (World.block_lt_of_cell? W5 _ SV5.out.2.2)).trans SV5.out.2.2⟩, (hb.cell (p := ⟨g, 2, none⟩) (World.block_lt_of_cell? W5 _ g25)).trans g25, (hb.frozen (p := ⟨g, 2, none⟩) (World.block_lt_of_cell? W5 _ g25)).trans e25⟩)
      have KD : Hid (∀ Y, Below W5.drew.heap.size W5.drew Y → ((Y.setCell ⟨g, 2, none⟩ (.int .i64 (sumB L - sumB (L.take k)))).cell? ⟨w.heap.size, 0, none⟩ = some (.pointer (some ⟨h, 0, none⟩)) ∧ (Y.setCell ⟨g, 2, none⟩ (.int .i64 (sumB L - sumB (L.take k)))).cell? ⟨h, 0, none⟩ = some (.pointer (some ⟨g, 0, none⟩)) ∧ (Y.setCell ⟨g, 2, none⟩ (.int .i64 (sumB L - sumB (L.take k)))).cell? ⟨G, 0, none⟩ = some (.slice A2 k c2))) := hidd (fun Y hb => by
        obtain ⟨⟨a0, a1, a2⟩, _, _⟩ := KC.out Y hb
        exact ⟨cell_set_far (show w.heap.size ≠ g by omega) a0, cell_set_far H4.out.hg a1, cell_set_far (show G ≠ g by omega) a2⟩)
      clear hgl5 h92 h93
      go_wp2_with fail
      refine wp_noP ?_
      refine wp_region_held_drew (S := (fun Y => Y.cell? ⟨w.heap.size, 0, none⟩ = some (.pointer (some ⟨h, 0, none⟩)) ∧ Y.cell? ⟨h, 0, none⟩ = some (.pointer (some ⟨g, 0, none⟩)) ∧ Y.cell? ⟨G, 0, none⟩ = some (.slice A2 k c2))) (by kernel_rfl) (SV5.out) (fun hH => ?_)
      refine wpAnyH_take (i := 0) (v := ?vxs10_1) (by (conv => lhs; simp only [List.getElem?_toArray, List.getElem?_cons_succ, List.getElem?_cons_zero])) (by kernel_rfl) (by kernel_rfl) (by kernel_rfl) ?hQ (Or.inl ⟨by rfl, ?hyxs10_1⟩) hH ?restxs10_1
      case hQ => exact fun _ _ _ h => h
      case hyxs10_1 => (intro Y hY; obtain ⟨y0, y1, y2⟩ := hY; go_simp; try (with_reducible rfl))
      try simp only [Act.put, List.setIfInBounds_toArray, List.set_cons_zero, List.set_cons_succ]
      refine wpAnyH_take (i := 1) (v := ?vxs11_2) (by (conv => lhs; simp only [List.getElem?_toArray, List.getElem?_cons_succ, List.getElem?_cons_zero])) (by kernel_rfl) (by kernel_rfl) (by kernel_rfl) ?hQ (Or.inl ⟨by rfl, ?hyxs11_2⟩) hH ?restxs11_2
      case hQ => exact fun _ _ _ h => h
      case hyxs11_2 => (intro Y hY; obtain ⟨y0, y1, y2⟩ := hY; go_simp; try (with_reducible rfl))
      try simp only [Act.put, List.setIfInBounds_toArray, List.set_cons_zero, List.set_cons_succ]
      refine wpAnyH_take (i := 2) (v := ?vxs12_3) (by (conv => lhs; simp only [List.getElem?_toArray, List.getElem?_cons_succ, List.getElem?_cons_zero])) (by kernel_rfl) (by kernel_rfl) (by kernel_rfl) ?hQ (Or.inl ⟨by rfl, ?hyxs12_3⟩) hH ?restxs12_3
      case hQ => exact fun _ _ _ h => h
      case hyxs12_3 => (intro Y hY; obtain ⟨y0, y1, y2⟩ := hY; go_simp; try (with_reducible rfl))
      try simp only [Act.put, List.setIfInBounds_toArray, List.set_cons_zero, List.set_cons_succ]
      refine wpAnyH_take (i := 3) (v := ?vxs13_4) (by (conv => lhs; simp only [List.getElem?_toArray, List.getElem?_cons_succ, List.getElem?_cons_zero])) (by kernel_rfl) (by kernel_rfl) (by kernel_rfl) ?hQ (Or.inl ⟨by rfl, ?hyxs13_4⟩) hH ?restxs13_4
      case hQ => exact fun _ _ _ h => h
      case hyxs13_4 => (intro Y hY; obtain ⟨y0, y1, y2⟩ := hY; go_simp; try (with_reducible rfl))
      try simp only [Act.put, List.setIfInBounds_toArray, List.set_cons_zero, List.set_cons_succ]
      refine wpAnyH_take (i := 4) (v := ?vxs14_5) (by (conv => lhs; simp only [List.getElem?_toArray, List.getElem?_cons_succ, List.getElem?_cons_zero])) (by kernel_rfl) (by kernel_rfl) (by kernel_rfl) ?hQ (Or.inl ⟨by rfl, ?hyxs14_5⟩) hH ?restxs14_5
      case hQ => exact fun _ _ _ h => h
      case hyxs14_5 => (intro Y hY; obtain ⟨y0, y1, y2⟩ := hY; go_simp; try (with_reducible rfl))
      try simp only [Act.put, List.setIfInBounds_toArray, List.set_cons_zero, List.set_cons_succ]
      refine wpAnyH_take (i := 5) (v := ?vxs15_6) (by (conv => lhs; simp only [List.getElem?_toArray, List.getElem?_cons_succ, List.getElem?_cons_zero])) (by kernel_rfl) (by kernel_rfl) (by kernel_rfl) ?hQ (Or.inl ⟨by rfl, ?hyxs15_6⟩) hH ?restxs15_6
      case hQ => exact fun _ _ _ h => h
      case hyxs15_6 => (intro Y hY; obtain ⟨y0, y1, y2⟩ := hY; go_simp; try (with_reducible rfl))
      try simp only [Act.put, List.setIfInBounds_toArray, List.set_cons_zero, List.set_cons_succ]
      refine wpAnyH_take (i := 7) (v := ?vxs17_7) (by (conv => lhs; simp only [List.getElem?_toArray, List.getElem?_cons_succ, List.getElem?_cons_zero])) (by kernel_rfl) (by kernel_rfl) (by kernel_rfl) ?hQ (Or.inl ⟨by rfl, ?hyxs17_7⟩) hH ?restxs17_7
      case hQ => exact fun _ _ _ h => h
      case hyxs17_7 => (intro Y hY; obtain ⟨y0, y1, y2⟩ := hY; go_simp; try (with_reducible rfl))
      try simp only [Act.put, List.setIfInBounds_toArray, List.set_cons_zero, List.set_cons_succ]
      have u2 : W5.drew.cell? ⟨g, 2, none⟩ = some (.int .i64 (sumB L)) := g25
      refine wpAnyH_ready (rs := [6, 8]) (by kernel_rfl) (by simp) ?_
      refine AllReadyH.cons (by (conv => lhs; simp only [List.getElem?_toArray, List.getElem?_cons_succ, List.getElem?_cons_zero])) (fun K hK => ?_) (AllReadyH.cons (by (conv => lhs; simp only [List.getElem?_toArray, List.getElem?_cons_succ, List.getElem?_cons_zero])) (fun K hK => ?_) AllReadyH.nil)
      · go_simp
        refine hK.out _ _ hH (fun hHa => ?_)
        clear hK hH
        try simp only [Act.put, List.setIfInBounds_toArray, List.set_cons_zero, List.set_cons_succ]
        refine wpAnyH_ready (rs := [8]) (by kernel_rfl) (by simp) ?_
        refine AllReadyH.cons (by (conv => lhs; simp only [List.getElem?_toArray, List.getElem?_cons_succ, List.getElem?_cons_zero])) (fun K hK => ?_) AllReadyH.nil
        go_simp
        go_at_call 35; refine cS.out.mono ?_; rintro e w6 ⟨rfl, hb6⟩
        refine hK.out _ _ (KC.out _ hb6).1 (fun hHb => ?_)
        clear hK hHa u2
        try simp only [Act.put, List.setIfInBounds_toArray, List.set_cons_zero, List.set_cons_succ]
        obtain ⟨-, u4, u5⟩ := KC.out _ hb6
        refine wpAnyH_take (i := 9) (v := ?vys1a9_1) (by (conv => lhs; simp only [List.getElem?_toArray, List.getElem?_cons_succ, List.getElem?_cons_zero])) (by kernel_rfl) (by kernel_rfl) (by kernel_rfl) ?hQ (Or.inl ⟨by rfl, ?hyys1a9_1⟩) hHb ?restys1a9_1
        case hQ => exact fun _ _ _ h => h
        case hyys1a9_1 => (intro Y hY; obtain ⟨y0, y1, y2⟩ := hY; go_simp; try (with_reducible rfl))
        try simp only [Act.put, List.setIfInBounds_toArray, List.set_cons_zero, List.set_cons_succ]
        refine wpAnyH_take (i := 10) (v := ?vys1a10_2) (by (conv => lhs; simp only [List.getElem?_toArray, List.getElem?_cons_succ, List.getElem?_cons_zero])) (by kernel_rfl) (by kernel_rfl) (by kernel_rfl) ?hQ (Or.inl ⟨by rfl, ?hyys1a10_2⟩) hHb ?restys1a10_2
        case hQ => exact fun _ _ _ h => h
        case hyys1a10_2 => (intro Y hY; obtain ⟨y0, y1, y2⟩ := hY; go_simp; try (with_reducible rfl))
        try simp only [Act.put, List.setIfInBounds_toArray, List.set_cons_zero, List.set_cons_succ]
        refine wpAnyH_take (i := 11) (v := ?vys1a11_3) (by (conv => lhs; simp only [List.getElem?_toArray, List.getElem?_cons_succ, List.getElem?_cons_zero])) (by kernel_rfl) (by kernel_rfl) (by kernel_rfl) ?hQ (Or.inl ⟨by rfl, ?hyys1a11_3⟩) hHb ?restys1a11_3
        case hQ => exact fun _ _ _ h => h
        case hyys1a11_3 => (intro Y hY; obtain ⟨y0, y1, y2⟩ := hY; go_simp; try (with_reducible rfl))
        try simp only [Act.put, List.setIfInBounds_toArray, List.set_cons_zero, List.set_cons_succ]
        refine wpAnyH_ready (rs := [12]) (by kernel_rfl) (by simp) ?_
        refine AllReadyH.cons (by (conv => lhs; simp only [List.getElem?_toArray, List.getElem?_cons_succ, List.getElem?_cons_zero])) (fun K hK => ?_) AllReadyH.nil
        go_simp
        refine hK.out _ _ (KD.out _ hb6) (fun hHd => ?_)
        clear hK hHb u4 u5
        try simp only [Act.put, List.setIfInBounds_toArray, List.set_cons_zero, List.set_cons_succ]
        refine wpAnyH_done (by kernel_rfl) (noP_of ?_) _
        obtain ⟨k1, k2, k3, k4⟩ := FIN.out.2 w6 ((Below.drew (Below.refl _ _)).trans hb6)
        have kG := hHd.2.2
        have kD := (k4 W4.heap.size (Array.getElem?_eq_some_iff.1 HDK.out).1 (by omega)).trans HDK.out
        obtain ⟨W7, hW7⟩ : ∃ W7, w6.setCell ⟨g, 2, none⟩ (.int .i64 (sumB L - sumB (L.take k))) = W7 := ⟨_, rfl⟩
        rw [hW7] at k1 k2 k3 kG kD
        rw [hW7]
        have K1 := hidd k1
        have K2 := hidd k2
        have K3 := hidd k3
        have KDD := hidd kD
        clear hW7 k1 k2 k3 k4 kD hHd hb6 KC KD cS FIN SV5 GQ5 HNN HSM ew g25 e25
        go_wp2_with fail
        (try rw [Exit.noGoto_ret])
        refine ⟨by simp, .inl ⟨_, _, rfl, run_takeDeferred KDD.out, ?_⟩⟩
        refine ⟨.tuple #[.slice A2 k c2, .int .i64 0], by simp [results, Try.results16, go_sem], ?_⟩
        refine HENDQ.out _ (W7.putObj W4.heap.size (.deferred none)) ⟨k, _, A2, c2, _, rfl, HG.out, K1.out.keep (by simp [World.putObj]) (fun j hj => by refine World.putObj_heap_other ?_; have h9 := HLT.out j hj; omega), HOW.out, K2.out.keep (fun q e => by refine World.putObj_heap_other ?_; have h9 := HGO.out q e; omega) (by simp [World.putObj]), fun q e => by have h8 := HGO.out q e; have h9 := HS4.out.size; omega, ?_⟩
        exact (HS4.out.trans K3.out (fun j hj q => q.elim id (fun e => by omega))).trans (Sav.putObj _) (fun j hj q => by have h9 := HS4.out.size; omega)
      · go_simp
        go_at_call 35; refine cS.out.mono ?_; rintro e w6 ⟨rfl, hb6⟩
        refine hK.out _ _ (KC.out _ hb6).1 (fun hHb => ?_)
        clear hK hH u2
        try simp only [Act.put, List.setIfInBounds_toArray, List.set_cons_zero, List.set_cons_succ]
        obtain ⟨-, u4, u5⟩ := KC.out _ hb6
        refine wpAnyH_ready (rs := [6]) (by kernel_rfl) (by simp) ?_
        refine AllReadyH.cons (by (conv => lhs; simp only [List.getElem?_toArray, List.getElem?_cons_succ, List.getElem?_cons_zero])) (fun K hK => ?_) AllReadyH.nil
        go_simp
        refine hK.out _ _ hHb (fun hHc => ?_)
        clear hK hHb
        try simp only [Act.put, List.setIfInBounds_toArray, List.set_cons_zero, List.set_cons_succ]
        refine wpAnyH_take (i := 9) (v := ?vys1b9_1) (by (conv => lhs; simp only [List.getElem?_toArray, List.getElem?_cons_succ, List.getElem?_cons_zero])) (by kernel_rfl) (by kernel_rfl) (by kernel_rfl) ?hQ (Or.inl ⟨by rfl, ?hyys1b9_1⟩) hHc ?restys1b9_1
        case hQ => exact fun _ _ _ h => h
        case hyys1b9_1 => (intro Y hY; obtain ⟨y0, y1, y2⟩ := hY; go_simp; try (with_reducible rfl))
        try simp only [Act.put, List.setIfInBounds_toArray, List.set_cons_zero, List.set_cons_succ]
        refine wpAnyH_take (i := 10) (v := ?vys1b10_2) (by (conv => lhs; simp only [List.getElem?_toArray, List.getElem?_cons_succ, List.getElem?_cons_zero])) (by kernel_rfl) (by kernel_rfl) (by kernel_rfl) ?hQ (Or.inl ⟨by rfl, ?hyys1b10_2⟩) hHc ?restys1b10_2
        case hQ => exact fun _ _ _ h => h
        case hyys1b10_2 => (intro Y hY; obtain ⟨y0, y1, y2⟩ := hY; go_simp; try (with_reducible rfl))
        try simp only [Act.put, List.setIfInBounds_toArray, List.set_cons_zero, List.set_cons_succ]
        refine wpAnyH_take (i := 11) (v := ?vys1b11_3) (by (conv => lhs; simp only [List.getElem?_toArray, List.getElem?_cons_succ, List.getElem?_cons_zero])) (by kernel_rfl) (by kernel_rfl) (by kernel_rfl) ?hQ (Or.inl ⟨by rfl, ?hyys1b11_3⟩) hHc ?restys1b11_3
        case hQ => exact fun _ _ _ h => h
        case hyys1b11_3 => (intro Y hY; obtain ⟨y0, y1, y2⟩ := hY; go_simp; try (with_reducible rfl))
        try simp only [Act.put, List.setIfInBounds_toArray, List.set_cons_zero, List.set_cons_succ]
        refine wpAnyH_ready (rs := [12]) (by kernel_rfl) (by simp) ?_
        refine AllReadyH.cons (by (conv => lhs; simp only [List.getElem?_toArray, List.getElem?_cons_succ, List.getElem?_cons_zero])) (fun K hK => ?_) AllReadyH.nil
        go_simp
        refine hK.out _ _ (KD.out _ hb6) (fun hHd => ?_)
        clear hK hHc u4 u5
        try simp only [Act.put, List.setIfInBounds_toArray, List.set_cons_zero, List.set_cons_succ]
        refine wpAnyH_done (by kernel_rfl) (noP_of ?_) _
        obtain ⟨k1, k2, k3, k4⟩ := FIN.out.2 w6 ((Below.drew (Below.refl _ _)).trans hb6)
        have kG := hHd.2.2
        have kD := (k4 W4.heap.size (Array.getElem?_eq_some_iff.1 HDK.out).1 (by omega)).trans HDK.out
        obtain ⟨W7, hW7⟩ : ∃ W7, w6.setCell ⟨g, 2, none⟩ (.int .i64 (sumB L - sumB (L.take k))) = W7 := ⟨_, rfl⟩
        rw [hW7] at k1 k2 k3 kG kD
        rw [hW7]
        have K1 := hidd k1
        have K2 := hidd k2
        have K3 := hidd k3
        have KDD := hidd kD
        clear hW7 k1 k2 k3 k4 kD hHd hb6 KC KD cS FIN SV5 GQ5 HNN HSM ew g25 e25
        go_wp2_with fail
        (try rw [Exit.noGoto_ret])
        refine ⟨by simp, .inl ⟨_, _, rfl, run_takeDeferred KDD.out, ?_⟩⟩
        refine ⟨.tuple #[.slice A2 k c2, .int .i64 0], by simp [results, Try.results16, go_sem], ?_⟩
        refine HENDQ.out _ (W7.putObj W4.heap.size (.deferred none)) ⟨k, _, A2, c2, _, rfl, HG.out, K1.out.keep (by simp [World.putObj]) (fun j hj => by refine World.putObj_heap_other ?_; have h9 := HLT.out j hj; omega), HOW.out, K2.out.keep (fun q e => by refine World.putObj_heap_other ?_; have h9 := HGO.out q e; omega) (by simp [World.putObj]), fun q e => by have h8 := HGO.out q e; have h9 := HS4.out.size; omega, ?_⟩
        exact (HS4.out.trans K3.out (fun j hj q => q.elim id (fun e => by omega))).trans (Sav.putObj _) (fun j hj q => by have h9 := HS4.out.size; omega)
end
end Go.Proofs.Ythaiphkmkchhoaa

/- Shapers: what every law of the layer looks at besides; one that is not there. -/
namespace Go.Proofs.Ythaiphkmkchhoaa
open Go.RowKit Go.Sort
set_option linter.unusedVariables false
attribute [local go_sem] Oper.semAt_some
theorem some13_any (w : World) : Calls Try.prog 14 #[] w fun e w' => e = .returned (.agg #[.int .i64 10, .int .i64 2, .int .i64 20, .int .i64 8, .int .i64 1]) ∧ Below w.heap.size w w' := by
  go_enter Try.func14, Try.ntmps14
  go_wp2_with fail
  exact bodyPost_ret (v := .agg #[.int .i64 10, .int .i64 2, .int .i64 20, .int .i64 8, .int .i64 1]) (by simp [results, Try.results14, go_sem]) rfl ⟨rfl, by (repeat' (first | (with_reducible exact Below.refl _ _) | (with_reducible assumption) | (with_reducible apply Below.setCell) | (with_reducible apply Below.alloc) | (with_reducible apply Below.drew) | (with_reducible apply below_drewN) | (with_reducible refine Below.trans ?_ (Below.mono (by assumption) ?_)) | omega | (simp; done) | (simp; omega)))⟩
theorem goes_known : BM.Goes 10 2 20 8 1 (BM.step 10 2 20 8 1 (0, 20, 8) 0 0).1 0 [(1, 8), (2, 8)] 1 (0, 12, 0) := by
  refine ⟨by decide, by decide, fun i hi h => ?_, fun h => by decide +revert⟩
  obtain rfl : i = 0 := by omega
  decide +revert
theorem when_known13 : BM.IsWhen 10 2 20 8 (0, 12, 0) 0 8 1 := by
  refine ⟨by decide, by decide, by decide, fun k h0 h1 => ?_⟩
  obtain rfl : k = 0 := by omega
  decide
section
variable {w w' : World} {h g b : Nat} {v v' : Value}
/-- what a shaper's blocks are worth behind a change: they are its own, or new. -/
theorem Sav.low {S : Nat → Prop} {B : Nat} (hs : Sav S w w') (hB : B ≤ w.heap.size) (h : ∀ j, S j → B ≤ j) : Below B w w' := hs.below hB h
end
set_option maxRecDepth 100000 in
set_option maxHeartbeats 8000000 in
theorem known13_any (w : World) : Calls Try.prog 5 #[] w fun e w' => e = .returned (.bool true) ∧ Below w.heap.size w w' := by
  have cs := hidd (fun W => some13_any W)
  have cn := hidd (fun W => shNew_yes 10 2 20 8 1 20 (by decide) W)
  have cP := hidd (fun W h g b v s L i z (H : ShAt W h g b v 10 2 20 8 1 s 20 L) hi hz hr => put_ok (w := W) H (i := i) (z := z) hi hz hr)
  have cR := hidd (fun W h g b v s L i z (H : ShAt W h g b v 10 2 20 8 1 s 20 L) hi hz hr => put_room (w := W) H (i := i) (z := z) hi hz hr)
  have cG := hidd (fun W h g b v s L n (H : ShAt W h g b v 10 2 20 8 1 s 20 L) hn => go_yes (w := W) H n hn)
  have cX := hidd (fun W h g b v s L x t (H : ShAt W h g b v 10 2 20 8 1 s 20 (x :: L)) (ht : BM.IsWhen 10 2 20 8 s s.1 x.2 t) => next_some (w := W) H ht)
  have cB := hidd (fun W h g b v s L (H : ShAt W h g b v 10 2 20 8 1 s 20 L) => bytes_any (w := W) H)
  unfold GoEnd at cG
  go_enter Try.func5, Try.ntmps5
  go_wp2_with fail
  refine (cs.out _).mono ?_
  rintro e w1 ⟨rfl, hb1⟩
  go_wp2_with fail
  refine (cn.out _).mono ?_
  rintro e w2 ⟨h, g, b, rfl, l1, l2, l3, hH, hb2⟩
  have HH := hidd hH
  have hw := hb1.size
  have N0 : Hid (∀ j, ShBlk h g b (.slice none 0 0) j → w.heap.size ≤ j) := hidd (fun j hj => by
    rcases hj with rfl | rfl | rfl | e
    · omega
    · omega
    · omega
    · cases e)
  have B2 := hidd (below_step hb1 hb2)
  clear hb1 hb2 hH l1 l2 l3 hw
  go_wp2_with fail
  refine (cP.out _ _ _ _ _ _ _ 1 8 HH.out (by omega) (by decide) (by decide)).mono ?_
  rintro e w3 ⟨rfl, v3, hH, hs, hn⟩
  have H3 := hidd hH
  have B3 := hidd (B2.out.trans (hs.below B2.out.size N0.out))
  have N3 : Hid (∀ j, ShBlk h g b v3 j → w.heap.size ≤ j) := hidd (fun j hj => by
    rcases Nat.lt_or_ge j w2.heap.size with q | q
    · exact N0.out j (hn j q hj)
    · have := B2.out.size; omega)
  clear hH hs hn
  go_wp2_with fail
  refine (cP.out _ _ _ _ _ _ _ 2 8 H3.out (by omega) (by decide) (by decide)).mono ?_
  rintro e w4 ⟨rfl, v4, hH, hs, hn⟩
  have H4 := hidd hH
  have B4 := hidd (B3.out.trans (hs.below B3.out.size N3.out))
  have N4 : Hid (∀ j, ShBlk h g b v4 j → w.heap.size ≤ j) := hidd (fun j hj => by
    rcases Nat.lt_or_ge j w3.heap.size with q | q
    · exact N3.out j (hn j q hj)
    · have := B3.out.size; omega)
  clear hH hs hn
  go_wp2_with fail
  refine (cR.out _ _ _ _ _ _ _ 3 5 H4.out (by omega) (by decide) (by decide)).mono ?_
  rintro e w5 ⟨rfl, hb5⟩
  have H5 := hidd (H4.out.below hb5)
  have B5 := hidd (below_step B4.out hb5)
  clear hb5
  go_wp2_with fail
  refine (cG.out _ _ _ _ _ _ _ 0 H5.out (by decide)).mono ?_
  rintro e w6 ⟨k, s', A2, c2, v2, rfl, hg, hH, ho, hq, hqn, hs⟩
  obtain ⟨rfl, rfl⟩ := hg.uniq goes_known
  have H6 := hidd hH
  have B6 := hidd (B5.out.trans (hs.below B5.out.size N4.out))
  obtain ⟨A3, c3, e3, _, _, hl⟩ := hq.lie
  cases e3
  obtain ⟨ad, rfl, ha, x0, x1⟩ := hl.send 0 (by decide)
  rw [Nat.zero_mul] at x0
  have e0 : ad.add 0 = ad := rfl
  rw [e0] at x0
  have X0 : Hid (w6.cell? ad = some (.int .i64 1)) := hidd x0
  have AL := hidd ha
  clear hH hs hq hqn hg hl x0 x1 ho ha
  go_wp2_with fail
  refine (cX.out _ _ _ _ _ _ [] (2, 8) 1 H6.out when_known13).mono ?_
  rintro e w7 ⟨rfl, hb7⟩
  have H7 := hidd (H6.out.below hb7)
  have B7 := hidd (below_step B6.out hb7)
  have x0 := (hb7.cell AL.out).trans X0.out
  clear hb7
  go_wp2_with fail
  refine (cB.out _ _ _ _ _ _ _ H7.out).mono ?_
  rintro e w8 ⟨rfl, rfl⟩
  go_wp2_with fail
  go_ret
  exact ⟨rfl, B7.out⟩
theorem go_nil (n : Int) (w : World) : Calls Try.prog 16 #[.pointer none, .int .i64 n] w fun e w' => e = .returned (.tuple #[.slice none 0 0, .int .i64 1]) ∧ Below w.heap.size w w' := by
  have c := hidd (fun W => shNone_nil W)
  go_enter Try.func16, Try.ntmps16
  go_wp2_with fail
  refine wp_scope_straight ?_
  go_wp2_with fail
  refine (c.out _).mono ?_
  rintro e w' ⟨rfl, rfl⟩
  go_wp2_with fail
  (try rw [Exit.noGoto_ret])
  go_ret2
  exact ⟨rfl, by (repeat' (first | (with_reducible exact Below.refl _ _) | (with_reducible assumption) | (with_reducible apply Below.setCell) | (with_reducible apply Below.alloc) | (with_reducible apply Below.drew) | (with_reducible apply below_drewN) | (with_reducible refine Below.trans ?_ (Below.mono (by assumption) ?_)) | omega | (simp; done) | (simp; omega)))⟩
section
variable {w : World} {h : Nat}
theorem next_zero (hz : PtrAt w h none) : Calls Try.prog 17 #[.pointer (some ⟨h, 0, none⟩)] w fun e w' => e = .returned (.tuple #[.int .i64 0, .bool false]) ∧ w = w' := by
  have c := hidd (shNone_zero hz)
  clear hz
  go_enter Try.func17, Try.ntmps17
  go_wp2_with fail
  refine c.out.mono ?_
  rintro e w' ⟨rfl, rfl⟩
  go_wp2_with fail
  go_ret2
  exact ⟨rfl, rfl⟩
theorem bytes_nil (w : World) : Calls Try.prog 18 #[.pointer none] w fun e w' => e = .returned (.int .i64 0) ∧ w = w' := by
  have c := hidd (fun W => shNone_nil W)
  go_enter Try.func18, Try.ntmps18
  go_wp2_with fail
  refine (c.out _).mono ?_
  rintro e w' ⟨rfl, rfl⟩
  go_wp2_with fail
  go_ret
  exact ⟨rfl, rfl⟩
theorem bytes_zero (hz : PtrAt w h none) : Calls Try.prog 18 #[.pointer (some ⟨h, 0, none⟩)] w fun e w' => e = .returned (.int .i64 0) ∧ w = w' := by
  have c := hidd (shNone_zero hz)
  clear hz
  go_enter Try.func18, Try.ntmps18
  go_wp2_with fail
  refine c.out.mono ?_
  rintro e w' ⟨rfl, rfl⟩
  go_wp2_with fail
  go_ret
  exact ⟨rfl, rfl⟩
theorem copy_nil (w : World) : Calls Try.prog 11 #[.pointer none] w fun e w' => e = .returned (.pointer none) ∧ w = w' := by
  have c := hidd (fun W => shNone_nil W)
  go_enter Try.func11, Try.ntmps11
  go_wp2_with fail
  refine (c.out _).mono ?_
  rintro e w' ⟨rfl, rfl⟩
  go_wp2_with fail
  go_ret
  exact ⟨rfl, rfl⟩
theorem same_none (hz : PtrAt w h none) : Calls Try.prog 13 #[.pointer none, .pointer (some ⟨h, 0, none⟩)] w fun e w' => e = .returned (.bool true) ∧ w = w' := by
  have c := hidd (fun W => shNone_nil W)
  have c2 := hidd (shNone_zero hz)
  clear hz
  go_enter Try.func13, Try.ntmps13
  go_wp2_with fail
  refine (c.out _).mono ?_
  rintro e w' ⟨rfl, rfl⟩
  go_wp2_with fail
  refine (c.out _).mono ?_
  rintro e w' ⟨rfl, rfl⟩
  go_wp2_with fail
  refine c2.out.mono ?_
  rintro e w' ⟨rfl, rfl⟩
  go_wp2_with fail
  go_ret
  exact ⟨rfl, rfl⟩
theorem all_zero (hz : PtrAt w h none) : Calls Try.prog 24 #[.pointer (some ⟨h, 0, none⟩)] w fun e w' => e = .returned (.func (.func 54) #[] #[.pointer (some ⟨w.heap.size, 0, none⟩)]) ∧ w' = w.alloc (.cells #[.slice none 0 0] 33) := by
  have c := hidd (shNone_zero hz)
  have cv := hidd (fun A n c W => waitVals_any A n c W)
  clear hz
  go_enter Try.func24, Try.ntmps24
  go_wp2_with fail
  refine c.out.mono ?_
  rintro e w' ⟨rfl, rfl⟩
  go_wp2_with fail
  refine (cv.out _ _ _ _).mono ?_
  rintro e w' ⟨rfl, rfl⟩
  go_wp2_with fail
  go_ret
  exact ⟨rfl, rfl⟩
theorem spec_zero (hz : PtrAt w h none) : Calls Try.prog 10 #[.pointer (some ⟨h, 0, none⟩)] w fun e w' => e = .returned (.agg #[.int .i64 0, .int .i64 0, .int .i64 0, .int .i64 0, .int .i64 0]) ∧ Below w.heap.size w w' := by
  have hlt : h < w.heap.size := World.block_lt_of_cell? w _ hz
  have B1 := hidd (show Below w.heap.size w (w.alloc (.cells #[.int .i64 0, .int .i64 0, .int .i64 0, .int .i64 0, .int .i64 0] 23)) from by (repeat' (first | (with_reducible exact Below.refl _ _) | (with_reducible assumption) | (with_reducible apply Below.setCell) | (with_reducible apply Below.alloc) | (with_reducible apply Below.drew) | (with_reducible apply below_drewN) | (with_reducible refine Below.trans ?_ (Below.mono (by assumption) ?_)) | omega | (simp; done) | (simp; omega))))
  have c := hidd (shNone_zero (w := w.alloc (.cells #[.int .i64 0, .int .i64 0, .int .i64 0, .int .i64 0, .int .i64 0] 23)) ((B1.out.cell (p := ⟨h, 0, none⟩) hlt).trans hz))
  clear hz
  go_enter Try.func10, Try.ntmps10
  go_wp2_with fail
  refine c.out.mono ?_
  rintro e w' ⟨rfl, rfl⟩
  go_wp2_with fail
  exact bodyPost_ret (v := .agg #[.int .i64 0, .int .i64 0, .int .i64 0, .int .i64 0, .int .i64 0]) (by simp [results, Try.results10, go_sem]) rfl ⟨rfl, by (repeat' (first | (with_reducible exact Below.refl _ _) | (with_reducible assumption) | (with_reducible apply Below.setCell) | (with_reducible apply Below.alloc) | (with_reducible apply Below.drew) | (with_reducible apply below_drewN) | (with_reducible refine Below.trans ?_ (Below.mono (by assumption) ?_)) | omega | (simp; done) | (simp; omega)))⟩
end
end Go.Proofs.Ythaiphkmkchhoaa

/- Rows whose arguments are packets that wait, and calls of a shaper: opened to numbers and lists. -/
namespace Go.Proofs.Ythaiphkmkchhoaa
/-- a call's cells: Kind, ID, Size. -/
def actV (x : Int × Int × Int) : List Value := [.int .i64 x.1, .int .i64 x.2.1, .int .i64 x.2.2]
namespace RowK
open Go.ChangeShapes Go.WideShapes Go.ChangeAt Go.RowKit Go.Joins Go.Deep
set_option linter.unusedVariables false
theorem cellsWait : Try.prog.cellsOf 41 = 2 := by kernel_rfl
theorem cellsAct13 : Try.prog.cellsOf 43 = 3 := by kernel_rfl
theorem cellsI13 : Try.prog.cellsOf 3 = 1 := by kernel_rfl
theorem cellsL13 : Try.prog.cellsOf 2 = 1 := by kernel_rfl
section
variable {H : Type} {enc : TypeId × Value → H} {w : World} {base : Nat} {spare : Nat → Bool} {held : Bool}
theorem open_waits {fuel : Nat} {cs : List Value} {x : DataW H × List MemPlace} (h : DataW.trod enc Try.prog w base spare held fuel 33 cs = some x) :
    ∃ (A : Option Addr) (L : List (Int × Int)) (c : Nat), cs = [.slice A L.length c] ∧ L.length ≤ maxLen ∧ Lie sendV 2 w w.heap.size A L := by
  rcases open_slice_fields Try.underlying33 Try.underlying41 (by kernel_rfl) cellsWait h with rfl | ⟨a, len, cap, rfl, hl, hm, hc⟩
  · exact ⟨none, [], 0, rfl, by simp, Lie.nil⟩
  · obtain ⟨L, rfl, hL⟩ := list_of (α := Int × Int) (Q := fun i x => w.cell? (a.add (i * 2 + 0)) = some (.int .i64 x.1) ∧ w.cell? (a.add (i * 2 + 1)) = some (.int .i64 x.2)) (n := len) (fun i hi => by
      obtain ⟨v0, n0, y0, hv0, ht0⟩ := hc i hi 0 _ rfl
      obtain ⟨v1, n1, y1, hv1, ht1⟩ := hc i hi 1 _ rfl
      obtain ⟨a0, e0, rfl, -⟩ := DataW.trod_int Try.underlying2 ht0
      obtain ⟨a1, e1, rfl, -⟩ := DataW.trod_int Try.underlying2 ht1
      simp at e0 e1
      subst e0 e1
      exact ⟨(a0, a1), hv0, hv1⟩)
    refine ⟨some a, L, cap, rfl, Nat.le_trans hl hm, fun hlen => ⟨a, rfl, ?_, fun i x hx j v hv => ?_⟩⟩
    · have := (hL 0 L[0] (List.getElem?_eq_getElem hlen)).1
      have := World.block_lt_of_cell? _ _ this
      rwa [block_of_add] at this
    · obtain ⟨h0, h1⟩ := hL i x hx
      match j, hv with
      | 0, hv => simp [sendV] at hv; subst hv; exact h0
      | 1, hv => simp [sendV] at hv; subst hv; exact h1
      | j + 2, hv => simp [sendV] at hv
/-- a struct of an int, and what lies in two cells. -/
theorem open_three13 {P : Program} {t : TypeId} {f0 f1 : Field} (hs : P.underlying t = some (.struct #[f0, f1])) (o0 : f0.offset = 0) (o1 : f1.offset = 1) (k0 : P.cellsOf f0.type = 1) (k1 : P.cellsOf f1.type = 2)
    (i0 : P.underlying f0.type = some (.int .i64)) {fuel : Nat} {cs : List Value} (hcl : cs.length = 3) {x : DataW H × List MemPlace} (h : DataW.trod enc P w base spare held fuel t cs = some x) :
    ∃ (a : Int) (c1 c2 : Value) (n : Nat) (y : DataW H × List MemPlace), cs = [.int .i64 a, c1, c2] ∧ DataW.trod enc P w base spare held n f1.type [c1, c2] = some y := by
  obtain ⟨xs, n, _, hx, _, hlen, hg⟩ := DataW.trod_struct hs h
  match cs, hcl, xs, hlen with
  | [c0, c1, c2], _, [y0, y1], _ =>
    have g0 : DataW.trod enc P w base spare held n f0.type [c0] = some y0 := by simpa [o0, k0] using hg 0 f0 rfl
    have g1 : DataW.trod enc P w base spare held n f1.type [c1, c2] = some y1 := by simpa [o1, k1] using hg 1 f1 rfl
    obtain ⟨a0, e0, -, z0⟩ := DataW.trod_int i0 g0
    simp at e0
    subst e0
    exact ⟨a0, c1, c2, n, y1, rfl, g1⟩
theorem open_two13 {P : Program} {t : TypeId} {f0 f1 : Field} (hs : P.underlying t = some (.struct #[f0, f1])) (o0 : f0.offset = 0) (o1 : f1.offset = 1) (k0 : P.cellsOf f0.type = 1) (k1 : P.cellsOf f1.type = 1) (i0 : P.underlying f0.type = some (.int .i64)) (i1 : P.underlying f1.type = some (.int .i64))
    {fuel : Nat} {c0 c1 : Value} {x : DataW H × List MemPlace} (h : DataW.trod enc P w base spare held fuel t [c0, c1] = some x) : ∃ a b : Int, c0 = .int .i64 a ∧ c1 = .int .i64 b := by
  obtain ⟨xs, n, _, hx, _, hlen, hg⟩ := DataW.trod_struct hs h
  match xs, hlen with
  | [y0, y1], _ =>
    have g0 : DataW.trod enc P w base spare held n f0.type [c0] = some y0 := by simpa [o0, k0] using hg 0 f0 rfl
    have g1 : DataW.trod enc P w base spare held n f1.type [c1] = some y1 := by simpa [o1, k1] using hg 1 f1 rfl
    obtain ⟨a0, e0, -, z0⟩ := DataW.trod_int i0 g0
    obtain ⟨a1, e1, -, z1⟩ := DataW.trod_int i1 g1
    simp at e0 e1
    exact ⟨a0, a1, e0, e1⟩
set_option maxRecDepth 1000000 in
theorem open_acts {fuel : Nat} {cs : List Value} {x : DataW H × List MemPlace} (h : DataW.trod enc Try.prog w base spare held fuel 24 cs = some x) :
    ∃ (A : Option Addr) (L : List (Int × Int × Int)) (c : Nat), cs = [.slice A L.length c] ∧ L.length ≤ maxLen ∧ Lie actV 3 w w.heap.size A L := by
  rcases open_slice Try.underlying24 h with h0 | ⟨a, len, cap, m, n, D, Pl, hcs, hb, hl, hm, hmm, hx, hi⟩
  · exact ⟨none, [], 0, h0.1, by simp, Lie.nil⟩
  · obtain ⟨L, hLl, hL⟩ := list_of (α := Int × Int × Int) (n := len) (Q := fun i x => w.cell? (a.add (i * 3 + 0)) = some (.int .i64 x.1) ∧ w.cell? (a.add (i * 3 + 1)) = some (.int .i64 x.2.1) ∧ w.cell? (a.add (i * 3 + 2)) = some (.int .i64 x.2.2)) (fun i hii => by
      have him : i < m := by rw [hmm]; split <;> omega
      obtain ⟨cs', hc, ht'⟩ := hi i him
      rw [cellsAct13] at hc
      obtain ⟨_, hcl, hat⟩ := World.cells?_some hc
      have q := fun j (hj : j < 3) => hat j hj
      obtain ⟨a0, c1, c2, n', y2, rfl, g2⟩ := open_three13 Try.underlying43 rfl rfl cellsI13 cellsWait Try.underlying3 hcl ht'
      obtain ⟨a1, a2, rfl, rfl⟩ := open_two13 Try.underlying41 rfl rfl cellsL13 cellsL13 Try.underlying2 Try.underlying2 g2
      refine ⟨(a0, a1, a2), ?_, ?_, ?_⟩
      · have := q 0 (by omega); rw [add_of_add] at this; exact this
      · have := q 1 (by omega); rw [add_of_add] at this; exact this
      · have := q 2 (by omega); rw [add_of_add] at this; exact this)
    subst hLl
    refine ⟨some a, L, cap, hcs, Nat.le_trans hl hm, fun hlen => ⟨a, rfl, ?_, fun i x hx j v hv => ?_⟩⟩
    · have := (hL 0 L[0] (List.getElem?_eq_getElem hlen)).1
      have := World.block_lt_of_cell? _ _ this
      rwa [block_of_add] at this
    · obtain ⟨h0, h1, h2⟩ := hL i x hx
      match j, hv with
      | 0, hv => simp [actV] at hv; subst hv; exact h0
      | 1, hv => simp [actV] at hv; subst hv; exact h1
      | 2, hv => simp [actV] at hv; subst hv; exact h2
      | j + 3, hv => simp [actV] at hv
end
end RowK
end Go.Proofs.Ythaiphkmkchhoaa

/- Shapers: the document's Bytes, Same, Put. -/
namespace Go.Proofs.Ythaiphkmkchhoaa
open Go.RowKit Go.Sort
set_option linter.unusedVariables false
/-- the document's shaper. -/
def gS (p r u m l : Int) (TA : Option Addr) (tn tc : Nat) (now room : Int) (LA : Option Addr) (ln lc : Nat) : Value := .agg #[.int .i64 p, .int .i64 r, .int .i64 u, .int .i64 m, .int .i64 l, .slice TA tn tc, .int .i64 now, .int .i64 room, .slice LA ln lc]
theorem av13 {L : List (Int × Int)} {i : Nat} (hi : i < L.length) : sumB (L.take i) + L[i].2 = sumB (L.take (i + 1)) := (sumB_one hi).symm
set_option maxRecDepth 100000 in
set_option maxHeartbeats 4000000 in
theorem refBytes_any (p r u m l : Int) (TA : Option Addr) (tn tc : Nat) (now room : Int) (LA : Option Addr) (L : List (Int × Int)) (lc : Nat) (hL : L.length ≤ 1000000000) (h0 : ∀ x ∈ L, 0 ≤ x.2) (h1 : sumB L ≤ 1000000000000) (w : World) (hA : Lie sendV 2 w w.heap.size LA L) :
    Calls Try.prog 25 #[gS p r u m l TA tn tc now room LA L.length lc] w fun e w' => e = .returned (.int .i64 (sumB L)) ∧ Below w.heap.size w w' := by
  unfold gS
  obtain ⟨W1, hW1⟩ : ∃ W1, w.alloc (.cells #[.int .i64 p, .int .i64 r, .int .i64 u, .int .i64 m, .int .i64 l, .slice TA tn tc, .int .i64 now, .int .i64 room, .slice LA L.length lc] 35) = W1 := ⟨_, rfl⟩
  have B1 := hidd (show Below w.heap.size w W1 from by rw [← hW1]; (repeat' (first | (with_reducible exact Below.refl _ _) | (with_reducible assumption) | (with_reducible apply Below.setCell) | (with_reducible apply Below.alloc) | (with_reducible apply Below.drew) | (with_reducible apply below_drewN) | (with_reducible refine Below.trans ?_ (Below.mono (by assumption) ?_)) | omega | (simp; done) | (simp; omega))))
  have s8 : W1.cell? ⟨w.heap.size, 8, none⟩ = some (.slice LA L.length lc) := by rw [← hW1]; simp [go_sem]
  have sl : w.heap.size < W1.heap.size := by rw [← hW1]; simp
  have HA := hidd (hA.below B1.out)
  have HS := hidd (fun i => sumB_le h0 i)
  have H1 := hidd h1
  have HE := hidd (fun (i : Nat) (hi : i < L.length) => sumB_one hi)
  have HF : Hid (∀ i, L.length ≤ i → sumB (L.take i) = sumB L) := hidd (fun i hi => by rw [List.take_of_length_le hi])
  have S8 := hidd s8
  have HW := hidd hW1
  clear hA h0 h1 hW1 s8
  go_enter Try.func25, Try.ntmps25
  go_wp2_with fail
  rw [HW.out]
  go_loopg [3, 4] (L.length + 1) (fun gk s3 s4 wr => ∃ i : Nat, i ≤ L.length ∧ i + gk = L.length + 1 ∧ s4 = .int .i64 (i : Int) ∧ s3 = .int .i64 (sumB (L.take i)) ∧ W1 = wr)
  case atStart => exact ⟨0, by omega, by omega, rfl, by simp [sumB], rfl⟩
  case round =>
    obtain ⟨i, hi, hk, rfl, rfl, rfl⟩ := hrel
    have HK := hidd hk
    have s8 := S8.out
    clear hk
    by_cases hin : i < L.length
    · have z1 : (i : Int) < (L.length : Int) := by omega
      have z0 : (0 : Int) ≤ (i : Int) := by omega
      obtain ⟨ad, rfl, ha, x0, x1⟩ := HA.out.send i hin
      have he := hidd (HE.out i hin)
      have hw : IntKind.i64.wrap (sumB (L.take i) + L[i].2) = sumB (L.take (i + 1)) := by
        rw [← he.out]
        have a := HS.out (i + 1)
        have b := H1.out
        exact IntWalk.i64_in _ (by omega)
      have hw64 : wrap64 (sumB (L.take i) + L[i].2) = sumB (L.take (i + 1)) := by
        rw [← he.out]
        have a := HS.out (i + 1)
        have b := H1.out
        simp only [wrap64]
        omega
      have HW5 := hidd hw
      have HW6 := hidd hw64
      clear hw hw64 he
      generalize sumB (L.take i) = S0 at *
      generalize L[i].1 = a0 at *
      generalize L[i].2 = a1 at *
      go_wp2_with fail
      have hk := HK.out
      go_roundg (gk - 1)
      case measure => omega
      case rel => exact ⟨i + 1, by omega, by omega, by go_num, by first | rw [HW6.out] | rw [HW5.out], rfl⟩
    · have z1 : ¬ (i : Int) < (L.length : Int) := by omega
      have hf := HF.out i (by omega)
      rw [hf]
      clear hf HS HE HF H1
      obtain ⟨S, hS⟩ : ∃ S, sumB L = S := ⟨_, rfl⟩
      have HS := hidd hS
      rw [hS]
      clear hS
      go_wp2_with fail
      go_ret
      exact ⟨ret_int HS.out.symm, B1.out⟩
theorem wait_run (a b c d : Int) (w : World) : (Op.equalIn 10000 41 (.agg #[.int .i64 a, .int .i64 b]) (.agg #[.int .i64 c, .int .i64 d])).run Try.prog w = .ok (decide ((a, b) = (c, d))) w := by
  by_cases h0 : a = c <;> by_cases h1 : b = d <;> simp [go_sem, Op.eqFields, *]
set_option maxRecDepth 100000 in
set_option maxHeartbeats 4000000 in
theorem refSame_any (A B : Option Addr) (L M : List (Int × Int)) (c d : Nat) (hL : L.length ≤ 1000000000) (hM : M.length ≤ 1000000000) (w : World) (hA : Lie sendV 2 w w.heap.size A L) (hB : Lie sendV 2 w w.heap.size B M) :
    Calls Try.prog 12 #[.slice A L.length c, .slice B M.length d] w fun e w' => e = .returned (.bool (decide (L = M))) ∧ ∃ q, w' = w.drewN q := by
  have HA := hidd hA
  have HB := hidd hB
  obtain ⟨R, hR⟩ : ∃ R, decide (L = M) = R := ⟨_, rfl⟩
  rw [hR]
  have HR := hidd hR
  clear hA hB hR
  by_cases hn : L.length = M.length
  · have HN := hidd hn
    obtain ⟨n, hln⟩ : ∃ n, L.length = n := ⟨_, rfl⟩
    have HLN := hidd hln
    rw [← hn, hln]
    rw [hln] at hL
    clear hn hln hM
    go_enter Try.func12, Try.ntmps12
    go_wp2_with fail
    go_loopg [5] (n + 1) (fun g s wr => ∃ (i q : Nat), i ≤ n ∧ i + g = n + 1 ∧ s = .int .i64 (i : Int) ∧ (∀ j (hj : j < L.length) (hj2 : j < M.length), j < i → L[j] = M[j]) ∧ wr = w.drewN q)
    case atStart => exact ⟨0, 0, by omega, by omega, rfl, fun j _ _ hj => absurd hj (by omega), rfl⟩
    case round =>
      obtain ⟨i, q, hi, hg, rfl, hs, rfl⟩ := hrel
      have HG := hidd hg
      have HS := hidd hs
      clear hg hs
      by_cases hin : i < n
      · have hi1 : i < L.length := by rw [HLN.out]; exact hin
        have hi2 : i < M.length := by rw [← HN.out]; exact hi1
        obtain ⟨ad, rfl, ha, x0, x1⟩ := HA.out.send i hi1
        obtain ⟨bd, rfl, hb, y0, y1⟩ := HB.out.send i hi2
        have hin2 : (i : Int) < (n : Int) := by omega
        have hi0 : (0 : Int) ≤ (i : Int) := by omega
        have HNO := hidd (fun (h : decide (L[i] = M[i]) = false) => (show R = false from by
          rw [← HR.out]
          refine decide_eq_false (fun e => ?_)
          subst e
          exact absurd rfl (of_decide_eq_false h)))
        have HST := hidd (fun (h : decide (L[i] = M[i]) = true) => (show ∀ j (hj : j < L.length) (hj2 : j < M.length), j < i + 1 → L[j] = M[j] from fun j hj hj2 h3 => by
          by_cases e : j = i
          · subst e; exact of_decide_eq_true h
          · exact HS.out j hj hj2 (by omega)))
        have eqq := fun W => wait_run L[i].1 L[i].2 M[i].1 M[i].2 W
        rw [Prod.eta, Prod.eta] at eqq
        generalize decide (L[i] = M[i]) = EQ at *
        generalize L[i].1 = a0 at *
        generalize L[i].2 = a1 at *
        generalize M[i].1 = b0 at *
        generalize M[i].2 = b1 at *
        cases EQ
        case true =>
          have HN1 := hidd (HST.out rfl)
          clear HNO HST
          go_wp2_with fail
          go_quiet (fail)
          go_wp2_with fail
          have hg := HG.out
          go_roundg (gk - 1)
          case measure => omega
          case rel => exact ⟨i + 1, _, by omega, by omega, by go_num, HN1.out, by first | rfl | exact World.drewN_drewN _ _ _ | simp⟩
        case false =>
          have HN1 := hidd (HNO.out rfl)
          clear HNO HST
          go_wp2_with fail
          go_quiet (fail)
          go_wp2_with fail
          go_ret
          exact ⟨by rw [HN1.out]; rfl, _, by first | rfl | exact World.drewN_drewN _ _ _ | simp⟩
      · have hin2 : ¬ (i : Int) < (n : Int) := by omega
        have hyes : R = true := by
          rw [← HR.out]
          refine decide_eq_true (List.ext_getElem HN.out fun j h1 h2 => HS.out j h1 h2 (by have := HLN.out; omega))
        have HY := hidd hyes
        clear hyes
        go_wp2_with fail
        go_ret
        exact ⟨by rw [HY.out]; rfl, q, rfl⟩
  · have hne : R = false := by
      rw [← HR.out]
      exact decide_eq_false (fun e => hn (by rw [e]))
    have HNE := hidd hne
    have h2 : ¬ (L.length : Int) = (M.length : Int) := by omega
    have h3 : ((L.length : Int) != (M.length : Int)) = true := by simp [bne, h2]
    have h4 : ((L.length : Int) == (M.length : Int)) = false := by simp [h2]
    generalize L.length = n at *
    generalize M.length = k at *
    clear hne
    go_enter Try.func12, Try.ntmps12
    go_wp2_with fail
    go_ret
    exact ⟨by rw [HNE.out]; rfl, 0, rfl⟩
theorem lie_src {w W : World} {A : Option Addr} {L : List (Int × Int)} {B : Nat} (hA : Lie sendV 2 w B A L) (hb : Below B w W) : 0 < L.length → ∃ ad, A = some ad ∧ ∀ j u, (rowOf sendV L)[j]? = some u → W.cell? (ad.add j) = some u := hA.src hb
/-- behind the document's Put. -/
def RPutEnd (p r u m l : Int) (TA : Option Addr) (tn tc : Nat) (now room : Int) (LA : Option Addr) (lc : Nat) (L : List (Int × Int)) (L' : List (Int × Int)) (no : Int) (w : World) (e : Ending) (w' : World) : Prop :=
  ∃ LA' lc', e = .returned (.tuple #[gS p r u m l TA tn tc now room LA' L'.length lc', .int .i64 no]) ∧ Lie sendV 2 w' w'.heap.size LA' L' ∧ ((LA' = LA ∧ L' = L ∧ lc' = lc) ∨ (∀ ad, LA' = some ad → w.heap.size ≤ ad.block) ∧ L'.length ≤ lc' ∧ lc' ≤ maxLen) ∧ Below w.heap.size w w'
set_option maxRecDepth 100000 in
set_option maxHeartbeats 4000000 in
theorem rput_arg (p r u m l : Int) (TA : Option Addr) (tn tc : Nat) (now room : Int) (LA : Option Addr) (L : List (Int × Int)) (lc : Nat) (i z : Int) (hL : L.length ≤ 1000000) (hi : i < 0 ∨ 4611686018427387904 < i) (w : World) (hA : Lie sendV 2 w w.heap.size LA L) :
    Calls Try.prog 22 #[gS p r u m l TA tn tc now room LA L.length lc, .agg #[.int .i64 i, .int .i64 z]] w (RPutEnd p r u m l TA tn tc now room LA lc L L 2 w) := by
  obtain ⟨PO, hPO⟩ : ∃ PO : Ending → World → Prop, RPutEnd p r u m l TA tn tc now room LA lc L L 2 w = PO := ⟨_, rfl⟩
  have HPO := hidd hPO
  rw [hPO]
  clear hPO
  unfold gS
  obtain ⟨n, hn⟩ : ∃ n, L.length = n := ⟨_, rfl⟩
  have HN := hidd hn
  rw [hn]
  by_cases hi0 : i < 0
  · have HA := hidd hA
    obtain ⟨W1, hW1⟩ : ∃ W1, ((w.alloc (.cells #[.int .i64 p, .int .i64 r, .int .i64 u, .int .i64 m, .int .i64 l, .slice TA tn tc, .int .i64 now, .int .i64 room, .slice LA n lc] 35)).alloc (.cells #[.int .i64 i, .int .i64 z] 41)).alloc (.cells #[.int .i64 0, .int .i64 0, .int .i64 0, .int .i64 0, .int .i64 0, .slice none 0 0, .int .i64 0, .int .i64 0, .slice none 0 0] 35) = W1 := ⟨_, rfl⟩
    have B1 := hidd (show Below w.heap.size w W1 from by rw [← hW1]; (repeat' (first | (with_reducible exact Below.refl _ _) | (with_reducible assumption) | (with_reducible apply Below.setCell) | (with_reducible apply Below.alloc) | (with_reducible apply Below.drew) | (with_reducible apply below_drewN) | (with_reducible refine Below.trans ?_ (Below.mono (by assumption) ?_)) | omega | (simp; done) | (simp; omega))))
    have HL1 := hidd (hA.below B1.out)
    have HW := hidd hW1
    clear hn hA hW1
    go_enter Try.func22, Try.ntmps22
    go_wp2_with fail
    refine bodyPost_ret (v := .tuple #[.agg #[.int .i64 p, .int .i64 r, .int .i64 u, .int .i64 m, .int .i64 l, .slice TA tn tc, .int .i64 now, .int .i64 room, .slice LA n lc], .int .i64 2]) (by simp [results, Try.results22, go_sem]) rfl ?_
    rw [← HPO.out]
    have hbe : Below w.heap.size w (((w.alloc (.cells #[.int .i64 p, .int .i64 r, .int .i64 u, .int .i64 m, .int .i64 l, .slice TA tn tc, .int .i64 now, .int .i64 room, .slice LA n lc] 35)).alloc (.cells #[.int .i64 i, .int .i64 z] 41)).alloc (.cells #[.int .i64 p, .int .i64 r, .int .i64 u, .int .i64 m, .int .i64 l, .slice TA tn tc, .int .i64 now, .int .i64 room, .slice LA n lc] 35)) := by (repeat' (first | (with_reducible exact Below.refl _ _) | (with_reducible assumption) | (with_reducible apply Below.setCell) | (with_reducible apply Below.alloc) | (with_reducible apply Below.drew) | (with_reducible apply below_drewN) | (with_reducible refine Below.trans ?_ (Below.mono (by assumption) ?_)) | omega | (simp; done) | (simp; omega)))
    exact ⟨LA, lc, by rw [HN.out]; rfl, HA.out.below hbe, .inl ⟨rfl, rfl, rfl⟩, hbe⟩
  have hi1 : 4611686018427387904 < i := hi.resolve_left hi0
  clear hi
  have HA := hidd hA
  obtain ⟨W1, hW1⟩ : ∃ W1, ((w.alloc (.cells #[.int .i64 p, .int .i64 r, .int .i64 u, .int .i64 m, .int .i64 l, .slice TA tn tc, .int .i64 now, .int .i64 room, .slice LA n lc] 35)).alloc (.cells #[.int .i64 i, .int .i64 z] 41)).alloc (.cells #[.int .i64 0, .int .i64 0, .int .i64 0, .int .i64 0, .int .i64 0, .slice none 0 0, .int .i64 0, .int .i64 0, .slice none 0 0] 35) = W1 := ⟨_, rfl⟩
  have B1 := hidd (show Below w.heap.size w W1 from by rw [← hW1]; (repeat' (first | (with_reducible exact Below.refl _ _) | (with_reducible assumption) | (with_reducible apply Below.setCell) | (with_reducible apply Below.alloc) | (with_reducible apply Below.drew) | (with_reducible apply below_drewN) | (with_reducible refine Below.trans ?_ (Below.mono (by assumption) ?_)) | omega | (simp; done) | (simp; omega))))
  have HL1 := hidd (hA.below B1.out)
  have HW := hidd hW1
  clear hn hA hW1
  go_enter Try.func22, Try.ntmps22
  go_wp2_with fail
  refine bodyPost_ret (v := .tuple #[.agg #[.int .i64 p, .int .i64 r, .int .i64 u, .int .i64 m, .int .i64 l, .slice TA tn tc, .int .i64 now, .int .i64 room, .slice LA n lc], .int .i64 2]) (by simp [results, Try.results22, go_sem]) rfl ?_
  rw [← HPO.out]
  have hbe : Below w.heap.size w (((w.alloc (.cells #[.int .i64 p, .int .i64 r, .int .i64 u, .int .i64 m, .int .i64 l, .slice TA tn tc, .int .i64 now, .int .i64 room, .slice LA n lc] 35)).alloc (.cells #[.int .i64 i, .int .i64 z] 41)).alloc (.cells #[.int .i64 p, .int .i64 r, .int .i64 u, .int .i64 m, .int .i64 l, .slice TA tn tc, .int .i64 now, .int .i64 room, .slice LA n lc] 35)) := by (repeat' (first | (with_reducible exact Below.refl _ _) | (with_reducible assumption) | (with_reducible apply Below.setCell) | (with_reducible apply Below.alloc) | (with_reducible apply Below.drew) | (with_reducible apply below_drewN) | (with_reducible refine Below.trans ?_ (Below.mono (by assumption) ?_)) | omega | (simp; done) | (simp; omega)))
  exact ⟨LA, lc, by rw [HN.out]; rfl, HA.out.below hbe, .inl ⟨rfl, rfl, rfl⟩, hbe⟩
set_option maxRecDepth 100000 in
set_option maxHeartbeats 4000000 in
theorem rput_size (p r u m l : Int) (TA : Option Addr) (tn tc : Nat) (now room : Int) (LA : Option Addr) (L : List (Int × Int)) (lc : Nat) (i z : Int) (hL : L.length ≤ 1000000) (hi : 0 ≤ i ∧ i ≤ 4611686018427387904) (hz : z < l ∨ m < z) (w : World) (hA : Lie sendV 2 w w.heap.size LA L) :
    Calls Try.prog 22 #[gS p r u m l TA tn tc now room LA L.length lc, .agg #[.int .i64 i, .int .i64 z]] w (RPutEnd p r u m l TA tn tc now room LA lc L L 220 w) := by
  obtain ⟨PO, hPO⟩ : ∃ PO : Ending → World → Prop, RPutEnd p r u m l TA tn tc now room LA lc L L 220 w = PO := ⟨_, rfl⟩
  have HPO := hidd hPO
  rw [hPO]
  clear hPO
  unfold gS
  obtain ⟨n, hn⟩ : ∃ n, L.length = n := ⟨_, rfl⟩
  have HN := hidd hn
  rw [hn]
  have hi0 : ¬ i < 0 := by omega
  have hi1 : ¬ 4611686018427387904 < i := by omega
  clear hi
  by_cases hz0 : z < l
  · have HA := hidd hA
    obtain ⟨W1, hW1⟩ : ∃ W1, ((w.alloc (.cells #[.int .i64 p, .int .i64 r, .int .i64 u, .int .i64 m, .int .i64 l, .slice TA tn tc, .int .i64 now, .int .i64 room, .slice LA n lc] 35)).alloc (.cells #[.int .i64 i, .int .i64 z] 41)).alloc (.cells #[.int .i64 0, .int .i64 0, .int .i64 0, .int .i64 0, .int .i64 0, .slice none 0 0, .int .i64 0, .int .i64 0, .slice none 0 0] 35) = W1 := ⟨_, rfl⟩
    have B1 := hidd (show Below w.heap.size w W1 from by rw [← hW1]; (repeat' (first | (with_reducible exact Below.refl _ _) | (with_reducible assumption) | (with_reducible apply Below.setCell) | (with_reducible apply Below.alloc) | (with_reducible apply Below.drew) | (with_reducible apply below_drewN) | (with_reducible refine Below.trans ?_ (Below.mono (by assumption) ?_)) | omega | (simp; done) | (simp; omega))))
    have HL1 := hidd (hA.below B1.out)
    have HW := hidd hW1
    clear hn hA hW1
    go_enter Try.func22, Try.ntmps22
    go_wp2_with fail
    refine bodyPost_ret (v := .tuple #[.agg #[.int .i64 p, .int .i64 r, .int .i64 u, .int .i64 m, .int .i64 l, .slice TA tn tc, .int .i64 now, .int .i64 room, .slice LA n lc], .int .i64 220]) (by simp [results, Try.results22, go_sem]) rfl ?_
    rw [← HPO.out]
    have hbe : Below w.heap.size w (((w.alloc (.cells #[.int .i64 p, .int .i64 r, .int .i64 u, .int .i64 m, .int .i64 l, .slice TA tn tc, .int .i64 now, .int .i64 room, .slice LA n lc] 35)).alloc (.cells #[.int .i64 i, .int .i64 z] 41)).alloc (.cells #[.int .i64 p, .int .i64 r, .int .i64 u, .int .i64 m, .int .i64 l, .slice TA tn tc, .int .i64 now, .int .i64 room, .slice LA n lc] 35)) := by (repeat' (first | (with_reducible exact Below.refl _ _) | (with_reducible assumption) | (with_reducible apply Below.setCell) | (with_reducible apply Below.alloc) | (with_reducible apply Below.drew) | (with_reducible apply below_drewN) | (with_reducible refine Below.trans ?_ (Below.mono (by assumption) ?_)) | omega | (simp; done) | (simp; omega)))
    exact ⟨LA, lc, by rw [HN.out]; rfl, HA.out.below hbe, .inl ⟨rfl, rfl, rfl⟩, hbe⟩
  have hz1 : m < z := hz.resolve_left hz0
  clear hz
  have HA := hidd hA
  obtain ⟨W1, hW1⟩ : ∃ W1, ((w.alloc (.cells #[.int .i64 p, .int .i64 r, .int .i64 u, .int .i64 m, .int .i64 l, .slice TA tn tc, .int .i64 now, .int .i64 room, .slice LA n lc] 35)).alloc (.cells #[.int .i64 i, .int .i64 z] 41)).alloc (.cells #[.int .i64 0, .int .i64 0, .int .i64 0, .int .i64 0, .int .i64 0, .slice none 0 0, .int .i64 0, .int .i64 0, .slice none 0 0] 35) = W1 := ⟨_, rfl⟩
  have B1 := hidd (show Below w.heap.size w W1 from by rw [← hW1]; (repeat' (first | (with_reducible exact Below.refl _ _) | (with_reducible assumption) | (with_reducible apply Below.setCell) | (with_reducible apply Below.alloc) | (with_reducible apply Below.drew) | (with_reducible apply below_drewN) | (with_reducible refine Below.trans ?_ (Below.mono (by assumption) ?_)) | omega | (simp; done) | (simp; omega))))
  have HL1 := hidd (hA.below B1.out)
  have HW := hidd hW1
  clear hn hA hW1
  go_enter Try.func22, Try.ntmps22
  go_wp2_with fail
  refine bodyPost_ret (v := .tuple #[.agg #[.int .i64 p, .int .i64 r, .int .i64 u, .int .i64 m, .int .i64 l, .slice TA tn tc, .int .i64 now, .int .i64 room, .slice LA n lc], .int .i64 220]) (by simp [results, Try.results22, go_sem]) rfl ?_
  rw [← HPO.out]
  have hbe : Below w.heap.size w (((w.alloc (.cells #[.int .i64 p, .int .i64 r, .int .i64 u, .int .i64 m, .int .i64 l, .slice TA tn tc, .int .i64 now, .int .i64 room, .slice LA n lc] 35)).alloc (.cells #[.int .i64 i, .int .i64 z] 41)).alloc (.cells #[.int .i64 p, .int .i64 r, .int .i64 u, .int .i64 m, .int .i64 l, .slice TA tn tc, .int .i64 now, .int .i64 room, .slice LA n lc] 35)) := by (repeat' (first | (with_reducible exact Below.refl _ _) | (with_reducible assumption) | (with_reducible apply Below.setCell) | (with_reducible apply Below.alloc) | (with_reducible apply Below.drew) | (with_reducible apply below_drewN) | (with_reducible refine Below.trans ?_ (Below.mono (by assumption) ?_)) | omega | (simp; done) | (simp; omega)))
  exact ⟨LA, lc, by rw [HN.out]; rfl, HA.out.below hbe, .inl ⟨rfl, rfl, rfl⟩, hbe⟩
set_option maxRecDepth 100000 in
set_option maxHeartbeats 4000000 in
theorem rput_room (p r u m l : Int) (TA : Option Addr) (tn tc : Nat) (now room : Int) (LA : Option Addr) (L : List (Int × Int)) (lc : Nat) (i z : Int) (hL : L.length ≤ 1000000) (hs0 : ∀ x ∈ L, 0 ≤ x.2) (hs1 : sumB L ≤ 1000000000000) (hz2 : -1000000000000 ≤ z ∧ z ≤ 1000000000000 ∧ 0 ≤ sumB L) (hi : 0 ≤ i ∧ i ≤ 4611686018427387904) (hz : l ≤ z ∧ z ≤ m) (hr : room < sumB L + z) (w : World) (hA : Lie sendV 2 w w.heap.size LA L) :
    Calls Try.prog 22 #[gS p r u m l TA tn tc now room LA L.length lc, .agg #[.int .i64 i, .int .i64 z]] w (RPutEnd p r u m l TA tn tc now room LA lc L L 230 w) := by
  obtain ⟨PO, hPO⟩ : ∃ PO : Ending → World → Prop, RPutEnd p r u m l TA tn tc now room LA lc L L 230 w = PO := ⟨_, rfl⟩
  have HPO := hidd hPO
  rw [hPO]
  clear hPO
  unfold gS
  obtain ⟨n, hn⟩ : ∃ n, L.length = n := ⟨_, rfl⟩
  have HN := hidd hn
  rw [hn]
  have hi0 : ¬ i < 0 := by omega
  have hi1 : ¬ 4611686018427387904 < i := by omega
  have hz0 : ¬ z < l := by omega
  have hz1 : ¬ m < z := by omega
  clear hi hz
  have HA := hidd hA
  obtain ⟨W1, hW1⟩ : ∃ W1, ((w.alloc (.cells #[.int .i64 p, .int .i64 r, .int .i64 u, .int .i64 m, .int .i64 l, .slice TA tn tc, .int .i64 now, .int .i64 room, .slice LA n lc] 35)).alloc (.cells #[.int .i64 i, .int .i64 z] 41)).alloc (.cells #[.int .i64 0, .int .i64 0, .int .i64 0, .int .i64 0, .int .i64 0, .slice none 0 0, .int .i64 0, .int .i64 0, .slice none 0 0] 35) = W1 := ⟨_, rfl⟩
  have B1 := hidd (show Below w.heap.size w W1 from by rw [← hW1]; (repeat' (first | (with_reducible exact Below.refl _ _) | (with_reducible assumption) | (with_reducible apply Below.setCell) | (with_reducible apply Below.alloc) | (with_reducible apply Below.drew) | (with_reducible apply below_drewN) | (with_reducible refine Below.trans ?_ (Below.mono (by assumption) ?_)) | omega | (simp; done) | (simp; omega))))
  have HL1 := hidd (hA.below B1.out)
  have HW := hidd hW1
  have cB := hidd (fun d os => (Calls.regrown_of (refBytes_any p r u m l TA tn tc now room LA L lc (by omega) hs0 hs1 (grow (redrawn W1 d) os) (HL1.out.below (below_regrown W1 d os))) : Calls Try.prog 25 #[gS p r u m l TA tn tc now room LA L.length lc] (grow (redrawn W1 d) os) fun e w'' => e = .returned (.int .i64 (sumB L)) ∧ ∃ q : Regrown, w'' = grow (redrawn W1 q.d) q.os))
  unfold gS at cB
  rw [hn] at cB
  have ew : IntKind.i64.wrap (sumB L + z) = sumB L + z := IntWalk.i64_in _ (by omega)
  clear hn hA hW1 hs0 hs1 hz2
  generalize sumB L = B0 at *
  go_enter Try.func22, Try.ntmps22
  go_wp2_with fail
  rw [HW.out]
  have qx0 : W1.cell? ⟨w.heap.size, 0, none⟩ = some (.int .i64 p) := by rw [← HW.out]; simp [go_sem]
  have qx0r := cell_regrown qx0
  have qx1 : W1.cell? ⟨w.heap.size, 1, none⟩ = some (.int .i64 r) := by rw [← HW.out]; simp [go_sem]
  have qx1r := cell_regrown qx1
  have qx2 : W1.cell? ⟨w.heap.size, 2, none⟩ = some (.int .i64 u) := by rw [← HW.out]; simp [go_sem]
  have qx2r := cell_regrown qx2
  have qx3 : W1.cell? ⟨w.heap.size, 3, none⟩ = some (.int .i64 m) := by rw [← HW.out]; simp [go_sem]
  have qx3r := cell_regrown qx3
  have qx4 : W1.cell? ⟨w.heap.size, 4, none⟩ = some (.int .i64 l) := by rw [← HW.out]; simp [go_sem]
  have qx4r := cell_regrown qx4
  have qx5 : W1.cell? ⟨w.heap.size, 5, none⟩ = some (.slice TA tn tc) := by rw [← HW.out]; simp [go_sem]
  have qx5r := cell_regrown qx5
  have qx6 : W1.cell? ⟨w.heap.size, 6, none⟩ = some (.int .i64 now) := by rw [← HW.out]; simp [go_sem]
  have qx6r := cell_regrown qx6
  have qx7 : W1.cell? ⟨w.heap.size, 7, none⟩ = some (.int .i64 room) := by rw [← HW.out]; simp [go_sem]
  have qx7r := cell_regrown qx7
  have qx8 : W1.cell? ⟨w.heap.size, 8, none⟩ = some (.slice LA n lc) := by rw [← HW.out]; simp [go_sem]
  have qx8r := cell_regrown qx8
  have qy0 : W1.cell? ⟨w.heap.size + 1, 0, none⟩ = some (.int .i64 i) := by rw [← HW.out]; simp [go_sem]
  have qy0r := cell_regrown qy0
  have qy1 : W1.cell? ⟨w.heap.size + 1, 1, none⟩ = some (.int .i64 z) := by rw [← HW.out]; simp [go_sem]
  have qy1r := cell_regrown qy1
  refine wp_region_quiet_below (by kernel_rfl) (by kernel_rfl) ?_
  repeat (quiet_step (exact cB.out _ _))
  refine wpQuiet_nil ?_
  intro _ hw'
  obtain ⟨⟨dq, osq⟩, hw''⟩ := hw'
  subst hw''
  obtain ⟨W2, hW2⟩ : ∃ W2, grow (redrawn W1 dq) osq = W2 := ⟨_, rfl⟩
  have b2 : Below W1.heap.size W1 W2 := by rw [← hW2]; exact below_regrown W1 dq osq
  rw [hW2]
  clear hW2
  clear qx0 qx0r qx1 qx1r qx2 qx2r qx3 qx3r qx4 qx4r qx5 qx5r qx6 qx6r qx7 qx7r qx8 qx8r qy0 qy0r qy1 qy1r
  have lx : w.heap.size < W1.heap.size := by rw [← HW.out]; first | (simp; done) | (simp; omega)
  have X0 := hidd (show W2.cell? ⟨w.heap.size, 0, none⟩ = some (.int .i64 p) from (b2.cell (p := ⟨w.heap.size, 0, none⟩) lx).trans (by rw [← HW.out]; simp [go_sem]))
  have X1 := hidd (show W2.cell? ⟨w.heap.size, 1, none⟩ = some (.int .i64 r) from (b2.cell (p := ⟨w.heap.size, 1, none⟩) lx).trans (by rw [← HW.out]; simp [go_sem]))
  have X2 := hidd (show W2.cell? ⟨w.heap.size, 2, none⟩ = some (.int .i64 u) from (b2.cell (p := ⟨w.heap.size, 2, none⟩) lx).trans (by rw [← HW.out]; simp [go_sem]))
  have X3 := hidd (show W2.cell? ⟨w.heap.size, 3, none⟩ = some (.int .i64 m) from (b2.cell (p := ⟨w.heap.size, 3, none⟩) lx).trans (by rw [← HW.out]; simp [go_sem]))
  have X4 := hidd (show W2.cell? ⟨w.heap.size, 4, none⟩ = some (.int .i64 l) from (b2.cell (p := ⟨w.heap.size, 4, none⟩) lx).trans (by rw [← HW.out]; simp [go_sem]))
  have X5 := hidd (show W2.cell? ⟨w.heap.size, 5, none⟩ = some (.slice TA tn tc) from (b2.cell (p := ⟨w.heap.size, 5, none⟩) lx).trans (by rw [← HW.out]; simp [go_sem]))
  have X6 := hidd (show W2.cell? ⟨w.heap.size, 6, none⟩ = some (.int .i64 now) from (b2.cell (p := ⟨w.heap.size, 6, none⟩) lx).trans (by rw [← HW.out]; simp [go_sem]))
  have X7 := hidd (show W2.cell? ⟨w.heap.size, 7, none⟩ = some (.int .i64 room) from (b2.cell (p := ⟨w.heap.size, 7, none⟩) lx).trans (by rw [← HW.out]; simp [go_sem]))
  have X8 := hidd (show W2.cell? ⟨w.heap.size, 8, none⟩ = some (.slice LA n lc) from (b2.cell (p := ⟨w.heap.size, 8, none⟩) lx).trans (by rw [← HW.out]; simp [go_sem]))
  have ly : w.heap.size + 1 < W1.heap.size := by rw [← HW.out]; first | (simp; done) | (simp; omega)
  have Y0 := hidd (show W2.cell? ⟨w.heap.size + 1, 0, none⟩ = some (.int .i64 i) from (b2.cell (p := ⟨w.heap.size + 1, 0, none⟩) ly).trans (by rw [← HW.out]; simp [go_sem]))
  have Y1 := hidd (show W2.cell? ⟨w.heap.size + 1, 1, none⟩ = some (.int .i64 z) from (b2.cell (p := ⟨w.heap.size + 1, 1, none⟩) ly).trans (by rw [← HW.out]; simp [go_sem]))
  have lu : w.heap.size + 1 + 1 < W1.heap.size := by rw [← HW.out]; simp
  have U0 := hidd (show W2.cell? ⟨w.heap.size + 1 + 1, 0, none⟩ = some (.int .i64 0) from (b2.cell (p := ⟨w.heap.size + 1 + 1, 0, none⟩) lu).trans (by rw [← HW.out]; simp [go_sem]))
  have F0 := hidd (show W2.frozen? ⟨w.heap.size + 1 + 1, 0, none⟩ = false from (b2.frozen (p := ⟨w.heap.size + 1 + 1, 0, none⟩) lu).trans (by rw [← HW.out]; simp [go_sem]))
  have U1 := hidd (show W2.cell? ⟨w.heap.size + 1 + 1, 1, none⟩ = some (.int .i64 0) from (b2.cell (p := ⟨w.heap.size + 1 + 1, 1, none⟩) lu).trans (by rw [← HW.out]; simp [go_sem]))
  have F1 := hidd (show W2.frozen? ⟨w.heap.size + 1 + 1, 1, none⟩ = false from (b2.frozen (p := ⟨w.heap.size + 1 + 1, 1, none⟩) lu).trans (by rw [← HW.out]; simp [go_sem]))
  have U2 := hidd (show W2.cell? ⟨w.heap.size + 1 + 1, 2, none⟩ = some (.int .i64 0) from (b2.cell (p := ⟨w.heap.size + 1 + 1, 2, none⟩) lu).trans (by rw [← HW.out]; simp [go_sem]))
  have F2 := hidd (show W2.frozen? ⟨w.heap.size + 1 + 1, 2, none⟩ = false from (b2.frozen (p := ⟨w.heap.size + 1 + 1, 2, none⟩) lu).trans (by rw [← HW.out]; simp [go_sem]))
  have U3 := hidd (show W2.cell? ⟨w.heap.size + 1 + 1, 3, none⟩ = some (.int .i64 0) from (b2.cell (p := ⟨w.heap.size + 1 + 1, 3, none⟩) lu).trans (by rw [← HW.out]; simp [go_sem]))
  have F3 := hidd (show W2.frozen? ⟨w.heap.size + 1 + 1, 3, none⟩ = false from (b2.frozen (p := ⟨w.heap.size + 1 + 1, 3, none⟩) lu).trans (by rw [← HW.out]; simp [go_sem]))
  have U4 := hidd (show W2.cell? ⟨w.heap.size + 1 + 1, 4, none⟩ = some (.int .i64 0) from (b2.cell (p := ⟨w.heap.size + 1 + 1, 4, none⟩) lu).trans (by rw [← HW.out]; simp [go_sem]))
  have F4 := hidd (show W2.frozen? ⟨w.heap.size + 1 + 1, 4, none⟩ = false from (b2.frozen (p := ⟨w.heap.size + 1 + 1, 4, none⟩) lu).trans (by rw [← HW.out]; simp [go_sem]))
  have U5 := hidd (show W2.cell? ⟨w.heap.size + 1 + 1, 5, none⟩ = some (.slice none 0 0) from (b2.cell (p := ⟨w.heap.size + 1 + 1, 5, none⟩) lu).trans (by rw [← HW.out]; simp [go_sem]))
  have F5 := hidd (show W2.frozen? ⟨w.heap.size + 1 + 1, 5, none⟩ = false from (b2.frozen (p := ⟨w.heap.size + 1 + 1, 5, none⟩) lu).trans (by rw [← HW.out]; simp [go_sem]))
  have U6 := hidd (show W2.cell? ⟨w.heap.size + 1 + 1, 6, none⟩ = some (.int .i64 0) from (b2.cell (p := ⟨w.heap.size + 1 + 1, 6, none⟩) lu).trans (by rw [← HW.out]; simp [go_sem]))
  have F6 := hidd (show W2.frozen? ⟨w.heap.size + 1 + 1, 6, none⟩ = false from (b2.frozen (p := ⟨w.heap.size + 1 + 1, 6, none⟩) lu).trans (by rw [← HW.out]; simp [go_sem]))
  have U7 := hidd (show W2.cell? ⟨w.heap.size + 1 + 1, 7, none⟩ = some (.int .i64 0) from (b2.cell (p := ⟨w.heap.size + 1 + 1, 7, none⟩) lu).trans (by rw [← HW.out]; simp [go_sem]))
  have F7 := hidd (show W2.frozen? ⟨w.heap.size + 1 + 1, 7, none⟩ = false from (b2.frozen (p := ⟨w.heap.size + 1 + 1, 7, none⟩) lu).trans (by rw [← HW.out]; simp [go_sem]))
  have U8 := hidd (show W2.cell? ⟨w.heap.size + 1 + 1, 8, none⟩ = some (.slice none 0 0) from (b2.cell (p := ⟨w.heap.size + 1 + 1, 8, none⟩) lu).trans (by rw [← HW.out]; simp [go_sem]))
  have F8 := hidd (show W2.frozen? ⟨w.heap.size + 1 + 1, 8, none⟩ = false from (b2.frozen (p := ⟨w.heap.size + 1 + 1, 8, none⟩) lu).trans (by rw [← HW.out]; simp [go_sem]))
  have B2 := hidd (below_step B1.out b2)
  have LL2 := hidd (HL1.out.below b2)
  clear b2 HL1 lx ly cB
  have x0 := X0.out
  have x1 := X1.out
  have x2 := X2.out
  have x3 := X3.out
  have x4 := X4.out
  have x5 := X5.out
  have x6 := X6.out
  have x7 := X7.out
  have x8 := X8.out
  have y0 := Y0.out
  have y1 := Y1.out
  have u0 := U0.out
  have f0 := F0.out
  have u1 := U1.out
  have f1 := F1.out
  have u2 := U2.out
  have f2 := F2.out
  have u3 := U3.out
  have f3 := F3.out
  have u4 := U4.out
  have f4 := F4.out
  have u5 := U5.out
  have f5 := F5.out
  have u6 := U6.out
  have f6 := F6.out
  have u7 := U7.out
  have f7 := F7.out
  have u8 := U8.out
  have f8 := F8.out
  go_wp2_with fail
  have hbe : Below w.heap.size w ((((((((((W2.setCell ⟨w.heap.size + 1 + 1, 0, none⟩ (.int .i64 p)).setCell ⟨w.heap.size + 1 + 1, 1, none⟩ (.int .i64 r)).setCell ⟨w.heap.size + 1 + 1, 2, none⟩ (.int .i64 u)).setCell ⟨w.heap.size + 1 + 1, 3, none⟩ (.int .i64 m)).setCell ⟨w.heap.size + 1 + 1, 4, none⟩ (.int .i64 l)).setCell ⟨w.heap.size + 1 + 1, 5, none⟩ (.slice TA tn tc)).setCell ⟨w.heap.size + 1 + 1, 6, none⟩ (.int .i64 now)).setCell ⟨w.heap.size + 1 + 1, 7, none⟩ (.int .i64 room)).setCell ⟨w.heap.size + 1 + 1, 8, none⟩ (.slice LA n lc))) := by have := B2.out; (repeat' (first | (with_reducible exact Below.refl _ _) | (with_reducible assumption) | (with_reducible apply Below.setCell) | (with_reducible apply Below.alloc) | (with_reducible apply Below.drew) | (with_reducible apply below_drewN) | (with_reducible refine Below.trans ?_ (Below.mono (by assumption) ?_)) | omega | (simp; done) | (simp; omega)))
  refine bodyPost_ret (v := .tuple #[.agg #[.int .i64 p, .int .i64 r, .int .i64 u, .int .i64 m, .int .i64 l, .slice TA tn tc, .int .i64 now, .int .i64 room, .slice LA n lc], .int .i64 230]) (by simp [results, Try.results22, go_sem, u0, u1, u2, u3, u4, u5, u6, u7, u8]) rfl ?_
  rw [← HPO.out]
  exact ⟨LA, lc, by rw [HN.out]; rfl, HA.out.below hbe, .inl ⟨rfl, rfl, rfl⟩, hbe⟩
set_option maxRecDepth 100000 in
set_option maxHeartbeats 8000000 in
theorem rput_ok (p r u m l : Int) (TA : Option Addr) (tn tc : Nat) (now room : Int) (LA : Option Addr) (L : List (Int × Int)) (lc : Nat) (i z : Int) (hL : L.length ≤ 1000000) (hs0 : ∀ x ∈ L, 0 ≤ x.2) (hs1 : sumB L ≤ 1000000000000) (hz2 : -1000000000000 ≤ z ∧ z ≤ 1000000000000 ∧ 0 ≤ sumB L) (hi : 0 ≤ i ∧ i ≤ 4611686018427387904) (hz : l ≤ z ∧ z ≤ m) (hr : ¬ room < sumB L + z) (w : World) (hA : Lie sendV 2 w w.heap.size LA L) :
    Calls Try.prog 22 #[gS p r u m l TA tn tc now room LA L.length lc, .agg #[.int .i64 i, .int .i64 z]] w (RPutEnd p r u m l TA tn tc now room LA lc L (L ++ [(i, z)]) 0 w) := by
  obtain ⟨PO, hPO⟩ : ∃ PO : Ending → World → Prop, RPutEnd p r u m l TA tn tc now room LA lc L (L ++ [(i, z)]) 0 w = PO := ⟨_, rfl⟩
  have HPO := hidd hPO
  rw [hPO]
  clear hPO
  unfold gS
  obtain ⟨n, hn⟩ : ∃ n, L.length = n := ⟨_, rfl⟩
  have HN := hidd hn
  rw [hn]
  obtain ⟨i0, hi0, hz0, hz1, hz2'⟩ : ∃ i, Try.prog.info? 41 = some i ∧ i.zero = some (.agg #[.int .i64 0, .int .i64 0]) ∧ i.size = 2 ∧ i.bytes = 16 := by
    have q := waitInfo
    cases hi : Try.prog.info? 41 with
    | none => rw [hi] at q; cases q
    | some i => rw [hi] at q; simp at q; exact ⟨i, rfl, q.1, q.2.1, q.2.2⟩
  have hj0 : ¬ i < 0 := by omega
  have hj1 : ¬ 4611686018427387904 < i := by omega
  have hk0 : ¬ z < l := by omega
  have hk1 : ¬ m < z := by omega
  clear hi hz
  have HA := hidd hA
  obtain ⟨W1, hW1⟩ : ∃ W1, ((w.alloc (.cells #[.int .i64 p, .int .i64 r, .int .i64 u, .int .i64 m, .int .i64 l, .slice TA tn tc, .int .i64 now, .int .i64 room, .slice LA n lc] 35)).alloc (.cells #[.int .i64 i, .int .i64 z] 41)).alloc (.cells #[.int .i64 0, .int .i64 0, .int .i64 0, .int .i64 0, .int .i64 0, .slice none 0 0, .int .i64 0, .int .i64 0, .slice none 0 0] 35) = W1 := ⟨_, rfl⟩
  have B1 := hidd (show Below w.heap.size w W1 from by rw [← hW1]; (repeat' (first | (with_reducible exact Below.refl _ _) | (with_reducible assumption) | (with_reducible apply Below.setCell) | (with_reducible apply Below.alloc) | (with_reducible apply Below.drew) | (with_reducible apply below_drewN) | (with_reducible refine Below.trans ?_ (Below.mono (by assumption) ?_)) | omega | (simp; done) | (simp; omega))))
  have HL1 := hidd (hA.below B1.out)
  have HW := hidd hW1
  have cB := hidd (fun d os => (Calls.regrown_of (refBytes_any p r u m l TA tn tc now room LA L lc (by omega) hs0 hs1 (grow (redrawn W1 d) os) (HL1.out.below (below_regrown W1 d os))) : Calls Try.prog 25 #[gS p r u m l TA tn tc now room LA L.length lc] (grow (redrawn W1 d) os) fun e w'' => e = .returned (.int .i64 (sumB L)) ∧ ∃ q : Regrown, w'' = grow (redrawn W1 q.d) q.os))
  unfold gS at cB
  rw [hn] at cB
  have ew : IntKind.i64.wrap (sumB L + z) = sumB L + z := IntWalk.i64_in _ (by omega)
  clear hn hA hW1 hs0 hs1 hz2
  generalize sumB L = B0 at *
  go_enter Try.func22, Try.ntmps22
  go_wp2_with fail
  rw [HW.out]
  have qx0 : W1.cell? ⟨w.heap.size, 0, none⟩ = some (.int .i64 p) := by rw [← HW.out]; simp [go_sem]
  have qx0r := cell_regrown qx0
  have qx1 : W1.cell? ⟨w.heap.size, 1, none⟩ = some (.int .i64 r) := by rw [← HW.out]; simp [go_sem]
  have qx1r := cell_regrown qx1
  have qx2 : W1.cell? ⟨w.heap.size, 2, none⟩ = some (.int .i64 u) := by rw [← HW.out]; simp [go_sem]
  have qx2r := cell_regrown qx2
  have qx3 : W1.cell? ⟨w.heap.size, 3, none⟩ = some (.int .i64 m) := by rw [← HW.out]; simp [go_sem]
  have qx3r := cell_regrown qx3
  have qx4 : W1.cell? ⟨w.heap.size, 4, none⟩ = some (.int .i64 l) := by rw [← HW.out]; simp [go_sem]
  have qx4r := cell_regrown qx4
  have qx5 : W1.cell? ⟨w.heap.size, 5, none⟩ = some (.slice TA tn tc) := by rw [← HW.out]; simp [go_sem]
  have qx5r := cell_regrown qx5
  have qx6 : W1.cell? ⟨w.heap.size, 6, none⟩ = some (.int .i64 now) := by rw [← HW.out]; simp [go_sem]
  have qx6r := cell_regrown qx6
  have qx7 : W1.cell? ⟨w.heap.size, 7, none⟩ = some (.int .i64 room) := by rw [← HW.out]; simp [go_sem]
  have qx7r := cell_regrown qx7
  have qx8 : W1.cell? ⟨w.heap.size, 8, none⟩ = some (.slice LA n lc) := by rw [← HW.out]; simp [go_sem]
  have qx8r := cell_regrown qx8
  have qy0 : W1.cell? ⟨w.heap.size + 1, 0, none⟩ = some (.int .i64 i) := by rw [← HW.out]; simp [go_sem]
  have qy0r := cell_regrown qy0
  have qy1 : W1.cell? ⟨w.heap.size + 1, 1, none⟩ = some (.int .i64 z) := by rw [← HW.out]; simp [go_sem]
  have qy1r := cell_regrown qy1
  refine wp_region_quiet_below (by kernel_rfl) (by kernel_rfl) ?_
  repeat (quiet_step (exact cB.out _ _))
  refine wpQuiet_nil ?_
  intro _ hw'
  obtain ⟨⟨dq, osq⟩, hw''⟩ := hw'
  subst hw''
  obtain ⟨W2, hW2⟩ : ∃ W2, grow (redrawn W1 dq) osq = W2 := ⟨_, rfl⟩
  have b2 : Below W1.heap.size W1 W2 := by rw [← hW2]; exact below_regrown W1 dq osq
  rw [hW2]
  clear hW2
  clear qx0 qx0r qx1 qx1r qx2 qx2r qx3 qx3r qx4 qx4r qx5 qx5r qx6 qx6r qx7 qx7r qx8 qx8r qy0 qy0r qy1 qy1r
  have lx : w.heap.size < W1.heap.size := by rw [← HW.out]; first | (simp; done) | (simp; omega)
  have X0 := hidd (show W2.cell? ⟨w.heap.size, 0, none⟩ = some (.int .i64 p) from (b2.cell (p := ⟨w.heap.size, 0, none⟩) lx).trans (by rw [← HW.out]; simp [go_sem]))
  have X1 := hidd (show W2.cell? ⟨w.heap.size, 1, none⟩ = some (.int .i64 r) from (b2.cell (p := ⟨w.heap.size, 1, none⟩) lx).trans (by rw [← HW.out]; simp [go_sem]))
  have X2 := hidd (show W2.cell? ⟨w.heap.size, 2, none⟩ = some (.int .i64 u) from (b2.cell (p := ⟨w.heap.size, 2, none⟩) lx).trans (by rw [← HW.out]; simp [go_sem]))
  have X3 := hidd (show W2.cell? ⟨w.heap.size, 3, none⟩ = some (.int .i64 m) from (b2.cell (p := ⟨w.heap.size, 3, none⟩) lx).trans (by rw [← HW.out]; simp [go_sem]))
  have X4 := hidd (show W2.cell? ⟨w.heap.size, 4, none⟩ = some (.int .i64 l) from (b2.cell (p := ⟨w.heap.size, 4, none⟩) lx).trans (by rw [← HW.out]; simp [go_sem]))
  have X5 := hidd (show W2.cell? ⟨w.heap.size, 5, none⟩ = some (.slice TA tn tc) from (b2.cell (p := ⟨w.heap.size, 5, none⟩) lx).trans (by rw [← HW.out]; simp [go_sem]))
  have X6 := hidd (show W2.cell? ⟨w.heap.size, 6, none⟩ = some (.int .i64 now) from (b2.cell (p := ⟨w.heap.size, 6, none⟩) lx).trans (by rw [← HW.out]; simp [go_sem]))
  have X7 := hidd (show W2.cell? ⟨w.heap.size, 7, none⟩ = some (.int .i64 room) from (b2.cell (p := ⟨w.heap.size, 7, none⟩) lx).trans (by rw [← HW.out]; simp [go_sem]))
  have X8 := hidd (show W2.cell? ⟨w.heap.size, 8, none⟩ = some (.slice LA n lc) from (b2.cell (p := ⟨w.heap.size, 8, none⟩) lx).trans (by rw [← HW.out]; simp [go_sem]))
  have ly : w.heap.size + 1 < W1.heap.size := by rw [← HW.out]; first | (simp; done) | (simp; omega)
  have Y0 := hidd (show W2.cell? ⟨w.heap.size + 1, 0, none⟩ = some (.int .i64 i) from (b2.cell (p := ⟨w.heap.size + 1, 0, none⟩) ly).trans (by rw [← HW.out]; simp [go_sem]))
  have Y1 := hidd (show W2.cell? ⟨w.heap.size + 1, 1, none⟩ = some (.int .i64 z) from (b2.cell (p := ⟨w.heap.size + 1, 1, none⟩) ly).trans (by rw [← HW.out]; simp [go_sem]))
  have lu : w.heap.size + 1 + 1 < W1.heap.size := by rw [← HW.out]; simp
  have U0 := hidd (show W2.cell? ⟨w.heap.size + 1 + 1, 0, none⟩ = some (.int .i64 0) from (b2.cell (p := ⟨w.heap.size + 1 + 1, 0, none⟩) lu).trans (by rw [← HW.out]; simp [go_sem]))
  have F0 := hidd (show W2.frozen? ⟨w.heap.size + 1 + 1, 0, none⟩ = false from (b2.frozen (p := ⟨w.heap.size + 1 + 1, 0, none⟩) lu).trans (by rw [← HW.out]; simp [go_sem]))
  have U1 := hidd (show W2.cell? ⟨w.heap.size + 1 + 1, 1, none⟩ = some (.int .i64 0) from (b2.cell (p := ⟨w.heap.size + 1 + 1, 1, none⟩) lu).trans (by rw [← HW.out]; simp [go_sem]))
  have F1 := hidd (show W2.frozen? ⟨w.heap.size + 1 + 1, 1, none⟩ = false from (b2.frozen (p := ⟨w.heap.size + 1 + 1, 1, none⟩) lu).trans (by rw [← HW.out]; simp [go_sem]))
  have U2 := hidd (show W2.cell? ⟨w.heap.size + 1 + 1, 2, none⟩ = some (.int .i64 0) from (b2.cell (p := ⟨w.heap.size + 1 + 1, 2, none⟩) lu).trans (by rw [← HW.out]; simp [go_sem]))
  have F2 := hidd (show W2.frozen? ⟨w.heap.size + 1 + 1, 2, none⟩ = false from (b2.frozen (p := ⟨w.heap.size + 1 + 1, 2, none⟩) lu).trans (by rw [← HW.out]; simp [go_sem]))
  have U3 := hidd (show W2.cell? ⟨w.heap.size + 1 + 1, 3, none⟩ = some (.int .i64 0) from (b2.cell (p := ⟨w.heap.size + 1 + 1, 3, none⟩) lu).trans (by rw [← HW.out]; simp [go_sem]))
  have F3 := hidd (show W2.frozen? ⟨w.heap.size + 1 + 1, 3, none⟩ = false from (b2.frozen (p := ⟨w.heap.size + 1 + 1, 3, none⟩) lu).trans (by rw [← HW.out]; simp [go_sem]))
  have U4 := hidd (show W2.cell? ⟨w.heap.size + 1 + 1, 4, none⟩ = some (.int .i64 0) from (b2.cell (p := ⟨w.heap.size + 1 + 1, 4, none⟩) lu).trans (by rw [← HW.out]; simp [go_sem]))
  have F4 := hidd (show W2.frozen? ⟨w.heap.size + 1 + 1, 4, none⟩ = false from (b2.frozen (p := ⟨w.heap.size + 1 + 1, 4, none⟩) lu).trans (by rw [← HW.out]; simp [go_sem]))
  have U5 := hidd (show W2.cell? ⟨w.heap.size + 1 + 1, 5, none⟩ = some (.slice none 0 0) from (b2.cell (p := ⟨w.heap.size + 1 + 1, 5, none⟩) lu).trans (by rw [← HW.out]; simp [go_sem]))
  have F5 := hidd (show W2.frozen? ⟨w.heap.size + 1 + 1, 5, none⟩ = false from (b2.frozen (p := ⟨w.heap.size + 1 + 1, 5, none⟩) lu).trans (by rw [← HW.out]; simp [go_sem]))
  have U6 := hidd (show W2.cell? ⟨w.heap.size + 1 + 1, 6, none⟩ = some (.int .i64 0) from (b2.cell (p := ⟨w.heap.size + 1 + 1, 6, none⟩) lu).trans (by rw [← HW.out]; simp [go_sem]))
  have F6 := hidd (show W2.frozen? ⟨w.heap.size + 1 + 1, 6, none⟩ = false from (b2.frozen (p := ⟨w.heap.size + 1 + 1, 6, none⟩) lu).trans (by rw [← HW.out]; simp [go_sem]))
  have U7 := hidd (show W2.cell? ⟨w.heap.size + 1 + 1, 7, none⟩ = some (.int .i64 0) from (b2.cell (p := ⟨w.heap.size + 1 + 1, 7, none⟩) lu).trans (by rw [← HW.out]; simp [go_sem]))
  have F7 := hidd (show W2.frozen? ⟨w.heap.size + 1 + 1, 7, none⟩ = false from (b2.frozen (p := ⟨w.heap.size + 1 + 1, 7, none⟩) lu).trans (by rw [← HW.out]; simp [go_sem]))
  have U8 := hidd (show W2.cell? ⟨w.heap.size + 1 + 1, 8, none⟩ = some (.slice none 0 0) from (b2.cell (p := ⟨w.heap.size + 1 + 1, 8, none⟩) lu).trans (by rw [← HW.out]; simp [go_sem]))
  have F8 := hidd (show W2.frozen? ⟨w.heap.size + 1 + 1, 8, none⟩ = false from (b2.frozen (p := ⟨w.heap.size + 1 + 1, 8, none⟩) lu).trans (by rw [← HW.out]; simp [go_sem]))
  have B2 := hidd (below_step B1.out b2)
  have LL2 := hidd (HL1.out.below b2)
  have SZ := hidd b2.size
  have FX8 := hidd (show W2.frozen? ⟨w.heap.size, 8, none⟩ = false from (b2.frozen (p := ⟨w.heap.size, 8, none⟩) lx).trans (by rw [← HW.out]; simp [go_sem]))
  clear b2 HL1 lx ly cB
  have LX : Hid (w.heap.size < W2.heap.size) := hidd (Nat.lt_of_lt_of_le (by rw [← HW.out]; simp; omega : w.heap.size < W1.heap.size) SZ.out)
  have LU : Hid (w.heap.size + 1 + 1 < W2.heap.size) := hidd (Nat.lt_of_lt_of_le (by rw [← HW.out]; simp : w.heap.size + 1 + 1 < W1.heap.size) SZ.out)
  have KS : Hid (∀ Y, Below W2.heap.size W2 Y → Y.cell? ⟨w.heap.size + 1, 0, none⟩ = some (.int .i64 i) ∧ Y.cell? ⟨w.heap.size + 1, 1, none⟩ = some (.int .i64 z)) := hidd (fun Y hb => ⟨(hb.cell (p := ⟨w.heap.size + 1, 0, none⟩) (by show w.heap.size + 1 < _; have := LU.out; omega)).trans Y0.out, (hb.cell (p := ⟨w.heap.size + 1, 1, none⟩) (by show w.heap.size + 1 < _; have := LU.out; omega)).trans Y1.out⟩)
  have KS8 : Hid (∀ Y, Below W2.heap.size W2 Y → ∀ v, (Y.setCell ⟨w.heap.size, 8, none⟩ v).cell? ⟨w.heap.size + 1, 0, none⟩ = some (.int .i64 i) ∧ (Y.setCell ⟨w.heap.size, 8, none⟩ v).cell? ⟨w.heap.size + 1, 1, none⟩ = some (.int .i64 z)) := hidd (fun Y hb v => ⟨cell_set_far (by show w.heap.size + 1 ≠ w.heap.size; omega) (KS.out Y hb).1, cell_set_far (by show w.heap.size + 1 ≠ w.heap.size; omega) (KS.out Y hb).2⟩)
  have hnb : n ≤ 1000000 := by rw [← HN.out]; exact hL
  have HSRC := hidd (fun W (b : Below W2.heap.size W2 W) => (show 0 < n → ∃ ad, LA = some ad ∧ ∀ j u, (rowOf sendV L)[j]? = some u → W.cell? (ad.add j) = some u from by have q := lie_src (hA := LL2.out) b; rw [HN.out] at q; exact q))
  have x0 := X0.out
  have x1 := X1.out
  have x2 := X2.out
  have x3 := X3.out
  have x4 := X4.out
  have x5 := X5.out
  have x6 := X6.out
  have x7 := X7.out
  have x8 := X8.out
  have y0 := Y0.out
  have y1 := Y1.out
  go_wp2_with fail
  clear x0 x1 x2 x3 x4 x5 x6 x7 x8 y0 y1
  refine wp_region_held_drew (S := (fun Y => Y.cell? ⟨w.heap.size + 1, 0, none⟩ = some (.int .i64 i) ∧ Y.cell? ⟨w.heap.size + 1, 1, none⟩ = some (.int .i64 z))) (by kernel_rfl) (⟨Y0.out, Y1.out⟩) (fun hH => ?_)
  refine wpAnyH_take (i := 0) (v := ?vz0_1) (by (conv => lhs; simp only [List.getElem?_toArray, List.getElem?_cons_succ, List.getElem?_cons_zero])) (by kernel_rfl) (by kernel_rfl) (by kernel_rfl) ?hQ (Or.inl ⟨by rfl, ?hyz0_1⟩) hH ?restz0_1
  case hQ => exact fun _ _ _ h => h
  case hyz0_1 => (intro Y hY; obtain ⟨e0, e1⟩ := hY; go_simp; try (with_reducible rfl))
  try simp only [Act.put, List.setIfInBounds_toArray, List.set_cons_zero, List.set_cons_succ]
  refine wpAnyH_take (i := 3) (v := ?vz3_2) (by (conv => lhs; simp only [List.getElem?_toArray, List.getElem?_cons_succ, List.getElem?_cons_zero])) (by kernel_rfl) (by kernel_rfl) (by kernel_rfl) ?hQ (Or.inl ⟨by rfl, ?hyz3_2⟩) hH ?restz3_2
  case hQ => exact fun _ _ _ h => h
  case hyz3_2 => (intro Y hY; obtain ⟨e0, e1⟩ := hY; go_simp; try (with_reducible rfl))
  try simp only [Act.put, List.setIfInBounds_toArray, List.set_cons_zero, List.set_cons_succ]
  refine wpAnyH_ready (rs := [1, 4]) (by kernel_rfl) (by simp) ?_
  refine AllReadyH.cons (by (conv => lhs; simp only [List.getElem?_toArray, List.getElem?_cons_succ, List.getElem?_cons_zero])) (fun K hK => ?_) (AllReadyH.cons (by (conv => lhs; simp only [List.getElem?_toArray, List.getElem?_cons_succ, List.getElem?_cons_zero])) (fun K hK => ?_) AllReadyH.nil)
  · have x8 : (W2.drew).cell? ⟨w.heap.size, 8, none⟩ = some (.slice LA n lc) := ((Below.drew (Below.refl W2.heap.size W2)).cell (p := ⟨w.heap.size, 8, none⟩) LX.out).trans X8.out
    go_simp
    refine hK.out _ _ (KS.out _ (Below.drew (Below.refl W2.heap.size W2))) (fun hHp1 => ?_)
    clear hK hH
    try simp only [Act.put, List.setIfInBounds_toArray, List.set_cons_zero, List.set_cons_succ]
    clear x8
    refine wpAnyH_ready (rs := [2, 4]) (by kernel_rfl) (by simp) ?_
    refine AllReadyH.cons (by (conv => lhs; simp only [List.getElem?_toArray, List.getElem?_cons_succ, List.getElem?_cons_zero])) (fun K hK => ?_) (AllReadyH.cons (by (conv => lhs; simp only [List.getElem?_toArray, List.getElem?_cons_succ, List.getElem?_cons_zero])) (fun K hK => ?_) AllReadyH.nil)
    · rw [if_pos (by rfl)]
      refine wp_append_some (.const (.slice none 0 0)) (.tmp 42) 33 (by rfl) W2.heap.size 41 i0 _ 2 16 Try.underlying33 hi0 hz0 hz1 hz2' rfl (by omega) (.slice none 0 0) 0 [] (by rfl) (World.ownsRow_nil _ _ _ _) LA n lc (rowOf sendV L) (by rfl) (by rw [row_len sendV_len L, HN.out]) (HSRC.out _ (Below.drew (Below.refl W2.heap.size W2))) (rowOf_one sendV_one L) (by simp only [maxLen]; omega) (by omega) ((Below.drew (Below.refl W2.heap.size W2)).size) ?_
      intro va wa hown1 hgrow1 hat1
      have bla : Below W2.heap.size W2 wa := Below.grown (Below.drew (Below.refl W2.heap.size W2)) hgrow1 ((Below.drew (Below.refl W2.heap.size W2)).size) (fun k hk => by simp [Value.ownBlock] at hk)
      refine hK.out _ _ (KS.out _ bla) (fun hHpa2 => ?_)
      clear hK hHp1
      try simp only [Act.put, List.setIfInBounds_toArray, List.set_cons_zero, List.set_cons_succ]
      refine wpAnyH_ready (rs := [4]) (by kernel_rfl) (by simp) ?_
      refine AllReadyH.cons (by (conv => lhs; simp only [List.getElem?_toArray, List.getElem?_cons_succ, List.getElem?_cons_zero])) (fun K hK => ?_) AllReadyH.nil
      go_simp
      have hown1 := World.ownsRow.alloc hown1 (.cells #[.int .i64 i, .int .i64 z] 41)
      have bl4 : Below W2.heap.size W2 (wa.alloc (.cells #[.int .i64 i, .int .i64 z] 41)) := Below.alloc bla (bla.size) _
      have nw4 : ∀ j v, (sendV (i, z))[j]? = some v → (wa.alloc (.cells #[.int .i64 i, .int .i64 z] 41)).cell? ((⟨wa.heap.size, 0, none⟩ : Addr).add j) = some v := World.news_of_block (cs := #[.int .i64 i, .int .i64 z]) (t := 41) (fr := (0, 0)) (heap_alloc_new wa _)
      have nl4 : W2.heap.size ≤ wa.heap.size ∧ wa.heap.size < (wa.alloc (.cells #[.int .i64 i, .int .i64 z] 41)).heap.size := ⟨bla.size, by simp⟩
      refine hK.out _ _ (KS.out _ bl4) (fun hHpa3 => ?_)
      clear hK hHpa2
      try simp only [Act.put, List.setIfInBounds_toArray, List.set_cons_zero, List.set_cons_succ]
      refine wpAnyH_ready (rs := [5]) (by kernel_rfl) (by simp) ?_
      refine AllReadyH.cons (by (conv => lhs; simp only [List.getElem?_toArray, List.getElem?_cons_succ, List.getElem?_cons_zero])) (fun K hK => ?_) AllReadyH.nil
      rw [if_pos (by rfl)]
      refine wp_append_some (.tmp 43) (.tmp 45) 33 (by rfl) W2.heap.size 41 i0 _ 2 16 Try.underlying33 hi0 hz0 hz1 hz2' rfl (by omega) va (0 + n) ([] ++ rowOf sendV L) (by rfl) hown1 (some ⟨wa.heap.size, 0, none⟩) 1 1 (sendV (i, z)) (by rfl) (by rfl) (fun _ => ⟨_, rfl, nw4⟩) (sendV_one _) (by simp only [maxLen]; omega) (by omega) (bl4.size) ?_
      intro vb wb hown2 hgrow2 hat2
      have blb : Below W2.heap.size W2 wb := Below.grown bl4 hgrow2 (bl4.size) (fun k hk => (World.ownsRow.lt hown1 k hk).1)
      have hO := OwnL.snoc (f := sendV) (L := L) (x := (i, z)) hown2 (by rw [HN.out]; omega) (by simp)
      obtain ⟨A2, c2, e2, _, _, _⟩ := hO.lie sendV_len
      have e3 : vb = .slice A2 (n + 1) c2 := (by rw [e2]; simp [HN.out])
      subst e3
      have HO := hidd hO
      have HB := hidd blb
      clear e2 hO hown1 hown2 hgrow1 hgrow2 hat1 hat2
      refine hK.out _ _ (KS.out _ blb) (fun hHpa4 => ?_)
      clear hK hHpa3
      try simp only [Act.put, List.setIfInBounds_toArray, List.set_cons_zero, List.set_cons_succ]
      refine wpAnyH_take (i := 6) (v := ?vpa6_1) (by (conv => lhs; simp only [List.getElem?_toArray, List.getElem?_cons_succ, List.getElem?_cons_zero])) (by kernel_rfl) (by kernel_rfl) (by kernel_rfl) ?hQ (Or.inl ⟨by rfl, ?hypa6_1⟩) hHpa4 ?restpa6_1
      case hQ => exact fun _ _ _ h => h
      case hypa6_1 => (intro Y hY; obtain ⟨e0, e1⟩ := hY; go_simp; try (with_reducible rfl))
      try simp only [Act.put, List.setIfInBounds_toArray, List.set_cons_zero, List.set_cons_succ]
      have x8 : wb.cell? ⟨w.heap.size, 8, none⟩ = some (.slice LA n lc) := (blb.cell (p := ⟨w.heap.size, 8, none⟩) LX.out).trans X8.out
      have fx : wb.frozen? ⟨w.heap.size, 8, none⟩ = false := (blb.frozen (p := ⟨w.heap.size, 8, none⟩) LX.out).trans FX8.out
      refine wpAnyH_ready (rs := [7]) (by kernel_rfl) (by simp) ?_
      refine AllReadyH.cons (by (conv => lhs; simp only [List.getElem?_toArray, List.getElem?_cons_succ, List.getElem?_cons_zero])) (fun K hK => ?_) AllReadyH.nil
      go_simp
      refine hK.out _ _ (KS8.out _ blb _) (fun hHz => ?_)
      clear hK hHpa4 x8 fx
      try simp only [Act.put, List.setIfInBounds_toArray, List.set_cons_zero, List.set_cons_succ]
      refine wpAnyH_done (by kernel_rfl) (?_) _
      obtain ⟨wd, hwd⟩ : ∃ wd, wb.setCell ⟨w.heap.size, 8, none⟩ (.slice A2 (n + 1) c2) = wd := ⟨_, rfl⟩
      have HWD := hidd hwd
      rw [hwd]
      have x0 : wd.cell? ⟨w.heap.size, 0, none⟩ = some (.int .i64 p) := by rw [← hwd]; have q := (HB.out.cell (p := ⟨w.heap.size, 0, none⟩) LX.out).trans X0.out; simp [go_sem, q]
      have x1 : wd.cell? ⟨w.heap.size, 1, none⟩ = some (.int .i64 r) := by rw [← hwd]; have q := (HB.out.cell (p := ⟨w.heap.size, 1, none⟩) LX.out).trans X1.out; simp [go_sem, q]
      have x2 : wd.cell? ⟨w.heap.size, 2, none⟩ = some (.int .i64 u) := by rw [← hwd]; have q := (HB.out.cell (p := ⟨w.heap.size, 2, none⟩) LX.out).trans X2.out; simp [go_sem, q]
      have x3 : wd.cell? ⟨w.heap.size, 3, none⟩ = some (.int .i64 m) := by rw [← hwd]; have q := (HB.out.cell (p := ⟨w.heap.size, 3, none⟩) LX.out).trans X3.out; simp [go_sem, q]
      have x4 : wd.cell? ⟨w.heap.size, 4, none⟩ = some (.int .i64 l) := by rw [← hwd]; have q := (HB.out.cell (p := ⟨w.heap.size, 4, none⟩) LX.out).trans X4.out; simp [go_sem, q]
      have x5 : wd.cell? ⟨w.heap.size, 5, none⟩ = some (.slice TA tn tc) := by rw [← hwd]; have q := (HB.out.cell (p := ⟨w.heap.size, 5, none⟩) LX.out).trans X5.out; simp [go_sem, q]
      have x6 : wd.cell? ⟨w.heap.size, 6, none⟩ = some (.int .i64 now) := by rw [← hwd]; have q := (HB.out.cell (p := ⟨w.heap.size, 6, none⟩) LX.out).trans X6.out; simp [go_sem, q]
      have x7 : wd.cell? ⟨w.heap.size, 7, none⟩ = some (.int .i64 room) := by rw [← hwd]; have q := (HB.out.cell (p := ⟨w.heap.size, 7, none⟩) LX.out).trans X7.out; simp [go_sem, q]
      have x8 : wd.cell? ⟨w.heap.size, 8, none⟩ = some (.slice A2 (n + 1) c2) := by rw [← hwd]; exact World.cell?_setCell_same' wb ⟨w.heap.size, 8, none⟩ _ (by rw [(HB.out.cell (p := ⟨w.heap.size, 8, none⟩) LX.out).trans X8.out]; rfl)
      have u0 : wd.cell? ⟨w.heap.size + 1 + 1, 0, none⟩ = some (.int .i64 0) := by rw [← hwd]; exact cell_set_far (by show w.heap.size + 1 + 1 ≠ w.heap.size; omega) ((HB.out.cell (p := ⟨w.heap.size + 1 + 1, 0, none⟩) LU.out).trans U0.out)
      have f0 : wd.frozen? ⟨w.heap.size + 1 + 1, 0, none⟩ = false := by rw [← hwd]; exact (World.frozen?_of_block (Below.heap_setCell wb ⟨w.heap.size, 8, none⟩ _ _ (by show w.heap.size + 1 + 1 ≠ w.heap.size; omega))).trans ((HB.out.frozen (p := ⟨w.heap.size + 1 + 1, 0, none⟩) LU.out).trans F0.out)
      have u1 : wd.cell? ⟨w.heap.size + 1 + 1, 1, none⟩ = some (.int .i64 0) := by rw [← hwd]; exact cell_set_far (by show w.heap.size + 1 + 1 ≠ w.heap.size; omega) ((HB.out.cell (p := ⟨w.heap.size + 1 + 1, 1, none⟩) LU.out).trans U1.out)
      have f1 : wd.frozen? ⟨w.heap.size + 1 + 1, 1, none⟩ = false := by rw [← hwd]; exact (World.frozen?_of_block (Below.heap_setCell wb ⟨w.heap.size, 8, none⟩ _ _ (by show w.heap.size + 1 + 1 ≠ w.heap.size; omega))).trans ((HB.out.frozen (p := ⟨w.heap.size + 1 + 1, 1, none⟩) LU.out).trans F1.out)
      have u2 : wd.cell? ⟨w.heap.size + 1 + 1, 2, none⟩ = some (.int .i64 0) := by rw [← hwd]; exact cell_set_far (by show w.heap.size + 1 + 1 ≠ w.heap.size; omega) ((HB.out.cell (p := ⟨w.heap.size + 1 + 1, 2, none⟩) LU.out).trans U2.out)
      have f2 : wd.frozen? ⟨w.heap.size + 1 + 1, 2, none⟩ = false := by rw [← hwd]; exact (World.frozen?_of_block (Below.heap_setCell wb ⟨w.heap.size, 8, none⟩ _ _ (by show w.heap.size + 1 + 1 ≠ w.heap.size; omega))).trans ((HB.out.frozen (p := ⟨w.heap.size + 1 + 1, 2, none⟩) LU.out).trans F2.out)
      have u3 : wd.cell? ⟨w.heap.size + 1 + 1, 3, none⟩ = some (.int .i64 0) := by rw [← hwd]; exact cell_set_far (by show w.heap.size + 1 + 1 ≠ w.heap.size; omega) ((HB.out.cell (p := ⟨w.heap.size + 1 + 1, 3, none⟩) LU.out).trans U3.out)
      have f3 : wd.frozen? ⟨w.heap.size + 1 + 1, 3, none⟩ = false := by rw [← hwd]; exact (World.frozen?_of_block (Below.heap_setCell wb ⟨w.heap.size, 8, none⟩ _ _ (by show w.heap.size + 1 + 1 ≠ w.heap.size; omega))).trans ((HB.out.frozen (p := ⟨w.heap.size + 1 + 1, 3, none⟩) LU.out).trans F3.out)
      have u4 : wd.cell? ⟨w.heap.size + 1 + 1, 4, none⟩ = some (.int .i64 0) := by rw [← hwd]; exact cell_set_far (by show w.heap.size + 1 + 1 ≠ w.heap.size; omega) ((HB.out.cell (p := ⟨w.heap.size + 1 + 1, 4, none⟩) LU.out).trans U4.out)
      have f4 : wd.frozen? ⟨w.heap.size + 1 + 1, 4, none⟩ = false := by rw [← hwd]; exact (World.frozen?_of_block (Below.heap_setCell wb ⟨w.heap.size, 8, none⟩ _ _ (by show w.heap.size + 1 + 1 ≠ w.heap.size; omega))).trans ((HB.out.frozen (p := ⟨w.heap.size + 1 + 1, 4, none⟩) LU.out).trans F4.out)
      have u5 : wd.cell? ⟨w.heap.size + 1 + 1, 5, none⟩ = some (.slice none 0 0) := by rw [← hwd]; exact cell_set_far (by show w.heap.size + 1 + 1 ≠ w.heap.size; omega) ((HB.out.cell (p := ⟨w.heap.size + 1 + 1, 5, none⟩) LU.out).trans U5.out)
      have f5 : wd.frozen? ⟨w.heap.size + 1 + 1, 5, none⟩ = false := by rw [← hwd]; exact (World.frozen?_of_block (Below.heap_setCell wb ⟨w.heap.size, 8, none⟩ _ _ (by show w.heap.size + 1 + 1 ≠ w.heap.size; omega))).trans ((HB.out.frozen (p := ⟨w.heap.size + 1 + 1, 5, none⟩) LU.out).trans F5.out)
      have u6 : wd.cell? ⟨w.heap.size + 1 + 1, 6, none⟩ = some (.int .i64 0) := by rw [← hwd]; exact cell_set_far (by show w.heap.size + 1 + 1 ≠ w.heap.size; omega) ((HB.out.cell (p := ⟨w.heap.size + 1 + 1, 6, none⟩) LU.out).trans U6.out)
      have f6 : wd.frozen? ⟨w.heap.size + 1 + 1, 6, none⟩ = false := by rw [← hwd]; exact (World.frozen?_of_block (Below.heap_setCell wb ⟨w.heap.size, 8, none⟩ _ _ (by show w.heap.size + 1 + 1 ≠ w.heap.size; omega))).trans ((HB.out.frozen (p := ⟨w.heap.size + 1 + 1, 6, none⟩) LU.out).trans F6.out)
      have u7 : wd.cell? ⟨w.heap.size + 1 + 1, 7, none⟩ = some (.int .i64 0) := by rw [← hwd]; exact cell_set_far (by show w.heap.size + 1 + 1 ≠ w.heap.size; omega) ((HB.out.cell (p := ⟨w.heap.size + 1 + 1, 7, none⟩) LU.out).trans U7.out)
      have f7 : wd.frozen? ⟨w.heap.size + 1 + 1, 7, none⟩ = false := by rw [← hwd]; exact (World.frozen?_of_block (Below.heap_setCell wb ⟨w.heap.size, 8, none⟩ _ _ (by show w.heap.size + 1 + 1 ≠ w.heap.size; omega))).trans ((HB.out.frozen (p := ⟨w.heap.size + 1 + 1, 7, none⟩) LU.out).trans F7.out)
      have u8 : wd.cell? ⟨w.heap.size + 1 + 1, 8, none⟩ = some (.slice none 0 0) := by rw [← hwd]; exact cell_set_far (by show w.heap.size + 1 + 1 ≠ w.heap.size; omega) ((HB.out.cell (p := ⟨w.heap.size + 1 + 1, 8, none⟩) LU.out).trans U8.out)
      have f8 : wd.frozen? ⟨w.heap.size + 1 + 1, 8, none⟩ = false := by rw [← hwd]; exact (World.frozen?_of_block (Below.heap_setCell wb ⟨w.heap.size, 8, none⟩ _ _ (by show w.heap.size + 1 + 1 ≠ w.heap.size; omega))).trans ((HB.out.frozen (p := ⟨w.heap.size + 1 + 1, 8, none⟩) LU.out).trans F8.out)
      have BD := hidd (show Below w.heap.size w wd from by rw [← hwd]; exact ((B2.out.trans (HB.out.mono B2.out.size)).setCell (p := ⟨w.heap.size, 8, none⟩) (Nat.le_refl _) _))
      have sd : wb.heap.size ≤ wd.heap.size := by rw [← hwd]; simp [World.setCell]
      have HOD := hidd (OwnL.far HO.out (w' := wd) (fun k hk _ => by rw [← hwd]; exact Below.heap_setCell wb ⟨w.heap.size, 8, none⟩ _ _ (by show k ≠ w.heap.size; have := LX.out; omega)) sd)
      clear hwd HWD sd hHz bla bl4 nw4 nl4 blb KS KS8
      go_wp2_with fail
      have hbe : Below w.heap.size w ((((((((((wd.setCell ⟨w.heap.size + 1 + 1, 0, none⟩ (.int .i64 p)).setCell ⟨w.heap.size + 1 + 1, 1, none⟩ (.int .i64 r)).setCell ⟨w.heap.size + 1 + 1, 2, none⟩ (.int .i64 u)).setCell ⟨w.heap.size + 1 + 1, 3, none⟩ (.int .i64 m)).setCell ⟨w.heap.size + 1 + 1, 4, none⟩ (.int .i64 l)).setCell ⟨w.heap.size + 1 + 1, 5, none⟩ (.slice TA tn tc)).setCell ⟨w.heap.size + 1 + 1, 6, none⟩ (.int .i64 now)).setCell ⟨w.heap.size + 1 + 1, 7, none⟩ (.int .i64 room)).setCell ⟨w.heap.size + 1 + 1, 8, none⟩ (.slice A2 (n + 1) c2))) := by have := BD.out; (repeat' (first | (with_reducible exact Below.refl _ _) | (with_reducible assumption) | (with_reducible apply Below.setCell) | (with_reducible apply Below.alloc) | (with_reducible apply Below.drew) | (with_reducible apply below_drewN) | (with_reducible refine Below.trans ?_ (Below.mono (by assumption) ?_)) | omega | (simp; done) | (simp; omega)))
      have hfar := OwnL.far HOD.out (w' := (((((((((wd.setCell ⟨w.heap.size + 1 + 1, 0, none⟩ (.int .i64 p)).setCell ⟨w.heap.size + 1 + 1, 1, none⟩ (.int .i64 r)).setCell ⟨w.heap.size + 1 + 1, 2, none⟩ (.int .i64 u)).setCell ⟨w.heap.size + 1 + 1, 3, none⟩ (.int .i64 m)).setCell ⟨w.heap.size + 1 + 1, 4, none⟩ (.int .i64 l)).setCell ⟨w.heap.size + 1 + 1, 5, none⟩ (.slice TA tn tc)).setCell ⟨w.heap.size + 1 + 1, 6, none⟩ (.int .i64 now)).setCell ⟨w.heap.size + 1 + 1, 7, none⟩ (.int .i64 room)).setCell ⟨w.heap.size + 1 + 1, 8, none⟩ (.slice A2 (n + 1) c2))) (fun k hk _ => by (repeat rw [Below.heap_setCell _ _ _ _ (by show _ ≠ _; simp only []; have := LU.out; omega)])) (by simp [World.setCell])
      obtain ⟨A3, c3, e3, h71, h72, h7⟩ := hfar.lie sendV_len
      have e4 : A2 = A3 := by injection e3
      have e5 : c2 = c3 := by injection e3
      subst e4
      subst e5
      refine bodyPost_ret (v := .tuple #[.agg #[.int .i64 p, .int .i64 r, .int .i64 u, .int .i64 m, .int .i64 l, .slice TA tn tc, .int .i64 now, .int .i64 room, .slice A2 (n + 1) c2], .int .i64 0]) (by simp [results, Try.results22, go_sem, u0, u1, u2, u3, u4, u5, u6, u7, u8]) rfl ?_
      rw [← HPO.out]
      exact ⟨A2, c2, by rw [List.length_append, HN.out]; rfl, h7, .inr ⟨fun ad had => by have q := (World.ownsRow.lt HO.out ad.block (by rw [had]; rfl)).1; have := LX.out; omega, h71, h72⟩, hbe⟩
    · go_simp
      have bl4 : Below W2.heap.size W2 (W2.drew.alloc (.cells #[.int .i64 i, .int .i64 z] 41)) := Below.alloc (Below.drew (Below.refl W2.heap.size W2)) ((Below.drew (Below.refl W2.heap.size W2)).size) _
      have nw4 : ∀ j v, (sendV (i, z))[j]? = some v → (W2.drew.alloc (.cells #[.int .i64 i, .int .i64 z] 41)).cell? ((⟨W2.drew.heap.size, 0, none⟩ : Addr).add j) = some v := World.news_of_block (cs := #[.int .i64 i, .int .i64 z]) (t := 41) (fr := (0, 0)) (heap_alloc_new W2.drew _)
      have nl4 : W2.heap.size ≤ W2.drew.heap.size ∧ W2.drew.heap.size < (W2.drew.alloc (.cells #[.int .i64 i, .int .i64 z] 41)).heap.size := ⟨(Below.drew (Below.refl W2.heap.size W2)).size, by simp⟩
      refine hK.out _ _ (KS.out _ bl4) (fun hHpb2 => ?_)
      clear hK hHp1
      try simp only [Act.put, List.setIfInBounds_toArray, List.set_cons_zero, List.set_cons_succ]
      refine wpAnyH_ready (rs := [2]) (by kernel_rfl) (by simp) ?_
      refine AllReadyH.cons (by (conv => lhs; simp only [List.getElem?_toArray, List.getElem?_cons_succ, List.getElem?_cons_zero])) (fun K hK => ?_) AllReadyH.nil
      rw [if_pos (by rfl)]
      refine wp_append_some (.const (.slice none 0 0)) (.tmp 42) 33 (by rfl) W2.heap.size 41 i0 _ 2 16 Try.underlying33 hi0 hz0 hz1 hz2' rfl (by omega) (.slice none 0 0) 0 [] (by rfl) (World.ownsRow_nil _ _ _ _) LA n lc (rowOf sendV L) (by rfl) (by rw [row_len sendV_len L, HN.out]) (HSRC.out _ bl4) (rowOf_one sendV_one L) (by simp only [maxLen]; omega) (by omega) (bl4.size) ?_
      intro va wa hown1 hgrow1 hat1
      have bla : Below W2.heap.size W2 wa := Below.grown bl4 hgrow1 (bl4.size) (fun k hk => by simp [Value.ownBlock] at hk)
      have nwa : ∀ j v, (sendV (i, z))[j]? = some v → wa.cell? ((⟨W2.drew.heap.size, 0, none⟩ : Addr).add j) = some v := fun j v hj => (World.cell?_of_block (hgrow1.block _ (by rw [block_of_add]; exact nl4.2) (by simp [Value.ownBlock]))).trans (nw4 j v hj)
      refine hK.out _ _ (KS.out _ bla) (fun hHpb3 => ?_)
      clear hK hHpb2
      try simp only [Act.put, List.setIfInBounds_toArray, List.set_cons_zero, List.set_cons_succ]
      refine wpAnyH_ready (rs := [5]) (by kernel_rfl) (by simp) ?_
      refine AllReadyH.cons (by (conv => lhs; simp only [List.getElem?_toArray, List.getElem?_cons_succ, List.getElem?_cons_zero])) (fun K hK => ?_) AllReadyH.nil
      rw [if_pos (by rfl)]
      refine wp_append_some (.tmp 43) (.tmp 45) 33 (by rfl) W2.heap.size 41 i0 _ 2 16 Try.underlying33 hi0 hz0 hz1 hz2' rfl (by omega) va (0 + n) ([] ++ rowOf sendV L) (by rfl) hown1 (some ⟨W2.drew.heap.size, 0, none⟩) 1 1 (sendV (i, z)) (by rfl) (by rfl) (fun _ => ⟨_, rfl, nwa⟩) (sendV_one _) (by simp only [maxLen]; omega) (by omega) (bla.size) ?_
      intro vb wb hown2 hgrow2 hat2
      have blb : Below W2.heap.size W2 wb := Below.grown bla hgrow2 (bla.size) (fun k hk => (World.ownsRow.lt hown1 k hk).1)
      have hO := OwnL.snoc (f := sendV) (L := L) (x := (i, z)) hown2 (by rw [HN.out]; omega) (by simp)
      obtain ⟨A2, c2, e2, _, _, _⟩ := hO.lie sendV_len
      have e3 : vb = .slice A2 (n + 1) c2 := (by rw [e2]; simp [HN.out])
      subst e3
      have HO := hidd hO
      have HB := hidd blb
      clear e2 hO hown1 hown2 hgrow1 hgrow2 hat1 hat2
      refine hK.out _ _ (KS.out _ blb) (fun hHpb4 => ?_)
      clear hK hHpb3
      try simp only [Act.put, List.setIfInBounds_toArray, List.set_cons_zero, List.set_cons_succ]
      refine wpAnyH_take (i := 6) (v := ?vpb6_1) (by (conv => lhs; simp only [List.getElem?_toArray, List.getElem?_cons_succ, List.getElem?_cons_zero])) (by kernel_rfl) (by kernel_rfl) (by kernel_rfl) ?hQ (Or.inl ⟨by rfl, ?hypb6_1⟩) hHpb4 ?restpb6_1
      case hQ => exact fun _ _ _ h => h
      case hypb6_1 => (intro Y hY; obtain ⟨e0, e1⟩ := hY; go_simp; try (with_reducible rfl))
      try simp only [Act.put, List.setIfInBounds_toArray, List.set_cons_zero, List.set_cons_succ]
      have x8 : wb.cell? ⟨w.heap.size, 8, none⟩ = some (.slice LA n lc) := (blb.cell (p := ⟨w.heap.size, 8, none⟩) LX.out).trans X8.out
      have fx : wb.frozen? ⟨w.heap.size, 8, none⟩ = false := (blb.frozen (p := ⟨w.heap.size, 8, none⟩) LX.out).trans FX8.out
      refine wpAnyH_ready (rs := [7]) (by kernel_rfl) (by simp) ?_
      refine AllReadyH.cons (by (conv => lhs; simp only [List.getElem?_toArray, List.getElem?_cons_succ, List.getElem?_cons_zero])) (fun K hK => ?_) AllReadyH.nil
      go_simp
      refine hK.out _ _ (KS8.out _ blb _) (fun hHz => ?_)
      clear hK hHpb4 x8 fx
      try simp only [Act.put, List.setIfInBounds_toArray, List.set_cons_zero, List.set_cons_succ]
      refine wpAnyH_done (by kernel_rfl) (?_) _
      obtain ⟨wd, hwd⟩ : ∃ wd, wb.setCell ⟨w.heap.size, 8, none⟩ (.slice A2 (n + 1) c2) = wd := ⟨_, rfl⟩
      have HWD := hidd hwd
      rw [hwd]
      have x0 : wd.cell? ⟨w.heap.size, 0, none⟩ = some (.int .i64 p) := by rw [← hwd]; have q := (HB.out.cell (p := ⟨w.heap.size, 0, none⟩) LX.out).trans X0.out; simp [go_sem, q]
      have x1 : wd.cell? ⟨w.heap.size, 1, none⟩ = some (.int .i64 r) := by rw [← hwd]; have q := (HB.out.cell (p := ⟨w.heap.size, 1, none⟩) LX.out).trans X1.out; simp [go_sem, q]
      have x2 : wd.cell? ⟨w.heap.size, 2, none⟩ = some (.int .i64 u) := by rw [← hwd]; have q := (HB.out.cell (p := ⟨w.heap.size, 2, none⟩) LX.out).trans X2.out; simp [go_sem, q]
      have x3 : wd.cell? ⟨w.heap.size, 3, none⟩ = some (.int .i64 m) := by rw [← hwd]; have q := (HB.out.cell (p := ⟨w.heap.size, 3, none⟩) LX.out).trans X3.out; simp [go_sem, q]
      have x4 : wd.cell? ⟨w.heap.size, 4, none⟩ = some (.int .i64 l) := by rw [← hwd]; have q := (HB.out.cell (p := ⟨w.heap.size, 4, none⟩) LX.out).trans X4.out; simp [go_sem, q]
      have x5 : wd.cell? ⟨w.heap.size, 5, none⟩ = some (.slice TA tn tc) := by rw [← hwd]; have q := (HB.out.cell (p := ⟨w.heap.size, 5, none⟩) LX.out).trans X5.out; simp [go_sem, q]
      have x6 : wd.cell? ⟨w.heap.size, 6, none⟩ = some (.int .i64 now) := by rw [← hwd]; have q := (HB.out.cell (p := ⟨w.heap.size, 6, none⟩) LX.out).trans X6.out; simp [go_sem, q]
      have x7 : wd.cell? ⟨w.heap.size, 7, none⟩ = some (.int .i64 room) := by rw [← hwd]; have q := (HB.out.cell (p := ⟨w.heap.size, 7, none⟩) LX.out).trans X7.out; simp [go_sem, q]
      have x8 : wd.cell? ⟨w.heap.size, 8, none⟩ = some (.slice A2 (n + 1) c2) := by rw [← hwd]; exact World.cell?_setCell_same' wb ⟨w.heap.size, 8, none⟩ _ (by rw [(HB.out.cell (p := ⟨w.heap.size, 8, none⟩) LX.out).trans X8.out]; rfl)
      have u0 : wd.cell? ⟨w.heap.size + 1 + 1, 0, none⟩ = some (.int .i64 0) := by rw [← hwd]; exact cell_set_far (by show w.heap.size + 1 + 1 ≠ w.heap.size; omega) ((HB.out.cell (p := ⟨w.heap.size + 1 + 1, 0, none⟩) LU.out).trans U0.out)
      have f0 : wd.frozen? ⟨w.heap.size + 1 + 1, 0, none⟩ = false := by rw [← hwd]; exact (World.frozen?_of_block (Below.heap_setCell wb ⟨w.heap.size, 8, none⟩ _ _ (by show w.heap.size + 1 + 1 ≠ w.heap.size; omega))).trans ((HB.out.frozen (p := ⟨w.heap.size + 1 + 1, 0, none⟩) LU.out).trans F0.out)
      have u1 : wd.cell? ⟨w.heap.size + 1 + 1, 1, none⟩ = some (.int .i64 0) := by rw [← hwd]; exact cell_set_far (by show w.heap.size + 1 + 1 ≠ w.heap.size; omega) ((HB.out.cell (p := ⟨w.heap.size + 1 + 1, 1, none⟩) LU.out).trans U1.out)
      have f1 : wd.frozen? ⟨w.heap.size + 1 + 1, 1, none⟩ = false := by rw [← hwd]; exact (World.frozen?_of_block (Below.heap_setCell wb ⟨w.heap.size, 8, none⟩ _ _ (by show w.heap.size + 1 + 1 ≠ w.heap.size; omega))).trans ((HB.out.frozen (p := ⟨w.heap.size + 1 + 1, 1, none⟩) LU.out).trans F1.out)
      have u2 : wd.cell? ⟨w.heap.size + 1 + 1, 2, none⟩ = some (.int .i64 0) := by rw [← hwd]; exact cell_set_far (by show w.heap.size + 1 + 1 ≠ w.heap.size; omega) ((HB.out.cell (p := ⟨w.heap.size + 1 + 1, 2, none⟩) LU.out).trans U2.out)
      have f2 : wd.frozen? ⟨w.heap.size + 1 + 1, 2, none⟩ = false := by rw [← hwd]; exact (World.frozen?_of_block (Below.heap_setCell wb ⟨w.heap.size, 8, none⟩ _ _ (by show w.heap.size + 1 + 1 ≠ w.heap.size; omega))).trans ((HB.out.frozen (p := ⟨w.heap.size + 1 + 1, 2, none⟩) LU.out).trans F2.out)
      have u3 : wd.cell? ⟨w.heap.size + 1 + 1, 3, none⟩ = some (.int .i64 0) := by rw [← hwd]; exact cell_set_far (by show w.heap.size + 1 + 1 ≠ w.heap.size; omega) ((HB.out.cell (p := ⟨w.heap.size + 1 + 1, 3, none⟩) LU.out).trans U3.out)
      have f3 : wd.frozen? ⟨w.heap.size + 1 + 1, 3, none⟩ = false := by rw [← hwd]; exact (World.frozen?_of_block (Below.heap_setCell wb ⟨w.heap.size, 8, none⟩ _ _ (by show w.heap.size + 1 + 1 ≠ w.heap.size; omega))).trans ((HB.out.frozen (p := ⟨w.heap.size + 1 + 1, 3, none⟩) LU.out).trans F3.out)
      have u4 : wd.cell? ⟨w.heap.size + 1 + 1, 4, none⟩ = some (.int .i64 0) := by rw [← hwd]; exact cell_set_far (by show w.heap.size + 1 + 1 ≠ w.heap.size; omega) ((HB.out.cell (p := ⟨w.heap.size + 1 + 1, 4, none⟩) LU.out).trans U4.out)
      have f4 : wd.frozen? ⟨w.heap.size + 1 + 1, 4, none⟩ = false := by rw [← hwd]; exact (World.frozen?_of_block (Below.heap_setCell wb ⟨w.heap.size, 8, none⟩ _ _ (by show w.heap.size + 1 + 1 ≠ w.heap.size; omega))).trans ((HB.out.frozen (p := ⟨w.heap.size + 1 + 1, 4, none⟩) LU.out).trans F4.out)
      have u5 : wd.cell? ⟨w.heap.size + 1 + 1, 5, none⟩ = some (.slice none 0 0) := by rw [← hwd]; exact cell_set_far (by show w.heap.size + 1 + 1 ≠ w.heap.size; omega) ((HB.out.cell (p := ⟨w.heap.size + 1 + 1, 5, none⟩) LU.out).trans U5.out)
      have f5 : wd.frozen? ⟨w.heap.size + 1 + 1, 5, none⟩ = false := by rw [← hwd]; exact (World.frozen?_of_block (Below.heap_setCell wb ⟨w.heap.size, 8, none⟩ _ _ (by show w.heap.size + 1 + 1 ≠ w.heap.size; omega))).trans ((HB.out.frozen (p := ⟨w.heap.size + 1 + 1, 5, none⟩) LU.out).trans F5.out)
      have u6 : wd.cell? ⟨w.heap.size + 1 + 1, 6, none⟩ = some (.int .i64 0) := by rw [← hwd]; exact cell_set_far (by show w.heap.size + 1 + 1 ≠ w.heap.size; omega) ((HB.out.cell (p := ⟨w.heap.size + 1 + 1, 6, none⟩) LU.out).trans U6.out)
      have f6 : wd.frozen? ⟨w.heap.size + 1 + 1, 6, none⟩ = false := by rw [← hwd]; exact (World.frozen?_of_block (Below.heap_setCell wb ⟨w.heap.size, 8, none⟩ _ _ (by show w.heap.size + 1 + 1 ≠ w.heap.size; omega))).trans ((HB.out.frozen (p := ⟨w.heap.size + 1 + 1, 6, none⟩) LU.out).trans F6.out)
      have u7 : wd.cell? ⟨w.heap.size + 1 + 1, 7, none⟩ = some (.int .i64 0) := by rw [← hwd]; exact cell_set_far (by show w.heap.size + 1 + 1 ≠ w.heap.size; omega) ((HB.out.cell (p := ⟨w.heap.size + 1 + 1, 7, none⟩) LU.out).trans U7.out)
      have f7 : wd.frozen? ⟨w.heap.size + 1 + 1, 7, none⟩ = false := by rw [← hwd]; exact (World.frozen?_of_block (Below.heap_setCell wb ⟨w.heap.size, 8, none⟩ _ _ (by show w.heap.size + 1 + 1 ≠ w.heap.size; omega))).trans ((HB.out.frozen (p := ⟨w.heap.size + 1 + 1, 7, none⟩) LU.out).trans F7.out)
      have u8 : wd.cell? ⟨w.heap.size + 1 + 1, 8, none⟩ = some (.slice none 0 0) := by rw [← hwd]; exact cell_set_far (by show w.heap.size + 1 + 1 ≠ w.heap.size; omega) ((HB.out.cell (p := ⟨w.heap.size + 1 + 1, 8, none⟩) LU.out).trans U8.out)
      have f8 : wd.frozen? ⟨w.heap.size + 1 + 1, 8, none⟩ = false := by rw [← hwd]; exact (World.frozen?_of_block (Below.heap_setCell wb ⟨w.heap.size, 8, none⟩ _ _ (by show w.heap.size + 1 + 1 ≠ w.heap.size; omega))).trans ((HB.out.frozen (p := ⟨w.heap.size + 1 + 1, 8, none⟩) LU.out).trans F8.out)
      have BD := hidd (show Below w.heap.size w wd from by rw [← hwd]; exact ((B2.out.trans (HB.out.mono B2.out.size)).setCell (p := ⟨w.heap.size, 8, none⟩) (Nat.le_refl _) _))
      have sd : wb.heap.size ≤ wd.heap.size := by rw [← hwd]; simp [World.setCell]
      have HOD := hidd (OwnL.far HO.out (w' := wd) (fun k hk _ => by rw [← hwd]; exact Below.heap_setCell wb ⟨w.heap.size, 8, none⟩ _ _ (by show k ≠ w.heap.size; have := LX.out; omega)) sd)
      clear hwd HWD sd hHz bla bl4 nw4 nl4 nwa blb KS KS8
      go_wp2_with fail
      have hbe : Below w.heap.size w ((((((((((wd.setCell ⟨w.heap.size + 1 + 1, 0, none⟩ (.int .i64 p)).setCell ⟨w.heap.size + 1 + 1, 1, none⟩ (.int .i64 r)).setCell ⟨w.heap.size + 1 + 1, 2, none⟩ (.int .i64 u)).setCell ⟨w.heap.size + 1 + 1, 3, none⟩ (.int .i64 m)).setCell ⟨w.heap.size + 1 + 1, 4, none⟩ (.int .i64 l)).setCell ⟨w.heap.size + 1 + 1, 5, none⟩ (.slice TA tn tc)).setCell ⟨w.heap.size + 1 + 1, 6, none⟩ (.int .i64 now)).setCell ⟨w.heap.size + 1 + 1, 7, none⟩ (.int .i64 room)).setCell ⟨w.heap.size + 1 + 1, 8, none⟩ (.slice A2 (n + 1) c2))) := by have := BD.out; (repeat' (first | (with_reducible exact Below.refl _ _) | (with_reducible assumption) | (with_reducible apply Below.setCell) | (with_reducible apply Below.alloc) | (with_reducible apply Below.drew) | (with_reducible apply below_drewN) | (with_reducible refine Below.trans ?_ (Below.mono (by assumption) ?_)) | omega | (simp; done) | (simp; omega)))
      have hfar := OwnL.far HOD.out (w' := (((((((((wd.setCell ⟨w.heap.size + 1 + 1, 0, none⟩ (.int .i64 p)).setCell ⟨w.heap.size + 1 + 1, 1, none⟩ (.int .i64 r)).setCell ⟨w.heap.size + 1 + 1, 2, none⟩ (.int .i64 u)).setCell ⟨w.heap.size + 1 + 1, 3, none⟩ (.int .i64 m)).setCell ⟨w.heap.size + 1 + 1, 4, none⟩ (.int .i64 l)).setCell ⟨w.heap.size + 1 + 1, 5, none⟩ (.slice TA tn tc)).setCell ⟨w.heap.size + 1 + 1, 6, none⟩ (.int .i64 now)).setCell ⟨w.heap.size + 1 + 1, 7, none⟩ (.int .i64 room)).setCell ⟨w.heap.size + 1 + 1, 8, none⟩ (.slice A2 (n + 1) c2))) (fun k hk _ => by (repeat rw [Below.heap_setCell _ _ _ _ (by show _ ≠ _; simp only []; have := LU.out; omega)])) (by simp [World.setCell])
      obtain ⟨A3, c3, e3, h71, h72, h7⟩ := hfar.lie sendV_len
      have e4 : A2 = A3 := by injection e3
      have e5 : c2 = c3 := by injection e3
      subst e4
      subst e5
      refine bodyPost_ret (v := .tuple #[.agg #[.int .i64 p, .int .i64 r, .int .i64 u, .int .i64 m, .int .i64 l, .slice TA tn tc, .int .i64 now, .int .i64 room, .slice A2 (n + 1) c2], .int .i64 0]) (by simp [results, Try.results22, go_sem, u0, u1, u2, u3, u4, u5, u6, u7, u8]) rfl ?_
      rw [← HPO.out]
      exact ⟨A2, c2, by rw [List.length_append, HN.out]; rfl, h7, .inr ⟨fun ad had => by have q := (World.ownsRow.lt HO.out ad.block (by rw [had]; rfl)).1; have := LX.out; omega, h71, h72⟩, hbe⟩
  · go_simp
    have bl4 : Below W2.heap.size W2 (W2.drew.alloc (.cells #[.int .i64 i, .int .i64 z] 41)) := Below.alloc (Below.drew (Below.refl W2.heap.size W2)) ((Below.drew (Below.refl W2.heap.size W2)).size) _
    have nw4 : ∀ j v, (sendV (i, z))[j]? = some v → (W2.drew.alloc (.cells #[.int .i64 i, .int .i64 z] 41)).cell? ((⟨W2.drew.heap.size, 0, none⟩ : Addr).add j) = some v := World.news_of_block (cs := #[.int .i64 i, .int .i64 z]) (t := 41) (fr := (0, 0)) (heap_alloc_new W2.drew _)
    have nl4 : W2.heap.size ≤ W2.drew.heap.size ∧ W2.drew.heap.size < (W2.drew.alloc (.cells #[.int .i64 i, .int .i64 z] 41)).heap.size := ⟨(Below.drew (Below.refl W2.heap.size W2)).size, by simp⟩
    refine hK.out _ _ (KS.out _ bl4) (fun hHpc1 => ?_)
    clear hK hH
    try simp only [Act.put, List.setIfInBounds_toArray, List.set_cons_zero, List.set_cons_succ]
    refine wpAnyH_ready (rs := [1]) (by kernel_rfl) (by simp) ?_
    refine AllReadyH.cons (by (conv => lhs; simp only [List.getElem?_toArray, List.getElem?_cons_succ, List.getElem?_cons_zero])) (fun K hK => ?_) AllReadyH.nil
    have x8 : ((W2.drew.alloc (.cells #[.int .i64 i, .int .i64 z] 41))).cell? ⟨w.heap.size, 8, none⟩ = some (.slice LA n lc) := (bl4.cell (p := ⟨w.heap.size, 8, none⟩) LX.out).trans X8.out
    have x8b : ((W2.alloc (.cells #[.int .i64 i, .int .i64 z] 41))).cell? ⟨w.heap.size, 8, none⟩ = some (.slice LA n lc) := x8
    go_simp
    -- x8b
    refine hK.out _ _ (KS.out _ bl4) (fun hHpc2 => ?_)
    clear hK hHpc1
    try simp only [Act.put, List.setIfInBounds_toArray, List.set_cons_zero, List.set_cons_succ]
    clear x8 x8b
    refine wpAnyH_ready (rs := [2]) (by kernel_rfl) (by simp) ?_
    refine AllReadyH.cons (by (conv => lhs; simp only [List.getElem?_toArray, List.getElem?_cons_succ, List.getElem?_cons_zero])) (fun K hK => ?_) AllReadyH.nil
    rw [if_pos (by rfl)]
    refine wp_append_some (.const (.slice none 0 0)) (.tmp 42) 33 (by rfl) W2.heap.size 41 i0 _ 2 16 Try.underlying33 hi0 hz0 hz1 hz2' rfl (by omega) (.slice none 0 0) 0 [] (by rfl) (World.ownsRow_nil _ _ _ _) LA n lc (rowOf sendV L) (by rfl) (by rw [row_len sendV_len L, HN.out]) (HSRC.out _ bl4) (rowOf_one sendV_one L) (by simp only [maxLen]; omega) (by omega) (bl4.size) ?_
    intro va wa hown1 hgrow1 hat1
    have bla : Below W2.heap.size W2 wa := Below.grown bl4 hgrow1 (bl4.size) (fun k hk => by simp [Value.ownBlock] at hk)
    have nwa : ∀ j v, (sendV (i, z))[j]? = some v → wa.cell? ((⟨W2.drew.heap.size, 0, none⟩ : Addr).add j) = some v := fun j v hj => (World.cell?_of_block (hgrow1.block _ (by rw [block_of_add]; exact nl4.2) (by simp [Value.ownBlock]))).trans (nw4 j v hj)
    refine hK.out _ _ (KS.out _ bla) (fun hHpc3 => ?_)
    clear hK hHpc2
    try simp only [Act.put, List.setIfInBounds_toArray, List.set_cons_zero, List.set_cons_succ]
    refine wpAnyH_ready (rs := [5]) (by kernel_rfl) (by simp) ?_
    refine AllReadyH.cons (by (conv => lhs; simp only [List.getElem?_toArray, List.getElem?_cons_succ, List.getElem?_cons_zero])) (fun K hK => ?_) AllReadyH.nil
    rw [if_pos (by rfl)]
    refine wp_append_some (.tmp 43) (.tmp 45) 33 (by rfl) W2.heap.size 41 i0 _ 2 16 Try.underlying33 hi0 hz0 hz1 hz2' rfl (by omega) va (0 + n) ([] ++ rowOf sendV L) (by rfl) hown1 (some ⟨W2.drew.heap.size, 0, none⟩) 1 1 (sendV (i, z)) (by rfl) (by rfl) (fun _ => ⟨_, rfl, nwa⟩) (sendV_one _) (by simp only [maxLen]; omega) (by omega) (bla.size) ?_
    intro vb wb hown2 hgrow2 hat2
    have blb : Below W2.heap.size W2 wb := Below.grown bla hgrow2 (bla.size) (fun k hk => (World.ownsRow.lt hown1 k hk).1)
    have hO := OwnL.snoc (f := sendV) (L := L) (x := (i, z)) hown2 (by rw [HN.out]; omega) (by simp)
    obtain ⟨A2, c2, e2, _, _, _⟩ := hO.lie sendV_len
    have e3 : vb = .slice A2 (n + 1) c2 := (by rw [e2]; simp [HN.out])
    subst e3
    have HO := hidd hO
    have HB := hidd blb
    clear e2 hO hown1 hown2 hgrow1 hgrow2 hat1 hat2
    refine hK.out _ _ (KS.out _ blb) (fun hHpc4 => ?_)
    clear hK hHpc3
    try simp only [Act.put, List.setIfInBounds_toArray, List.set_cons_zero, List.set_cons_succ]
    refine wpAnyH_take (i := 6) (v := ?vpc6_1) (by (conv => lhs; simp only [List.getElem?_toArray, List.getElem?_cons_succ, List.getElem?_cons_zero])) (by kernel_rfl) (by kernel_rfl) (by kernel_rfl) ?hQ (Or.inl ⟨by rfl, ?hypc6_1⟩) hHpc4 ?restpc6_1
    case hQ => exact fun _ _ _ h => h
    case hypc6_1 => (intro Y hY; obtain ⟨e0, e1⟩ := hY; go_simp; try (with_reducible rfl))
    try simp only [Act.put, List.setIfInBounds_toArray, List.set_cons_zero, List.set_cons_succ]
    have x8 : wb.cell? ⟨w.heap.size, 8, none⟩ = some (.slice LA n lc) := (blb.cell (p := ⟨w.heap.size, 8, none⟩) LX.out).trans X8.out
    have fx : wb.frozen? ⟨w.heap.size, 8, none⟩ = false := (blb.frozen (p := ⟨w.heap.size, 8, none⟩) LX.out).trans FX8.out
    refine wpAnyH_ready (rs := [7]) (by kernel_rfl) (by simp) ?_
    refine AllReadyH.cons (by (conv => lhs; simp only [List.getElem?_toArray, List.getElem?_cons_succ, List.getElem?_cons_zero])) (fun K hK => ?_) AllReadyH.nil
    go_simp
    refine hK.out _ _ (KS8.out _ blb _) (fun hHz => ?_)
    clear hK hHpc4 x8 fx
    try simp only [Act.put, List.setIfInBounds_toArray, List.set_cons_zero, List.set_cons_succ]
    refine wpAnyH_done (by kernel_rfl) (?_) _
    obtain ⟨wd, hwd⟩ : ∃ wd, wb.setCell ⟨w.heap.size, 8, none⟩ (.slice A2 (n + 1) c2) = wd := ⟨_, rfl⟩
    have HWD := hidd hwd
    rw [hwd]
    have x0 : wd.cell? ⟨w.heap.size, 0, none⟩ = some (.int .i64 p) := by rw [← hwd]; have q := (HB.out.cell (p := ⟨w.heap.size, 0, none⟩) LX.out).trans X0.out; simp [go_sem, q]
    have x1 : wd.cell? ⟨w.heap.size, 1, none⟩ = some (.int .i64 r) := by rw [← hwd]; have q := (HB.out.cell (p := ⟨w.heap.size, 1, none⟩) LX.out).trans X1.out; simp [go_sem, q]
    have x2 : wd.cell? ⟨w.heap.size, 2, none⟩ = some (.int .i64 u) := by rw [← hwd]; have q := (HB.out.cell (p := ⟨w.heap.size, 2, none⟩) LX.out).trans X2.out; simp [go_sem, q]
    have x3 : wd.cell? ⟨w.heap.size, 3, none⟩ = some (.int .i64 m) := by rw [← hwd]; have q := (HB.out.cell (p := ⟨w.heap.size, 3, none⟩) LX.out).trans X3.out; simp [go_sem, q]
    have x4 : wd.cell? ⟨w.heap.size, 4, none⟩ = some (.int .i64 l) := by rw [← hwd]; have q := (HB.out.cell (p := ⟨w.heap.size, 4, none⟩) LX.out).trans X4.out; simp [go_sem, q]
    have x5 : wd.cell? ⟨w.heap.size, 5, none⟩ = some (.slice TA tn tc) := by rw [← hwd]; have q := (HB.out.cell (p := ⟨w.heap.size, 5, none⟩) LX.out).trans X5.out; simp [go_sem, q]
    have x6 : wd.cell? ⟨w.heap.size, 6, none⟩ = some (.int .i64 now) := by rw [← hwd]; have q := (HB.out.cell (p := ⟨w.heap.size, 6, none⟩) LX.out).trans X6.out; simp [go_sem, q]
    have x7 : wd.cell? ⟨w.heap.size, 7, none⟩ = some (.int .i64 room) := by rw [← hwd]; have q := (HB.out.cell (p := ⟨w.heap.size, 7, none⟩) LX.out).trans X7.out; simp [go_sem, q]
    have x8 : wd.cell? ⟨w.heap.size, 8, none⟩ = some (.slice A2 (n + 1) c2) := by rw [← hwd]; exact World.cell?_setCell_same' wb ⟨w.heap.size, 8, none⟩ _ (by rw [(HB.out.cell (p := ⟨w.heap.size, 8, none⟩) LX.out).trans X8.out]; rfl)
    have u0 : wd.cell? ⟨w.heap.size + 1 + 1, 0, none⟩ = some (.int .i64 0) := by rw [← hwd]; exact cell_set_far (by show w.heap.size + 1 + 1 ≠ w.heap.size; omega) ((HB.out.cell (p := ⟨w.heap.size + 1 + 1, 0, none⟩) LU.out).trans U0.out)
    have f0 : wd.frozen? ⟨w.heap.size + 1 + 1, 0, none⟩ = false := by rw [← hwd]; exact (World.frozen?_of_block (Below.heap_setCell wb ⟨w.heap.size, 8, none⟩ _ _ (by show w.heap.size + 1 + 1 ≠ w.heap.size; omega))).trans ((HB.out.frozen (p := ⟨w.heap.size + 1 + 1, 0, none⟩) LU.out).trans F0.out)
    have u1 : wd.cell? ⟨w.heap.size + 1 + 1, 1, none⟩ = some (.int .i64 0) := by rw [← hwd]; exact cell_set_far (by show w.heap.size + 1 + 1 ≠ w.heap.size; omega) ((HB.out.cell (p := ⟨w.heap.size + 1 + 1, 1, none⟩) LU.out).trans U1.out)
    have f1 : wd.frozen? ⟨w.heap.size + 1 + 1, 1, none⟩ = false := by rw [← hwd]; exact (World.frozen?_of_block (Below.heap_setCell wb ⟨w.heap.size, 8, none⟩ _ _ (by show w.heap.size + 1 + 1 ≠ w.heap.size; omega))).trans ((HB.out.frozen (p := ⟨w.heap.size + 1 + 1, 1, none⟩) LU.out).trans F1.out)
    have u2 : wd.cell? ⟨w.heap.size + 1 + 1, 2, none⟩ = some (.int .i64 0) := by rw [← hwd]; exact cell_set_far (by show w.heap.size + 1 + 1 ≠ w.heap.size; omega) ((HB.out.cell (p := ⟨w.heap.size + 1 + 1, 2, none⟩) LU.out).trans U2.out)
    have f2 : wd.frozen? ⟨w.heap.size + 1 + 1, 2, none⟩ = false := by rw [← hwd]; exact (World.frozen?_of_block (Below.heap_setCell wb ⟨w.heap.size, 8, none⟩ _ _ (by show w.heap.size + 1 + 1 ≠ w.heap.size; omega))).trans ((HB.out.frozen (p := ⟨w.heap.size + 1 + 1, 2, none⟩) LU.out).trans F2.out)
    have u3 : wd.cell? ⟨w.heap.size + 1 + 1, 3, none⟩ = some (.int .i64 0) := by rw [← hwd]; exact cell_set_far (by show w.heap.size + 1 + 1 ≠ w.heap.size; omega) ((HB.out.cell (p := ⟨w.heap.size + 1 + 1, 3, none⟩) LU.out).trans U3.out)
    have f3 : wd.frozen? ⟨w.heap.size + 1 + 1, 3, none⟩ = false := by rw [← hwd]; exact (World.frozen?_of_block (Below.heap_setCell wb ⟨w.heap.size, 8, none⟩ _ _ (by show w.heap.size + 1 + 1 ≠ w.heap.size; omega))).trans ((HB.out.frozen (p := ⟨w.heap.size + 1 + 1, 3, none⟩) LU.out).trans F3.out)
    have u4 : wd.cell? ⟨w.heap.size + 1 + 1, 4, none⟩ = some (.int .i64 0) := by rw [← hwd]; exact cell_set_far (by show w.heap.size + 1 + 1 ≠ w.heap.size; omega) ((HB.out.cell (p := ⟨w.heap.size + 1 + 1, 4, none⟩) LU.out).trans U4.out)
    have f4 : wd.frozen? ⟨w.heap.size + 1 + 1, 4, none⟩ = false := by rw [← hwd]; exact (World.frozen?_of_block (Below.heap_setCell wb ⟨w.heap.size, 8, none⟩ _ _ (by show w.heap.size + 1 + 1 ≠ w.heap.size; omega))).trans ((HB.out.frozen (p := ⟨w.heap.size + 1 + 1, 4, none⟩) LU.out).trans F4.out)
    have u5 : wd.cell? ⟨w.heap.size + 1 + 1, 5, none⟩ = some (.slice none 0 0) := by rw [← hwd]; exact cell_set_far (by show w.heap.size + 1 + 1 ≠ w.heap.size; omega) ((HB.out.cell (p := ⟨w.heap.size + 1 + 1, 5, none⟩) LU.out).trans U5.out)
    have f5 : wd.frozen? ⟨w.heap.size + 1 + 1, 5, none⟩ = false := by rw [← hwd]; exact (World.frozen?_of_block (Below.heap_setCell wb ⟨w.heap.size, 8, none⟩ _ _ (by show w.heap.size + 1 + 1 ≠ w.heap.size; omega))).trans ((HB.out.frozen (p := ⟨w.heap.size + 1 + 1, 5, none⟩) LU.out).trans F5.out)
    have u6 : wd.cell? ⟨w.heap.size + 1 + 1, 6, none⟩ = some (.int .i64 0) := by rw [← hwd]; exact cell_set_far (by show w.heap.size + 1 + 1 ≠ w.heap.size; omega) ((HB.out.cell (p := ⟨w.heap.size + 1 + 1, 6, none⟩) LU.out).trans U6.out)
    have f6 : wd.frozen? ⟨w.heap.size + 1 + 1, 6, none⟩ = false := by rw [← hwd]; exact (World.frozen?_of_block (Below.heap_setCell wb ⟨w.heap.size, 8, none⟩ _ _ (by show w.heap.size + 1 + 1 ≠ w.heap.size; omega))).trans ((HB.out.frozen (p := ⟨w.heap.size + 1 + 1, 6, none⟩) LU.out).trans F6.out)
    have u7 : wd.cell? ⟨w.heap.size + 1 + 1, 7, none⟩ = some (.int .i64 0) := by rw [← hwd]; exact cell_set_far (by show w.heap.size + 1 + 1 ≠ w.heap.size; omega) ((HB.out.cell (p := ⟨w.heap.size + 1 + 1, 7, none⟩) LU.out).trans U7.out)
    have f7 : wd.frozen? ⟨w.heap.size + 1 + 1, 7, none⟩ = false := by rw [← hwd]; exact (World.frozen?_of_block (Below.heap_setCell wb ⟨w.heap.size, 8, none⟩ _ _ (by show w.heap.size + 1 + 1 ≠ w.heap.size; omega))).trans ((HB.out.frozen (p := ⟨w.heap.size + 1 + 1, 7, none⟩) LU.out).trans F7.out)
    have u8 : wd.cell? ⟨w.heap.size + 1 + 1, 8, none⟩ = some (.slice none 0 0) := by rw [← hwd]; exact cell_set_far (by show w.heap.size + 1 + 1 ≠ w.heap.size; omega) ((HB.out.cell (p := ⟨w.heap.size + 1 + 1, 8, none⟩) LU.out).trans U8.out)
    have f8 : wd.frozen? ⟨w.heap.size + 1 + 1, 8, none⟩ = false := by rw [← hwd]; exact (World.frozen?_of_block (Below.heap_setCell wb ⟨w.heap.size, 8, none⟩ _ _ (by show w.heap.size + 1 + 1 ≠ w.heap.size; omega))).trans ((HB.out.frozen (p := ⟨w.heap.size + 1 + 1, 8, none⟩) LU.out).trans F8.out)
    have BD := hidd (show Below w.heap.size w wd from by rw [← hwd]; exact ((B2.out.trans (HB.out.mono B2.out.size)).setCell (p := ⟨w.heap.size, 8, none⟩) (Nat.le_refl _) _))
    have sd : wb.heap.size ≤ wd.heap.size := by rw [← hwd]; simp [World.setCell]
    have HOD := hidd (OwnL.far HO.out (w' := wd) (fun k hk _ => by rw [← hwd]; exact Below.heap_setCell wb ⟨w.heap.size, 8, none⟩ _ _ (by show k ≠ w.heap.size; have := LX.out; omega)) sd)
    clear hwd HWD sd hHz bla bl4 nw4 nl4 nwa blb KS KS8
    go_wp2_with fail
    have hbe : Below w.heap.size w ((((((((((wd.setCell ⟨w.heap.size + 1 + 1, 0, none⟩ (.int .i64 p)).setCell ⟨w.heap.size + 1 + 1, 1, none⟩ (.int .i64 r)).setCell ⟨w.heap.size + 1 + 1, 2, none⟩ (.int .i64 u)).setCell ⟨w.heap.size + 1 + 1, 3, none⟩ (.int .i64 m)).setCell ⟨w.heap.size + 1 + 1, 4, none⟩ (.int .i64 l)).setCell ⟨w.heap.size + 1 + 1, 5, none⟩ (.slice TA tn tc)).setCell ⟨w.heap.size + 1 + 1, 6, none⟩ (.int .i64 now)).setCell ⟨w.heap.size + 1 + 1, 7, none⟩ (.int .i64 room)).setCell ⟨w.heap.size + 1 + 1, 8, none⟩ (.slice A2 (n + 1) c2))) := by have := BD.out; (repeat' (first | (with_reducible exact Below.refl _ _) | (with_reducible assumption) | (with_reducible apply Below.setCell) | (with_reducible apply Below.alloc) | (with_reducible apply Below.drew) | (with_reducible apply below_drewN) | (with_reducible refine Below.trans ?_ (Below.mono (by assumption) ?_)) | omega | (simp; done) | (simp; omega)))
    have hfar := OwnL.far HOD.out (w' := (((((((((wd.setCell ⟨w.heap.size + 1 + 1, 0, none⟩ (.int .i64 p)).setCell ⟨w.heap.size + 1 + 1, 1, none⟩ (.int .i64 r)).setCell ⟨w.heap.size + 1 + 1, 2, none⟩ (.int .i64 u)).setCell ⟨w.heap.size + 1 + 1, 3, none⟩ (.int .i64 m)).setCell ⟨w.heap.size + 1 + 1, 4, none⟩ (.int .i64 l)).setCell ⟨w.heap.size + 1 + 1, 5, none⟩ (.slice TA tn tc)).setCell ⟨w.heap.size + 1 + 1, 6, none⟩ (.int .i64 now)).setCell ⟨w.heap.size + 1 + 1, 7, none⟩ (.int .i64 room)).setCell ⟨w.heap.size + 1 + 1, 8, none⟩ (.slice A2 (n + 1) c2))) (fun k hk _ => by (repeat rw [Below.heap_setCell _ _ _ _ (by show _ ≠ _; simp only []; have := LU.out; omega)])) (by simp [World.setCell])
    obtain ⟨A3, c3, e3, h71, h72, h7⟩ := hfar.lie sendV_len
    have e4 : A2 = A3 := by injection e3
    have e5 : c2 = c3 := by injection e3
    subst e4
    subst e5
    refine bodyPost_ret (v := .tuple #[.agg #[.int .i64 p, .int .i64 r, .int .i64 u, .int .i64 m, .int .i64 l, .slice TA tn tc, .int .i64 now, .int .i64 room, .slice A2 (n + 1) c2], .int .i64 0]) (by simp [results, Try.results22, go_sem, u0, u1, u2, u3, u4, u5, u6, u7, u8]) rfl ?_
    rw [← HPO.out]
    exact ⟨A2, c2, by rw [List.length_append, HN.out]; rfl, h7, .inr ⟨fun ad had => by have q := (World.ownsRow.lt HO.out ad.block (by rw [had]; rfl)).1; have := LX.out; omega, h71, h72⟩, hbe⟩
end Go.Proofs.Ythaiphkmkchhoaa

/- Shapers: a shaper beside two lists of the law's own: what came, what went; the calls. -/
namespace Go.Proofs.Ythaiphkmkchhoaa
open Go.RowKit Go.Sort
set_option linter.unusedVariables false
theorem OwnL.keep1 {w w' : World} {base : Nat} {e : TypeId} {v : Value} {L : List (Int × Int)} (h : OwnL sendV 2 w base e v L) (hb : ∀ g, v.ownBlock = some g → w'.heap[g]? = w.heap[g]?) : OwnL sendV 2 w' base e v L := by
  refine ⟨h.1, ?_⟩
  rcases h.2 with h0 | ⟨g, cap, cur, rfl, hbs, hh, hr⟩
  · exact .inl h0
  · exact .inr ⟨g, cap, cur, rfl, hbs, (hb g rfl).trans hh, hr⟩
/-- a shaper with a list each of what came and what went. -/
structure K2 (B : Nat) (w : World) (h : Nat) (p r u m l : Int) (s : BM.St) (L : List (Int × Int)) (cv : Value) (C : List (Int × Int)) (gv : Value) (G : List (Int × Int)) (W : World) : Prop where
  sh : ∃ g b v, ShAt W h g b v p r u m l s 1000000000 L ∧ (∀ j, ShBlk h g b v j → B ≤ j) ∧ (∀ q, cv.ownBlock = some q → ¬ ShBlk h g b v q) ∧ (∀ q, gv.ownBlock = some q → ¬ ShBlk h g b v q)
  c : OwnL sendV 2 W B 41 cv C
  g : OwnL sendV 2 W B 41 gv G
  cg : ∀ q, cv.ownBlock = some q → gv.ownBlock ≠ some q
  bel : Below B w W
  bsz : B ≤ W.heap.size
section
variable {B : Nat} {w : World} {h : Nat} {p r u m l : Int} {s : BM.St} {L : List (Int × Int)} {cv : Value} {C : List (Int × Int)} {gv : Value} {G : List (Int × Int)} {W W' : World}
theorem K2.below (H : K2 B w h p r u m l s L cv C gv G W) (hb : Below W.heap.size W W') : K2 B w h p r u m l s L cv C gv G W' := by
  obtain ⟨g, b, v, hS, h1, h2, h3⟩ := H.sh
  exact ⟨⟨g, b, v, hS.below hb, h1, h2, h3⟩, H.c.below hb, H.g.below hb, H.cg, H.bel.trans (hb.mono H.bsz), Nat.le_trans H.bsz hb.size⟩
theorem K2.drew (H : K2 B w h p r u m l s L cv C gv G W) : K2 B w h p r u m l s L cv C gv G W.drew := H.below (Below.drew (Below.refl _ _))
/-- what a call of the shaper's leaves. -/
theorem K2.turn (H : K2 B w h p r u m l s L cv C gv G W) {g b : Nat} {v v' : Value} {s' : BM.St} {L' : List (Int × Int)} (h1 : ∀ j, ShBlk h g b v j → B ≤ j) (h2 : ∀ q, cv.ownBlock = some q → ¬ ShBlk h g b v q) (h3 : ∀ q, gv.ownBlock = some q → ¬ ShBlk h g b v q)
    (hS : ShAt W' h g b v' p r u m l s' 1000000000 L') (hs : Sav (ShBlk h g b v) W W') (hn : ∀ j, j < W.heap.size → ShBlk h g b v' j → ShBlk h g b v j) : K2 B w h p r u m l s' L' cv C gv G W' := by
  have hB := H.bsz
  refine ⟨⟨g, b, v', hS, fun j hj => ?_, fun q e hq => ?_, fun q e hq => ?_⟩, H.c.keep1 (fun q e => hs.block q (H.c.lt q e).2 (h2 q e)), H.g.keep1 (fun q e => hs.block q (H.g.lt q e).2 (h3 q e)), H.cg, H.bel.trans (hs.below hB h1), Nat.le_trans hB hs.size⟩
  · rcases Nat.lt_or_ge j W.heap.size with q | q
    · exact h1 j (hn j q hj)
    · exact Nat.le_trans hB q
  · exact h2 q e (hn q (H.c.lt q e).2 hq)
  · exact h3 q e (hn q (H.g.lt q e).2 hq)
theorem K2.put (H : K2 B w h p r u m l s L cv C gv G W) (i z : Int) : Calls Try.prog 15 #[.pointer (some ⟨h, 0, none⟩), .agg #[.int .i64 i, .int .i64 z]] W fun e W' => e = .returned (.int .i64 (putE m l 1000000000 L i z)) ∧ K2 B w h p r u m l s (if putE m l 1000000000 L i z = 0 then L ++ [(i, z)] else L) cv C gv G W' := by
  obtain ⟨g, b, v, hS, h1, h2, h3⟩ := H.sh
  unfold putE
  by_cases hi : i < 0 ∨ 4611686018427387904 < i
  · rw [if_pos hi]
    refine (put_arg hS hi z).mono ?_
    rintro e W' ⟨rfl, hb⟩
    exact ⟨rfl, by rw [if_neg (by omega)]; exact H.below hb⟩
  · rw [if_neg hi]
    cases hz : BM.sizeB m l z
    · simp only [Bool.false_eq_true, if_false]
      refine (put_size hS (by omega) hz).mono ?_
      rintro e W' ⟨rfl, hb⟩
      exact ⟨rfl, by rw [if_neg (by omega)]; exact H.below hb⟩
    · simp only [if_true]
      by_cases hr : 1000000000 < sumB L + z
      · rw [if_pos hr]
        refine (put_room hS (by omega) hz hr).mono ?_
        rintro e W' ⟨rfl, hb⟩
        exact ⟨rfl, by rw [if_neg (by omega)]; exact H.below hb⟩
      · rw [if_neg hr]
        refine (put_ok hS (by omega) hz hr).mono ?_
        rintro e W' ⟨rfl, v', hS', hs, hn⟩
        exact ⟨rfl, by rw [if_pos rfl]; exact H.turn h1 h2 h3 hS' hs hn⟩
/-- behind Go, as the law sees it. -/
def GoK (B : Nat) (w : World) (h : Nat) (p r u m l : Int) (s : BM.St) (L : List (Int × Int)) (cv : Value) (C : List (Int × Int)) (gv : Value) (G : List (Int × Int)) (W : World) (n : Int) (e : Ending) (W' : World) : Prop :=
  ∃ (k : Nat) (s' : BM.St) (A2 : Option Addr) (c2 : Nat), e = .returned (.tuple #[.slice A2 k c2, .int .i64 0]) ∧ BM.Goes p r u m l (BM.step p r u m l s n 0).1 n L k s' ∧ K2 B w h p r u m l s' (L.drop k) cv C gv G W' ∧ QL W' (.slice A2 k c2) (L.take k) ∧
    ∀ q, (Value.slice A2 k c2).ownBlock = some q → W.heap.size ≤ q
theorem K2.go (H : K2 B w h p r u m l s L cv C gv G W) (n : Int) (hn : BM.askB s n = true) : Calls Try.prog 16 #[.pointer (some ⟨h, 0, none⟩), .int .i64 n] W (GoK B w h p r u m l s L cv C gv G W n) := by
  obtain ⟨g, b, v, hS, h1, h2, h3⟩ := H.sh
  refine (go_yes hS n hn).mono ?_
  rintro e W' ⟨k, s', A2, c2, v2, rfl, hg, hS', ho, hq, hqn, hs⟩
  exact ⟨k, s', A2, c2, rfl, hg, H.turn h1 h2 h3 hS' hs (fun j _ hj => by unfold ShBlk at hj ⊢; rw [ho] at hj; exact hj), hq, hqn⟩
theorem K2.go_no (H : K2 B w h p r u m l s L cv C gv G W) (n : Int) (hn : BM.askB s n = false) : Calls Try.prog 16 #[.pointer (some ⟨h, 0, none⟩), .int .i64 n] W fun e W' => e = .returned (.tuple #[.slice none 0 0, .int .i64 2]) ∧ K2 B w h p r u m l s L cv C gv G W' := by
  obtain ⟨g, b, v, hS, h1, h2, h3⟩ := H.sh
  refine (_root_.Go.Proofs.Ythaiphkmkchhoaa.go_no hS n hn).mono ?_
  rintro e W' ⟨rfl, hS', hs⟩
  exact ⟨rfl, H.turn h1 h2 h3 hS' hs (fun j _ hj => hj)⟩
theorem K2.bytes (H : K2 B w h p r u m l s L cv C gv G W) : Calls Try.prog 18 #[.pointer (some ⟨h, 0, none⟩)] W fun e W' => e = .returned (.int .i64 (sumB L)) ∧ W = W' := by
  obtain ⟨g, b, v, hS, _⟩ := H.sh
  exact bytes_any hS
theorem K2.wf (H : K2 B w h p r u m l s L cv C gv G W) : rightB p r u m l = true ∧ BM.Ok u m s ∧ Szs m l L ∧ sumB L ≤ 1000000000 ∧ (L.length : Int) ≤ sumB L := by
  obtain ⟨g, b, v, hS, _⟩ := H.sh
  exact ⟨hS.rt, hS.ok, hS.sz, hS.sm, hS.sz.sum (by have := rightB_iff hS.rt; omega)⟩
theorem K2.next0 (H : K2 B w h p r u m l s [] cv C gv G W) : Calls Try.prog 17 #[.pointer (some ⟨h, 0, none⟩)] W fun e W' => e = .returned (.tuple #[.int .i64 0, .bool false]) ∧ W = W' := by
  obtain ⟨g, b, v, hS, _⟩ := H.sh
  exact next_none hS
theorem K2.next1 (H : K2 B w h p r u m l s L cv C gv G W) (hl : 0 < L.length) {t : Int} (ht : BM.IsWhen p r u m s s.1 L[0].2 t) : Calls Try.prog 17 #[.pointer (some ⟨h, 0, none⟩)] W fun e W' => e = .returned (.tuple #[.int .i64 t, .bool true]) ∧ Below W.heap.size W W' := by
  obtain ⟨g, b, v, hS, _⟩ := H.sh
  match L, hl with
  | x :: L, _ => exact next_some hS ht
/-- a list of the law's own is longer by some. -/
theorem K2.came (H : K2 B w h p r u m l s L cv C gv G W) {cv' : Value} {M : List (Int × Int)} (hO : OwnL sendV 2 W' B 41 cv' (C ++ M)) (hg : W.grownBy W' cv.ownBlock) (ha : cv'.ownBlock = cv.ownBlock ∨ cv'.ownBlock = some W.heap.size) : K2 B w h p r u m l s L cv' (C ++ M) gv G W' := by
  obtain ⟨g, b, v, hS, h1, h2, h3⟩ := H.sh
  have hB := H.bsz
  refine ⟨⟨g, b, v, hS.keep hg.size (fun j hj => hg.block j (hS.lt hj) (fun e => h2 j e.symm hj)), h1, fun q e hq => ?_, h3⟩, hO, H.g.keep1 (fun q e => hg.block q (H.g.lt q e).2 (fun e2 => H.cg q e2.symm e)), fun q e e2 => ?_, H.bel.grown hg hB (fun k e => (H.c.lt k e).1), Nat.le_trans hB hg.size⟩
  · rcases ha with a | a
    · exact h2 q (a.symm.trans e) hq
    · rw [a] at e; cases e; have := hS.lt hq; omega
  · rcases ha with a | a
    · exact H.cg q (a.symm.trans e) e2
    · rw [a] at e; cases e; have := (H.g.lt _ e2).2; omega
theorem K2.went (H : K2 B w h p r u m l s L cv C gv G W) {gv' : Value} {M : List (Int × Int)} (hO : OwnL sendV 2 W' B 41 gv' (G ++ M)) (hg : W.grownBy W' gv.ownBlock) (ha : gv'.ownBlock = gv.ownBlock ∨ gv'.ownBlock = some W.heap.size) : K2 B w h p r u m l s L cv C gv' (G ++ M) W' := by
  obtain ⟨g, b, v, hS, h1, h2, h3⟩ := H.sh
  have hB := H.bsz
  refine ⟨⟨g, b, v, hS.keep hg.size (fun j hj => hg.block j (hS.lt hj) (fun e => h3 j e.symm hj)), h1, h2, fun q e hq => ?_⟩, H.c.keep1 (fun q e => hg.block q (H.c.lt q e).2 (fun e2 => H.cg q e e2.symm)), hO, fun q e e2 => ?_, H.bel.grown hg hB (fun k e => (H.g.lt k e).1), Nat.le_trans hB hg.size⟩
  · rcases ha with a | a
    · exact h3 q (a.symm.trans e) hq
    · rw [a] at e; cases e; have := hS.lt hq; omega
  · rcases ha with a | a
    · exact H.cg q e (a.symm.trans e2)
    · rw [a] at e2; cases e2; have := (H.c.lt _ e).2; omega
theorem K2.new {g b : Nat} (hw : Below B w W) (hW : B ≤ W.heap.size) (hS : ShAt W h g b (.slice none 0 0) p r u m l (0, u, m) 1000000000 []) (h1 : B ≤ h) (h2 : B ≤ g) (h3 : B ≤ b) : K2 B w h p r u m l (0, u, m) [] (.slice none 0 0) [] (.slice none 0 0) [] W := by
  refine ⟨⟨g, b, _, hS, fun j hj => ?_, fun q e => ?_, fun q e => ?_⟩, OwnL.nil _ _ _, OwnL.nil _ _ _, fun q e => ?_, hw, hW⟩
  · rcases hj with rfl | rfl | rfl | e
    · exact h1
    · exact h2
    · exact h3
    · cases e
  · cases e
  · cases e
  · cases e
end
/-- at Next the first one goes. -/
theorem BM.when_goes {p r u m l : Int} {s : BM.St} {L : List (Int × Int)} {t : Int} (hr : rightB p r u m l = true) (hs : BM.Ok u m s) (hl : 0 < L.length) (hz : l ≤ L[0].2 ∧ L[0].2 ≤ m) (ht : BM.IsWhen p r u m s s.1 L[0].2 t) (hb : t ≤ 2147483647) {k : Nat} {s' : BM.St} (hg : BM.Goes p r u m l (BM.step p r u m l s t 0).1 t L k s') : 0 < k := by
  rcases Nat.eq_zero_or_pos k with h0 | h0
  · subst h0
    have hst := hg.stop hl
    have hb2 := rightB_iff hr
    obtain ⟨t0, t1, ⟨f0, f1⟩, _⟩ := ht
    have hask : BM.askB s t = true := decide_eq_true ⟨t0, hb⟩
    have nofit : BM.fitB p r u m l s t 0 = false := by
      unfold BM.fitB BM.sizeB
      rw [decide_eq_false (by omega : ¬ (l ≤ 0 ∧ 0 ≤ m))]
      rfl
    have e1 : (BM.step p r u m l s t 0).1 = (t, BM.lev0 r u s t, BM.lev1 p m s t) := by unfold BM.step; rw [if_pos hask, if_neg (by rw [nofit]; simp)]
    have a0 : 0 ≤ BM.lev0 r u s t ∧ BM.lev0 r u s t ≤ u := BM.later_bd (by omega)
    have a1 : 0 ≤ BM.lev1 p m s t ∧ BM.lev1 p m s t ≤ m := BM.later_bd (by omega)
    have e2 : s' = (t, BM.lev0 r u s t, BM.lev1 p m s t) := by rw [hg.st, BM.atK_zero, e1]
    rw [e2] at hst
    have hask2 : BM.askB (t, BM.lev0 r u s t, BM.lev1 p m s t) t = true := decide_eq_true ⟨Int.le_refl _, hb⟩
    have l0 : BM.lev0 r u (t, BM.lev0 r u s t, BM.lev1 p m s t) t = BM.lev0 r u s t := by
      show BM.later (BM.lev0 r u s t) u r (t - t) = _
      rw [show t - t = 0 by omega, BM.later_zero a0.1 a0.2]
    have l1 : BM.lev1 p m (t, BM.lev0 r u s t, BM.lev1 p m s t) t = BM.lev1 p m s t := by
      show BM.later (BM.lev1 p m s t) m p (t - t) = _
      rw [show t - t = 0 by omega, BM.later_zero a1.1 a1.2]
    have fit : BM.fitB p r u m l (t, BM.lev0 r u s t, BM.lev1 p m s t) t L[0].2 = true := by
      unfold BM.fitB BM.sizeB
      rw [l0, l1, decide_eq_true hz, decide_eq_true ⟨f0, f1⟩]
      rfl
    unfold BM.step at hst
    rw [if_pos hask2, if_pos fit] at hst
    cases hst
  · exact h0
end Go.Proofs.Ythaiphkmkchhoaa

