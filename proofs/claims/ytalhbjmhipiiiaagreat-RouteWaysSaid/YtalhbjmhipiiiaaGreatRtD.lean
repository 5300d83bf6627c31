/- Routes: the nodes that are near one: what goes over them. -/
import Derived.Test.YtalhbjmhipiiiaaGreatRtA
import Derived.Test.YtalhbjmhipiiiaaGreatRtC
import Derived.Test.YtalhbjmhipiiiaaGreatTpT
namespace Go.Proofs.YtalhbjmhipiiiaaGreat.Tp
set_option linter.unusedVariables false
open Go.RowKit Go.Maps
attribute [local go_sem] Oper.semAt_some

theorem near_any (bw : Nat) (node : Int) (w : World) : Calls Tryz.prog 84 #[.pointer (some ⟨bw, 0, none⟩), .int .i64 node] w fun e w' => e = .returned (.func (.func 106) #[] #[.pointer (some ⟨w.heap.size, 0, none⟩), .pointer (some ⟨w.heap.size + 1, 0, none⟩)]) ∧ w' = (w.alloc (.cells #[.pointer (some ⟨bw, 0, none⟩)] 70)).alloc (.cells #[.int .i64 node] 3) := by
  have hmf : ∀ (fn : Fn) (first cap : Array Value) (w : World), (Instr.makeFunc fn first cap).run Tryz.prog w = .ok (.func fn first cap) w := fun _ _ _ _ => rfl
  go_enter Tryz.func84, Tryz.ntmps84
  go_wp2
  go_ret
  exact ⟨rfl, rfl⟩
/-- what is read of memory while one goes over them. -/
def NearRd (q r bw m : Nat) (n : Int) (L : List Lk) (node : Int) (X : World) : Prop :=
  X.cell? ⟨q, 0, none⟩ = some (.pointer (some ⟨bw, 0, none⟩)) ∧ X.cell? ⟨r, 0, none⟩ = some (.int .i64 node) ∧ X.cell? ⟨bw, 0, none⟩ = some (.pointer (some ⟨m, 0, none⟩)) ∧ q < X.heap.size ∧ r < X.heap.size ∧ bw < X.heap.size ∧ MapAt X m n L
theorem NearRd.below {q r bw m : Nat} {n : Int} {L : List Lk} {node : Int} {X Y : World} (h : NearRd q r bw m n L node X) (hb : Below X.heap.size X Y) : NearRd q r bw m n L node Y := by
  obtain ⟨a, b, c, d, e, f, g⟩ := h
  have hs := hb.size
  exact ⟨(hb.cell (p := ⟨q, 0, none⟩) d).trans a, (hb.cell (p := ⟨r, 0, none⟩) e).trans b, (hb.cell (p := ⟨bw, 0, none⟩) f).trans c, by omega, by omega, by omega, g.below hb⟩
theorem Out_told (a : Option Addr) (node : Int) (w : World) : Calls Tryz.prog 107 #[.pointer a, .int .i64 node] w fun e w' => ∃ x y : Nat, e = .returned (.func (.func 125) #[] #[.pointer (some ⟨x, 0, none⟩), .pointer (some ⟨y, 0, none⟩)]) ∧ w'.cell? ⟨x, 0, none⟩ = some (.pointer a) ∧ w'.cell? ⟨y, 0, none⟩ = some (.int .i64 node) ∧ x < w'.heap.size ∧ y < w'.heap.size ∧ Below w.heap.size w w' := by
  refine (Out_any a node w).mono ?_
  rintro e w' ⟨rfl, rfl⟩
  exact ⟨_, _, rfl, by simp [go_sem], by simp [go_sem], by simp; omega, by simp, below_new (below_new (Below.refl _ _) _) _⟩
theorem Link_told (m : Nat) (n : Int) (hn : 1 ≤ n) (L : List Lk) (hL : L.length ≤ 1000000) (x : Int) (w : World) (h : MapAt w m n L) : Calls Tryz.prog 21 #[.pointer (some ⟨m, 0, none⟩), .int .i64 x] w fun e w' => ∃ a0 a2 a3 a4 a5 a6 a7 e8 : Int, e = .returned (.tuple #[.agg #[.int .i64 a0, .int .i64 (toF L x), .int .i64 a2, .int .i64 a3, .int .i64 a4, .int .i64 a5, .int .i64 a6, .int .i64 a7], .int .i64 e8]) ∧ Below w.heap.size w w' := by
  by_cases hx : 0 ≤ x ∧ x < (L.length : Int)
  · obtain ⟨i, rfl⟩ : ∃ i : Nat, x = i := ⟨x.toNat, by omega⟩
    have hi : i < L.length := by omega
    rw [toF_nat hi]
    exact (Link_in m n hn L hL i hi w h).mono fun e w' ⟨he, hb⟩ => ⟨_, _, _, _, _, _, _, _, he, hb⟩
  · have h0 : toF L x = 0 := by unfold toF; rw [if_neg hx]
    rw [h0]
    exact (Link_out m n hn L hL x (inB_no (by omega)) w h).mono fun e w' ⟨he, hb⟩ => ⟨_, _, _, _, _, _, _, _, he, hb⟩
theorem roundIn_wide {k k' : Nat} {P : Program} {l : Nat} {f : FuncId} {tmps : Array Value} {assign body : Code} {w : World} {R : Ending → World → Prop} (h : RoundIn Fence.wide k P l f tmps assign body w R) : RoundIn Fence.wide k' P l f tmps assign body w R :=
  ⟨h.1, fun c cs _ => h.2 c cs (by simp [Fence.room, Fence.wide])⟩
/-- the two ends of what is told of a link. -/
def stepV (L : List Lk) (z : Int) : Value := .agg #[.int .i64 z, .int .i64 (toF L z)]
set_option maxRecDepth 100000 in
set_option maxHeartbeats 8000000 in
theorem near1_seq (k : Nat) (hk : 2 ≤ k) (q r bw m : Nat) (n : Int) (L : List Lk) (hV : Valid n L) (node : Int) (hn1 : 0 ≤ node) (hn2 : node < n) (w : World) :
    SeqB Fence.wide k Tryz.prog 106 #[.pointer (some ⟨q, 0, none⟩), .pointer (some ⟨r, 0, none⟩)] (fun z : Int => #[stepV L z]) (NearRd q r bw m n L node) (fun xs => xs = outs L node) (fun pre => pre <+: outs L node) (outs L node).length w := by
  intro l J Jx W hW hl hRd hJ hJx hY h0
  have hL : L.length ≤ 1000000 := by have := hV.len; omega
  have RD := hidd (hRd [] W h0)
  have K1 := hidd (fun W' (hb : Below W.heap.size W W') => RD.out.below hb)
  have CO := hidd (fun W' => Out_told (some ⟨m, 0, none⟩) node W')
  have HRD := hidd hRd
  have HJ := hidd hJ
  have HJX := hidd hJx
  have HY := hidd hY
  have H0 := hidd h0
  have HV := hidd hV
  have hmf : ∀ (fn : Fn) (first cap : Array Value) (w : World), (Instr.makeFunc fn first cap).run Tryz.prog w = .ok (.func fn first cap) w := fun _ _ _ _ => rfl
  have hnf := fun f fs cs w => eq_nilFunc f fs cs w
  obtain ⟨PO, hPO⟩ : ∃ PO : Ending → World → Prop, (fun (e : Ending) (W' : World) => (∃ v, e = .returned v) ∧ ((∃ xs, xs = outs L node ∧ J xs W') ∨ ∃ pre, pre <+: outs L node ∧ Jx pre W')) = PO := ⟨_, rfl⟩
  rw [hPO]
  have HYES : Hid (∀ v W', J (outs L node) W' → PO (.returned v) W') := hidd (fun v W' h => by rw [← hPO]; exact ⟨⟨_, rfl⟩, .inl ⟨_, rfl, h⟩⟩)
  have HNO : Hid (∀ v pre W', pre <+: outs L node → Jx pre W' → PO (.returned v) W') := hidd (fun v pre W' h h2 => by rw [← hPO]; exact ⟨⟨_, rfl⟩, .inr ⟨_, h, h2⟩⟩)
  clear hRd hJ hJx hY h0 hPO hV hW
  obtain ⟨W0, hW0⟩ : ∃ W0, W.alloc (.cells #[.func (.yield l) #[] #[]] 160) = W0 := ⟨_, rfl⟩
  have hz : W0.heap.size = W.heap.size + 1 := by rw [← hW0]; simp
  have hb0 : Below W.heap.size W W0 := by rw [← hW0]; (repeat' (first | (with_reducible exact Below.refl _ _) | (with_reducible assumption) | (with_reducible apply Below.setCell) | (with_reducible apply Below.alloc) | (with_reducible apply Below.drew) | (with_reducible apply below_drewN) | (with_reducible refine Below.trans ?_ (Below.mono (by assumption) ?_)) | omega | (simp; done) | (simp; omega)))
  have y0 : W0.cell? ⟨W.heap.size, 0, none⟩ = some (.func (.yield l) #[] #[]) := by rw [← hW0]; simp [go_sem]
  have HB0 := hidd hb0
  have HZ := hidd hz
  have HW := hidd hW0
  have HY0 := hidd y0
  clear hz hb0 y0 hW0
  refine callsIn_of_wp_marks Tryz.func106 rfl trivial ?_ rfl
  simp only [Tryz.ntmps106, List.size_toArray, List.length_cons, List.length_nil, Nat.reduceAdd, Nat.reduceSub, Array.replicate_succ, Array.replicate_zero, List.push_toArray, List.append_toArray, List.nil_append, List.cons_append]
  refine wpIn_wide.2 ?_
  have KK := hidd (fun W' (hb : Below W.heap.size W W') => (show W'.cell? ⟨q, 0, none⟩ = some (.pointer (some ⟨bw, 0, none⟩)) ∧ W'.cell? ⟨r, 0, none⟩ = some (.int .i64 node) ∧ W'.cell? ⟨bw, 0, none⟩ = some (.pointer (some ⟨m, 0, none⟩)) from ⟨(K1.out W' hb).1, (K1.out W' hb).2.1, (K1.out W' hb).2.2.1⟩))
  go_wp2_with fail
  rw [HW.out]
  have cum0 := HB0.out
  go_region_held3 (fun W' => W'.cell? ⟨q, 0, none⟩ = some (.pointer (some ⟨bw, 0, none⟩)) ∧ W'.cell? ⟨r, 0, none⟩ = some (.int .i64 node) ∧ W'.cell? ⟨bw, 0, none⟩ = some (.pointer (some ⟨m, 0, none⟩)))
    ((first | exact KK.out _ cum1 | exact KK.out _ (Below.drew cum0) | exact KK.out _ cum0 | go_keep))
    ((go_at_call 107; refine (CO.out _).mono ?_; rintro E1 v1 ⟨x1, y1, rfl, hx1, hy1, hx2, hy2, l1⟩; have cum1 : Below W.heap.size W v1 := (by first | exact below_step cum0 l1 | exact below_step (Below.drew cum0) l1)))
  all_goals go_wp2_with fail
  have hn1' := HV.out.lo
  have hn2' := HV.out.hi
  have SQ := hidd (Out1_some (k - 1) v1.heap.size (by omega) x1 y1 m n hn1' hn2' L hL node (inB_iff.2 (by omega)) (HV.out.apart node) v1 (Nat.le_refl _) (K1.out _ cum1).2.2.2.2.2.2 hx2 hx1 hy2 hy1)
  have y1c := (l1.cell (p := ⟨W.heap.size, 0, none⟩) (show W.heap.size < W0.heap.size by have := HZ.out; omega)).trans HY0.out
  have HJ1 := hidd (HJ.out [] W v1 H0.out cum1)
  have hsz1 : W.heap.size < v1.heap.size := by have := HZ.out; have := l1.size; simp at this; omega
  have HLT := hidd hsz1
  have HYC := hidd y1c
  have CL := hidd (fun x W' h => Link_told m n hn1' L hL x W' h)
  clear KK K1 CO cum0 cum1 l1 hx1 hx2 hy1 hy2 y1c H0 RD HB0 HZ HW HY0 hmf hnf
  generalize outs L node = OU at *
  refine (wpIn_wide (n := k)).1 ?_
  refine wpIn_rangeFunc_ownG rfl (by omega) (gf := 125) (lb := #[.pointer (some ⟨x1, 0, none⟩), .pointer (some ⟨y1, 0, none⟩)]) rfl trivial (enters_of Tryz.func125 (by kernel_rfl) rfl)
    SQ.out KpC.trans (fun W l o o' _ h ho _ => KpC.put W l o o' h ho) (Below.refl _ _) (fun _ => rfl)
    (fun pre X => J pre X ∧ X.cell? ⟨W.heap.size, 0, none⟩ = some (.func (.yield l) #[] #[]) ∧ v1.heap.size ≤ X.heap.size) (fun c pre X => c = .ret ∧ Jx pre X ∧ v1.heap.size ≤ X.heap.size)
    (fun s X Y row hs hg hr => ⟨HJ.out s X Y hs.1 ⟨hg.os, hg.tape, hg.output, hg.size, fun k hk => hg.block k (by have := hs.2.2; omega) (fun e => by have := (hr _ e.symm).1; omega)⟩, cell_kept hs.2.1 hg (fun r e => (hr r e).2), Nat.le_trans hs.2.2 hg.size⟩)
    (fun c s X Y row hs hg hr => ⟨hs.1, HJX.out s X Y hs.2.1 ⟨hg.os, hg.tape, hg.output, hg.size, fun k hk => hg.block k (by have := hs.2.2; omega) (fun e => by have := (hr _ e.symm).1; omega)⟩, Nat.le_trans hs.2.2 hg.size⟩)
    ⟨HJ1.out, HYC.out, Nat.le_refl _⟩
    ?a1 ?assign ?body ?done ?stop
  case assign =>
    intro l2 x X K hK
    gi_wp2
    exact hK
  case body =>
    intro l2 pre x X hI hlt
    obtain ⟨hj, hyc, hsx⟩ := hI
    obtain ⟨r0, r1, r2, r3, r4, r5, r6⟩ := HRD.out pre X hj
    have cl := hidd (CL.out x X r6)
    have hycc := hidd hyc
    have hyl : W.heap.size < X.heap.size := by have := HLT.out; omega
    gi_wp2_with fail
    refine ⟨trivial, fun h => absurd h (by simp [Fence.wide]), ?_⟩
    refine (CallsIn.inRound l2 (callsIn_wide.2 cl.out)).mono ?_
    rintro e X1 ⟨a0, a2, a3, a4, a5, a6, a7, e8, rfl, hb1⟩
    have hyc1 := (hb1.cell (p := ⟨W.heap.size, 0, none⟩) hyl).trans hyc
    have hyl1 : W.heap.size < X1.heap.size := Nat.lt_of_lt_of_le hyl hb1.size
    obtain ⟨X2, hX2⟩ : ∃ X2, X1.alloc (.cells #[.int .i64 a0, .int .i64 (toF L x), .int .i64 a2, .int .i64 a3, .int .i64 a4, .int .i64 a5, .int .i64 a6, .int .i64 a7] 51) = X2 := ⟨_, rfl⟩
    have hbX : Below X.heap.size X X2 := by rw [← hX2]; exact below_new hb1 _
    have hbX' : Below W.heap.size X X2 := hbX.mono (by omega)
    have HBX := hidd hbX
    have HX2 := hidd hX2
    have hj2 := HJ.out pre X X2 hj hbX'
    obtain ⟨fn, tmps, assign, body, hy, hR⟩ := HY.out pre x X2 (by have := hbX.size; omega) hj2 hlt
    unfold stepV at hy
    clear hb1 hbX hbX' hX2 hj hyc
    gi_wp2_with fail
    rw [HX2.out, hy]
    gi_wp2_with fail
    refine ⟨fun h => absurd h (by simp [Fence.wide]), ?_⟩
    have hR2 : RoundIn (Fence.wide.inRound l2) (k - 1 - 1 - 1) Tryz.prog l fn tmps assign body X2 _ := roundIn_wide hR
    refine hR2.mono ?_
    have hv1 : v1.heap.size ≤ X2.heap.size := Nat.le_trans hsx HBX.out.size
    rintro e X4 ⟨hA4, (⟨rfl, hj4⟩ | ⟨rfl, hx4⟩)⟩
    · have HA4 := hidd hA4
      have HJ4 := hidd hj4
      have hyc4 : Hid (X4.cell? ⟨W.heap.size, 0, none⟩ = some (.func (.yield l) #[] #[])) := hidd ((World.cell?_of_block (a := ⟨W.heap.size, 0, none⟩) ((hA4.2 _ (Nat.le_refl _) (Nat.lt_of_lt_of_le hyl HBX.out.size)).trans (HBX.out.block _ hyl))).trans hycc.out)
      clear hA4 hj4 hR hR2 hy
      gi_wp2_with fail
      have hAA : Above W.heap.size X X4 := (Above.below HBX.out).trans HA4.out
      exact ⟨(hAA.more (by omega)).keeps, ⟨hAA.1, fun b hb cs t f e => (hAA.2 b (by omega) (Array.getElem?_eq_some_iff.1 e).1).trans e⟩, HJ4.out, hyc4.out, Nat.le_trans hv1 HA4.out.1⟩
    · have HA4 := hidd hA4
      have HX4 := hidd hx4
      clear hA4 hx4 hR hR2 hy
      gi_wp2_with fail
      have hAA : Above W.heap.size X X4 := (Above.below HBX.out).trans HA4.out
      exact ⟨(hAA.more (by omega)).keeps, rfl, HX4.out, Nat.le_trans hv1 HA4.out.1⟩
  case done =>
    rintro D xs X hD hxs ⟨hj, hyc, hsx⟩ hK
    have hfin := HYES.out (.tuple #[]) (X.putObj D (.deferred none)) (HJ.out _ X _ (by rw [← hxs]; exact hj) (putBelow _ _ (by omega)))
    refine ⟨by simp, .inl ⟨_, _, rfl, run_takeDeferred hK, ?_⟩⟩
    exact ⟨.tuple #[], by simp [results, Tryz.results106], hfin⟩
  case stop =>
    rintro D c pre X hD hSp ⟨rfl, hx, hsx⟩ hK
    have hfin := HNO.out (.tuple #[]) pre (X.putObj D (.deferred none)) hSp (HJX.out _ X _ hx (putBelow _ _ (by omega)))
    refine wpIn_wide.2 ?_
    go_wp2_with fail
    refine ⟨by simp, .inl ⟨_, _, rfl, run_takeDeferred hK, ?_⟩⟩
    exact ⟨.tuple #[], by simp [results, Tryz.results106], hfin⟩
end Go.Proofs.YtalhbjmhipiiiaaGreat.Tp
