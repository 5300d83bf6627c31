/- Maps: what goes over a node's links. -/
import Derived.Test.YtalhbjmhipiiiaaGreatTpS
import Derived.RangeFuncNested
import Derived.RangeFuncBound
import Derived.RangeFuncCalls
import Derived.RangeFuncLeaves
import Derived.RangeFuncBox
import Derived.Shelf.RegionOpen
import Derived.OwnWalkIn
import Derived.TacticsInMore
import Derived.LoopNIn
import Derived.LoopIn
namespace Go.Proofs.YtalhbjmhipiiiaaGreat.Tp
set_option linter.unusedVariables false
open Go.RowKit Go.Shelf
attribute [local go_sem] Oper.semAt_some

theorem below_grown {B : Nat} {W W' : World} (h : Below W.heap.size W W') : W.grownBy W' none := ⟨h.os, h.tape, h.output, h.size, fun k hk _ => h.block k hk⟩
theorem abides_below {β : Type} {B : Nat} {J : β → World → Prop} (hJ : AbidesFrom B J) {s : β} {W W' : World} (h : J s W) (hb : Below W.heap.size W W') : J s W' := hJ s W W' none h ⟨hb.os, hb.tape, hb.output, hb.size, fun k hk _ => hb.block k hk⟩ (fun r e => by cases e)
theorem Out_any (a : Option Addr) (node : Int) (w : World) : Calls Tryz.prog 107 #[.pointer a, .int .i64 node] w fun e w' => e = .returned (.func (.func 125) #[] #[.pointer (some ⟨w.heap.size, 0, none⟩), .pointer (some ⟨w.heap.size + 1, 0, none⟩)]) ∧ w' = (w.alloc (.cells #[.pointer a] 25)).alloc (.cells #[.int .i64 node] 3) := by
  have hmf : ∀ (fn : Fn) (first cap : Array Value) (w : World), (Instr.makeFunc fn first cap).run Tryz.prog w = .ok (.func fn first cap) w := fun _ _ _ _ => rfl
  go_enter Tryz.func107, Tryz.ntmps107
  go_wp2
  go_ret
  exact ⟨rfl, rfl⟩
set_option maxRecDepth 100000 in
set_option maxHeartbeats 4000000 in
theorem Out1_none (n n₀ N : Nat) (hn : 1 ≤ n) (q r : Nat) (v : Value) (w : World) (hv : NoneV w v) (hq : q < w.heap.size) (hc : w.cell? ⟨q, 0, none⟩ = some v) :
    SeqStopsK Fence.wide n Tryz.prog 125 #[.pointer (some ⟨q, 0, none⟩), .pointer (some ⟨r, 0, none⟩)] (fun x : Int => #[Value.int .i64 x]) (Below n₀) (fun xs => xs = []) (fun _ => False) N w := by
  intro l J Jx W hW hJ hJx hY h0
  have hc1 := (hW.cell (p := ⟨q, 0, none⟩) hq).trans hc
  have ci := hidd (fun k => isNone_no v (W.drewN k) ((hv.below hW).below (below_drewN (Below.refl _ _) k)))
  have HJ := hidd (fun k => abides_below hJ h0 (below_drewN (Below.refl W.heap.size W) k))
  clear hv hW hJ hJx hY h0 hc
  refine callsIn_of_wp Tryz.func125 rfl trivial ?_ rfl
  simp only [Tryz.ntmps125, List.size_toArray, List.length_cons, List.length_nil, Nat.reduceAdd, Nat.reduceSub, Array.replicate_succ, Array.replicate_zero, List.push_toArray, List.append_toArray, List.nil_append, List.cons_append]
  refine wpIn_wide.2 ?_
  refine wp_scope_straight ?_
  go_wp2_with fail
  go_quiet ((go_at_call 36; exact still_quiet (ci.out _)))
  go_wp2_with fail
  (try rw [Exit.noGoto_ret])
  refine bodyPost_ret (results_none rfl _ _ _) rfl ?_
  exact ⟨⟨_, rfl⟩, .inl ⟨_, rfl, HJ.out _⟩⟩
/-- what a round keeps: the cells that lie from block B on. -/
def KpC (B : Nat) (W W' : World) : Prop := W.heap.size ≤ W'.heap.size ∧ ∀ b, B ≤ b → ∀ cs t f, W.heap[b]? = some (.cells cs t f) → W'.heap[b]? = some (.cells cs t f)
theorem KpC.trans {B : Nat} {A C D : World} (h : KpC B A C) (k : KpC B C D) : KpC B A D := ⟨Nat.le_trans h.1 k.1, fun b hb cs t f e => k.2 b hb cs t f (h.2 b hb cs t f e)⟩
theorem KpC.refl (B : Nat) (W : World) : KpC B W W := ⟨Nat.le_refl _, fun _ _ _ _ _ e => e⟩
theorem KpC.put {B : Nat} (W : World) (l : Nat) (o o' : Obj) (hl : W.heap[l]? = some o) (ho : o.isCells = false) : KpC B W (W.putObj l o') := by
  refine ⟨by simp [World.putObj], fun b hb cs t f e => ?_⟩
  by_cases hbl : b = l
  · subst hbl
    rw [hl] at e
    cases e
    cases ho
  · rw [World.putObj_heap_other hbl]
    exact e
theorem KpC.set {B : Nat} (W : World) (a : Addr) (v : Value) (ha : a.block < B) : KpC B W (W.setCell a v) := ⟨by simp [World.setCell], fun b hb cs t f e => by
  rw [Below.heap_setCell _ _ _ _ (by omega)]
  exact e⟩
theorem KpC.alloc {B : Nat} (W : World) (o : Obj) : KpC B W (W.alloc o) := ⟨by simp, fun b hb cs t f e => by
  rw [Below.heap_alloc _ _ _ (Array.getElem?_eq_some_iff.1 e).1]
  exact e⟩
theorem KpC.drew {B : Nat} (W : World) : KpC B W W.drew := ⟨Nat.le_refl _, fun _ _ _ _ _ e => e⟩
theorem cell_cells {W : World} {a : Addr} {v : Value} (h : W.cell? a = some v) : ∃ cs t f, W.heap[a.block]? = some (.cells cs t f) := by
  unfold World.cell? at h
  split at h
  · rename_i e
    exact ⟨_, _, _, e⟩
  · cases h
theorem KpC.cell {B : Nat} {W W' : World} (h : KpC B W W') {a : Addr} (ha : B ≤ a.block) {v : Value} (hv : W.cell? a = some v) : W'.cell? a = some v := by
  obtain ⟨cs, t, f, e⟩ := cell_cells hv
  rw [← hv]
  exact World.cell?_of_block ((h.2 _ ha _ _ _ e).trans e.symm)
theorem Lie.kp {α : Type} {f : α → List Value} {sz : Nat} {W W' : World} {B : Nat} {A : Option Addr} {l : List α} (h : Lie f sz W W.heap.size A l) (hk : KpC B W W') (hA : ∀ ad, A = some ad → 0 < l.length → B ≤ ad.block) : Lie f sz W' W'.heap.size A l := fun hl => by
  obtain ⟨ad, e, hB, hc⟩ := h hl
  exact ⟨ad, e, Nat.lt_of_lt_of_le hB hk.1, fun i x hx j v hv => hk.cell (by rw [block_of_add]; exact hA ad e hl) (hc i x hx j v hv)⟩
theorem Lie.int {w : World} {B : Nat} {A : Option Addr} {l : List Int} (h : Lie intV 1 w B A l) (i : Nat) (hi : i < l.length) :
    ∃ ad, A = some ad ∧ ad.block < B ∧ w.cell? (ad.add i) = some (.int .i64 (av l i)) := by
  obtain ⟨ad, e, hB, hc⟩ := h (by omega)
  refine ⟨ad, e, hB, ?_⟩
  have := hc i l[i] (by simp [hi]) 0 _ rfl
  rw [av_at hi]
  simpa using this
set_option maxRecDepth 100000 in
set_option maxHeartbeats 4000000 in
theorem Out1_some (n B0 : Nat) (hn : 1 ≤ n) (q r m : Nat) (nodes : Int) (hn1 : 1 ≤ nodes) (hn2 : nodes ≤ 16) (L : List Lk) (hL : L.length ≤ 1000000) (node : Int) (hin : inB 0 node (nodes - 1) = true) (hnd : ∀ x y : NodeIx L node, tw (lkAt L x.1) = tw (lkAt L y.1) → x = y)
    (w : World) (hB0 : B0 ≤ w.heap.size) (hM : MapAt w m nodes L) (hq : q < w.heap.size) (hc : w.cell? ⟨q, 0, none⟩ = some (.pointer (some ⟨m, 0, none⟩))) (hr : r < w.heap.size) (hcr : w.cell? ⟨r, 0, none⟩ = some (.int .i64 node)) :
    SeqStopsK Fence.wide n Tryz.prog 125 #[.pointer (some ⟨q, 0, none⟩), .pointer (some ⟨r, 0, none⟩)] (fun x : Int => #[Value.int .i64 x]) (KpC B0) (fun xs => xs = outs L node) (fun pre => pre <+: outs L node) (outs L node).length w := by
  intro l J Jx W hW hJ hJx hY h0
  have hqc := (hW.cell (p := ⟨q, 0, none⟩) hq).trans hc
  have hrc := (hW.cell (p := ⟨r, 0, none⟩) hr).trans hcr
  have hMW := hM.below hW
  have hmlt : m < W.heap.size := by obtain ⟨_, _, _, h, _⟩ := hMW; exact h
  have hmc : W.cell? ⟨m, 0, none⟩ = some (.int .i64 nodes) := by obtain ⟨_, _, _, _, h, _⟩ := hMW; exact h
  have ci := hidd (fun W' (h : Below W.heap.size W W') => isNone_yes m nodes hn1 W' ((h.cell (p := ⟨m, 0, none⟩) hmlt).trans hmc))
  have ch := hidd (fun W' => has_any nodes node hn1 hn2 W')
  rw [hin] at ch
  have cf := hidd (fun W' (h : Below W.heap.size W W') => from_any m nodes L hL node hnd W' (hMW.below h))
  have hqW : q < W.heap.size := Nat.lt_of_lt_of_le hq hW.size
  have hrW : r < W.heap.size := Nat.lt_of_lt_of_le hr hW.size
  have hBW : B0 ≤ W.heap.size := Nat.le_trans hB0 hW.size
  have K1 := hidd (fun W' (hb : Below W.heap.size W W') => (show W'.cell? ⟨q, 0, none⟩ = some (.pointer (some ⟨m, 0, none⟩)) ∧ W'.cell? ⟨r, 0, none⟩ = some (.int .i64 node) ∧ W'.cell? ⟨m, 0, none⟩ = some (.int .i64 nodes) from ⟨(hb.cell (p := ⟨q, 0, none⟩) hqW).trans hqc, (hb.cell (p := ⟨r, 0, none⟩) hrW).trans hrc, (hb.cell (p := ⟨m, 0, none⟩) hmlt).trans hmc⟩))
  have HJ := hidd hJ
  have HY := hidd hY
  have H0 := hidd h0
  obtain ⟨PO, hPO⟩ : ∃ PO : Ending → World → Prop, (fun (e : Ending) (W' : World) => (∃ v, e = .returned v) ∧ ((∃ xs, xs = outs L node ∧ J xs W') ∨ ∃ pre, pre <+: outs L node ∧ Jx pre W')) = PO := ⟨_, rfl⟩
  rw [hPO]
  have HYES : Hid (∀ v W', J (outs L node) W' → PO (.returned v) W') := hidd (fun v W' h => by rw [← hPO]; exact ⟨⟨_, rfl⟩, .inl ⟨_, rfl, h⟩⟩)
  have HNO : Hid (∀ v pre W', pre <+: outs L node → Jx pre W' → PO (.returned v) W') := hidd (fun v pre W' h h2 => by rw [← hPO]; exact ⟨⟨_, rfl⟩, .inr ⟨_, h, h2⟩⟩)
  clear hW hJ hJx hY h0 hc hcr hM hMW hin hnd hPO
  refine callsIn_of_wp Tryz.func125 rfl trivial ?_ rfl
  simp only [Tryz.ntmps125, List.size_toArray, List.length_cons, List.length_nil, Nat.reduceAdd, Nat.reduceSub, Array.replicate_succ, Array.replicate_zero, List.push_toArray, List.append_toArray, List.nil_append, List.cons_append]
  refine wpIn_wide.2 ?_
  refine wp_scope_straight ?_
  go_wp2_with fail
  go_region_held3 (fun W' => W'.cell? ⟨q, 0, none⟩ = some (.pointer (some ⟨m, 0, none⟩)) ∧ W'.cell? ⟨r, 0, none⟩ = some (.int .i64 node) ∧ W'.cell? ⟨m, 0, none⟩ = some (.int .i64 nodes))
    ((first | exact K1.out _ cum1 | exact K1.out _ (Below.refl _ _) | go_keep))
    ((first
      | (go_at_call 36; refine (ci.out _ (by first | exact Below.drew (Below.refl _ _) | exact Below.refl _ _)).mono ?_; rintro E1 v1 ⟨rfl, rfl⟩)
      | (go_at_call 92; refine (ch.out _).mono ?_; rintro E1 v1 ⟨rfl, l1⟩; have cum1 : Below W.heap.size W v1 := (by first | exact below_step (Below.drew (Below.refl _ _)) l1 | exact below_step (Below.refl _ _) l1))))
  all_goals go_wp2_with fail
  refine (wpIn_wide (n := n)).1 (wpIn_label ?_)
  simp only [Exit.then]
  go_at_K
  obtain ⟨g0, g1, g2⟩ := K1.out _ cum1
  go_wp2_with fail
  refine (cf.out _ cum1).mono ?_
  rintro e w1 ⟨A, c, rfl, hl, hA, hb⟩
  have hb1 := below_step cum1 hb
  have hA' : ∀ ad, A = some ad → 0 < (outs L node).length → B0 ≤ ad.block := fun ad e h => by
    have := hA ad e h
    have := Below.size cum1
    omega
  have hol : (outs L node).length ≤ 1000000 := by
    rw [outs_len]
    have := fromK_len L node L.length
    omega
  have HJ1 : Hid (J ((outs L node).take 0) w1) := hidd (abides_below HJ.out H0.out hb1)
  have HL1 := hidd hl
  have HA := hidd hA'
  clear hl hA hA' hb hb1 g0 g1 g2 K1 ch cf
  generalize outs L node = OU at *
  go_wp2_with fail
  refine (wpIn_wide (n := n)).1 ?_
  gi_loopw [21] (fun s21 wr => ∃ k : Nat, k ≤ OU.length ∧ s21 = .int .i64 (k : Int) ∧ J (OU.take k) wr ∧ Lie intV 1 wr wr.heap.size A OU) (fun s21 _ => OU.length - (intOf s21).toNat)
  case atStart => exact ⟨0, Nat.zero_le _, rfl, HJ1.out, HL1.out⟩
  case round =>
    obtain ⟨k, hk, rfl, hJk, hlk⟩ := hrel
    have HJK := hidd hJk
    have HLK := hidd hlk
    clear hJk hlk
    by_cases hlt : k < OU.length
    · have hlt2 : (k : Int) < (OU.length : Int) := by omega
      have hk0 : (0 : Int) ≤ (k : Int) := by omega
      obtain ⟨ad, rfl, hadb, hcell⟩ := HLK.out.int k hlt
      have htk := hidd (take_oneB hlt)
      have hlk : (OU.take k).length < OU.length := by rw [List.length_take]; omega
      obtain ⟨fn, tmps, assign, body, hy, hR⟩ := HY.out (OU.take k) (av OU k) wr HJK.out hlk
      clear hlk
      generalize av OU k = x at *
      gi_wp2_with fail
      refine hR.mono ?_
      rintro e W4 (⟨rfl, hJ4, hk4⟩ | ⟨rfl, hJx⟩)
      · have HJ4 : Hid (J (OU.take (k + 1)) W4) := hidd (by rw [htk.out]; exact hJ4)
        have HL4 := hidd (HLK.out.kp hk4 HA.out)
        clear hJ4 hk4 hy hR hcell
        gi_wp2
        go_roundw
        case rel => exact ⟨k + 1, by omega, by go_num, HJ4.out, HL4.out⟩
        case measure => simp [intOf]; omega
      · have HJx : Hid (Jx (OU.take (k + 1)) W4) := hidd (by rw [htk.out]; exact hJx)
        clear hJx hy hR hcell
        gi_wp2
        have hfin := fun v => HNO.out v _ _ (List.take_prefix _ _) HJx.out
        (try rw [Exit.noGoto_ret])
        first | exact hfin _ | exact bodyPost_ret (results_none rfl _ _ _) rfl (hfin _)
    · have hlt2 : ¬ (k : Int) < (OU.length : Int) := by omega
      have he : Hid (OU.take k = OU) := hidd (List.take_of_length_le (by omega))
      gi_wp2
      have hfin : ∀ v, PO (.returned v) wr := fun v => HYES.out v _ (by rw [← he.out]; exact HJK.out)
      first | exact hfin _ | (go_end0; exact hfin _)
theorem eqIn_nilFunc (f : Fn) (fs cs : Array Value) (d : Nat) (w : World) : (Op.equalIn (d + 1) 162 (.func f fs cs) .nilFunc).run Tryz.prog w = .ok false w := by
  simp [Op.equalIn, run_underlying Tryz.underlying162]
theorem eq_nilFunc (f : Fn) (fs cs : Array Value) (w : World) : (binOp .eql 162 (.func f fs cs) .nilFunc).run Tryz.prog w = .ok (.bool false) w := by
  simp only [binOp]
  simp [Op.equal, Op.maxDepth, eqIn_nilFunc f fs cs 9999 w]
end Go.Proofs.YtalhbjmhipiiiaaGreat.Tp
