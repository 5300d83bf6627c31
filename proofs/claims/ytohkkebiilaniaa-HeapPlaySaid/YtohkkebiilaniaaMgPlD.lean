/- Texts that the claim hangs on, in one. -/
import Derived.Test.YtohkkebiilaniaaMgPlA
import Derived.Test.YtohkkebiilaniaaMgPlR
import Derived.Test.YtohkkebiilaniaaMgPlB
import Derived.Test.YtohkkebiilaniaaMgPlC
import Derived.Maps.AppendAt
import Derived.StillTailTactics
import Derived.Laws.Tables
import Derived.Laws.CopyOwn
/- Heaps: all items, in order. -/
namespace Go.Proofs.Ytohkkebiilaniaa.Hp
set_option linter.unusedVariables false
open Go.RowKit Go.Maps Go.Sort Go.Shelf Go.Proofs.Ytohkkebiilaniaa.Tp
attribute [local go_sem] Oper.semAt_some

theorem itemInfo : (Try.prog.info? 37).map (fun i => (i.zero, i.size, i.bytes)) = some (some (.agg #[.int .i64 0, .int .i64 0, .int .i64 0, .int .i64 0]), 4, 32) := by kernel_rfl
theorem info_parts4 {P : Program} {t : TypeId} {z : Value} {n b : Nat} (h : (P.info? t).map (fun i => (i.zero, i.size, i.bytes)) = some (some z, n, b)) : ∃ i, P.info? t = some i ∧ i.zero = some z ∧ i.size = n ∧ i.bytes = b := by
  cases hi : P.info? t with
  | none => rw [hi] at h; cases h
  | some i => rw [hi] at h; simp at h; exact ⟨i, rfl, h.1, h.2.1, h.2.2⟩
theorem cell_four_new (w : World) (x y z u : Value) (t : TypeId) : ∀ j a, [x, y, z, u][j]? = some a → (w.alloc (.cells #[x, y, z, u] t)).cell? ((⟨w.heap.size, 0, none⟩ : Addr).add j) = some a := by
  intro j a hj
  match j, hj with
  | 0, hj => simp at hj; subst hj; simp [Addr.add, go_sem]
  | 1, hj => simp at hj; subst hj; simp [Addr.add, go_sem]
  | 2, hj => simp at hj; subst hj; simp [Addr.add, go_sem]
  | 3, hj => simp at hj; subst hj; simp [Addr.add, go_sem]
/-- a box that holds an item. -/
def ItemBox (W : World) (b : Nat) (x : It) : Prop := b < W.heap.size ∧ Cells4 W b x
theorem ItemBox.kept2 {X Y : World} {b : Nat} {x : It} {row : Option Nat} (h : ItemBox X b x) (hg : X.grownBy Y row) (hr : ∀ r, row = some r → ∃ o : Obj, X.heap[r]? = some o ∧ o.isCells = false) : ItemBox Y b x :=
  ⟨Nat.lt_of_lt_of_le h.1 hg.size, cell_kept h.2.1 hg hr, cell_kept h.2.2.1 hg hr, cell_kept h.2.2.2.1 hg hr, cell_kept h.2.2.2.2 hg hr⟩
theorem ItemBox.new (w : World) (t : TypeId) (x : It) : ItemBox (w.alloc (.cells #[.int .i64 (iD x), .int .i64 (kN x), .int .i64 (kD x), .int .i64 (tN x)] t)) w.heap.size x := ⟨by simp, by simp [go_sem], by simp [go_sem], by simp [go_sem], by simp [go_sem]⟩
set_option maxRecDepth 100000 in
set_option maxHeartbeats 4000000 in
theorem append_items (q h mb : Nat) (v0 : Value) (L : List It) (T : Int) (D : DataW Unit) (w : World) (H : HpAt w h mb v0 L T D) (hl : L.length ≤ 100000) (hq : q < w.heap.size) (hc : w.cell? ⟨q, 0, none⟩ = some (.pointer (some ⟨h, 0, none⟩))) :
    Calls Try.prog 59 #[.slice none 0 0, .func (.func 46) #[] #[.pointer (some ⟨q, 0, none⟩)]] w fun e w' => ∃ v', e = .returned v' ∧ OwnL itV 4 w' w.heap.size 37 v' L ∧ Below w.heap.size w w' := by
  obtain ⟨i0, hi, hz0, hz1, hz2⟩ := info_parts4 itemInfo
  have HIT := hidd (fun W (hW : Below w.heap.size w W) => each1_some (6 - 1) (by omega) q h mb v0 L T D w W H (by omega) hq hc hW)
  clear hc H hq
  refine (callsIn_wide (n := 6)).1 ?_
  refine callsIn_of_wp_marks Try.func59 rfl trivial ?_ rfl
  simp only [Try.ntmps59, List.size_toArray, List.length_cons, List.length_nil, Nat.reduceAdd, Nat.reduceSub, Array.replicate_succ, Array.replicate_zero, List.push_toArray, List.append_toArray, List.nil_append, List.cons_append]
  gi_wp2
  have bL := Boxed.new w 26 (.slice none 0 0)
  have hB0 : Below w.heap.size w (w.alloc (.cells #[.slice none 0 0] 26)) := (Below.refl _ w).alloc (Nat.le_refl _) _
  refine wpIn_rangeFunc_ownH rfl (by omega) (gf := 46) (lb := #[.pointer (some ⟨q, 0, none⟩)]) rfl trivial (enters_of Try.func46 (by kernel_rfl) rfl)
    (HIT.out _ hB0) belowK_t (belowK_b (by (first | omega | (simp; done) | (simp; omega)))) (Below.refl _ _) (fun _ => rfl)
    (fun pre W => (∃ v, Boxed W w.heap.size 26 v ∧ W.ownsRow w.heap.size 37 4 v pre.length (rowOf itV pre) ∧ True) ∧ Below w.heap.size w W)
    (fun _ _ _ => False)
    (OwnFrom.and (Own.from (holdsRow_own w.heap.size w.heap.size 26 37 4 (fun pre => pre.length) (fun pre => rowOf itV pre) (fun _ _ => True)) _) (ownFrom_below (Nat.le_refl _) (by (first | omega | (simp; done) | (simp; omega)))))
    (fun _ _ _ _ _ hs _ _ => hs)
    ⟨⟨_, bL, World.ownsRow_nil _ _ _ _, trivial⟩, hB0⟩
    (fun x a' W => ∃ Bx, w.heap.size < Bx ∧ ItemBox W Bx x ∧ a' = { tmps := #[.slice none 0 0, .func (.func 46) #[] #[.pointer (some ⟨q, 0, none⟩)], .pointer (some ⟨w.heap.size, 0, none⟩), undef, .slice none 0 0, .pointer (some ⟨Bx, 0, none⟩), .func (.func 46) #[] #[.pointer (some ⟨q, 0, none⟩)], .agg #[.int .i64 (iD x), .int .i64 (kN x), .int .i64 (kD x), .int .i64 (tN x)], undef, undef, undef, undef, undef], defers := [] })
    (fun x a' _ X Y row hs hg hr => by obtain ⟨Bx, h1, h2, h3⟩ := hs; exact ⟨Bx, h1, h2.kept2 hg (fun r e => (hr r e).2), h3⟩)
    ?assign ?body ?done ?stop
  case assign =>
    rintro l pre x W K ⟨⟨v, hv, hrow, _⟩, hB⟩ hK
    unfold agI
    gi_wp2
    exact hK _ _ ((KeepsOthers.alloc _ _).from _) ((Below.refl _ W).alloc hB.size _) ⟨⟨_, hv.alloc _, hrow.alloc _, trivial⟩, hB.alloc hB.size _⟩ ⟨W.heap.size, hv.lt, ItemBox.new W _ _, rfl⟩
  case body =>
    rintro l pre x a' W hl' ⟨r, hr⟩ ⟨⟨v, hv, hrow, _⟩, hB⟩ ⟨Bx, hBx, ⟨hb, x0, x1, x2, x3⟩, rfl⟩ hlt
    have hcv := hv.cell
    have hp : pre.length < 1000000 := by omega
    have hx := hidd (it_eta x)
    generalize iD x = a0 at *
    generalize kN x = a1 at *
    generalize kD x = a2 at *
    generalize tN x = a3 at *
    gi_wp2_with (gi_at_builtin; refine wpListIn_append_own _ rfl _ _ 26 rfl w.heap.size 37 i0 (.agg #[.int .i64 0, .int .i64 0, .int .i64 0, .int .i64 0]) 4 32 Try.underlying26 hi hz0 hz1 hz2 rfl (by decide) _ _ _ rfl (hrow.alloc _) ⟨W.heap.size, 0, none⟩ 1 1 [.int .i64 a0, .int .i64 a1, .int .i64 a2, .int .i64 a3] rfl rfl (cell_four_new _ _ _ _ _ _) (by simp [Value.oneCell']) (by unfold maxLen; omega) (by omega) (by have := hB.size; simp; omega) ?_; intro v' w1 hown' hgrow _; obtain ⟨g', cap', rfl⟩ := ownsRow_succ hown'; obtain ⟨hv1, hv2, hr2, hk2, hb2⟩ := hv.appended (by decide) hrow hB.size (Nat.le_refl _) hown' hgrow; have hc1 := hv1.cell; have hf1 := hv1.frozen)
    have hr3 : OwnL itV 4 _ w.heap.size 37 _ (pre ++ [(a0, a1, a2, a3)]) := OwnL.snoc (f := itV) (L := pre) (x := (a0, a1, a2, a3)) hr2 rfl rfl
    rw [hx.out]
    exact ⟨hk2.from _, hb2, And.intro ⟨_, hv2, hr3, trivial⟩ (hB.trans hb2)⟩
  case done =>
    rintro D ys W hD rfl ⟨⟨v, hv, hrow, _⟩, hB⟩ hK
    have hcv := hv.cell
    obtain ⟨A, c, rfl, _, _, _⟩ := OwnL.lie (f := itV) (L := ys) hrow itV_len
    have HO : Hid (OwnL itV 4 W w.heap.size 37 (.slice A ys.length c) ys) := hidd hrow
    have HB := hidd hB
    have HK := hidd hK
    clear hrow hv hB hK
    gi_wp2
    refine ⟨by simp, .inl ⟨_, _, rfl, run_takeDeferred HK.out, ?_⟩⟩
    exact ⟨_, results_tmp rfl _ _ _, .slice A ys.length c, rfl, ownsRow_putObj HO.out _ HK.out rfl, HB.out.trans (belowK_b (w := w) (Nat.le_refl _) W D _ _ (by simp at hD; omega) HK.out rfl rfl)⟩
  case stop =>
    rintro D c pre W _ _ h _
    exact h.elim
theorem collect_items (q h mb : Nat) (v0 : Value) (L : List It) (T : Int) (D : DataW Unit) (w : World) (H : HpAt w h mb v0 L T D) (hl : L.length ≤ 100000) (hq : q < w.heap.size) (hc : w.cell? ⟨q, 0, none⟩ = some (.pointer (some ⟨h, 0, none⟩))) :
    Calls Try.prog 44 #[.func (.func 46) #[] #[.pointer (some ⟨q, 0, none⟩)]] w fun e w' => ∃ A c, e = .returned (.slice A L.length c) ∧ OwnL itV 4 w' w.heap.size 37 (.slice A L.length c) L ∧ Below w.heap.size w w' := by
  have C := hidd (append_items q h mb v0 L T D w H hl hq hc)
  clear hq hc H hl
  go_enter Try.func44, Try.ntmps44
  go_wp2_with fail
  refine C.out.mono ?_
  rintro e w' ⟨v', rfl, ho, hb⟩
  obtain ⟨A, c, rfl, _, _, _⟩ := OwnL.lie ho itV_len
  have HO := hidd ho
  clear ho
  go_wp2_with fail
  go_ret
  exact ⟨A, c, rfl, HO.out, hb⟩
theorem sorted_items (q h mb : Nat) (v0 : Value) (L : List It) (T : Int) (D : DataW Unit) (w : World) (H : HpAt w h mb v0 L T D) (hok : OkL L) (hl : L.length ≤ 100000) (hq : q < w.heap.size) (hc : w.cell? ⟨q, 0, none⟩ = some (.pointer (some ⟨h, 0, none⟩))) :
    Calls Try.prog 31 #[.func (.func 46) #[] #[.pointer (some ⟨q, 0, none⟩)], .func (.func 20) #[] #[]] w fun e w' => ∃ A c G, e = .returned (.slice A G.length c) ∧ G.Perm L ∧ Srt G ∧ OwnL itV 4 w' w.heap.size 37 (.slice A G.length c) G ∧ Below w.heap.size w w' := by
  have C := hidd (collect_items q h mb v0 L T D w H hl hq hc)
  have cs0 := hidd (fun p c W => AnyF.slices_SortFunc_none Try.sortItem0 p c (.func (.func 20) #[] #[]) W)
  change Hid (∀ p c W, Calls Try.prog 45 _ _ _) at cs0
  have cs1 := hidd (fun g cap W hO => sortsItems g cap w.heap.size L hok W (by omega) hO)
  clear hq hc H hok hl
  go_enter Try.func31, Try.ntmps31
  go_wp2_with fail
  refine C.out.mono ?_
  rintro e w1 ⟨A, c, rfl, ho, hb⟩
  have HO := hidd ho
  have HB := hidd hb
  clear hb
  by_cases hz : L = []
  · subst hz
    clear ho
    go_wp2_with fail
    refine (cs0.out _ _ _).mono ?_
    rintro e w2 ⟨rfl, rfl⟩
    go_wp2_with fail
    go_ret
    exact ⟨A, c, [], rfl, List.Perm.refl _, List.Pairwise.nil, HO.out, HB.out⟩
  · obtain ⟨m, hm⟩ : ∃ m, L.length = m + 1 := ⟨L.length - 1, by have := List.length_pos_iff.2 hz; omega⟩
    have ho2 := ho
    unfold OwnL at ho2
    rw [hm] at ho2
    obtain ⟨g, cap, e⟩ := ownsRow_succ ho2
    cases e
    have CS := hidd (cs1.out g c w1 ho)
    obtain ⟨hg0, _⟩ := OwnL.lt HO.out g rfl
    have HG := hidd hg0
    clear ho ho2 hm hg0
    generalize hN : L.length = N at *
    have HN := hidd hN
    clear hN
    go_wp2_with fail
    refine CS.out.mono ?_
    rintro e w2 ⟨rfl, ⟨G, hp, hs, hO2⟩, hg⟩
    have HF := hidd (show G.length = N ∧ G.Perm L ∧ Srt G ∧ OwnL itV 4 w2 w.heap.size 37 (.slice (some ⟨g, 0, none⟩) G.length c) G ∧ Below w.heap.size w w2 from ⟨hp.length_eq.trans HN.out, hp, hs, hO2, HB.out.grown hg HB.out.size (fun k e => by cases e; exact HG.out)⟩)
    clear hp hs hO2 hg
    go_wp2_with fail
    go_ret
    obtain ⟨f0, f1, f2, f3, f4⟩ := HF.out
    exact ⟨some ⟨g, 0, none⟩, c, G, by rw [f0]; rfl, f1, f2, f3, f4⟩
theorem all_items {R : Nat → Prop} {h : Nat} {M : List It} {T : Int} (w : World) (H : HR R w h M T) :
    Calls Try.prog 12 #[.pointer (some ⟨h, 0, none⟩)] w fun e w' => ∃ q A c G, e = .returned (.func (.func 43) #[] #[.pointer (some ⟨q, 0, none⟩)]) ∧ G.Perm M ∧ Srt G ∧ OwnL itV 4 w' w.heap.size 37 (.slice A G.length c) G ∧ w'.cell? ⟨q, 0, none⟩ = some (.slice A G.length c) ∧ w.heap.size ≤ q ∧ q < w'.heap.size ∧ Below w.heap.size w w' := by
  obtain ⟨ht, mb, v, L, D, p, hH, hR⟩ := H
  have c1 := hidd (fun W => each_any (some ⟨h, 0, none⟩) W)
  have c2 := hidd (fun W (hb : Below w.heap.size w W) q (hq : q < W.heap.size) (hc : W.cell? ⟨q, 0, none⟩ = some (.pointer (some ⟨h, 0, none⟩))) => sorted_items q h mb v L T D W (hH.at_.below hb) hH.ok hH.lm hq hc)
  have c3 := hidd (fun A n c W => values_any (.slice A n c) ⟨_, _, _, rfl⟩ W)
  have P := hidd p
  clear ht hH hR p
  go_enter Try.func12, Try.ntmps12
  go_wp2_with fail
  refine (c1.out _).mono ?_
  rintro e w1 ⟨rfl, h1⟩
  have B1 := hidd (h1 ▸ below_new (Below.refl _ _) _ : Below w.heap.size w w1)
  have s1 : w.heap.size < w1.heap.size := by rw [h1]; simp
  have x1 : w1.cell? ⟨w.heap.size, 0, none⟩ = some (.pointer (some ⟨h, 0, none⟩)) := by rw [h1]; simp [go_sem]
  clear h1
  go_wp2_with fail
  refine (c2.out _ B1.out _ s1 x1).mono ?_
  rintro e w2 ⟨A, c, G, rfl, hp, hs, ho, h2⟩
  have B2 := hidd (B1.out.trans (h2.mono B1.out.size))
  have F := hidd (show G.Perm M ∧ Srt G ∧ OwnL itV 4 w2 w.heap.size 37 (.slice A G.length c) G from ⟨hp.trans P.out, hs, by
    obtain ⟨h0, h1⟩ := ho
    refine ⟨h0, ?_⟩
    rcases h1 with h | ⟨g, cap, cur, e1, e2, e3⟩
    · exact .inl h
    · exact .inr ⟨g, cap, cur, e1, by omega, e3⟩⟩)
  clear h2 x1 s1 hp hs ho
  generalize hN : G.length = N at *
  have HN := hidd hN
  clear hN
  go_wp2_with fail
  refine (c3.out _ _ _ _).mono ?_
  rintro e w3 ⟨rfl, h3⟩
  have B3 := hidd (h3 ▸ below_new B2.out _ : Below w.heap.size w w3)
  have B23 := hidd (h3 ▸ below_new (Below.refl _ _) _ : Below w2.heap.size w2 w3)
  have s3 : w2.heap.size < w3.heap.size := by rw [h3]; simp
  have x3 : w3.cell? ⟨w2.heap.size, 0, none⟩ = some (.slice A N c) := by rw [h3]; simp [go_sem]
  clear h3
  go_wp2_with fail
  go_ret
  obtain ⟨f1, f2, f3⟩ := F.out
  obtain rfl := HN.out
  exact ⟨w2.heap.size, A, c, G, rfl, f1, f2, f3.below B23.out, x3, B2.out.size, s3, B3.out⟩
end Go.Proofs.Ytohkkebiilaniaa.Hp

/- Heaps: going over a list of items. -/
namespace Go.Proofs.Ytohkkebiilaniaa.Hp
set_option linter.unusedVariables false
open Go.RowKit Go.Maps Go.Sort Go.Shelf Go.Proofs.Ytohkkebiilaniaa.Tp
attribute [local go_sem] Oper.semAt_some

set_option maxRecDepth 100000 in
set_option maxHeartbeats 4000000 in
theorem values1_some (n : Nat) (hn : 1 ≤ n) (q : Nat) (A : Option Addr) (c : Nat) (L : List It) (w0 w : World) (hlc : L.length ≤ c) (hcm : c ≤ maxLen) (hA : Lie itV 4 w0 w0.heap.size A L) (hq : q < w0.heap.size) (hc : w0.cell? ⟨q, 0, none⟩ = some (.slice A L.length c)) (hw : Below w0.heap.size w0 w) :
    SeqStopsK Fence.wide n Try.prog 43 #[.pointer (some ⟨q, 0, none⟩)] (fun x : It => #[agI x]) (Below w0.heap.size) (fun xs => xs = L) (fun pre => pre <+: L) L.length w := by
  have hL0 : L.length ≤ 9223372036854775807 := by unfold maxLen at hcm; omega
  intro l J Jx W hW hJ hJx hY h0
  have hB0 : Below w0.heap.size w0 W := hw.trans (hW.mono hw.size)
  have FAC := hidd (fun W' (b : Below w0.heap.size w0 W') => (show W'.cell? ⟨q, 0, none⟩ = some (.slice A L.length c) ∧ Lie itV 4 W' w0.heap.size A L from ⟨(b.cell (p := ⟨q, 0, none⟩) hq).trans hc, hA.keep b⟩))
  have HB0 := hidd hB0
  have HJ : Hid (∀ (s : List It) (W1 W2 : World), Below w0.heap.size w0 W1 → J s W1 → Below W1.heap.size W1 W2 → J s W2) := hidd (fun s W1 W2 b h1 h2 => abides_below hJ h1 h2)
  have HY := hidd hY
  have H0 := hidd h0
  obtain ⟨PO, hPO⟩ : ∃ PO : Ending → World → Prop, (fun (e : Ending) (W' : World) => (∃ v, e = .returned v) ∧ ((∃ xs, xs = L ∧ J xs W') ∨ ∃ pre, pre <+: L ∧ Jx pre W')) = PO := ⟨_, rfl⟩
  rw [hPO]
  have HYES : Hid (∀ v W', J L W' → PO (.returned v) W') := hidd (fun v W' h => by rw [← hPO]; exact ⟨⟨_, rfl⟩, .inl ⟨_, rfl, h⟩⟩)
  have HNO : Hid (∀ v pre W', pre <+: L → Jx pre W' → PO (.returned v) W') := hidd (fun v pre W' h h2 => by rw [← hPO]; exact ⟨⟨_, rfl⟩, .inr ⟨_, h, h2⟩⟩)
  clear hW hJ hJx hY h0 hc hw hB0 hA hPO hq
  obtain ⟨g0, _⟩ := FAC.out W HB0.out
  refine callsIn_of_wp Try.func43 rfl trivial ?_ rfl
  simp only [Try.ntmps43, List.size_toArray, List.length_cons, List.length_nil, Nat.reduceAdd, Nat.reduceSub, Array.replicate_succ, Array.replicate_zero, List.push_toArray, List.append_toArray, List.nil_append, List.cons_append]
  refine wpIn_wide.2 ?_
  go_wp2_with fail
  clear g0
  refine (wpIn_wide (n := n)).1 ?_
  gi_loopw [7] (fun s7 wr => ∃ k : Nat, k ≤ L.length ∧ s7 = .int .i64 (k : Int) ∧ J (L.take k) wr ∧ Below w0.heap.size w0 wr) (fun s7 _ => L.length - (intOf s7).toNat)
  case atStart => exact ⟨0, Nat.zero_le _, rfl, by simpa using H0.out, HB0.out⟩
  case round =>
    obtain ⟨k, hk, rfl, hJk, hbk⟩ := hrel
    have HJK := hidd hJk
    have HBK := hidd hbk
    clear hJk hbk
    obtain ⟨_, hL⟩ := FAC.out wr HBK.out
    by_cases hlt : k < L.length
    · have hlt2 : (k : Int) < (L.length : Int) := by omega
      have hk0 : (0 : Int) ≤ (k : Int) := by omega
      obtain ⟨ad, rfl, hadb, hc0, hc1, hc2, hc3⟩ := Lie.it4 hL k hlt
      have htk := hidd (take_oneI hlt)
      have hlk : (L.take k).length < L.length := by rw [List.length_take]; omega
      obtain ⟨Wb, hWb⟩ : ∃ Wb, wr.alloc (.cells #[.int .i64 (iD (gI L k)), .int .i64 (kN (gI L k)), .int .i64 (kD (gI L k)), .int .i64 (tN (gI L k))] 37) = Wb := ⟨_, rfl⟩
      have hJb : J (L.take k) Wb := HJ.out _ wr Wb HBK.out HJK.out (hWb ▸ below_new (Below.refl _ _) _)
      have HBb := hidd (hWb ▸ below_new HBK.out _ : Below w0.heap.size w0 Wb)
      obtain ⟨fn, tmps, assign, body, hy, hR⟩ := HY.out (L.take k) (gI L k) Wb hJb hlk
      clear hlk hL hJb
      rw [← hWb] at hy
      unfold agI at hy
      have HW := hidd hWb
      clear hWb
      generalize hgx : gI L k = x at *
      generalize iD x = a0 at *
      generalize kN x = a1 at *
      generalize kD x = a2 at *
      generalize tN x = a3 at *
      gi_wp2_with fail
      rw [HW.out]
      refine hR.mono ?_
      rintro e W4 (⟨rfl, hJ4, hk4⟩ | ⟨rfl, hJx⟩)
      · have HJ4 : Hid (J (L.take (k + 1)) W4) := hidd (by rw [htk.out]; exact hJ4)
        have HB4 := hidd (HBb.out.trans hk4)
        clear hJ4 hk4 hy hR hc0 hc1 hc2 hc3
        gi_wp2
        go_roundw
        case rel => exact ⟨k + 1, by omega, by go_num, HJ4.out, HB4.out⟩
        case measure => simp [intOf]; omega
      · have HJx : Hid (Jx (L.take (k + 1)) W4) := hidd (by rw [htk.out]; exact hJx)
        clear hJx hy hR hc0 hc1 hc2 hc3
        gi_wp2
        have hfin := fun v => HNO.out v _ _ (List.take_prefix _ _) HJx.out
        (try rw [Exit.noGoto_ret])
        first | exact hfin _ | exact bodyPost_ret (results_none rfl _ _ _) rfl (hfin _)
    · have hlt2 : ¬ (k : Int) < (L.length : Int) := by omega
      have he : Hid (L.take k = L) := hidd (List.take_of_length_le (by omega))
      gi_wp2
      have hfin : ∀ v, PO (.returned v) wr := fun v => HYES.out v _ (by rw [← he.out]; exact HJK.out)
      first | exact hfin _ | exact ⟨rfl, _, results_none rfl _ _ _, hfin _⟩ | (go_end0; exact hfin _)
end Go.Proofs.Ytohkkebiilaniaa.Hp

/- Heaps: what the heap's calls and the document's do agree, where the list is the items in order. -/
namespace Go.Proofs.Ytohkkebiilaniaa.Hp
set_option linter.unusedVariables false
open Go.RowKit Go.Maps Go.Sort Go.Proofs.Ytohkkebiilaniaa.Tp

/-- the list is the heap's items, in order. -/
structure Agr (M : List It) (T : Int) (G : List It) (TG : Int) : Prop where
  p : G.Perm M
  s : Srt G
  t : TG = T
theorem Srt.at_ {G : List It} (h : Srt G) {i j : Nat} (hij : i < j) (hj : j < G.length) : Le (gI G i) (gI G j) := by
  rw [gI_at (by omega), gI_at hj]
  exact List.pairwise_iff_getElem.1 h i j (by omega) hj hij
theorem Has.perm {G M : List It} (p : G.Perm M) (id : Int) : Has G id ↔ Has M id := by
  unfold Has
  constructor
  · rintro ⟨x, hx, e⟩; exact ⟨x, p.mem_iff.1 hx, e⟩
  · rintro ⟨x, hx, e⟩; exact ⟨x, p.mem_iff.2 hx, e⟩
theorem mem_gI2 {G : List It} {i : Nat} (h : i < G.length) : gI G i ∈ G := by rw [gI_at h]; exact List.getElem_mem h
theorem putA_srt {G : List It} {x : It} {k : Nat} (hs : Srt G) (hG : ∀ y ∈ G, 0 < kD y) (hx : 0 < kD x) (h : At G x k) : Srt (putA G x k) := by
  obtain ⟨hk, h1, h2⟩ := h
  unfold Srt putA
  rw [List.pairwise_append]
  refine ⟨hs.sublist (List.take_sublist _ _), ?_, ?_⟩
  · rw [List.pairwise_cons]
    refine ⟨fun y hy => ?_, hs.sublist (List.drop_sublist _ _)⟩
    obtain ⟨j, hj, rfl⟩ := List.getElem_of_mem hy
    rw [List.getElem_drop]
    have hj' : k + j < G.length := by rw [List.length_drop] at hj; omega
    have h3 := h2 (by omega)
    rw [← gI_at hj']
    rcases Nat.eq_zero_or_pos j with rfl | hj0
    · exact le_of_lt h3
    · exact le_trans hx (hG _ (mem_gI2 (by omega))) (hG _ (mem_gI2 hj')) (le_of_lt h3) (hs.at_ (by omega) hj')
  · intro a ha b hb
    obtain ⟨i, hi, rfl⟩ := List.getElem_of_mem ha
    rw [List.getElem_take]
    have hi' : i < k := by rw [List.length_take] at hi; omega
    have hai : Le (gI G i) x := h1 i hi'
    rw [← gI_at (by omega)]
    rcases List.mem_cons.1 hb with rfl | hb
    · exact hai
    · obtain ⟨j, hj, rfl⟩ := List.getElem_of_mem hb
      rw [List.getElem_drop]
      have hj' : k + j < G.length := by rw [List.length_drop] at hj; omega
      rw [← gI_at hj']
      exact hs.at_ (by omega) hj'
theorem wo_srt {G : List It} (hs : Srt G) (n : Nat) : Srt (wo G n) := by
  unfold Srt wo
  have : (G.take n ++ G.drop (n + 1)).Sublist G := by
    have e := List.take_append_drop n G
    have d : (G.drop (n + 1)).Sublist (G.drop n) := by
      rw [show n + 1 = n + 1 from rfl, ← List.drop_drop]
      exact List.drop_sublist _ _
    have := (List.Sublist.refl (G.take n)).append d
    rwa [e] at this
  exact hs.sublist this
theorem wo_perm {G : List It} {n : Nat} (h : n < G.length) : (wo G n).Perm (G.erase (gI G n)) := by
  have h1 : G.Perm (gI G n :: wo G n) := by
    have e := List.take_append_drop n G
    have d : G.drop n = gI G n :: G.drop (n + 1) := by rw [gI_at h]; exact List.drop_eq_getElem_cons h
    unfold wo
    have : (G.take n ++ gI G n :: G.drop (n + 1)).Perm (gI G n :: (G.take n ++ G.drop (n + 1))) := List.perm_middle
    rw [← d, e] at this
    exact this
  have h2 := h1.erase (gI G n)
  rw [List.erase_cons_head] at h2
  exact h2.symm
theorem may_pos {id n d : Int} (h : mayB id n d = true) : 0 < d := by
  have := ((mayB_iff _ _ _).1 h).2.2
  simp [rightB] at this
  omega
section
variable {R : Nat → Prop} {W : World} {h : Nat} {M M' G G' : List It} {T T' TG TG' : Int} {B : Bool} {id n d : Int}
theorem agr_1 (H : HR R W h M T) (A : Agr M T G TG) (s : Step1 id n d M T M' T' G TG G' TG' B) : B = true ∧ Agr M' T' G' TG' := by
  obtain ⟨p, hs, rfl⟩ := A
  have hpos : ∀ y ∈ G, 0 < kD y := fun y hy => (H.ok y (p.mem_iff.1 hy)).pos
  obtain ⟨er, eg, h1, h2, rfl⟩ := s
  rcases h1 with ⟨m1, rfl, rfl, rfl⟩ | ⟨m1, q1, rfl, rfl, rfl⟩ | ⟨m1, q1, rfl, rfl, rfl⟩ <;> rcases h2 with ⟨m2, rfl, rfl, rfl⟩ | ⟨m2, q2, rfl, rfl, rfl⟩ | ⟨m2, q2, ⟨k, hk, rfl⟩, rfl, rfl⟩
  · exact ⟨rfl, p, hs, rfl⟩
  · rw [m1] at m2; cases m2
  · rw [m1] at m2; cases m2
  · rw [m1] at m2; cases m2
  · exact ⟨rfl, p, hs, rfl⟩
  · exact absurd ((Has.perm p id).2 q1) q2
  · rw [m1] at m2; cases m2
  · exact absurd ((Has.perm p id).1 q2) q1
  · exact ⟨rfl, (putA_perm _ _ _).trans (p.append_right _), putA_srt hs hpos (may_pos m1) hk, rfl⟩
theorem agr_2 (H : HR R W h M T) (A : Agr M T G TG) (s : Step2 id n d M T M' T' G TG G' TG' B) : B = true ∧ Agr M' T' G' TG' := by
  obtain ⟨p, hs, rfl⟩ := A
  have hpos : ∀ y ∈ G, 0 < kD y := fun y hy => (H.ok y (p.mem_iff.1 hy)).pos
  obtain ⟨rfl, rfl, er, eg, h1, h2, rfl⟩ := s
  rcases h1 with ⟨m1, rfl, rfl⟩ | ⟨m1, q1, rfl, rfl⟩ | ⟨m1, x, hx, ex, rfl, rfl⟩ <;> rcases h2 with ⟨m2, rfl, rfl⟩ | ⟨m2, q2, rfl, rfl⟩ | ⟨m2, ⟨i, k, hi, ei, hk, rfl⟩, rfl⟩
  · exact ⟨rfl, p, hs, rfl⟩
  · rw [m1] at m2; cases m2
  · rw [m1] at m2; cases m2
  · rw [m1] at m2; cases m2
  · exact ⟨rfl, p, hs, rfl⟩
  · exact absurd ((Has.perm p id).1 ⟨_, mem_gI2 hi, ei⟩) q1
  · rw [m1] at m2; cases m2
  · exact absurd ((Has.perm p id).2 ⟨x, hx, ex⟩) q2
  · have e : gI G i = x := H.ids (p.mem_iff.1 (mem_gI2 hi)) hx (ei.trans ex.symm)
    subst e
    have pw : (wo G i).Perm (M.erase (gI G i)) := (wo_perm hi).trans (p.erase _)
    have hpw : ∀ y ∈ wo G i, 0 < kD y := fun y hy => hpos y (List.mem_of_mem_erase ((wo_perm hi).mem_iff.1 hy))
    exact ⟨rfl, (putA_perm _ _ _).trans (pw.append_right _), putA_srt (wo_srt hs i) hpw (may_pos m1) hk, rfl⟩
theorem agr_3 (H : HR R W h M T) (A : Agr M T G TG) (s : Step3 id M T M' T' G TG G' TG' B) : B = true ∧ Agr M' T' G' TG' := by
  obtain ⟨p, hs, rfl⟩ := A
  obtain ⟨rfl, rfl, er, eg, h1, h2, rfl⟩ := s
  rcases h1 with ⟨q1, rfl, rfl⟩ | ⟨x, hx, ex, rfl, rfl⟩ <;> rcases h2 with ⟨q2, rfl, rfl⟩ | ⟨⟨i, hi, ei, rfl⟩, rfl⟩
  · exact ⟨rfl, p, hs, rfl⟩
  · exact absurd ((Has.perm p id).1 ⟨_, mem_gI2 hi, ei⟩) q1
  · exact absurd ((Has.perm p id).2 ⟨x, hx, ex⟩) q2
  · have e : gI G i = x := H.ids (p.mem_iff.1 (mem_gI2 hi)) hx (ei.trans ex.symm)
    subst e
    exact ⟨rfl, (wo_perm hi).trans (p.erase _), wo_srt hs i, rfl⟩
theorem srt_min (p : G.Perm M) (hs : Srt G) (hl : 0 < G.length) : MinOf M (gI G 0) := by
  refine ⟨p.mem_iff.1 (mem_gI2 hl), fun y hy => ?_⟩
  obtain ⟨j, hj, rfl⟩ := List.getElem_of_mem (p.mem_iff.2 hy)
  rw [← gI_at hj]
  rcases Nat.eq_zero_or_pos j with rfl | h0
  · exact le_refl _
  · exact hs.at_ h0 hj
theorem agr_4 (H : HR R W h M T) (A : Agr M T G TG) (s : Step4 M T M' T' G TG G' TG' B) : B = true ∧ Agr M' T' G' TG' := by
  obtain ⟨p, hs, rfl⟩ := A
  obtain ⟨rfl, rfl, y, is, z, it, h1, h2, hB⟩ := s
  rcases h1 with ⟨rfl, rfl, rfl, rfl⟩ | ⟨m1, rfl, rfl⟩ <;> rcases h2 with ⟨rfl, rfl, rfl, rfl⟩ | ⟨q2, rfl, rfl, rfl⟩
  · exact ⟨hB.2 ⟨rfl, rfl⟩, p, hs, rfl⟩
  · have := p.length_eq; simp at this; subst this; simp at q2
  · have := p.nil_eq; subst this; exact absurd m1.1 (by simp)
  · have e : y = gI G 0 := MinOf.uniq H.1 m1 (srt_min p hs q2)
    subst e
    exact ⟨hB.2 ⟨rfl, rfl⟩, (wo_perm q2).trans (p.erase _), wo_srt hs 0, rfl⟩
end
end Go.Proofs.Ytohkkebiilaniaa.Hp

/- Heaps: is a heap the document's. -/
namespace Go.Proofs.Ytohkkebiilaniaa.Hp
set_option linter.unusedVariables false
open Go.RowKit Go.Maps Go.Sort Go.Shelf Go.Proofs.Ytohkkebiilaniaa.Tp
attribute [local go_sem] Oper.semAt_some

theorem Tur.tail {x : It} {M : List It} {T : Int} (h : Tur (x :: M) T) : Tur M T := ⟨fun y hy => h.le y (List.mem_cons_of_mem _ hy), (List.nodup_cons.1 (by simpa using h.nd)).2⟩
theorem srt_uniq : ∀ {G G' : List It} {T : Int}, Tur G T → Srt G → Srt G' → G'.Perm G → G' = G
  | [], G', T, _, _, _, p => p.eq_nil
  | x :: G, [], T, _, _, _, p => by have := p.length_eq; simp at this
  | x :: G, y :: G', T, ht, hs, hs', p => by
    have hx : MinOf (x :: G) x := ⟨by simp, fun z hz => by
      rcases List.mem_cons.1 hz with rfl | hz
      · exact le_refl _
      · exact (List.pairwise_cons.1 hs).1 z hz⟩
    have hy : MinOf (x :: G) y := ⟨p.mem_iff.1 (by simp), fun z hz => by
      rcases List.mem_cons.1 (p.mem_iff.2 hz) with rfl | hz
      · exact le_refl _
      · exact (List.pairwise_cons.1 hs').1 z hz⟩
    have e := MinOf.uniq ht hx hy
    subst e
    rw [srt_uniq ht.tail (List.pairwise_cons.1 hs).2 (List.pairwise_cons.1 hs').2 (List.perm_cons x |>.1 p)]
theorem wp_only {P : Program} {c : Code} {K : Act → World → Prop} {Q : Exit → Act → World → Prop} {a : Act} {w : World} (h : c.wp P (Exit.then K (fun _ _ _ => False)) a w) : c.wp P (Exit.then K Q) a w :=
  Code.wp_mono (fun e a w h => by cases e <;> first | exact h | exact h.elim) h
set_option maxRecDepth 100000 in
set_option maxHeartbeats 8000000 in
theorem same_yes {R : Nat → Prop} {w : World} {h : Nat} {M : List It} {T : Int} (H : HR R w h M T) {v : Value} {G : List It} {TG : Int} (HG : RL w v G) (hp : G.Perm M) (hs : Srt G) (hl : G.length ≤ 1000000) :
    Calls Try.prog 8 #[.pointer (some ⟨h, 0, none⟩), .agg #[v, .int .i64 TG]] w fun e w' => e = .returned (.bool true) ∧ Below w.heap.size w w' := by
  have hq := fun f fs cs w => eq_nilFunc f fs cs w
  obtain ⟨A, c, hv, hlc, hcm, hLie⟩ := OwnL.lie HG itV_len
  subst hv
  obtain ⟨W1, hW1⟩ : ∃ W1, (w.alloc (.cells #[.slice A G.length c, .int .i64 TG] 28)).alloc (.cells #[.bool false] 4) = W1 := ⟨_, rfl⟩
  have hz1 : W1.heap.size = w.heap.size + 2 := by rw [← hW1]; simp
  have hB1 : Below w.heap.size w W1 := by rw [← hW1]; (repeat' (first | (with_reducible exact Below.refl _ _) | (with_reducible assumption) | (with_reducible apply Below.setCell) | (with_reducible apply Below.alloc) | (with_reducible apply Below.drew) | (with_reducible apply below_drewN) | (with_reducible refine Below.trans ?_ (Below.mono (by assumption) ?_)) | omega | (simp; done) | (simp; omega)))
  have g0 : W1.cell? ⟨w.heap.size, 0, none⟩ = some (.slice A G.length c) := by rw [← hW1]; simp [go_sem]
  have r0 : W1.cell? ⟨w.heap.size + 1, 0, none⟩ = some (.bool false) := by rw [← hW1]; simp [go_sem]
  have r1 : W1.frozen? ⟨w.heap.size + 1, 0, none⟩ = false := by rw [← hW1]; simp [go_sem]
  have cA := hidd (fun W (b : Below w.heap.size w W) => all_items W (H.below b))
  have cL := hidd (fun W (b : Below w.heap.size w W) => leastH (H.below b))
  have cE := hidd (fun W (b : Below w.heap.size w W) => lenR (H.below b))
  have HP := hidd hp
  have HS := hidd hs
  have HT := hidd H.1
  have HL := hidd hLie
  have HW := hidd hW1
  have HB1 := hidd hB1
  have HZ := hidd hz1
  have G0 := hidd g0
  have R0 := hidd r0
  have R1 := hidd r1
  clear hp hs hLie H HG hW1 hB1 hz1 g0 r0 r1
  refine (callsIn_wide (n := 6)).1 ?_
  refine callsIn_of_wp_marks Try.func8 rfl trivial ?_ rfl
  simp only [Try.ntmps8, List.size_toArray, List.length_cons, List.length_nil, Nat.reduceAdd, Nat.reduceSub, Array.replicate_succ, Array.replicate_zero, List.push_toArray, List.append_toArray, List.nil_append, List.cons_append]
  gi_wp2_with fail
  rw [HW.out]
  refine ⟨trivial, ?_⟩; gi_at_call 12; refine (callsIn_wide.2 (cA.out _ HB1.out)).mono ?_; rintro e w2 ⟨q, A2, c2, G2, rfl, hp2, hs2, ho2, hc2, hq1, hq2, hb2⟩
  have e2 : G2 = G := srt_uniq (HT.out.perm HP.out.symm) HS.out hs2 (hp2.trans HP.out.symm)
  subst e2
  have HB2 := hidd (HB1.out.trans (hb2.mono HB1.out.size))
  have HB12 := hidd hb2
  have HO2 := hidd ho2
  have HC2 := hidd hc2
  have HQ := hidd (show W1.heap.size ≤ q ∧ q < w2.heap.size from ⟨hq1, hq2⟩)
  clear hp2 hs2 ho2 hc2 hq1 hq2 hb2
  gi_wp2_with fail
  obtain ⟨A3, c3, e3, hlc3, hcm3, lie3⟩ := OwnL.lie HO2.out itV_len
  cases e3
  have bN := Boxed.new w2 3 (.int .i64 0)
  have hB0 : Below w2.heap.size w2 (w2.alloc (.cells #[.int .i64 0] 3)) := (Below.refl _ w2).alloc (Nat.le_refl _) _
  have hs2 : w.heap.size + 1 < w2.heap.size := by have := HB12.out.size; have := HZ.out; omega
  have GG := hidd (fun W (b : Below w2.heap.size w2 W) => (show W.cell? ⟨w.heap.size, 0, none⟩ = some (.slice A G2.length c) ∧ Lie itV 4 W w.heap.size A G2 ∧ (W.cell? ⟨w.heap.size + 1, 0, none⟩ = some (.bool false) ∧ W.frozen? ⟨w.heap.size + 1, 0, none⟩ = false) from
    ⟨(b.cell (p := ⟨w.heap.size, 0, none⟩) (by show w.heap.size < _; omega)).trans ((HB12.out.cell (p := ⟨w.heap.size, 0, none⟩) (by have := HZ.out; show w.heap.size < _; omega)).trans G0.out), (HL.out.keep HB2.out).keep (b.mono (by omega)),
     (b.cell (p := ⟨w.heap.size + 1, 0, none⟩) hs2).trans ((HB12.out.cell (p := ⟨w.heap.size + 1, 0, none⟩) (by have := HZ.out; show w.heap.size + 1 < _; omega)).trans R0.out),
     (b.frozen (p := ⟨w.heap.size + 1, 0, none⟩) hs2).trans ((HB12.out.frozen (p := ⟨w.heap.size + 1, 0, none⟩) (by have := HZ.out; show w.heap.size + 1 < _; omega)).trans R1.out)⟩))
  have hmix : Try.prog.follows .mixedOrders = true := by kernel_rfl
  refine wpIn_rangeFunc_ownH rfl (by omega) (gf := 43) (lb := #[.pointer (some ⟨q, 0, none⟩)]) rfl trivial (enters_of Try.func43 (by kernel_rfl) rfl)
    (values1_some (6 - 1) (by omega) q A2 c2 G2 w2 _ hlc3 hcm3 lie3 HQ.out.2 HC2.out hB0) belowK_t (belowK_b (by (first | omega | (simp; done) | (simp; omega)))) (Below.refl _ _) (fun _ => rfl)
    (fun pre W => Boxed W w2.heap.size 3 (.int .i64 (pre.length : Int)) ∧ Below w2.heap.size w2 W)
    (fun _ xs _ => ∃ pre x, xs = pre ++ [x] ∧ x ≠ gI G2 pre.length ∧ pre.length < G2.length)
    (OwnFrom.and (Own.from (boxed_own w2.heap.size 3 (fun pre : List It => .int .i64 (pre.length : Int))) _) (ownFrom_below (Nat.le_refl _) (by (first | omega | (simp; done) | (simp; omega)))))
    (fun _ => ownFrom_pure _ _)
    ⟨bN, hB0⟩
    (fun x a' W => ∃ Bx, w2.heap.size < Bx ∧ ItemBox W Bx x ∧ a' = { tmps := #[.pointer (some ⟨h, 0, none⟩), .agg #[.slice A G2.length c, .int .i64 TG], undef, .pointer (some ⟨w.heap.size, 0, none⟩), .pointer (some ⟨w.heap.size + 1, 0, none⟩), .func (.func 43) #[] #[.pointer (some ⟨q, 0, none⟩)], .pointer (some ⟨w2.heap.size, 0, none⟩), .pointer (some ⟨Bx, 0, none⟩), undef, undef, .pointer (some ⟨h, 0, none⟩), .func (.func 43) #[] #[.pointer (some ⟨q, 0, none⟩)], .func (.func 43) #[] #[.pointer (some ⟨q, 0, none⟩)], .bool false, .func (.func 43) #[] #[.pointer (some ⟨q, 0, none⟩)], .agg #[.int .i64 (iD x), .int .i64 (kN x), .int .i64 (kD x), .int .i64 (tN x)], undef, undef, undef, undef, undef, undef, undef, undef, undef, undef, undef, undef, undef, undef, undef, undef, undef, undef, undef, undef, undef, undef, undef, undef, undef, undef, undef, undef, undef, undef, undef, undef, undef, undef, undef, undef, undef, undef, undef, undef, undef, undef, undef, undef, undef, undef, undef, undef, undef, undef], defers := [] })
    (fun x a' _ X Y row hs hg hr => by obtain ⟨Bx, h1, h2, h3⟩ := hs; exact ⟨Bx, h1, h2.kept2 hg (fun r e => (hr r e).2), h3⟩)
    ?assign ?body ?done ?stop
  case assign =>
    rintro l pre x W K ⟨hv, hB⟩ hK
    unfold agI
    gi_wp2
    exact hK _ _ ((KeepsOthers.alloc _ _).from _) ((Below.refl _ W).alloc hB.size _) ⟨hv.alloc _, hB.alloc hB.size _⟩ ⟨W.heap.size, hv.lt, ItemBox.new W _ _, rfl⟩
  case body =>
    rintro l pre x a' W hl' ⟨r, hr⟩ ⟨hv, hB⟩ ⟨Bx, hBx, ⟨hb, x0, x1, x2, x3⟩, rfl⟩ hlt
    have hcv := hv.cell
    have hfv := hv.frozen
    obtain ⟨gc, gl, gr, gf⟩ := GG.out W hB
    obtain ⟨ad, rfl, hadb, y0, y1, y2, y3⟩ := Lie.it4 gl pre.length hlt
    have z1 : ¬ (G2.length : Int) ≤ (pre.length : Int) := by omega
    have z2 : (pre.length : Int) < (G2.length : Int) := by omega
    have z0 : (0 : Int) ≤ (pre.length : Int) := by omega
    have hpm : (pre.length : Int) + 1 ≤ 1000000 := by omega
    have HV := hidd hv
    have HB := hidd hB
    have HLT := hidd hlt
    have eqq := fun W => item_run (iD x) (kN x) (kD x) (tN x) (iD (gI G2 pre.length)) (kN (gI G2 pre.length)) (kD (gI G2 pre.length)) (tN (gI G2 pre.length)) W
    rw [← it_eta, ← it_eta] at eqq
    have EB := hidd (eqB_iff (x := x) (y := gI G2 pre.length))
    clear hv hB gl hlt hr
    generalize hEQ : eqB x (gI G2 pre.length) = EQ at *
    clear hEQ
    have HX := hidd (rfl : x = x)
    generalize iD (gI G2 pre.length) = b0 at *
    generalize kN (gI G2 pre.length) = b1 at *
    generalize kD (gI G2 pre.length) = b2 at *
    generalize tN (gI G2 pre.length) = b3 at *
    generalize iD x = a0 at *
    generalize kN x = a1 at *
    generalize kD x = a2 at *
    generalize tN x = a3 at *
    generalize hPL : pre.length = pl at *
    generalize hGL : G2.length = gl2 at *
    have HPL := hidd hPL
    have HGL := hidd hGL
    clear hPL hGL
    have z5 : decide (gl2 ≤ pl) = false := decide_eq_false (by have := HLT.out; omega)
    cases EQ
    case true =>
      gi_wp2_with fail
      refine wpIn_quiet_round (F := Fence.wide) rfl hmix (by kernel_rfl) rfl ?_
      repeat (gi_big_quiet_step (fail))
      refine wpQuietIn_nil ?_
      intro _ hw'
      obtain ⟨nq, hw''⟩ := hw'
      subst hw''
      obtain ⟨X1, hX1⟩ : ∃ X1, W.drewN nq = X1 := ⟨_, rfl⟩
      rw [hX1]
      have hvx : Boxed X1 w2.heap.size 3 (.int .i64 (pl : Int)) := by rw [← hX1]; exact HV.out
      have hcx := hvx.cell
      have hfx := hvx.frozen
      have HVX := hidd hvx
      have HKX : Hid (KeepsOthers W X1) := hidd (by rw [← hX1]; exact ⟨Nat.le_refl _, fun _ _ h _ => h⟩)
      have HBX : Hid (Below W.heap.size W X1) := hidd (by rw [← hX1]; exact below_drewN (Below.refl _ _) _)
      have grx : X1.cell? ⟨w.heap.size + 1, 0, none⟩ = some (.bool false) := by rw [← hX1]; exact gr
      have gfx : X1.frozen? ⟨w.heap.size + 1, 0, none⟩ = false := by rw [← hX1]; exact gf
      have hwr : IntKind.i64.wrap ((pl : Int) + 1) = (pl : Int) + 1 := by rw [IntKind.wrap_i64]; omega
      clear hX1 hvx gr gf hcv hfv gc x0 x1 x2 x3 y0 y1 y2 y3
      gi_wp2_with fail
      refine ⟨(HKX.out.trans (KeepsOthers.setCell _ _ _)).from _, (HBX.out.mono HB.out.size).setCell (p := ⟨w2.heap.size, 0, none⟩) (Nat.le_refl _) _, And.intro ?_ (HB.out.trans ((HBX.out.mono HB.out.size).setCell (p := ⟨w2.heap.size, 0, none⟩) (Nat.le_refl _) _))⟩
      have := HVX.out.set (.int .i64 ((pl : Int) + 1))
      rw [List.length_append, HPL.out]
      simpa using this
    case false =>
      gi_wp2_with fail
      refine wpIn_quiet_round (F := Fence.wide) rfl hmix (by kernel_rfl) rfl ?_
      repeat (gi_big_quiet_step (fail))
      refine wpQuietIn_nil ?_
      intro _ hw'
      obtain ⟨nq, hw''⟩ := hw'
      subst hw''
      obtain ⟨X1, hX1⟩ : ∃ X1, W.drewN nq = X1 := ⟨_, rfl⟩
      rw [hX1]
      have hvx : Boxed X1 w2.heap.size 3 (.int .i64 (pl : Int)) := by rw [← hX1]; exact HV.out
      have hcx := hvx.cell
      have hfx := hvx.frozen
      have HVX := hidd hvx
      have HKX : Hid (KeepsOthers W X1) := hidd (by rw [← hX1]; exact ⟨Nat.le_refl _, fun _ _ h _ => h⟩)
      have HBX : Hid (Below W.heap.size W X1) := hidd (by rw [← hX1]; exact below_drewN (Below.refl _ _) _)
      have grx : X1.cell? ⟨w.heap.size + 1, 0, none⟩ = some (.bool false) := by rw [← hX1]; exact gr
      have gfx : X1.frozen? ⟨w.heap.size + 1, 0, none⟩ = false := by rw [← hX1]; exact gf
      have hwr : IntKind.i64.wrap ((pl : Int) + 1) = (pl : Int) + 1 := by rw [IntKind.wrap_i64]; omega
      clear hX1 hvx gr gf hcv hfv gc x0 x1 x2 x3 y0 y1 y2 y3
      gi_wp2_with fail
      refine ⟨(HKX.out.trans (KeepsOthers.setCell _ _ _)).from _, pre, x, rfl, fun e => ?_, ?_⟩
      · rw [HPL.out] at e
        exact absurd (EB.out.2 e) (by simp)
      · rw [HPL.out]; exact HLT.out
  case stop =>
    rintro D c' pre W _ hSp ⟨pre', x, rfl, hne, hlt'⟩ _
    exfalso
    apply hne
    obtain ⟨t, ht⟩ := hSp
    rw [← ht, gI_at (by simp)]
    simp
  case done =>
    rintro D ys W hD rfl ⟨hv, hB⟩ hK
    have hDl : D < W.heap.size := (Array.getElem?_eq_some_iff.1 hK).1
    have HBW := hidd (HB2.out.trans (hB.mono (by omega)))
    have HV := hidd hv
    have HB := hidd hB
    have HK := hidd hK
    have HDN := hidd (show w2.heap.size < D from by have := hD; simp at this; omega)
    clear hv hB hK hD
    gi_wp2_with fail
    refine ⟨trivial, ?_⟩; gi_at_call 16; refine (callsIn_wide.2 (cL.out _ HBW.out)).mono ?_; rintro e w3 ⟨⟨y, is, M', rfl, hT⟩, hb3⟩
    have HB3 := hidd (HB.out.trans (hb3.mono HB.out.size))
    have HBW3 := hidd (HBW.out.trans (hb3.mono HBW.out.size))
    have HK3 : Hid (w3.heap[D]? = some (.deferred (some []))) := hidd ((hb3.block D hDl).trans HK.out)
    have hvc := (hb3.cell (p := ⟨w2.heap.size, 0, none⟩) HV.out.lt).trans HV.out.cell
    obtain ⟨gc, gl, gr, gf⟩ := GG.out w3 HB3.out
    have hs3 : w2.heap.size < w3.heap.size := Nat.lt_of_lt_of_le HV.out.lt hb3.size
    have HT2 := hidd hT
    clear hb3 hT
    obtain ⟨y0, y1, y2, y3⟩ := y
    have hN0 : ys.length = M.length := HP.out.length_eq
    by_cases hz : ys = []
    · obtain ⟨ey, rfl⟩ : ((y0, y1, y2, y3) : It) = zI ∧ is = false := by
        rcases HT2.out with ⟨_, _, a, b⟩ | ⟨a, _⟩
        · exact ⟨a, b⟩
        · rw [hz] at hN0; have hM0 : M = [] := List.eq_nil_of_length_eq_zero (by simpa using hN0.symm); rw [hM0] at a; exact absurd a.1 (by simp)
      have zg : ¬ (0 : Int) < (ys.length : Int) := by rw [hz]; simp
      clear ey hz
      have CE0 := cE.out
      rw [← hN0] at CE0
      generalize hNN : ys.length = N at *
      have HNN := hidd hNN
      clear hNN
      clear hN0
      have zd : decide (0 < N) = false := decide_eq_false (by omega)
      unfold agI iD kN kD tN
      obtain ⟨W4, hW4⟩ : ∃ W4, w3.alloc (.cells #[.int .i64 y0, .int .i64 y1, .int .i64 y2, .int .i64 y3] 37) = W4 := ⟨_, rfl⟩
      have B34 : Below w3.heap.size w3 W4 := hW4 ▸ below_new (Below.refl _ _) _
      have k0 : W4.cell? ⟨w3.heap.size, 0, none⟩ = some (.int .i64 y0) := by rw [← hW4]; simp [go_sem]
      have k1 : W4.cell? ⟨w3.heap.size, 1, none⟩ = some (.int .i64 y1) := by rw [← hW4]; simp [go_sem]
      have k2 : W4.cell? ⟨w3.heap.size, 2, none⟩ = some (.int .i64 y2) := by rw [← hW4]; simp [go_sem]
      have k3 : W4.cell? ⟨w3.heap.size, 3, none⟩ = some (.int .i64 y3) := by rw [← hW4]; simp [go_sem]
      have vN := (B34.cell (p := ⟨w2.heap.size, 0, none⟩) hs3).trans hvc
      obtain ⟨gc4, gl4, gr4, gf4⟩ := GG.out W4 (HB3.out.trans (B34.mono (Nat.le_of_lt hs3)))
      have HB4 := hidd (HBW3.out.trans (B34.mono HBW3.out.size))
      have HD3 : D < w3.heap.size := (Array.getElem?_eq_some_iff.1 HK3.out).1
      have HK4 : Hid (W4.heap[D]? = some (.deferred (some []))) := hidd ((B34.block D HD3).trans HK3.out)
      have CEx : Hid (Calls Try.prog 19 #[.pointer (some ⟨h, 0, none⟩)] W4.drew fun e w' => e = .returned (.int .i64 (N : Int)) ∧ w' = W4.drew) := hidd ((CE0 W4.drew (HB4.out.trans (below_drewN (Below.refl _ _) 1))).mono fun e w' ⟨a, b⟩ => ⟨a, b.symm⟩)
      have h21 : w.heap.size + 1 < w2.heap.size := hs2
      have KEEP : Hid ((fun Y : World => Y.cell? ⟨w2.heap.size, 0, none⟩ = some (.int .i64 (N : Int)) ∧ Y.cell? ⟨w.heap.size, 0, none⟩ = some (.slice A N c) ∧ Y.cell? ⟨w3.heap.size, 0, none⟩ = some (.int .i64 y0) ∧ Y.cell? ⟨w3.heap.size, 1, none⟩ = some (.int .i64 y1) ∧ Y.cell? ⟨w3.heap.size, 2, none⟩ = some (.int .i64 y2) ∧ Y.cell? ⟨w3.heap.size, 3, none⟩ = some (.int .i64 y3)) (W4.drew.setCell ⟨w.heap.size + 1, 0, none⟩ (.bool true))) := hidd (by
        refine ⟨?_, ?_, ?_, ?_, ?_, ?_⟩ <;> refine (World.cell?_of_block (Below.heap_setCell _ _ _ _ (by dsimp only; omega))).trans ?_ <;> assumption)
      have HW4 := hidd hW4
      clear hW4 gc gl gr gf hvc B34 gl4 CE0
      gi_wp2_with fail
      rw [HW4.out]
      refine wpIn_wide.2 (wp_only ?_)
      refine wp_region_held_drew (S := (fun Y => Y.cell? ⟨w2.heap.size, 0, none⟩ = some (.int .i64 (N : Int)) ∧ Y.cell? ⟨w.heap.size, 0, none⟩ = some (.slice A N c) ∧ Y.cell? ⟨w3.heap.size, 0, none⟩ = some (.int .i64 y0) ∧ Y.cell? ⟨w3.heap.size, 1, none⟩ = some (.int .i64 y1) ∧ Y.cell? ⟨w3.heap.size, 2, none⟩ = some (.int .i64 y2) ∧ Y.cell? ⟨w3.heap.size, 3, none⟩ = some (.int .i64 y3))) (by kernel_rfl) ⟨vN, gc4, k0, k1, k2, k3⟩ (fun hH => ?_)
      refine wpAnyH_take (i := 0) (v := ?va0) (by (conv => lhs; simp only [List.getElem?_toArray, List.getElem?_cons_succ, List.getElem?_cons_zero])) (by kernel_rfl) (by kernel_rfl) (by kernel_rfl) ?hQ (Or.inl ⟨by rfl, ?hya0⟩) hH ?resta0
      case hQ => exact fun _ _ _ h => h
      case hya0 => (intro Y hY; obtain ⟨e0, e1, e2, e3, e4, e5⟩ := hY; go_simp; try (with_reducible rfl))
      try simp only [Act.put, List.setIfInBounds_toArray, List.set_cons_zero, List.set_cons_succ]
      refine wpAnyH_take (i := 1) (v := ?va1) (by (conv => lhs; simp only [List.getElem?_toArray, List.getElem?_cons_succ, List.getElem?_cons_zero])) (by kernel_rfl) (by kernel_rfl) (by kernel_rfl) ?hQ (Or.inl ⟨by rfl, ?hya1⟩) hH ?resta1
      case hQ => exact fun _ _ _ h => h
      case hya1 => (intro Y hY; obtain ⟨e0, e1, e2, e3, e4, e5⟩ := hY; go_simp; try (with_reducible rfl))
      try simp only [Act.put, List.setIfInBounds_toArray, List.set_cons_zero, List.set_cons_succ]
      refine wpAnyH_take (i := 2) (v := ?va2) (by (conv => lhs; simp only [List.getElem?_toArray, List.getElem?_cons_succ, List.getElem?_cons_zero])) (by kernel_rfl) (by kernel_rfl) (by kernel_rfl) ?hQ (Or.inl ⟨by rfl, ?hya2⟩) hH ?resta2
      case hQ => exact fun _ _ _ h => h
      case hya2 => (intro Y hY; obtain ⟨e0, e1, e2, e3, e4, e5⟩ := hY; go_simp; try (with_reducible rfl))
      try simp only [Act.put, List.setIfInBounds_toArray, List.set_cons_zero, List.set_cons_succ]
      refine wpAnyH_take (i := 3) (v := ?va3) (by (conv => lhs; simp only [List.getElem?_toArray, List.getElem?_cons_succ, List.getElem?_cons_zero])) (by kernel_rfl) (by kernel_rfl) (by kernel_rfl) ?hQ (Or.inl ⟨by rfl, ?hya3⟩) hH ?resta3
      case hQ => exact fun _ _ _ h => h
      case hya3 => (intro Y hY; obtain ⟨e0, e1, e2, e3, e4, e5⟩ := hY; go_simp; try (with_reducible rfl))
      try simp only [Act.put, List.setIfInBounds_toArray, List.set_cons_zero, List.set_cons_succ]
      refine wpAnyH_take (i := 4) (v := ?va4) (by (conv => lhs; simp only [List.getElem?_toArray, List.getElem?_cons_succ, List.getElem?_cons_zero])) (by kernel_rfl) (by kernel_rfl) (by kernel_rfl) ?hQ (Or.inl ⟨by rfl, ?hya4⟩) hH ?resta4
      case hQ => exact fun _ _ _ h => h
      case hya4 => (intro Y hY; obtain ⟨e0, e1, e2, e3, e4, e5⟩ := hY; go_simp; try (with_reducible rfl))
      try simp only [Act.put, List.setIfInBounds_toArray, List.set_cons_zero, List.set_cons_succ]
      refine wpAnyH_take (i := 5) (v := ?va5) (by (conv => lhs; simp only [List.getElem?_toArray, List.getElem?_cons_succ, List.getElem?_cons_zero])) (by kernel_rfl) (by kernel_rfl) (by kernel_rfl) ?hQ (Or.inl ⟨by rfl, ?hya5⟩) hH ?resta5
      case hQ => exact fun _ _ _ h => h
      case hya5 => (intro Y hY; obtain ⟨e0, e1, e2, e3, e4, e5⟩ := hY; go_simp; try (with_reducible rfl))
      try simp only [Act.put, List.setIfInBounds_toArray, List.set_cons_zero, List.set_cons_succ]
      refine wpAnyH_take (i := 6) (v := ?va6) (by (conv => lhs; simp only [List.getElem?_toArray, List.getElem?_cons_succ, List.getElem?_cons_zero])) (by kernel_rfl) (by kernel_rfl) (by kernel_rfl) ?hQ (Or.inl ⟨by rfl, ?hya6⟩) hH ?resta6
      case hQ => exact fun _ _ _ h => h
      case hya6 => (intro Y hY; obtain ⟨e0, e1, e2, e3, e4, e5⟩ := hY; go_simp; try (with_reducible rfl))
      try simp only [Act.put, List.setIfInBounds_toArray, List.set_cons_zero, List.set_cons_succ]
      refine wpAnyH_take (i := 8) (v := ?va8) (by (conv => lhs; simp only [List.getElem?_toArray, List.getElem?_cons_succ, List.getElem?_cons_zero])) (by kernel_rfl) (by kernel_rfl) (by kernel_rfl) ?hQ (Or.inl ⟨by rfl, ?hya8⟩) hH ?resta8
      case hQ => exact fun _ _ _ h => h
      case hya8 => (intro Y hY; obtain ⟨e0, e1, e2, e3, e4, e5⟩ := hY; go_simp; try (with_reducible rfl))
      try simp only [Act.put, List.setIfInBounds_toArray, List.set_cons_zero, List.set_cons_succ]
      refine wpAnyH_ready (rs := [7]) (by kernel_rfl) (by simp) ?_
      refine AllReadyH.cons (by (conv => lhs; simp only [List.getElem?_toArray, List.getElem?_cons_succ, List.getElem?_cons_zero])) (fun K hK => ?_) AllReadyH.nil
      go_simp
      go_at_call 19; refine CEx.out.mono ?_; rintro e w5 ⟨rfl, rfl⟩
      refine hK.out _ _ hH (fun hH1 => ?_)
      clear hK hH
      try simp only [Act.put, List.setIfInBounds_toArray, List.set_cons_zero, List.set_cons_succ]
      refine wpAnyH_take (i := 9) (v := ?vb9) (by (conv => lhs; simp only [List.getElem?_toArray, List.getElem?_cons_succ, List.getElem?_cons_zero])) (by kernel_rfl) (by kernel_rfl) (by kernel_rfl) ?hQ (Or.inl ⟨by rfl, ?hyb9⟩) hH1 ?restb9
      case hQ => exact fun _ _ _ h => h
      case hyb9 => (intro Y hY; obtain ⟨e0, e1, e2, e3, e4, e5⟩ := hY; go_simp; try (with_reducible rfl))
      try simp only [Act.put, List.setIfInBounds_toArray, List.set_cons_zero, List.set_cons_succ]
      refine wpAnyH_take (i := 10) (v := ?vb10) (by (conv => lhs; simp only [List.getElem?_toArray, List.getElem?_cons_succ, List.getElem?_cons_zero])) (by kernel_rfl) (by kernel_rfl) (by kernel_rfl) ?hQ (Or.inl ⟨by rfl, ?hyb10⟩) hH1 ?restb10
      case hQ => exact fun _ _ _ h => h
      case hyb10 => (intro Y hY; obtain ⟨e0, e1, e2, e3, e4, e5⟩ := hY; go_simp; try (with_reducible rfl))
      try simp only [Act.put, List.setIfInBounds_toArray, List.set_cons_zero, List.set_cons_succ]
      refine wpAnyH_take (i := 11) (v := ?vb11) (by (conv => lhs; simp only [List.getElem?_toArray, List.getElem?_cons_succ, List.getElem?_cons_zero])) (by kernel_rfl) (by kernel_rfl) (by kernel_rfl) ?hQ (Or.inl ⟨by rfl, ?hyb11⟩) hH1 ?restb11
      case hQ => exact fun _ _ _ h => h
      case hyb11 => (intro Y hY; obtain ⟨e0, e1, e2, e3, e4, e5⟩ := hY; go_simp; try (with_reducible rfl))
      try simp only [Act.put, List.setIfInBounds_toArray, List.set_cons_zero, List.set_cons_succ]
      refine wpAnyH_take (i := 12) (v := ?vb12) (by (conv => lhs; simp only [List.getElem?_toArray, List.getElem?_cons_succ, List.getElem?_cons_zero])) (by kernel_rfl) (by kernel_rfl) (by kernel_rfl) ?hQ (Or.inl ⟨by rfl, ?hyb12⟩) hH1 ?restb12
      case hQ => exact fun _ _ _ h => h
      case hyb12 => (intro Y hY; obtain ⟨e0, e1, e2, e3, e4, e5⟩ := hY; go_simp; try (with_reducible rfl))
      try simp only [Act.put, List.setIfInBounds_toArray, List.set_cons_zero, List.set_cons_succ]
      refine wpAnyH_take (i := 13) (v := ?vb13) (by (conv => lhs; simp only [List.getElem?_toArray, List.getElem?_cons_succ, List.getElem?_cons_zero])) (by kernel_rfl) (by kernel_rfl) (by kernel_rfl) ?hQ (Or.inl ⟨by rfl, ?hyb13⟩) hH1 ?restb13
      case hQ => exact fun _ _ _ h => h
      case hyb13 => (intro Y hY; obtain ⟨e0, e1, e2, e3, e4, e5⟩ := hY; go_simp; try (with_reducible rfl))
      try simp only [Act.put, List.setIfInBounds_toArray, List.set_cons_zero, List.set_cons_succ]
      refine wpAnyH_take (i := 14) (v := ?vb14) (by (conv => lhs; simp only [List.getElem?_toArray, List.getElem?_cons_succ, List.getElem?_cons_zero])) (by kernel_rfl) (by kernel_rfl) (by kernel_rfl) ?hQ (Or.inl ⟨by rfl, ?hyb14⟩) hH1 ?restb14
      case hQ => exact fun _ _ _ h => h
      case hyb14 => (intro Y hY; obtain ⟨e0, e1, e2, e3, e4, e5⟩ := hY; go_simp; try (with_reducible rfl))
      try simp only [Act.put, List.setIfInBounds_toArray, List.set_cons_zero, List.set_cons_succ]
      refine wpAnyH_take (i := 15) (v := ?vb15) (by (conv => lhs; simp only [List.getElem?_toArray, List.getElem?_cons_succ, List.getElem?_cons_zero])) (by kernel_rfl) (by kernel_rfl) (by kernel_rfl) ?hQ (Or.inl ⟨by rfl, ?hyb15⟩) hH1 ?restb15
      case hQ => exact fun _ _ _ h => h
      case hyb15 => (intro Y hY; obtain ⟨e0, e1, e2, e3, e4, e5⟩ := hY; go_simp; try (with_reducible rfl))
      try simp only [Act.put, List.setIfInBounds_toArray, List.set_cons_zero, List.set_cons_succ]
      refine wpAnyH_take (i := 16) (v := ?vb16) (by (conv => lhs; simp only [List.getElem?_toArray, List.getElem?_cons_succ, List.getElem?_cons_zero])) (by kernel_rfl) (by kernel_rfl) (by kernel_rfl) ?hQ (Or.inl ⟨by rfl, ?hyb16⟩) hH1 ?restb16
      case hQ => exact fun _ _ _ h => h
      case hyb16 => (intro Y hY; obtain ⟨e0, e1, e2, e3, e4, e5⟩ := hY; go_simp; try (with_reducible rfl))
      try simp only [Act.put, List.setIfInBounds_toArray, List.set_cons_zero, List.set_cons_succ]
      refine wpAnyH_take (i := 17) (v := ?vb17) (by (conv => lhs; simp only [List.getElem?_toArray, List.getElem?_cons_succ, List.getElem?_cons_zero])) (by kernel_rfl) (by kernel_rfl) (by kernel_rfl) ?hQ (Or.inl ⟨by rfl, ?hyb17⟩) hH1 ?restb17
      case hQ => exact fun _ _ _ h => h
      case hyb17 => (intro Y hY; obtain ⟨e0, e1, e2, e3, e4, e5⟩ := hY; go_simp; try (with_reducible rfl))
      try simp only [Act.put, List.setIfInBounds_toArray, List.set_cons_zero, List.set_cons_succ]
      refine wpAnyH_take (i := 18) (v := ?vb18) (by (conv => lhs; simp only [List.getElem?_toArray, List.getElem?_cons_succ, List.getElem?_cons_zero])) (by kernel_rfl) (by kernel_rfl) (by kernel_rfl) ?hQ (Or.inl ⟨by rfl, ?hyb18⟩) hH1 ?restb18
      case hQ => exact fun _ _ _ h => h
      case hyb18 => (intro Y hY; obtain ⟨e0, e1, e2, e3, e4, e5⟩ := hY; go_simp; try (with_reducible rfl))
      try simp only [Act.put, List.setIfInBounds_toArray, List.set_cons_zero, List.set_cons_succ]
      refine wpAnyH_take (i := 19) (v := ?vb19) (by (conv => lhs; simp only [List.getElem?_toArray, List.getElem?_cons_succ, List.getElem?_cons_zero])) (by kernel_rfl) (by kernel_rfl) (by kernel_rfl) ?hQ (Or.inl ⟨by rfl, ?hyb19⟩) hH1 ?restb19
      case hQ => exact fun _ _ _ h => h
      case hyb19 => (intro Y hY; obtain ⟨e0, e1, e2, e3, e4, e5⟩ := hY; go_simp; try (with_reducible rfl))
      try simp only [Act.put, List.setIfInBounds_toArray, List.set_cons_zero, List.set_cons_succ]
      refine wpAnyH_take (i := 20) (v := ?vb20) (by (conv => lhs; simp only [List.getElem?_toArray, List.getElem?_cons_succ, List.getElem?_cons_zero])) (by kernel_rfl) (by kernel_rfl) (by kernel_rfl) ?hQ (Or.inl ⟨by rfl, ?hyb20⟩) hH1 ?restb20
      case hQ => exact fun _ _ _ h => h
      case hyb20 => (intro Y hY; obtain ⟨e0, e1, e2, e3, e4, e5⟩ := hY; go_simp; try (with_reducible rfl))
      try simp only [Act.put, List.setIfInBounds_toArray, List.set_cons_zero, List.set_cons_succ]
      refine wpAnyH_take (i := 21) (v := undef) (by (conv => lhs; simp only [List.getElem?_toArray, List.getElem?_cons_succ, List.getElem?_cons_zero])) (by kernel_rfl) (by kernel_rfl) (by kernel_rfl) ?hQ (Or.inr ⟨by rfl, rfl⟩) hH1 ?rest21
      case hQ => exact fun _ _ _ h => h
      try simp only [Act.put, List.setIfInBounds_toArray, List.set_cons_zero, List.set_cons_succ]
      refine wpAnyH_take (i := 22) (v := undef) (by (conv => lhs; simp only [List.getElem?_toArray, List.getElem?_cons_succ, List.getElem?_cons_zero])) (by kernel_rfl) (by kernel_rfl) (by kernel_rfl) ?hQ (Or.inr ⟨by rfl, rfl⟩) hH1 ?rest22
      case hQ => exact fun _ _ _ h => h
      try simp only [Act.put, List.setIfInBounds_toArray, List.set_cons_zero, List.set_cons_succ]
      refine wpAnyH_take (i := 23) (v := undef) (by (conv => lhs; simp only [List.getElem?_toArray, List.getElem?_cons_succ, List.getElem?_cons_zero])) (by kernel_rfl) (by kernel_rfl) (by kernel_rfl) ?hQ (Or.inr ⟨by rfl, rfl⟩) hH1 ?rest23
      case hQ => exact fun _ _ _ h => h
      try simp only [Act.put, List.setIfInBounds_toArray, List.set_cons_zero, List.set_cons_succ]
      refine wpAnyH_take (i := 24) (v := undef) (by (conv => lhs; simp only [List.getElem?_toArray, List.getElem?_cons_succ, List.getElem?_cons_zero])) (by kernel_rfl) (by kernel_rfl) (by kernel_rfl) ?hQ (Or.inr ⟨by rfl, rfl⟩) hH1 ?rest24
      case hQ => exact fun _ _ _ h => h
      try simp only [Act.put, List.setIfInBounds_toArray, List.set_cons_zero, List.set_cons_succ]
      refine wpAnyH_take (i := 25) (v := undef) (by (conv => lhs; simp only [List.getElem?_toArray, List.getElem?_cons_succ, List.getElem?_cons_zero])) (by kernel_rfl) (by kernel_rfl) (by kernel_rfl) ?hQ (Or.inr ⟨by rfl, rfl⟩) hH1 ?rest25
      case hQ => exact fun _ _ _ h => h
      try simp only [Act.put, List.setIfInBounds_toArray, List.set_cons_zero, List.set_cons_succ]
      refine wpAnyH_take (i := 26) (v := undef) (by (conv => lhs; simp only [List.getElem?_toArray, List.getElem?_cons_succ, List.getElem?_cons_zero])) (by kernel_rfl) (by kernel_rfl) (by kernel_rfl) ?hQ (Or.inr ⟨by rfl, rfl⟩) hH1 ?rest26
      case hQ => exact fun _ _ _ h => h
      try simp only [Act.put, List.setIfInBounds_toArray, List.set_cons_zero, List.set_cons_succ]
      refine wpAnyH_take (i := 27) (v := ?vb27) (by (conv => lhs; simp only [List.getElem?_toArray, List.getElem?_cons_succ, List.getElem?_cons_zero])) (by kernel_rfl) (by kernel_rfl) (by kernel_rfl) ?hQ (Or.inl ⟨by rfl, ?hyb27⟩) hH1 ?restb27
      case hQ => exact fun _ _ _ h => h
      case hyb27 => (intro Y hY; obtain ⟨e0, e1, e2, e3, e4, e5⟩ := hY; go_simp; try (with_reducible rfl))
      try simp only [Act.put, List.setIfInBounds_toArray, List.set_cons_zero, List.set_cons_succ]
      refine wpAnyH_take (i := 28) (v := ?vb28) (by (conv => lhs; simp only [List.getElem?_toArray, List.getElem?_cons_succ, List.getElem?_cons_zero])) (by kernel_rfl) (by kernel_rfl) (by kernel_rfl) ?hQ (Or.inl ⟨by rfl, ?hyb28⟩) hH1 ?restb28
      case hQ => exact fun _ _ _ h => h
      case hyb28 => (intro Y hY; obtain ⟨e0, e1, e2, e3, e4, e5⟩ := hY; go_simp; try (with_reducible rfl))
      try simp only [Act.put, List.setIfInBounds_toArray, List.set_cons_zero, List.set_cons_succ]
      refine wpAnyH_ready (rs := [29]) (by kernel_rfl) (by simp) ?_
      refine AllReadyH.cons (by (conv => lhs; simp only [List.getElem?_toArray, List.getElem?_cons_succ, List.getElem?_cons_zero])) (fun K hK => ?_) AllReadyH.nil
      have gr5 : W4.drew.cell? ⟨w.heap.size + 1, 0, none⟩ = some (.bool false) := gr4
      have gf5 : W4.drew.frozen? ⟨w.heap.size + 1, 0, none⟩ = false := gf4
      have hH5 : (fun Y : World => Y.cell? ⟨w2.heap.size, 0, none⟩ = some (.int .i64 (N : Int)) ∧ Y.cell? ⟨w.heap.size, 0, none⟩ = some (.slice A N c) ∧ Y.cell? ⟨w3.heap.size, 0, none⟩ = some (.int .i64 y0) ∧ Y.cell? ⟨w3.heap.size, 1, none⟩ = some (.int .i64 y1) ∧ Y.cell? ⟨w3.heap.size, 2, none⟩ = some (.int .i64 y2) ∧ Y.cell? ⟨w3.heap.size, 3, none⟩ = some (.int .i64 y3)) (W4.drew.setCell ⟨w.heap.size + 1, 0, none⟩ (.bool true)) := KEEP.out
      clear gr4 gf4 k0 k1 k2 k3 vN gc4
      go_simp
      refine hK.out _ _ hH5 (fun hH6 => ?_)
      clear hK
      try simp only [Act.put]
      refine wpAnyH_done (by kernel_rfl) ?_ _
      gi_wp2_with fail
      have hne : D ≠ w.heap.size + 1 := by have := HDN.out; omega
      have hKS : (W4.setCell ⟨w.heap.size + 1, 0, none⟩ (.bool true)).drew.heap[D]? = some (.deferred (some [])) := (Below.heap_setCell _ _ _ _ hne).trans HK4.out
      have hrc : (W4.setCell ⟨w.heap.size + 1, 0, none⟩ (.bool true)).drew.cell? ⟨w.heap.size + 1, 0, none⟩ = some (.bool true) := World.cell?_setCell_same' W4.drew ⟨w.heap.size + 1, 0, none⟩ (.bool true) (by rw [gr5]; rfl)
      have hgp := grownBy_putObj' (W4.setCell ⟨w.heap.size + 1, 0, none⟩ (.bool true)).drew D (.deferred none)
      have hrp := cell_kept hrc hgp (fun r e => by cases e; exact ⟨_, hKS, rfl⟩)
      refine ⟨by simp, .inl ⟨_, _, rfl, run_takeDeferred hKS, ?_⟩⟩
      refine ⟨.bool true, ?_, rfl, ?_⟩
      · simp [results, Try.results8, go_sem, hrp]
      · exact (Below.drew (HB4.out.setCell (p := ⟨w.heap.size + 1, 0, none⟩) (by show w.heap.size ≤ w.heap.size + 1; omega) (.bool true))).grown hgp (Below.drew (HB4.out.setCell (p := ⟨w.heap.size + 1, 0, none⟩) (by show w.heap.size ≤ w.heap.size + 1; omega) (.bool true))).size (fun k e => by cases e; have := HDN.out; omega)
    · have hlp : 0 < ys.length := List.length_pos_iff.2 hz
      have hmn := srt_min HP.out HS.out hlp
      obtain ⟨ey, rfl⟩ : ((y0, y1, y2, y3) : It) = gI ys 0 ∧ is = true := by
        rcases HT2.out with ⟨a, _⟩ | ⟨a, _, b⟩
        · exact absurd (List.eq_nil_of_length_eq_zero (by rw [hN0, a]; rfl)) hz
        · exact ⟨MinOf.uniq HT.out a hmn, b⟩
      have zg : (0 : Int) < (ys.length : Int) := by omega
      have ITM := hidd (fun Y (g : Lie itV 4 Y w.heap.size A ys) => Lie.it4 g 0 hlp)
      rw [← ey] at ITM
      clear ey hz
      have CE0 := cE.out
      rw [← hN0] at CE0
      generalize hNN : ys.length = N at *
      have HNN := hidd hNN
      clear hNN
      clear hN0
      have zd : decide (0 < N) = true := decide_eq_true (by omega)
      unfold agI iD kN kD tN
      unfold iD kN kD tN at ITM
      obtain ⟨W4, hW4⟩ : ∃ W4, w3.alloc (.cells #[.int .i64 y0, .int .i64 y1, .int .i64 y2, .int .i64 y3] 37) = W4 := ⟨_, rfl⟩
      have B34 : Below w3.heap.size w3 W4 := hW4 ▸ below_new (Below.refl _ _) _
      have k0 : W4.cell? ⟨w3.heap.size, 0, none⟩ = some (.int .i64 y0) := by rw [← hW4]; simp [go_sem]
      have k1 : W4.cell? ⟨w3.heap.size, 1, none⟩ = some (.int .i64 y1) := by rw [← hW4]; simp [go_sem]
      have k2 : W4.cell? ⟨w3.heap.size, 2, none⟩ = some (.int .i64 y2) := by rw [← hW4]; simp [go_sem]
      have k3 : W4.cell? ⟨w3.heap.size, 3, none⟩ = some (.int .i64 y3) := by rw [← hW4]; simp [go_sem]
      have vN := (B34.cell (p := ⟨w2.heap.size, 0, none⟩) hs3).trans hvc
      obtain ⟨gc4, gl4, gr4, gf4⟩ := GG.out W4 (HB3.out.trans (B34.mono (Nat.le_of_lt hs3)))
      have HB4 := hidd (HBW3.out.trans (B34.mono HBW3.out.size))
      have HD3 : D < w3.heap.size := (Array.getElem?_eq_some_iff.1 HK3.out).1
      have HK4 : Hid (W4.heap[D]? = some (.deferred (some []))) := hidd ((B34.block D HD3).trans HK3.out)
      have CEx : Hid (Calls Try.prog 19 #[.pointer (some ⟨h, 0, none⟩)] W4.drew fun e w' => e = .returned (.int .i64 (N : Int)) ∧ w' = W4.drew) := hidd ((CE0 W4.drew (HB4.out.trans (below_drewN (Below.refl _ _) 1))).mono fun e w' ⟨a, b⟩ => ⟨a, b.symm⟩)
      have h21 : w.heap.size + 1 < w2.heap.size := hs2
      obtain ⟨ad, rfl, hadb, j0, j1, j2, j3⟩ := ITM.out W4 gl4
      have ead : ad.add (0 * 4) = ad := by cases ad; rfl
      rw [ead] at hadb j0 j1 j2 j3
      have j2 : W4.cell? ⟨ad.block, ad.off + 2, none⟩ = some (.int .i64 y2) := j2
      have j3 : W4.cell? ⟨ad.block, ad.off + 3, none⟩ = some (.int .i64 y3) := j3
      have hnb : ad.block ≠ w.heap.size + 1 := by omega
      have eqq := fun W => item_run y0 y1 y2 y3 y0 y1 y2 y3 W
      rw [eqB_iff.2 rfl] at eqq
      have KEEP : Hid ((fun Y : World => Y.cell? ⟨w2.heap.size, 0, none⟩ = some (.int .i64 (N : Int)) ∧ Y.cell? ⟨w.heap.size, 0, none⟩ = some (.slice (some ad) N c) ∧ Y.cell? ⟨w3.heap.size, 0, none⟩ = some (.int .i64 y0) ∧ Y.cell? ⟨w3.heap.size, 1, none⟩ = some (.int .i64 y1) ∧ Y.cell? ⟨w3.heap.size, 2, none⟩ = some (.int .i64 y2) ∧ Y.cell? ⟨w3.heap.size, 3, none⟩ = some (.int .i64 y3) ∧ Y.cell? ad = some (.int .i64 y0) ∧ Y.cell? ⟨ad.block, ad.off + 1, none⟩ = some (.int .i64 y1) ∧ Y.cell? ⟨ad.block, ad.off + 2, none⟩ = some (.int .i64 y2) ∧ Y.cell? ⟨ad.block, ad.off + 3, none⟩ = some (.int .i64 y3)) (W4.drew.setCell ⟨w.heap.size + 1, 0, none⟩ (.bool true))) := hidd (by
        refine ⟨?_, ?_, ?_, ?_, ?_, ?_, ?_, ?_, ?_, ?_⟩ <;> refine (World.cell?_of_block (Below.heap_setCell _ _ _ _ (by first | exact hnb | (dsimp only; omega)))).trans ?_ <;> assumption)
      have HW4 := hidd hW4
      clear hW4 gc gl gr gf hvc B34 gl4 CE0 ITM
      gi_wp2_with fail
      rw [HW4.out]
      refine wpIn_wide.2 (wp_only ?_)
      refine wp_region_held_drew (S := (fun Y => Y.cell? ⟨w2.heap.size, 0, none⟩ = some (.int .i64 (N : Int)) ∧ Y.cell? ⟨w.heap.size, 0, none⟩ = some (.slice (some ad) N c) ∧ Y.cell? ⟨w3.heap.size, 0, none⟩ = some (.int .i64 y0) ∧ Y.cell? ⟨w3.heap.size, 1, none⟩ = some (.int .i64 y1) ∧ Y.cell? ⟨w3.heap.size, 2, none⟩ = some (.int .i64 y2) ∧ Y.cell? ⟨w3.heap.size, 3, none⟩ = some (.int .i64 y3) ∧ Y.cell? ad = some (.int .i64 y0) ∧ Y.cell? ⟨ad.block, ad.off + 1, none⟩ = some (.int .i64 y1) ∧ Y.cell? ⟨ad.block, ad.off + 2, none⟩ = some (.int .i64 y2) ∧ Y.cell? ⟨ad.block, ad.off + 3, none⟩ = some (.int .i64 y3))) (by kernel_rfl) ⟨vN, gc4, k0, k1, k2, k3, j0, j1, j2, j3⟩ (fun hH => ?_)
      refine wpAnyH_take (i := 0) (v := ?vc0) (by (conv => lhs; simp only [List.getElem?_toArray, List.getElem?_cons_succ, List.getElem?_cons_zero])) (by kernel_rfl) (by kernel_rfl) (by kernel_rfl) ?hQ (Or.inl ⟨by rfl, ?hyc0⟩) hH ?restc0
      case hQ => exact fun _ _ _ h => h
      case hyc0 => (intro Y hY; obtain ⟨e0, e1, e2, e3, e4, e5, e6, e7, e8, e9⟩ := hY; go_simp; try (with_reducible rfl))
      try simp only [Act.put, List.setIfInBounds_toArray, List.set_cons_zero, List.set_cons_succ]
      refine wpAnyH_take (i := 1) (v := ?vc1) (by (conv => lhs; simp only [List.getElem?_toArray, List.getElem?_cons_succ, List.getElem?_cons_zero])) (by kernel_rfl) (by kernel_rfl) (by kernel_rfl) ?hQ (Or.inl ⟨by rfl, ?hyc1⟩) hH ?restc1
      case hQ => exact fun _ _ _ h => h
      case hyc1 => (intro Y hY; obtain ⟨e0, e1, e2, e3, e4, e5, e6, e7, e8, e9⟩ := hY; go_simp; try (with_reducible rfl))
      try simp only [Act.put, List.setIfInBounds_toArray, List.set_cons_zero, List.set_cons_succ]
      refine wpAnyH_take (i := 2) (v := ?vc2) (by (conv => lhs; simp only [List.getElem?_toArray, List.getElem?_cons_succ, List.getElem?_cons_zero])) (by kernel_rfl) (by kernel_rfl) (by kernel_rfl) ?hQ (Or.inl ⟨by rfl, ?hyc2⟩) hH ?restc2
      case hQ => exact fun _ _ _ h => h
      case hyc2 => (intro Y hY; obtain ⟨e0, e1, e2, e3, e4, e5, e6, e7, e8, e9⟩ := hY; go_simp; try (with_reducible rfl))
      try simp only [Act.put, List.setIfInBounds_toArray, List.set_cons_zero, List.set_cons_succ]
      refine wpAnyH_take (i := 3) (v := ?vc3) (by (conv => lhs; simp only [List.getElem?_toArray, List.getElem?_cons_succ, List.getElem?_cons_zero])) (by kernel_rfl) (by kernel_rfl) (by kernel_rfl) ?hQ (Or.inl ⟨by rfl, ?hyc3⟩) hH ?restc3
      case hQ => exact fun _ _ _ h => h
      case hyc3 => (intro Y hY; obtain ⟨e0, e1, e2, e3, e4, e5, e6, e7, e8, e9⟩ := hY; go_simp; try (with_reducible rfl))
      try simp only [Act.put, List.setIfInBounds_toArray, List.set_cons_zero, List.set_cons_succ]
      refine wpAnyH_take (i := 4) (v := ?vc4) (by (conv => lhs; simp only [List.getElem?_toArray, List.getElem?_cons_succ, List.getElem?_cons_zero])) (by kernel_rfl) (by kernel_rfl) (by kernel_rfl) ?hQ (Or.inl ⟨by rfl, ?hyc4⟩) hH ?restc4
      case hQ => exact fun _ _ _ h => h
      case hyc4 => (intro Y hY; obtain ⟨e0, e1, e2, e3, e4, e5, e6, e7, e8, e9⟩ := hY; go_simp; try (with_reducible rfl))
      try simp only [Act.put, List.setIfInBounds_toArray, List.set_cons_zero, List.set_cons_succ]
      refine wpAnyH_take (i := 5) (v := ?vc5) (by (conv => lhs; simp only [List.getElem?_toArray, List.getElem?_cons_succ, List.getElem?_cons_zero])) (by kernel_rfl) (by kernel_rfl) (by kernel_rfl) ?hQ (Or.inl ⟨by rfl, ?hyc5⟩) hH ?restc5
      case hQ => exact fun _ _ _ h => h
      case hyc5 => (intro Y hY; obtain ⟨e0, e1, e2, e3, e4, e5, e6, e7, e8, e9⟩ := hY; go_simp; try (with_reducible rfl))
      try simp only [Act.put, List.setIfInBounds_toArray, List.set_cons_zero, List.set_cons_succ]
      refine wpAnyH_take (i := 6) (v := ?vc6) (by (conv => lhs; simp only [List.getElem?_toArray, List.getElem?_cons_succ, List.getElem?_cons_zero])) (by kernel_rfl) (by kernel_rfl) (by kernel_rfl) ?hQ (Or.inl ⟨by rfl, ?hyc6⟩) hH ?restc6
      case hQ => exact fun _ _ _ h => h
      case hyc6 => (intro Y hY; obtain ⟨e0, e1, e2, e3, e4, e5, e6, e7, e8, e9⟩ := hY; go_simp; try (with_reducible rfl))
      try simp only [Act.put, List.setIfInBounds_toArray, List.set_cons_zero, List.set_cons_succ]
      refine wpAnyH_take (i := 8) (v := ?vc8) (by (conv => lhs; simp only [List.getElem?_toArray, List.getElem?_cons_succ, List.getElem?_cons_zero])) (by kernel_rfl) (by kernel_rfl) (by kernel_rfl) ?hQ (Or.inl ⟨by rfl, ?hyc8⟩) hH ?restc8
      case hQ => exact fun _ _ _ h => h
      case hyc8 => (intro Y hY; obtain ⟨e0, e1, e2, e3, e4, e5, e6, e7, e8, e9⟩ := hY; go_simp; try (with_reducible rfl))
      try simp only [Act.put, List.setIfInBounds_toArray, List.set_cons_zero, List.set_cons_succ]
      refine wpAnyH_ready (rs := [7]) (by kernel_rfl) (by simp) ?_
      refine AllReadyH.cons (by (conv => lhs; simp only [List.getElem?_toArray, List.getElem?_cons_succ, List.getElem?_cons_zero])) (fun K hK => ?_) AllReadyH.nil
      go_simp
      go_at_call 19; refine CEx.out.mono ?_; rintro e w5 ⟨rfl, rfl⟩
      refine hK.out _ _ hH (fun hH1 => ?_)
      clear hK hH
      try simp only [Act.put, List.setIfInBounds_toArray, List.set_cons_zero, List.set_cons_succ]
      refine wpAnyH_take (i := 9) (v := ?vd9) (by (conv => lhs; simp only [List.getElem?_toArray, List.getElem?_cons_succ, List.getElem?_cons_zero])) (by kernel_rfl) (by kernel_rfl) (by kernel_rfl) ?hQ (Or.inl ⟨by rfl, ?hyd9⟩) hH1 ?restd9
      case hQ => exact fun _ _ _ h => h
      case hyd9 => (intro Y hY; obtain ⟨e0, e1, e2, e3, e4, e5, e6, e7, e8, e9⟩ := hY; go_simp; try (with_reducible rfl))
      try simp only [Act.put, List.setIfInBounds_toArray, List.set_cons_zero, List.set_cons_succ]
      refine wpAnyH_take (i := 10) (v := ?vd10) (by (conv => lhs; simp only [List.getElem?_toArray, List.getElem?_cons_succ, List.getElem?_cons_zero])) (by kernel_rfl) (by kernel_rfl) (by kernel_rfl) ?hQ (Or.inl ⟨by rfl, ?hyd10⟩) hH1 ?restd10
      case hQ => exact fun _ _ _ h => h
      case hyd10 => (intro Y hY; obtain ⟨e0, e1, e2, e3, e4, e5, e6, e7, e8, e9⟩ := hY; go_simp; try (with_reducible rfl))
      try simp only [Act.put, List.setIfInBounds_toArray, List.set_cons_zero, List.set_cons_succ]
      refine wpAnyH_take (i := 11) (v := ?vd11) (by (conv => lhs; simp only [List.getElem?_toArray, List.getElem?_cons_succ, List.getElem?_cons_zero])) (by kernel_rfl) (by kernel_rfl) (by kernel_rfl) ?hQ (Or.inl ⟨by rfl, ?hyd11⟩) hH1 ?restd11
      case hQ => exact fun _ _ _ h => h
      case hyd11 => (intro Y hY; obtain ⟨e0, e1, e2, e3, e4, e5, e6, e7, e8, e9⟩ := hY; go_simp; try (with_reducible rfl))
      try simp only [Act.put, List.setIfInBounds_toArray, List.set_cons_zero, List.set_cons_succ]
      refine wpAnyH_take (i := 12) (v := ?vd12) (by (conv => lhs; simp only [List.getElem?_toArray, List.getElem?_cons_succ, List.getElem?_cons_zero])) (by kernel_rfl) (by kernel_rfl) (by kernel_rfl) ?hQ (Or.inl ⟨by rfl, ?hyd12⟩) hH1 ?restd12
      case hQ => exact fun _ _ _ h => h
      case hyd12 => (intro Y hY; obtain ⟨e0, e1, e2, e3, e4, e5, e6, e7, e8, e9⟩ := hY; go_simp; try (with_reducible rfl))
      try simp only [Act.put, List.setIfInBounds_toArray, List.set_cons_zero, List.set_cons_succ]
      refine wpAnyH_take (i := 13) (v := ?vd13) (by (conv => lhs; simp only [List.getElem?_toArray, List.getElem?_cons_succ, List.getElem?_cons_zero])) (by kernel_rfl) (by kernel_rfl) (by kernel_rfl) ?hQ (Or.inl ⟨by rfl, ?hyd13⟩) hH1 ?restd13
      case hQ => exact fun _ _ _ h => h
      case hyd13 => (intro Y hY; obtain ⟨e0, e1, e2, e3, e4, e5, e6, e7, e8, e9⟩ := hY; go_simp; try (with_reducible rfl))
      try simp only [Act.put, List.setIfInBounds_toArray, List.set_cons_zero, List.set_cons_succ]
      refine wpAnyH_take (i := 14) (v := ?vd14) (by (conv => lhs; simp only [List.getElem?_toArray, List.getElem?_cons_succ, List.getElem?_cons_zero])) (by kernel_rfl) (by kernel_rfl) (by kernel_rfl) ?hQ (Or.inl ⟨by rfl, ?hyd14⟩) hH1 ?restd14
      case hQ => exact fun _ _ _ h => h
      case hyd14 => (intro Y hY; obtain ⟨e0, e1, e2, e3, e4, e5, e6, e7, e8, e9⟩ := hY; go_simp; try (with_reducible rfl))
      try simp only [Act.put, List.setIfInBounds_toArray, List.set_cons_zero, List.set_cons_succ]
      refine wpAnyH_take (i := 15) (v := ?vd15) (by (conv => lhs; simp only [List.getElem?_toArray, List.getElem?_cons_succ, List.getElem?_cons_zero])) (by kernel_rfl) (by kernel_rfl) (by kernel_rfl) ?hQ (Or.inl ⟨by rfl, ?hyd15⟩) hH1 ?restd15
      case hQ => exact fun _ _ _ h => h
      case hyd15 => (intro Y hY; obtain ⟨e0, e1, e2, e3, e4, e5, e6, e7, e8, e9⟩ := hY; go_simp; try (with_reducible rfl))
      try simp only [Act.put, List.setIfInBounds_toArray, List.set_cons_zero, List.set_cons_succ]
      refine wpAnyH_take (i := 16) (v := ?vd16) (by (conv => lhs; simp only [List.getElem?_toArray, List.getElem?_cons_succ, List.getElem?_cons_zero])) (by kernel_rfl) (by kernel_rfl) (by kernel_rfl) ?hQ (Or.inl ⟨by rfl, ?hyd16⟩) hH1 ?restd16
      case hQ => exact fun _ _ _ h => h
      case hyd16 => (intro Y hY; obtain ⟨e0, e1, e2, e3, e4, e5, e6, e7, e8, e9⟩ := hY; go_simp; try (with_reducible rfl))
      try simp only [Act.put, List.setIfInBounds_toArray, List.set_cons_zero, List.set_cons_succ]
      refine wpAnyH_take (i := 17) (v := ?vd17) (by (conv => lhs; simp only [List.getElem?_toArray, List.getElem?_cons_succ, List.getElem?_cons_zero])) (by kernel_rfl) (by kernel_rfl) (by kernel_rfl) ?hQ (Or.inl ⟨by rfl, ?hyd17⟩) hH1 ?restd17
      case hQ => exact fun _ _ _ h => h
      case hyd17 => (intro Y hY; obtain ⟨e0, e1, e2, e3, e4, e5, e6, e7, e8, e9⟩ := hY; go_simp; try (with_reducible rfl))
      try simp only [Act.put, List.setIfInBounds_toArray, List.set_cons_zero, List.set_cons_succ]
      refine wpAnyH_take (i := 18) (v := ?vd18) (by (conv => lhs; simp only [List.getElem?_toArray, List.getElem?_cons_succ, List.getElem?_cons_zero])) (by kernel_rfl) (by kernel_rfl) (by kernel_rfl) ?hQ (Or.inl ⟨by rfl, ?hyd18⟩) hH1 ?restd18
      case hQ => exact fun _ _ _ h => h
      case hyd18 => (intro Y hY; obtain ⟨e0, e1, e2, e3, e4, e5, e6, e7, e8, e9⟩ := hY; go_simp; try (with_reducible rfl))
      try simp only [Act.put, List.setIfInBounds_toArray, List.set_cons_zero, List.set_cons_succ]
      refine wpAnyH_take (i := 19) (v := ?vd19) (by (conv => lhs; simp only [List.getElem?_toArray, List.getElem?_cons_succ, List.getElem?_cons_zero])) (by kernel_rfl) (by kernel_rfl) (by kernel_rfl) ?hQ (Or.inl ⟨by rfl, ?hyd19⟩) hH1 ?restd19
      case hQ => exact fun _ _ _ h => h
      case hyd19 => (intro Y hY; obtain ⟨e0, e1, e2, e3, e4, e5, e6, e7, e8, e9⟩ := hY; go_simp; try (with_reducible rfl))
      try simp only [Act.put, List.setIfInBounds_toArray, List.set_cons_zero, List.set_cons_succ]
      refine wpAnyH_take (i := 20) (v := ?vd20) (by (conv => lhs; simp only [List.getElem?_toArray, List.getElem?_cons_succ, List.getElem?_cons_zero])) (by kernel_rfl) (by kernel_rfl) (by kernel_rfl) ?hQ (Or.inl ⟨by rfl, ?hyd20⟩) hH1 ?restd20
      case hQ => exact fun _ _ _ h => h
      case hyd20 => (intro Y hY; obtain ⟨e0, e1, e2, e3, e4, e5, e6, e7, e8, e9⟩ := hY; go_simp; try (with_reducible rfl))
      try simp only [Act.put, List.setIfInBounds_toArray, List.set_cons_zero, List.set_cons_succ]
      refine wpAnyH_take (i := 21) (v := ?vd21) (by (conv => lhs; simp only [List.getElem?_toArray, List.getElem?_cons_succ, List.getElem?_cons_zero])) (by kernel_rfl) (by kernel_rfl) (by kernel_rfl) ?hQ (Or.inl ⟨by rfl, ?hyd21⟩) hH1 ?restd21
      case hQ => exact fun _ _ _ h => h
      case hyd21 => (intro Y hY; obtain ⟨e0, e1, e2, e3, e4, e5, e6, e7, e8, e9⟩ := hY; go_simp; try (with_reducible rfl))
      try simp only [Act.put, List.setIfInBounds_toArray, List.set_cons_zero, List.set_cons_succ]
      refine wpAnyH_take (i := 22) (v := ?vd22) (by (conv => lhs; simp only [List.getElem?_toArray, List.getElem?_cons_succ, List.getElem?_cons_zero])) (by kernel_rfl) (by kernel_rfl) (by kernel_rfl) ?hQ (Or.inl ⟨by rfl, ?hyd22⟩) hH1 ?restd22
      case hQ => exact fun _ _ _ h => h
      case hyd22 => (intro Y hY; obtain ⟨e0, e1, e2, e3, e4, e5, e6, e7, e8, e9⟩ := hY; go_simp; try (with_reducible rfl))
      try simp only [Act.put, List.setIfInBounds_toArray, List.set_cons_zero, List.set_cons_succ]
      refine wpAnyH_take (i := 23) (v := ?vd23) (by (conv => lhs; simp only [List.getElem?_toArray, List.getElem?_cons_succ, List.getElem?_cons_zero])) (by kernel_rfl) (by kernel_rfl) (by kernel_rfl) ?hQ (Or.inl ⟨by rfl, ?hyd23⟩) hH1 ?restd23
      case hQ => exact fun _ _ _ h => h
      case hyd23 => (intro Y hY; obtain ⟨e0, e1, e2, e3, e4, e5, e6, e7, e8, e9⟩ := hY; go_simp; try (with_reducible rfl))
      try simp only [Act.put, List.setIfInBounds_toArray, List.set_cons_zero, List.set_cons_succ]
      refine wpAnyH_take (i := 24) (v := ?vd24) (by (conv => lhs; simp only [List.getElem?_toArray, List.getElem?_cons_succ, List.getElem?_cons_zero])) (by kernel_rfl) (by kernel_rfl) (by kernel_rfl) ?hQ (Or.inl ⟨by rfl, ?hyd24⟩) hH1 ?restd24
      case hQ => exact fun _ _ _ h => h
      case hyd24 => (intro Y hY; obtain ⟨e0, e1, e2, e3, e4, e5, e6, e7, e8, e9⟩ := hY; go_simp; try (with_reducible rfl))
      try simp only [Act.put, List.setIfInBounds_toArray, List.set_cons_zero, List.set_cons_succ]
      refine wpAnyH_take (i := 25) (v := ?vd25) (by (conv => lhs; simp only [List.getElem?_toArray, List.getElem?_cons_succ, List.getElem?_cons_zero])) (by kernel_rfl) (by kernel_rfl) (by kernel_rfl) ?hQ (Or.inl ⟨by rfl, ?hyd25⟩) hH1 ?restd25
      case hQ => exact fun _ _ _ h => h
      case hyd25 => (intro Y hY; obtain ⟨e0, e1, e2, e3, e4, e5, e6, e7, e8, e9⟩ := hY; go_simp; try (with_reducible rfl))
      try simp only [Act.put, List.setIfInBounds_toArray, List.set_cons_zero, List.set_cons_succ]
      refine wpAnyH_take (i := 26) (v := ?vd26) (by (conv => lhs; simp only [List.getElem?_toArray, List.getElem?_cons_succ, List.getElem?_cons_zero])) (by kernel_rfl) (by kernel_rfl) (by kernel_rfl) ?hQ (Or.inl ⟨by rfl, ?hyd26⟩) hH1 ?restd26
      case hQ => exact fun _ _ _ h => h
      case hyd26 => (intro Y hY; obtain ⟨e0, e1, e2, e3, e4, e5, e6, e7, e8, e9⟩ := hY; go_simp; try (with_reducible rfl))
      try simp only [Act.put, List.setIfInBounds_toArray, List.set_cons_zero, List.set_cons_succ]
      refine wpAnyH_take (i := 27) (v := ?vd27) (by (conv => lhs; simp only [List.getElem?_toArray, List.getElem?_cons_succ, List.getElem?_cons_zero])) (by kernel_rfl) (by kernel_rfl) (by kernel_rfl) ?hQ (Or.inl ⟨by rfl, ?hyd27⟩) hH1 ?restd27
      case hQ => exact fun _ _ _ h => h
      case hyd27 => (intro Y hY; obtain ⟨e0, e1, e2, e3, e4, e5, e6, e7, e8, e9⟩ := hY; go_simp; try (with_reducible rfl))
      try simp only [Act.put, List.setIfInBounds_toArray, List.set_cons_zero, List.set_cons_succ]
      refine wpAnyH_take (i := 28) (v := ?vd28) (by (conv => lhs; simp only [List.getElem?_toArray, List.getElem?_cons_succ, List.getElem?_cons_zero])) (by kernel_rfl) (by kernel_rfl) (by kernel_rfl) ?hQ (Or.inl ⟨by rfl, ?hyd28⟩) hH1 ?restd28
      case hQ => exact fun _ _ _ h => h
      case hyd28 => (intro Y hY; obtain ⟨e0, e1, e2, e3, e4, e5, e6, e7, e8, e9⟩ := hY; go_simp; try (with_reducible rfl))
      try simp only [Act.put, List.setIfInBounds_toArray, List.set_cons_zero, List.set_cons_succ]
      refine wpAnyH_ready (rs := [29]) (by kernel_rfl) (by simp) ?_
      refine AllReadyH.cons (by (conv => lhs; simp only [List.getElem?_toArray, List.getElem?_cons_succ, List.getElem?_cons_zero])) (fun K hK => ?_) AllReadyH.nil
      have gr5 : W4.drew.cell? ⟨w.heap.size + 1, 0, none⟩ = some (.bool false) := gr4
      have gf5 : W4.drew.frozen? ⟨w.heap.size + 1, 0, none⟩ = false := gf4
      have hH5 : (fun Y : World => Y.cell? ⟨w2.heap.size, 0, none⟩ = some (.int .i64 (N : Int)) ∧ Y.cell? ⟨w.heap.size, 0, none⟩ = some (.slice (some ad) N c) ∧ Y.cell? ⟨w3.heap.size, 0, none⟩ = some (.int .i64 y0) ∧ Y.cell? ⟨w3.heap.size, 1, none⟩ = some (.int .i64 y1) ∧ Y.cell? ⟨w3.heap.size, 2, none⟩ = some (.int .i64 y2) ∧ Y.cell? ⟨w3.heap.size, 3, none⟩ = some (.int .i64 y3) ∧ Y.cell? ad = some (.int .i64 y0) ∧ Y.cell? ⟨ad.block, ad.off + 1, none⟩ = some (.int .i64 y1) ∧ Y.cell? ⟨ad.block, ad.off + 2, none⟩ = some (.int .i64 y2) ∧ Y.cell? ⟨ad.block, ad.off + 3, none⟩ = some (.int .i64 y3)) (W4.drew.setCell ⟨w.heap.size + 1, 0, none⟩ (.bool true)) := KEEP.out
      clear gr4 gf4 k0 k1 k2 k3 vN gc4 j0 j1 j2 j3
      go_simp
      refine hK.out _ _ hH5 (fun hH6 => ?_)
      clear hK
      try simp only [Act.put]
      refine wpAnyH_done (by kernel_rfl) ?_ _
      gi_wp2_with fail
      have hne : D ≠ w.heap.size + 1 := by have := HDN.out; omega
      have hKS : (W4.setCell ⟨w.heap.size + 1, 0, none⟩ (.bool true)).drew.heap[D]? = some (.deferred (some [])) := (Below.heap_setCell _ _ _ _ hne).trans HK4.out
      have hrc : (W4.setCell ⟨w.heap.size + 1, 0, none⟩ (.bool true)).drew.cell? ⟨w.heap.size + 1, 0, none⟩ = some (.bool true) := World.cell?_setCell_same' W4.drew ⟨w.heap.size + 1, 0, none⟩ (.bool true) (by rw [gr5]; rfl)
      have hgp := grownBy_putObj' (W4.setCell ⟨w.heap.size + 1, 0, none⟩ (.bool true)).drew D (.deferred none)
      have hrp := cell_kept hrc hgp (fun r e => by cases e; exact ⟨_, hKS, rfl⟩)
      refine ⟨by simp, .inl ⟨_, _, rfl, run_takeDeferred hKS, ?_⟩⟩
      refine ⟨.bool true, ?_, rfl, ?_⟩
      · simp [results, Try.results8, go_sem, hrp]
      · exact (Below.drew (HB4.out.setCell (p := ⟨w.heap.size + 1, 0, none⟩) (by show w.heap.size ≤ w.heap.size + 1; omega) (.bool true))).grown hgp (Below.drew (HB4.out.setCell (p := ⟨w.heap.size + 1, 0, none⟩) (by show w.heap.size ≤ w.heap.size + 1; omega) (.bool true))).size (fun k e => by cases e; have := HDN.out; omega)
end Go.Proofs.Ytohkkebiilaniaa.Hp

/- Heaps: a call of the law's does, where the list is the heap's items in order. -/
namespace Go.Proofs.Ytohkkebiilaniaa.Hp
set_option linter.unusedVariables false
open Go.RowKit Go.Maps Go.Sort Go.Proofs.Ytohkkebiilaniaa.Tp
/-- the heap and the document's list beside it. -/
structure Play (R : Nat → Prop) (w : World) (h : Nat) (v : Value) (M : List It) (T : Int) (G : List It) : Prop where
  hr : HR R w h M T
  rl : RL w v G
  ag : Agr M T G T
  sep : ∀ q, v.ownBlock = some q → ¬ R q
section
variable {R : Nat → Prop} {w w' : World} {h : Nat} {v : Value} {M G : List It} {T : Int}
theorem Play.okl (P : Play R w h v M T G) : OkL G := fun x hx => P.hr.ok x (P.ag.p.mem_iff.1 hx)
theorem Play.len (P : Play R w h v M T G) : G.length = M.length := P.ag.p.length_eq
theorem Play.below (P : Play R w h v M T G) (hb : Below w.heap.size w w') : Play R w' h v M T G := ⟨P.hr.below hb, P.rl.below hb, P.ag, P.sep⟩
theorem Play.keep (P : Play R w h v M T G) {g : Nat} (hb : ∀ k, k ≠ g → w'.heap[k]? = w.heap[k]?) (hg : ¬ R g) (hv : ∀ q, v.ownBlock = some q → q ≠ g) : Play R w' h v M T G :=
  ⟨P.hr.keep (fun k hk => hb k (fun e => hg (e ▸ hk))), OwnL.to P.rl (fun q e => hb q (hv q e)), P.ag, P.sep⟩
/-- what a call leaves. -/
def PlayEnd (R : Nat → Prop) (w : World) (h : Nat) (v : Value) (M : List It) (T : Int) (e : Ending) (w' : World) : Prop :=
  ∃ R' M' T' v' G', e = .returned (.tuple #[.agg #[v', .int .i64 T'], .bool true]) ∧ Play R' w' h v' M' T' G' ∧ Sav R w w' ∧ Nxt R R' w ∧ New w v v' ∧ M'.length ≤ M.length + 1 ∧ 0 ≤ T' ∧ T' ≤ T + 1
theorem does_play (P : Play R w h v M T G) (x : Int × Int × Int × Int) (hx : WdA x) (hL : M.length < 100000) (hT0 : 0 ≤ T) (hT1 : T < 1000000) :
    Calls Try.prog 7 #[.pointer (some ⟨h, 0, none⟩), .agg #[v, .int .i64 T], .agg #[.int .i64 x.1, .int .i64 x.2.1, .int .i64 x.2.2.1, .int .i64 x.2.2.2]] w (PlayEnd R w h v M T) := by
  have hO := P.okl
  have hLG : G.length < 100000 := by rw [P.len]; exact hL
  obtain ⟨H, HG, A, hsep⟩ := P
  obtain ⟨kind, id, n, d⟩ := x
  obtain ⟨i0, i1, h0, h1, h2, h3⟩ := hx
  by_cases k1 : kind = 1
  · subst k1
    refine (does_1 H HG hO hsep i0 i1 h0 h1 h2 h3 hL hT0 hT1 hLG hT0 hT1).mono ?_
    rintro e w' ⟨R', M', T', v', G', TG', B, he, s, hb⟩
    obtain ⟨rfl, A'⟩ := agr_1 H A s
    obtain ⟨er, eg, p, _, _⟩ := s
    have := len1 p
    obtain rfl := A'.t
    exact ⟨R', M', _, v', G', he, ⟨hb.hr, hb.rl, A', hb.sep⟩, hb.sav, hb.nxt, hb.new, this.1, by omega, this.2.2⟩
  by_cases k2 : kind = 2
  · subst k2
    refine (does_2 H HG hO hsep i0 i1 h0 h1 h2 h3 hL hT0 hT1 hLG hT0 hT1).mono ?_
    rintro e w' ⟨R', M', T', v', G', TG', B, he, s, hb⟩
    obtain ⟨rfl, A'⟩ := agr_2 H A s
    obtain ⟨e1, e2, er, eg, p, _, _⟩ := s
    have := len2 p
    obtain rfl := A'.t
    exact ⟨R', M', _, v', G', he, ⟨hb.hr, hb.rl, A', hb.sep⟩, hb.sav, hb.nxt, hb.new, this, by omega, by omega⟩
  by_cases k3 : kind = 3
  · subst k3
    refine (does_3 H HG hO hsep i0 i1 h0 h1 h2 h3 hL hT0 hT1 hLG hT0 hT1).mono ?_
    rintro e w' ⟨R', M', T', v', G', TG', B, he, s, hb⟩
    obtain ⟨rfl, A'⟩ := agr_3 H A s
    obtain ⟨e1, e2, er, eg, p, _, _⟩ := s
    have := len3 p
    obtain rfl := A'.t
    exact ⟨R', M', _, v', G', he, ⟨hb.hr, hb.rl, A', hb.sep⟩, hb.sav, hb.nxt, hb.new, this, by omega, by omega⟩
  by_cases k4 : kind = 4
  · subst k4
    refine (does_4 H HG hO hsep i0 i1 h0 h1 h2 h3 hL hT0 hT1 hLG hT0 hT1).mono ?_
    rintro e w' ⟨R', M', T', v', G', TG', B, he, s, hb⟩
    obtain ⟨rfl, A'⟩ := agr_4 H A s
    obtain ⟨e1, e2, y, is, z, it, p, _, _⟩ := s
    have := len4 p
    obtain rfl := A'.t
    exact ⟨R', M', _, v', G', he, ⟨hb.hr, hb.rl, A', hb.sep⟩, hb.sav, hb.nxt, hb.new, this, by omega, by omega⟩
  refine (does_other H HG hO hsep i0 i1 h0 h1 h2 h3 hL hT0 hT1 hLG hT0 hT1 kind (by simp [k1, k2, k3, k4])).mono ?_
  rintro e w' ⟨he, hb⟩
  exact ⟨R, M, T, v, G, he, ⟨H.below hb, HG.below hb, A, hsep⟩, Sav.of hb, Nxt.refl R w, fun q e => .inl e, by omega, by omega, by omega⟩
end
/-- the document's heap in block g. -/
def DAt (w : World) (g : Nat) (v : Value) (T : Int) : Prop := w.heap[g]? = some (.cells #[v, .int .i64 T] 28 (0, 0))
section
variable {w w' : World} {g : Nat} {v : Value} {T : Int}
theorem DAt.lt (h : DAt w g v T) : g < w.heap.size := (Array.getElem?_eq_some_iff.1 h).1
theorem DAt.cells (h : DAt w g v T) : w.cell? ⟨g, 0, none⟩ = some v ∧ w.cell? ⟨g, 1, none⟩ = some (.int .i64 T) := by
  unfold DAt at h
  refine ⟨?_, ?_⟩ <;> simp [World.cell?, h]
theorem DAt.of (h : DAt w g v T) (e : w'.heap[g]? = w.heap[g]?) : DAt w' g v T := e.trans h
theorem DAt.below (h : DAt w g v T) (hb : Below w.heap.size w w') : DAt w' g v T := h.of (hb.block g h.lt)
theorem DAt.new (w : World) (v : Value) (T : Int) : DAt (w.alloc (.cells #[v, .int .i64 T] 28)) w.heap.size v T := World.alloc_heap_new w _
end
end Go.Proofs.Ytohkkebiilaniaa.Hp

/- Heaps: HeapPlay's walk. -/
namespace Go.Proofs.Ytohkkebiilaniaa.Hp
set_option linter.unusedVariables false
open Go.RowKit Go.Maps Go.Sort Go.Proofs.Ytohkkebiilaniaa.Tp
set_option maxRecDepth 100000 in
set_option maxHeartbeats 16000000 in
theorem play_walk (A : Option Addr) (L : List (Int × Int × Int × Int)) (c : Nat) (hWd : ∀ x ∈ L, WdA x) (hlc : L.length ≤ c) (hcm : c ≤ maxLen) (id : Int) (hid : -9223372036854775808 ≤ id ∧ id ≤ 9223372036854775807) (w : World) (hA : Lie actV 4 w w.heap.size A L) :
    Calls Try.prog 3 #[.slice A L.length c, .int .i64 id] w fun e w' => e = .returned (.bool true) ∧ Below w.heap.size w w' := by
  have cK := hidd (fun W => known11_any W)
  have cN := hidd (fun W => newR W)
  by_cases h60 : 60 < L.length
  · have z : (60 : Int) < (L.length : Int) := by omega
    generalize L.length = N at *
    clear hWd hA hid
    go_enter Try.func3, Try.ntmps3
    go_wp2_with fail
    refine (cK.out _).mono ?_
    rintro e w1 ⟨rfl, hb⟩
    go_wp2_with fail
    go_ret
    exact ⟨rfl, by (repeat' (first | (with_reducible exact Below.refl _ _) | (with_reducible assumption) | (with_reducible apply Below.setCell) | (with_reducible apply Below.alloc) | (with_reducible apply Below.drew) | (with_reducible apply below_drewN) | (with_reducible refine Below.trans ?_ (Below.mono (by assumption) ?_)) | omega | (simp; done) | (simp; omega)))⟩
  have z60 : ¬ (60 : Int) < (L.length : Int) := by omega
  have HWd := hidd hWd
  have HA := hidd hA
  have cD := hidd (fun W R v M T G h (P : Play R W h v M T G) x hx hL h0 h1 => does_play P x hx hL h0 h1)
  have cS := hidd (fun W R v M T G h (P : Play R W h v M T G) hl => same_yes (TG := T) P.hr P.rl P.ag.p P.ag.s hl)
  have cG := hidd (fun W R h M T (H : HR R W h M T) => getH H hid.1 hid.2)
  have cF := hidd (fun W v G T hm (H : RL W v G) => find11_any v G T id hm W H)
  clear hA hWd hid
  unfold PlayEnd at cD
  go_enter Try.func3, Try.ntmps3
  go_wp2_with fail
  refine (cN.out _).mono ?_
  rintro e w0 ⟨rfl, ⟨R0, hR0, hn0⟩, hb0⟩
  have HB0 := hidd hb0
  have HR0 := hidd hR0
  have N0 := hidd hn0
  have hwg0 : w.heap.size ≤ w0.heap.size := hb0.size
  clear hb0 hR0 hn0
  generalize w.heap.size + 1 = h at *
  go_wp2_with fail
  obtain ⟨W0, hW0⟩ : ∃ W0 : World, w0.alloc (.cells #[.slice none 0 0, .int .i64 0] 28) = W0 := ⟨_, rfl⟩
  have HG0 : Hid (DAt W0 w0.heap.size (.slice none 0 0) 0) := hidd (by rw [← hW0]; exact DAt.new _ _ _)
  have H0 : Hid (Below w.heap.size w W0) := hidd (by rw [← hW0]; exact below_new HB0.out _)
  have HP0 : Hid (Play R0 W0 h (.slice none ([] : List It).length 0) [] 0 []) := hidd (by rw [← hW0]; exact ⟨HR0.out.below (below_new (Below.refl _ _) _), OwnL.nil _ 0 _, ⟨List.Perm.refl _, List.Pairwise.nil, rfl⟩, fun q e => by cases e⟩)
  have NG0 : Hid (¬ R0 w0.heap.size) := hidd (fun r => by have := HR0.out.lt _ r; omega)
  rw [hW0]
  clear hW0 HB0 HR0
  generalize w0.heap.size = g at *
  go_loopg [7] L.length (fun gk s7 wr => ∃ (i : Nat) (R : Nat → Prop) (GA : Option Addr) (gc : Nat) (M : List It) (T : Int) (G : List It), i + gk = L.length ∧ s7 = .int .i64 (i : Int) ∧ Play R wr h (.slice GA G.length gc) M T G ∧ (∀ k, R k → w.heap.size ≤ k) ∧ ¬ R g ∧ (∀ q, (Value.slice GA G.length gc).ownBlock = some q → q ≠ g) ∧ DAt wr g (.slice GA G.length gc) T ∧ Below w.heap.size w wr ∧ M.length ≤ i ∧ 0 ≤ T ∧ T ≤ (i : Int))
  case atStart => exact ⟨0, R0, none, 0, [], 0, [], by omega, rfl, HP0.out, N0.out, NG0.out, (fun q e => by cases e), HG0.out, H0.out, by simp, by omega, by omega⟩
  case round =>
    clear HP0 HG0 H0 NG0 N0
    obtain ⟨i, R, GA, gc, M, T, G, hk, rfl, hP, hN, hgn, hvg, hD, hB, hMl, hT0, hT1⟩ := hrel
    have HP := hidd hP
    have HN := hidd hN
    have HGN := hidd (And.intro hgn hvg)
    have HD := hidd hD
    have HB := hidd hB
    have HK := hidd hk
    clear hP hN hgn hvg hD hB
    by_cases hlt : i < L.length
    · have z1 : (i : Int) < (L.length : Int) := by omega
      have z2 : (0 : Int) ≤ (i : Int) := by omega
      obtain ⟨ad, rfl, ha, c0, c1, c2, c3⟩ := Lie.act (HA.out.keep HB.out) i hlt
      have CD := hidd (fun W (b : Below wr.heap.size wr W) => cD.out W R _ M T G h (HP.out.below b) (aA L i) (HWd.out _ (by rw [aA_at hlt]; exact List.getElem_mem hlt : aA L i ∈ L)) (by omega) hT0 (by omega))
      have CS := hidd (fun W R v M' T' G' (P : Play R W h v M' T' G') (hl : M'.length ≤ M.length + 1) => cS.out W R v M' T' G' h P (by rw [P.len]; omega))
      generalize (aA L i).1 = r0 at *
      generalize (aA L i).2.1 = r1 at *
      generalize (aA L i).2.2.1 = r2 at *
      generalize (aA L i).2.2.2 = r3 at *
      obtain ⟨g0, g1⟩ := HD.out.cells
      have hgs := HD.out.lt
      have haw : (ad.add (i * 4)).block < wr.heap.size := Nat.lt_of_lt_of_le ha HB.out.size
      have har : ¬ R (ad.add (i * 4)).block := fun r => by have := HN.out _ r; omega
      generalize hGL : G.length = gl at *
      have HGL := hidd hGL
      clear hGL
      have KEEP := hidd (fun Y (hb : Sav R wr Y) => (show (Y.cell? (ad.add (i * 4)) = some (.int .i64 r0) ∧ Y.cell? ⟨(ad.add (i * 4)).block, (ad.add (i * 4)).off + 1, none⟩ = some (.int .i64 r1) ∧ Y.cell? ⟨(ad.add (i * 4)).block, (ad.add (i * 4)).off + 2, none⟩ = some (.int .i64 r2) ∧ Y.cell? ⟨(ad.add (i * 4)).block, (ad.add (i * 4)).off + 3, none⟩ = some (.int .i64 r3)) ∧ Y.cell? ⟨g, 0, none⟩ = some (.slice GA gl gc) ∧ Y.cell? ⟨g, 1, none⟩ = some (.int .i64 T) from
        ⟨⟨(hb.cell haw har).trans c0, (hb.cell (p := ⟨(ad.add (i * 4)).block, (ad.add (i * 4)).off + 1, none⟩) haw har).trans c1, (hb.cell (p := ⟨(ad.add (i * 4)).block, (ad.add (i * 4)).off + 2, none⟩) haw har).trans c2, (hb.cell (p := ⟨(ad.add (i * 4)).block, (ad.add (i * 4)).off + 3, none⟩) haw har).trans c3⟩, (hb.cell (p := ⟨g, 0, none⟩) hgs HGN.out.1).trans g0, (hb.cell (p := ⟨g, 1, none⟩) hgs HGN.out.1).trans g1⟩))
      clear ha
      go_wp2_with fail
      go_cut [8, 9] (fun s8 s9 wy => ∃ (q : Nat) (R' : Nat → Prop) (GA' : Option Addr) (gc' n' : Nat) (M' : List It) (T' : Int) (G' : List It), s8 = .pointer (some ⟨q, 0, none⟩) ∧ s9 = .bool true ∧ G'.length = n' ∧ Play R' wy h (.slice GA' n' gc') M' T' G' ∧ DAt wy q (.slice GA' n' gc') T' ∧ ¬ R' q ∧ (∀ k, (Value.slice GA' n' gc').ownBlock = some k → k ≠ q) ∧ wr.heap.size ≤ q ∧ Nxt R R' wr ∧ New wr (.slice GA gl gc) (.slice GA' n' gc') ∧ Sav R wr wy ∧ M'.length ≤ M.length + 1 ∧ 0 ≤ T' ∧ T' ≤ T + 1)
      case first =>
        refine wp_region_held_drew (S := (fun Y => (Y.cell? (ad.add (i * 4)) = some (.int .i64 r0) ∧ Y.cell? ⟨(ad.add (i * 4)).block, (ad.add (i * 4)).off + 1, none⟩ = some (.int .i64 r1) ∧ Y.cell? ⟨(ad.add (i * 4)).block, (ad.add (i * 4)).off + 2, none⟩ = some (.int .i64 r2) ∧ Y.cell? ⟨(ad.add (i * 4)).block, (ad.add (i * 4)).off + 3, none⟩ = some (.int .i64 r3)) ∧ Y.cell? ⟨g, 0, none⟩ = some (.slice GA gl gc) ∧ Y.cell? ⟨g, 1, none⟩ = some (.int .i64 T))) (by kernel_rfl) (KEEP.out _ (Sav.of (Below.drew (Below.refl _ _)))) (fun hH => ?_)
        refine wpAnyH_take (i := 0) (v := ?va0) (by (conv => lhs; simp only [List.getElem?_toArray, List.getElem?_cons_succ, List.getElem?_cons_zero])) (by kernel_rfl) (by kernel_rfl) (by kernel_rfl) ?hQ (Or.inl ⟨by rfl, ?hya0⟩) hH ?resta0
        case hQ => exact fun _ _ _ h => h
        case hya0 => (intro Y hY; obtain ⟨⟨e0, e1, e2, e3⟩, e4, e5⟩ := hY; go_simp; try (with_reducible rfl))
        try simp only [Act.put, List.setIfInBounds_toArray, List.set_cons_zero, List.set_cons_succ]
        refine wpAnyH_take (i := 1) (v := ?va1) (by (conv => lhs; simp only [List.getElem?_toArray, List.getElem?_cons_succ, List.getElem?_cons_zero])) (by kernel_rfl) (by kernel_rfl) (by kernel_rfl) ?hQ (Or.inl ⟨by rfl, ?hya1⟩) hH ?resta1
        case hQ => exact fun _ _ _ h => h
        case hya1 => (intro Y hY; obtain ⟨⟨e0, e1, e2, e3⟩, e4, e5⟩ := hY; go_simp; try (with_reducible rfl))
        try simp only [Act.put, List.setIfInBounds_toArray, List.set_cons_zero, List.set_cons_succ]
        refine wpAnyH_take (i := 2) (v := ?va2) (by (conv => lhs; simp only [List.getElem?_toArray, List.getElem?_cons_succ, List.getElem?_cons_zero])) (by kernel_rfl) (by kernel_rfl) (by kernel_rfl) ?hQ (Or.inl ⟨by rfl, ?hya2⟩) hH ?resta2
        case hQ => exact fun _ _ _ h => h
        case hya2 => (intro Y hY; obtain ⟨⟨e0, e1, e2, e3⟩, e4, e5⟩ := hY; go_simp; try (with_reducible rfl))
        try simp only [Act.put, List.setIfInBounds_toArray, List.set_cons_zero, List.set_cons_succ]
        refine wpAnyH_take (i := 3) (v := ?va3) (by (conv => lhs; simp only [List.getElem?_toArray, List.getElem?_cons_succ, List.getElem?_cons_zero])) (by kernel_rfl) (by kernel_rfl) (by kernel_rfl) ?hQ (Or.inl ⟨by rfl, ?hya3⟩) hH ?resta3
        case hQ => exact fun _ _ _ h => h
        case hya3 => (intro Y hY; obtain ⟨⟨e0, e1, e2, e3⟩, e4, e5⟩ := hY; go_simp; try (with_reducible rfl))
        try simp only [Act.put, List.setIfInBounds_toArray, List.set_cons_zero, List.set_cons_succ]
        refine wpAnyH_take (i := 4) (v := ?va4) (by (conv => lhs; simp only [List.getElem?_toArray, List.getElem?_cons_succ, List.getElem?_cons_zero])) (by kernel_rfl) (by kernel_rfl) (by kernel_rfl) ?hQ (Or.inl ⟨by rfl, ?hya4⟩) hH ?resta4
        case hQ => exact fun _ _ _ h => h
        case hya4 => (intro Y hY; obtain ⟨⟨e0, e1, e2, e3⟩, e4, e5⟩ := hY; go_simp; try (with_reducible rfl))
        try simp only [Act.put, List.setIfInBounds_toArray, List.set_cons_zero, List.set_cons_succ]
        refine wpAnyH_take (i := 5) (v := ?va5) (by (conv => lhs; simp only [List.getElem?_toArray, List.getElem?_cons_succ, List.getElem?_cons_zero])) (by kernel_rfl) (by kernel_rfl) (by kernel_rfl) ?hQ (Or.inl ⟨by rfl, ?hya5⟩) hH ?resta5
        case hQ => exact fun _ _ _ h => h
        case hya5 => (intro Y hY; obtain ⟨⟨e0, e1, e2, e3⟩, e4, e5⟩ := hY; go_simp; try (with_reducible rfl))
        try simp only [Act.put, List.setIfInBounds_toArray, List.set_cons_zero, List.set_cons_succ]
        refine wpAnyH_ready (rs := [6, 10]) (by kernel_rfl) (by simp) ?_
        refine AllReadyH.cons (by (conv => lhs; simp only [List.getElem?_toArray, List.getElem?_cons_succ, List.getElem?_cons_zero])) (fun K hK => ?_) (AllReadyH.cons (by (conv => lhs; simp only [List.getElem?_toArray, List.getElem?_cons_succ, List.getElem?_cons_zero])) (fun K hK => ?_) AllReadyH.nil)
        · go_simp
          go_at_call 7; refine (CD.out _ (Below.drew (Below.refl _ _))).mono ?_; rintro e w5 ⟨R5, M5, T5, v5, G5, rfl, hP5, hS5, hN5, hW5, hl5, ht5, hu5⟩; obtain ⟨A5, c5, hv5, _⟩ := OwnL.lie hP5.rl itV_len; subst hv5
          have cum1 : Sav R wr w5 := (Sav.of (Below.drew (Below.refl _ _))).tr hS5
          have cumA := fun o => cum1.tr (Sav.of (below_new (Below.refl _ w5) o))
          have P5 := hidd hP5
          have NX := hidd hN5
          have NW := hidd hW5
          have SV := hidd hS5
          clear hP5 hN5 hW5 hS5
          generalize hn5 : G5.length = n5 at *
          have HN5 := hidd hn5
          clear hn5
          refine hK.out _ _ (KEEP.out _ cum1) (fun hH1 => ?_)
          clear hK hH
          try simp only [Act.put, List.setIfInBounds_toArray, List.set_cons_zero, List.set_cons_succ]
          refine wpAnyH_take (i := 7) (v := ?vb7) (by (conv => lhs; simp only [List.getElem?_toArray, List.getElem?_cons_succ, List.getElem?_cons_zero])) (by kernel_rfl) (by kernel_rfl) (by kernel_rfl) ?hQ (Or.inl ⟨by rfl, ?hyb7⟩) hH1 ?restb7
          case hQ => exact fun _ _ _ h => h
          case hyb7 => (intro Y hY; obtain ⟨⟨e0, e1, e2, e3⟩, e4, e5⟩ := hY; go_simp; try (with_reducible rfl))
          try simp only [Act.put, List.setIfInBounds_toArray, List.set_cons_zero, List.set_cons_succ]
          refine wpAnyH_take (i := 8) (v := ?vb8) (by (conv => lhs; simp only [List.getElem?_toArray, List.getElem?_cons_succ, List.getElem?_cons_zero])) (by kernel_rfl) (by kernel_rfl) (by kernel_rfl) ?hQ (Or.inl ⟨by rfl, ?hyb8⟩) hH1 ?restb8
          case hQ => exact fun _ _ _ h => h
          case hyb8 => (intro Y hY; obtain ⟨⟨e0, e1, e2, e3⟩, e4, e5⟩ := hY; go_simp; try (with_reducible rfl))
          try simp only [Act.put, List.setIfInBounds_toArray, List.set_cons_zero, List.set_cons_succ]
          refine wpAnyH_take (i := 9) (v := ?vb9) (by (conv => lhs; simp only [List.getElem?_toArray, List.getElem?_cons_succ, List.getElem?_cons_zero])) (by kernel_rfl) (by kernel_rfl) (by kernel_rfl) ?hQ (Or.inl ⟨by rfl, ?hyb9⟩) hH1 ?restb9
          case hQ => exact fun _ _ _ h => h
          case hyb9 => (intro Y hY; obtain ⟨⟨e0, e1, e2, e3⟩, e4, e5⟩ := hY; go_simp; try (with_reducible rfl))
          try simp only [Act.put, List.setIfInBounds_toArray, List.set_cons_zero, List.set_cons_succ]
          refine wpAnyH_ready (rs := [10]) (by kernel_rfl) (by simp) ?_
          refine AllReadyH.cons (by (conv => lhs; simp only [List.getElem?_toArray, List.getElem?_cons_succ, List.getElem?_cons_zero])) (fun K hK => ?_) AllReadyH.nil
          go_simp
          refine hK.out _ _ (KEEP.out _ (cumA _)) (fun hH2 => ?_)
          clear hK hH1
          try simp only [Act.put, List.setIfInBounds_toArray, List.set_cons_zero, List.set_cons_succ]
          refine wpAnyH_ready (rs := [11]) (by kernel_rfl) (by simp) ?_
          refine AllReadyH.cons (by (conv => lhs; simp only [List.getElem?_toArray, List.getElem?_cons_succ, List.getElem?_cons_zero])) (fun K hK => ?_) AllReadyH.nil
          clear hH2 g0 g1 c0 c1 c2 c3
          go_simp
          refine hK.out _ _ (KEEP.out _ (cumA _)) (fun hH3 => ?_)
          clear hK
          try simp only [Act.put, List.setIfInBounds_toArray, List.set_cons_zero, List.set_cons_succ]
          refine wpAnyH_take (i := 12) (v := ?vc12) (by (conv => lhs; simp only [List.getElem?_toArray, List.getElem?_cons_succ, List.getElem?_cons_zero])) (by kernel_rfl) (by kernel_rfl) (by kernel_rfl) ?hQ (Or.inl ⟨by rfl, ?hyc12⟩) hH3 ?restc12
          case hQ => exact fun _ _ _ h => h
          case hyc12 => (intro Y hY; obtain ⟨⟨e0, e1, e2, e3⟩, e4, e5⟩ := hY; go_simp; try (with_reducible rfl))
          try simp only [Act.put, List.setIfInBounds_toArray, List.set_cons_zero, List.set_cons_succ]
          refine wpAnyH_done (by kernel_rfl) ?_ _
          go_wp2_with fail
          go_meet
          exact ⟨w5.heap.size, R5, A5, c5, n5, M5, T5, G5, rfl, rfl, HN5.out, P5.out.below (below_new (Below.refl _ _) _), DAt.new _ _ _, fun r => (by have := P5.out.hr.lt _ r; omega), fun k e => (by have := (OwnL.lt P5.out.rl k e).2; omega), cum1.size, NX.out, NW.out, cumA _, hl5, ht5, hu5⟩
        · go_simp
          refine hK.out _ _ (KEEP.out _ (Sav.of (below_new (Below.drew (Below.refl _ _)) _))) (fun hH1 => ?_)
          clear hK hH
          try simp only [Act.put, List.setIfInBounds_toArray, List.set_cons_zero, List.set_cons_succ]
          refine wpAnyH_ready (rs := [6]) (by kernel_rfl) (by simp) ?_
          refine AllReadyH.cons (by (conv => lhs; simp only [List.getElem?_toArray, List.getElem?_cons_succ, List.getElem?_cons_zero])) (fun K hK => ?_) AllReadyH.nil
          go_simp
          go_at_call 7; refine (CD.out _ (below_new (Below.drew (Below.refl _ _)) _)).mono ?_; rintro e w5 ⟨R5, M5, T5, v5, G5, rfl, hP5, hS5, hN5, hW5, hl5, ht5, hu5⟩; obtain ⟨A5, c5, hv5, _⟩ := OwnL.lie hP5.rl itV_len; subst hv5
          have cum1 : Sav R wr w5 := (Sav.of (below_new (Below.drew (Below.refl _ _)) _)).tr hS5
          have hnr : ¬ R wr.heap.size := fun r => by have := HP.out.hr.lt _ r; omega
          have hrow : w5.heap[wr.heap.size]? = some (.cells #[.slice none 0 0, .int .i64 0] 28 (0, 0)) := by first | exact (hS5.block wr.heap.size (by simp) hnr).trans (World.alloc_heap_new wr.drew _) | exact (hS5.block wr.heap.size (by simp) hnr).trans (World.alloc_heap_new wr _)
          have hnq : ¬ R5 wr.heap.size := fun r => hnr (hN5 _ (by simp) r)
          have hvq : ∀ k, (Value.slice A5 G5.length c5).ownBlock = some k → k ≠ wr.heap.size := fun k e => by rcases hW5 k e with h1 | h1; have := (OwnL.lt HP.out.rl k h1).2; omega; simp at h1; omega
          have hNX : Nxt R R5 wr := fun k hk r => hN5 k (by simp; omega) r
          have hNW : New wr (.slice GA gl gc) (.slice A5 G5.length c5) := fun k e => by rcases hW5 k e with h1 | h1; exact .inl h1; exact .inr (by simp at h1; omega)
          have P5 := hidd hP5
          have NX := hidd hNX
          have NW := hidd hNW
          have HQ := hidd (And.intro hnq hvq)
          clear hP5 hN5 hW5 hS5 hNX hNW hnq hvq
          generalize hn5 : G5.length = n5 at *
          have HN5 := hidd hn5
          clear hn5
          refine hK.out _ _ (KEEP.out _ cum1) (fun hH2 => ?_)
          clear hK hH1
          try simp only [Act.put, List.setIfInBounds_toArray, List.set_cons_zero, List.set_cons_succ]
          refine wpAnyH_take (i := 7) (v := ?vd7) (by (conv => lhs; simp only [List.getElem?_toArray, List.getElem?_cons_succ, List.getElem?_cons_zero])) (by kernel_rfl) (by kernel_rfl) (by kernel_rfl) ?hQ (Or.inl ⟨by rfl, ?hyd7⟩) hH2 ?restd7
          case hQ => exact fun _ _ _ h => h
          case hyd7 => (intro Y hY; obtain ⟨⟨e0, e1, e2, e3⟩, e4, e5⟩ := hY; go_simp; try (with_reducible rfl))
          try simp only [Act.put, List.setIfInBounds_toArray, List.set_cons_zero, List.set_cons_succ]
          refine wpAnyH_take (i := 8) (v := ?vd8) (by (conv => lhs; simp only [List.getElem?_toArray, List.getElem?_cons_succ, List.getElem?_cons_zero])) (by kernel_rfl) (by kernel_rfl) (by kernel_rfl) ?hQ (Or.inl ⟨by rfl, ?hyd8⟩) hH2 ?restd8
          case hQ => exact fun _ _ _ h => h
          case hyd8 => (intro Y hY; obtain ⟨⟨e0, e1, e2, e3⟩, e4, e5⟩ := hY; go_simp; try (with_reducible rfl))
          try simp only [Act.put, List.setIfInBounds_toArray, List.set_cons_zero, List.set_cons_succ]
          refine wpAnyH_take (i := 9) (v := ?vd9) (by (conv => lhs; simp only [List.getElem?_toArray, List.getElem?_cons_succ, List.getElem?_cons_zero])) (by kernel_rfl) (by kernel_rfl) (by kernel_rfl) ?hQ (Or.inl ⟨by rfl, ?hyd9⟩) hH2 ?restd9
          case hQ => exact fun _ _ _ h => h
          case hyd9 => (intro Y hY; obtain ⟨⟨e0, e1, e2, e3⟩, e4, e5⟩ := hY; go_simp; try (with_reducible rfl))
          try simp only [Act.put, List.setIfInBounds_toArray, List.set_cons_zero, List.set_cons_succ]
          refine wpAnyH_ready (rs := [11]) (by kernel_rfl) (by simp) ?_
          refine AllReadyH.cons (by (conv => lhs; simp only [List.getElem?_toArray, List.getElem?_cons_succ, List.getElem?_cons_zero])) (fun K hK => ?_) AllReadyH.nil
          clear hH2 g0 g1 c0 c1 c2 c3
          rw [if_pos (by rfl)]
          refine wp_store_row 28 (.tmp 8) (.tmp 33) (by rfl) wr.heap.size #[.slice A5 n5 c5, .int .i64 T5] (by rfl) (by rfl) _ _ hrow (by kernel_rfl) (by rfl) (by simp [Value.oneCell']) ?_
          have hrow2 := setRow_heap w5 wr.heap.size _ #[.slice A5 n5 c5, .int .i64 T5] _ _ hrow
          have cum2 : Sav R wr (w5.setRow wr.heap.size #[.slice A5 n5 c5, .int .i64 T5]) := ⟨cum1.os, cum1.tape, cum1.output, by rw [setRow_size]; exact cum1.size, fun k h1 h2 => (setRow_other w5 _ k _ (by omega)).trans (cum1.block k h1 h2)⟩
          refine hK.out _ _ (KEEP.out _ cum2) (fun hH3 => ?_)
          clear hK
          try simp only [Act.put]
          refine wpAnyH_take (i := 12) (v := ?ve12) (by (conv => lhs; simp only [List.getElem?_toArray, List.getElem?_cons_succ, List.getElem?_cons_zero])) (by kernel_rfl) (by kernel_rfl) (by kernel_rfl) ?hQ (Or.inl ⟨by rfl, ?hye12⟩) hH3 ?reste12
          case hQ => exact fun _ _ _ h => h
          case hye12 => (intro Y hY; obtain ⟨⟨e0, e1, e2, e3⟩, e4, e5⟩ := hY; go_simp; try (with_reducible rfl))
          try simp only [Act.put, List.setIfInBounds_toArray, List.set_cons_zero, List.set_cons_succ]
          refine wpAnyH_done (by kernel_rfl) ?_ _
          go_wp2_with fail
          go_meet
          exact ⟨wr.heap.size, R5, A5, c5, n5, M5, T5, G5, rfl, rfl, HN5.out, P5.out.keep (fun k hk => setRow_other w5 _ k _ hk) HQ.out.1 HQ.out.2, hrow2, HQ.out.1, HQ.out.2, Nat.le_refl _, NX.out, NW.out, cum2, hl5, ht5, hu5⟩
      case rest =>
        obtain ⟨wk, rfl⟩ : ∃ wk : World, wk = wc := ⟨_, rfl⟩
        obtain ⟨q, R', GA', gc', n', M', T', G', rfl, rfl, hn', hP', hD', hq1, hq2, hqs, hNx, hNw, hSv, hl', ht0, ht1⟩ := hcut
        clear KEEP CD c0 c1 c2 c3 g0 g1 haw har
        have hrg : ¬ R' g := fun r => HGN.out.1 (hNx g hgs r)
        have hvg : ∀ k, (Value.slice GA' n' gc').ownBlock = some k → k ≠ g := fun k e => by
          rcases hNw k e with h1 | h1
          · exact HGN.out.2 k h1
          · omega
        have HNR : Hid (∀ k, R' k → w.heap.size ≤ k) := hidd (fun k r => by
          rcases Nat.lt_or_ge k wr.heap.size with h1 | h1
          · exact HN.out k (hNx k h1 r)
          · have := HB.out.size; omega)
        have hB2 : Below w.heap.size w wk := HB.out.trans (hSv.below HB.out.size HN.out)
        have hDg : DAt wk g (.slice GA gl gc) T := HD.out.of (hSv.block g hgs HGN.out.1)
        have HP' := hidd hP'
        have HDq := hidd hD'
        have HB2 := hidd hB2
        have HDg := hidd hDg
        have HGN' := hidd (And.intro hrg hvg)
        have cs := hidd (CS.out wk R' _ M' T' G' hP' hl')
        have hgw : g < wk.heap.size := hDg.lt
        have hwg : w.heap.size ≤ wr.heap.size := HB.out.size
        have HGW := hidd hD'.lt
        obtain ⟨q0, q1⟩ := hD'.cells
        clear hP' hD' hNx hNw hSv hrg hvg hB2 hDg HP HN HGN HD HB CS
        go_wp2_with fail
        refine cs.out.mono ?_
        rintro e w6 ⟨rfl, hb6⟩
        have HP6 := hidd (HP'.out.below hb6)
        have HD6 := hidd (HDq.out.below hb6)
        have HG6 := hidd (HDg.out.below hb6)
        have HB6 := hidd (HB2.out.trans (hb6.mono HB2.out.size))
        clear hb6 cs HP' HDq HDg HB2 q0 q1
        obtain ⟨q0, q1⟩ := HD6.out.cells
        have hrow : Hid (w6.heap[g]? = some (.cells #[.slice GA gl gc, .int .i64 T] 28 (0, 0))) := HG6
        have hinf : Hid ((Try.prog.info? 28).map (·.size) = some 2) := hidd (by kernel_rfl)
        have hout := hidd (setRow_heap w6 g _ #[.slice GA' n' gc', .int .i64 T'] _ _ hrow.out)
        have hoth := hidd (fun k (h : k ≠ g) => setRow_other w6 g k #[.slice GA' n' gc', .int .i64 T'] h)
        have hbl := hidd (below_setRow (g := g) HB6.out (by omega) #[.slice GA' n' gc', .int .i64 T'])
        obtain ⟨wz, hwz⟩ : ∃ wz : World, w6.setRow g #[.slice GA' n' gc', .int .i64 T'] = wz := ⟨_, rfl⟩
        have HWZ := hidd hwz
        rw [hwz] at hout hbl hoth
        clear hwz
        go_wp2_with (refine wpList_store_row rfl 28 (.tmp 6) (.tmp 43) rfl g #[.slice GA' n' gc', .int .i64 T'] rfl rfl 28 _ hrow.out hinf.out rfl (by simp [Value.oneCell']) ?_; rw [HWZ.out])
        have hk := HK.out
        subst hn'
        go_roundg (gk - 1)
        case measure => omega
        case rel => exact ⟨i + 1, R', GA', gc', M', T', G', by omega, by go_num, HP6.out.keep hoth.out HGN'.out.1 HGN'.out.2, HNR.out, HGN'.out.1, HGN'.out.2, hout.out, hbl.out, by omega, ht0, by omega⟩
    · have z1 : ¬ (i : Int) < (L.length : Int) := by omega
      have hM60 : M.length ≤ 60 := by omega
      have CG := hidd (cG.out wr R h M T HP.out.hr)
      have CF := hidd (fun W (b : Below wr.heap.size wr W) => cF.out W _ G T (by rw [HP.out.len]; omega) (HP.out.rl.below b))
      have HLi := hidd (fun W (b : Below wr.heap.size wr W) => (show Lie itV 4 W W.heap.size GA G from by obtain ⟨A', c', e, _, _, hl⟩ := OwnL.lie (HP.out.rl.below b) itV_len; cases e; exact hl))
      have hgl : G.length ≤ 60 := by rw [HP.out.len]; omega
      clear HA HWd cD cS cG cF cN HN HGN HK
      generalize L.length = N at *
      obtain ⟨g0, g1⟩ := HD.out.cells
      go_wp2_with fail
      refine CG.out.mono ?_
      rintro e w1 ⟨⟨y, is, rfl, hy⟩, hb1⟩
      have HY := hidd hy
      obtain ⟨y0, y1, y2, y3⟩ := y
      unfold agI iD kN kD tN
      have HB1 := hidd (HB.out.trans (hb1.mono HB.out.size))
      have BR1 := hidd hb1
      have HD1 := hidd (HD.out.below hb1)
      have hgs : g < wr.heap.size := HD.out.lt
      clear hb1 hy g0 g1 HD CG
      obtain ⟨g0, g1⟩ := HD1.out.cells
      have hgs1 : g < w1.heap.size := HD1.out.lt
      have hne1 : g ≠ w1.heap.size := by omega
      go_wp2_with fail
      obtain ⟨W2, hW2⟩ : ∃ W2 : World, w1.alloc (.cells #[.int .i64 y0, .int .i64 y1, .int .i64 y2, .int .i64 y3] 37) = W2 := ⟨_, rfl⟩
      have b12 : Below w1.heap.size w1 W2 := hW2 ▸ below_new (Below.refl _ _) _
      have x2 : Hid (Cells4 W2 w1.heap.size (y0, y1, y2, y3)) := hidd (by rw [← hW2]; refine ⟨?_, ?_, ?_, ?_⟩ <;> simp [go_sem] <;> rfl)
      have hs2 : w1.heap.size < W2.heap.size := by rw [← hW2]; simp
      rw [hW2]
      clear hW2
      have HB2 := hidd (HB1.out.trans (b12.mono HB1.out.size))
      have BR2 := hidd (BR1.out.trans (b12.mono BR1.out.size))
      have HD2 := hidd (HD1.out.below b12)
      clear b12 g0 g1
      obtain ⟨g0, g1⟩ := HD2.out.cells
      go_wp2_with fail
      refine (CF.out _ BR2.out).mono ?_
      rintro e w3 ⟨rfl, hb3⟩
      have HB3 := hidd (HB2.out.trans (hb3.mono HB2.out.size))
      have BR3 := hidd (BR2.out.trans (hb3.mono BR2.out.size))
      have HD3 := hidd (HD2.out.below hb3)
      obtain ⟨d0, d1, d2, d3⟩ := x2.out
      have d0 := (hb3.cell (p := ⟨w1.heap.size, 0, none⟩) hs2).trans d0
      have d1 := (hb3.cell (p := ⟨w1.heap.size, 1, none⟩) hs2).trans d1
      have d2 := (hb3.cell (p := ⟨w1.heap.size, 2, none⟩) hs2).trans d2
      have d3 := (hb3.cell (p := ⟨w1.heap.size, 3, none⟩) hs2).trans d3
      unfold iD at d0
      unfold kN at d1
      unfold kD at d2
      unfold tN at d3
      clear hb3 g0 g1
      obtain ⟨g0, g1⟩ := HD3.out.cells
      cases is
      case true =>
        have hy : (y0, y1, y2, y3) ∈ M ∧ iD (y0, y1, y2, y3) = id := by
          rcases HY.out with ⟨_, a, b⟩ | ⟨a, _⟩
          · exact ⟨a, b⟩
          · cases a
        have hhas : Has G id := ⟨_, HP.out.ag.p.mem_iff.2 hy.1, hy.2⟩
        obtain ⟨j, hj, ej, ep⟩ := posI_pos hhas
        have egj : gI G j = (y0, y1, y2, y3) := HP.out.hr.ids (HP.out.ag.p.mem_iff.1 (mem_gI2 hj)) hy.1 (ej.trans hy.2.symm)
        obtain ⟨ad, rfl, hadb, j0, j1, j2, j3⟩ := Lie.it4 (HLi.out w3 BR3.out) j hj
        rw [egj] at j0 j1 j2 j3
        unfold iD at j0
        unfold kN at j1
        unfold kD at j2
        unfold tN at j3
        rw [ep]
        have eqq := fun W => item_run y0 y1 y2 y3 y0 y1 y2 y3 W
        rw [eqB_iff.2 rfl] at eqq
        have w0 : (0 : Int) ≤ (j : Int) := by omega
        have w1' : (j : Int) < (G.length : Int) := by omega
        have wd : decide (G.length ≤ j) = false := decide_eq_false (by omega)
        clear hy hhas ej egj ep HY HLi HP CF BR3 x2
        generalize G.length = gl at *
        go_wp2_with fail
        go_quiet (fail)
        go_wp2_with fail
        refine (cK.out _).mono ?_
        rintro e w4 ⟨rfl, hb4⟩
        go_wp2_with fail
        go_ret
        exact ⟨rfl, (below_drewN HB3.out _).trans (hb4.mono HB3.out.size)⟩
      case false =>
        have hy : (y0, y1, y2, y3) = zI ∧ ¬ Has M id := by
          rcases HY.out with ⟨a, _⟩ | ⟨_, a, b⟩
          · cases a
          · exact ⟨a, b⟩
        have hno : ¬ Has G id := fun q => hy.2 ((Has.perm HP.out.ag.p id).1 q)
        have ep := posI_neg hno
        obtain ⟨e0, e1, e2, e3⟩ : y0 = 0 ∧ y1 = 0 ∧ y2 = 0 ∧ y3 = 0 := by
          have := hy.1
          unfold zI at this
          simpa using this
        subst e0 e1 e2 e3
        rw [ep]
        have eqq := fun W => item_run 0 0 0 0 0 0 0 0 W
        rw [eqB_iff.2 rfl] at eqq
        clear hy hno ep HY HLi HP CF BR3 x2
        generalize G.length = gl at *
        go_wp2_with fail
        go_quiet (fail)
        go_wp2_with fail
        refine (cK.out _).mono ?_
        rintro e w4 ⟨rfl, hb4⟩
        go_wp2_with fail
        go_ret
        exact ⟨rfl, (below_drewN HB3.out _).trans (hb4.mono HB3.out.size)⟩
end Go.Proofs.Ytohkkebiilaniaa.Hp

/- Whatever the calls, HeapPlay answers true; no conditions. -/
namespace Go.Proofs.Ytohkkebiilaniaa.heapPlay
open Go.ChangeShapes Go.WideShapes Go.ChangeAt Go.RowKit Go.Joins Go.Proofs.Ytohkkebiilaniaa.Tp Go.Proofs.Ytohkkebiilaniaa.Hp Go.Proofs.Ytohkkebiilaniaa.Hp.RowK
set_option linter.unusedVariables false
set_option maxRecDepth 100000 in
theorem lifted (os : Os) (started : os.Started) (H : Type) (enc : TypeId × Value → H) :
    ReturnsInHanded {} Try.checked os 3 .any (Rows.heapPlaySpec.pre6 enc Try.prog Try.f3 Rows.heapPlayRow.domain false) (Rows.heapPlaySpec.post enc Try.prog Try.f3 false true false false) := by
  refine returnsInHanded_of_change (C := Try.checked) RowK.own started (by kernel_rfl) Try.func3
    (ChangeSpec.witness6 (enc := enc) (C := Try.checked) false ⟨#[], #[.slice none 0 0, .int .i64 0], []⟩ 8 (by kernel_rfl) (by kernel_rfl) (by kernel_rfl) (by kernel_rfl)) ?_
  intro W base args ds gs before hval0 hW hcnd _
  have hval : ∀ (j : Nat) t v, Try.f3.params[j]? = some t → args[j]? = some v → Value.okWide Try.prog W .any base t v := hval0
  have hW' := hW
  obtain ⟨p, q, hA0, hV, rfl, hfz, hnd⟩ := hW
  have hA : DataW.TrodAll enc Try.prog W 0 (fun _ => true) true Try.f3.params.toList args.toList ds p := hA0
  rw [Try.params3] at hA hval
  obtain ⟨v0, vs0, d0, ds0, p0, q0, hargs, rfl, rfl, h0, r0⟩ := trodAll_cons hA
  obtain ⟨v1, vs1, d1, ds1, p1, q1, rfl, rfl, rfl, h1, r1⟩ := trodAll_cons r0
  obtain ⟨rfl, rfl, rfl⟩ := trodAll_nil r1
  obtain rfl : args = #[v0, v1] := by cases args; simp_all
  obtain ⟨rfl, rfl⟩ := trodVars_none hV
  obtain ⟨A0, L0, c0, rfl, m0, n0, o0, l0⟩ : ∃ (A : Option Addr) (L : List (Int × Int × Int × Int)) (c : Nat), v0 = .slice A L.length c ∧ L.length ≤ c ∧ c ≤ maxLen ∧ (∀ x ∈ L, WdA x) ∧ Lie actV 4 W W.heap.size A L := by
    obtain ⟨ptr, len, cap, rfl⟩ := okWide_slice Try.underlying22 (hval 0 22 v0 rfl rfl)
    obtain ⟨fuel, hf⟩ := h0
    obtain ⟨A, L, c, e, hh⟩ := open_acts hf
    exact ⟨A, L, c, by simpa [Value.cells] using e, hh⟩
  obtain ⟨a1, rfl, e1, f1, w1⟩ := open_int Try.underlying2 (hval 1 2 v1 rfl rfl) h1
  refine (Ytohkkebiilaniaa.Hp.play_walk A0 L0 c0 o0 m0 n0 a1 (i64_bounds w1) W l0).mono fun e W' ⟨he, hg⟩ => ?_
  subst he
  exact ⟨_, rfl, post_law RowK.laidOut (by rw [Try.params3]; intro t ht; simp at ht; rcases ht with rfl | rfl <;> exact ⟨by kernel_rfl, of_decide_eq_true (by kernel_rfl)⟩) hW' hA0 rfl (fun _ _ _ => (trodAll_cons_mk (shut_bool Try.underlying4 _) trodAll_mk0)) (fun _ => rfl) hg (ok_one (by kernel_rfl) rfl (okWide_bool_mk Try.underlying4 _))⟩

theorem over : Rows.heapPlayRow.holds Try.pinned (OpenSpec.ofChange Rows.heapPlaySpec) :=
  OpenClaim.holds_of_wide 3 Try.f3 rfl rfl rfl rfl rfl rfl rfl ⟨rfl, rfl, rfl, rfl, rfl⟩ rfl rfl rfl rfl rfl (by kernel_rfl) Try.func3 (by kernel_rfl)
    (of_decide_eq_true (by kernel_rfl)) (by unfold Func.isWrapper; first | (rw [if_pos (by decide +kernel)]; kernel_rfl) | (rw [if_neg (by decide +kernel)]; exact ⟨rfl, rfl⟩))
    (fun os started H enc _ => lifted os started H enc)
end Go.Proofs.Ytohkkebiilaniaa.heapPlay
namespace Go.Proofs.Ytohkkebiilaniaa
/-- the given statement. -/
theorem heapPlay_proved : Rows.HeapPlaySaid := heapPlay.over
end Go.Proofs.Ytohkkebiilaniaa

