/- Curves: lines gathered and put in order. -/
import Derived.Test.YtpgaklfgbioocaaCvI
import Derived.Maps.AppendAt
namespace Go.Proofs.Ytpgaklfgbioocaa
set_option linter.unusedVariables false
open Go.RowKit RowK Go.Shelf Go.Sort Go.Lib
attribute [local go_sem] Oper.semAt_some

theorem OwnL.base {w : World} {b b' : Nat} {e : TypeId} {v : Value} {L : List (Int × Int)} (h : OwnL sendV 2 w b' e v L) (hb : b ≤ b') : OwnL sendV 2 w b e v L := by
  obtain ⟨h0, h1⟩ := h
  refine ⟨h0, ?_⟩
  rcases h1 with h | ⟨g, cap, cur, e1, e2, e3⟩
  · exact .inl h
  · exact .inr ⟨g, cap, cur, e1, Nat.le_trans hb e2, e3⟩
theorem lineInfo : (Try.prog.info? 44).map (fun i => (i.zero, i.size, i.bytes)) = some (some (.agg #[.int .i64 0, .int .i64 0]), 2, 16) := by kernel_rfl
theorem cell_two_new (w : World) (x y : Value) (t : TypeId) : ∀ j u, [x, y][j]? = some u → (w.alloc (.cells #[x, y] t)).cell? ((⟨w.heap.size, 0, none⟩ : Addr).add j) = some u := by
  intro j u hj
  match j, hj with
  | 0, hj => simp at hj; subst hj; simp [Addr.add, go_sem]
  | 1, hj => simp at hj; subst hj; simp [Addr.add, go_sem]
theorem LineBox.kept2 {X Y : World} {b : Nat} {x y : Int} {row : Option Nat} (h : LineBox X b x y) (hg : X.grownBy Y row) (hr : ∀ r, row = some r → ∃ o : Obj, X.heap[r]? = some o ∧ o.isCells = false) : LineBox Y b x y :=
  ⟨Nat.lt_of_lt_of_le h.1 hg.size, cell_kept h.2.1 hg hr, cell_kept h.2.2 hg hr⟩
theorem LineBox.new (w : World) (t : TypeId) (x y : Int) : LineBox (w.alloc (.cells #[.int .i64 x, .int .i64 y] t)) w.heap.size x y := ⟨by simp, by simp [go_sem], by simp [go_sem]⟩
def SortsLines : Prop := ∀ (g cap base : Nat) (L : List (Int × Int)) (W : World), L.length ≤ 1000000 → OwnL sendV 2 W base 44 (.slice (some ⟨g, 0, none⟩) L.length cap) L →
  Calls Try.prog 48 #[.slice (some ⟨g, 0, none⟩) L.length cap, .func (.func 36) #[] #[]] W fun e w' => e = .returned (.tuple #[]) ∧ OwnL sendV 2 w' base 44 (.slice (some ⟨g, 0, none⟩) L.length cap) (CM.sortL L) ∧ W.grownBy w' (some g)
set_option maxRecDepth 100000 in
set_option maxHeartbeats 4000000 in
theorem inOrder_any (hsort : SortsLines) (Bs : Nat) (A : Option Addr) (k : Nat) (cs : List Crv) (hlen : cs.length ≤ 1000000) (hlen2 : ∀ c ∈ cs, c.2.length ≤ 1000000) (hall : (allLines cs).length ≤ 1000000) (hne : allLines cs ≠ []) (w : World) (hBs : Bs < w.heap.size)
    (hc : w.cell? ⟨Bs, 0, none⟩ = some (.slice A cs.length k)) (hC : Curves w w.heap.size A cs) :
    Calls Try.prog 34 #[.func (.func 49) #[] #[.pointer (some ⟨Bs, 0, none⟩)], .func (.func 36) #[] #[]] w fun e w' =>
      ∃ g cap, e = .returned (.slice (some ⟨g, 0, none⟩) (allLines cs).length cap) ∧ OwnL sendV 2 w' w.heap.size 44 (.slice (some ⟨g, 0, none⟩) (allLines cs).length cap) (CM.sortL (allLines cs)) ∧ Below w.heap.size w w' := by
  obtain ⟨i0, hi, hz0, hz1, hz2⟩ := info_parts lineInfo
  have HC := hidd hC
  have HN := hidd hne
  have HS := hidd hsort
  clear hC hne hsort
  refine (callsIn_wide (n := 6)).1 ?_
  refine callsIn_of_wp_marks Try.func34 rfl trivial ?_ rfl
  simp only [Try.ntmps34, List.size_toArray, List.length_cons, List.length_nil, Nat.reduceAdd, Nat.reduceSub, Array.replicate_succ, Array.replicate_zero, List.push_toArray, List.append_toArray, List.nil_append, List.cons_append]
  gi_wp2
  have bL := Boxed.new w 24 (.slice none 0 0)
  have hB0 : Below w.heap.size w (w.alloc (.cells #[.slice none 0 0] 24)) := (Below.refl _ w).alloc (Nat.le_refl _) _
  refine wpIn_rangeFunc_ownH rfl (by omega) (gf := 49) (lb := #[.pointer (some ⟨Bs, 0, none⟩)]) rfl trivial (enters_of Try.func49 (by kernel_rfl) rfl)
    (joined_stops Fence.wide (6 - 1) trivial rfl (by omega) Bs w.heap.size A k cs hlen hlen2 _ (by (first | omega | (simp; done) | (simp; omega))) (by (first | omega | (simp; done) | (simp; omega))) (by rw [hB0.cell (by simpa using hBs)]; exact hc) (HC.out.keep hB0)) belowK_t (belowK_b (by (first | omega | (simp; done) | (simp; omega)))) (Below.refl _ _) (fun _ => rfl)
    (fun pre W => (∃ v, Boxed W w.heap.size 24 v ∧ W.ownsRow w.heap.size 44 2 v pre.length (rowOf sendV pre) ∧ True) ∧ Below w.heap.size w W)
    (fun _ _ _ => False)
    (OwnFrom.and (Own.from (holdsRow_own w.heap.size w.heap.size 24 44 2 (fun pre => pre.length) (fun pre => rowOf sendV pre) (fun _ _ => True)) _) (ownFrom_below (Nat.le_refl _) (by (first | omega | (simp; done) | (simp; omega)))))
    (fun _ _ _ _ _ hs _ _ => hs)
    ⟨⟨_, bL, World.ownsRow_nil _ _ _ _, trivial⟩, hB0⟩
    (fun x a' W => ∃ Bx, w.heap.size < Bx ∧ LineBox W Bx x.1 x.2 ∧ a' = { tmps := #[.func (.func 49) #[] #[.pointer (some ⟨Bs, 0, none⟩)], .func (.func 36) #[] #[], undef, undef, .slice none 0 0, .pointer (some ⟨w.heap.size, 0, none⟩), .pointer (some ⟨Bx, 0, none⟩), .func (.func 49) #[] #[.pointer (some ⟨Bs, 0, none⟩)], .agg #[.int .i64 x.1, .int .i64 x.2], undef, undef, undef, undef, undef, undef, undef, undef], defers := [] })
    (fun x a' _ X Y row hs hg hr => by obtain ⟨Bx, h1, h2, h3⟩ := hs; exact ⟨Bx, h1, h2.kept2 hg (fun r e => (hr r e).2), h3⟩)
    ?assign ?body ?done ?stop
  case assign =>
    rintro l pre x W K ⟨⟨v, hv, hrow, _⟩, hB⟩ hK
    gi_wp2
    exact hK _ _ ((KeepsOthers.alloc _ _).from _) ((Below.refl _ W).alloc hB.size _) ⟨⟨_, hv.alloc _, hrow.alloc _, trivial⟩, hB.alloc hB.size _⟩ ⟨W.heap.size, hv.lt, LineBox.new W _ _ _, rfl⟩
  case body =>
    rintro l pre x a' W hl ⟨r, hr⟩ ⟨⟨v, hv, hrow, _⟩, hB⟩ ⟨Bx, hBx, ⟨hb, x0, x1⟩, rfl⟩ hlt
    have hcv := hv.cell
    have hp : pre.length < 1000000 := by omega
    obtain ⟨a0, a1⟩ := x
    dsimp only at x0 x1
    gi_wp2_with (gi_at_builtin; refine wpListIn_append_own _ rfl _ _ 24 rfl w.heap.size 44 i0 (.agg #[.int .i64 0, .int .i64 0]) 2 16 Try.underlying24 hi hz0 hz1 hz2 rfl (by decide) _ _ _ rfl (hrow.alloc _) ⟨W.heap.size, 0, none⟩ 1 1 [.int .i64 a0, .int .i64 a1] rfl rfl (cell_two_new _ _ _ _) (by simp [Value.oneCell']) (by unfold maxLen; omega) (by omega) (by have := hB.size; simp; omega) ?_; intro v' w1 hown' hgrow _; obtain ⟨g', cap', rfl⟩ := ownsRow_succ hown'; obtain ⟨hv1, hv2, hr2, hk2, hb2⟩ := hv.appended (by decide) hrow hB.size (Nat.le_refl _) hown' hgrow; have hc1 := hv1.cell; have hf1 := hv1.frozen)
    have hr3 : OwnL sendV 2 _ w.heap.size 44 _ (pre ++ [(a0, a1)]) := OwnL.snoc (f := sendV) (L := pre) (x := (a0, a1)) hr2 rfl rfl
    exact ⟨hk2.from _, hb2, And.intro ⟨_, hv2, hr3⟩ (hB.trans hb2)⟩
  case done =>
    rintro D ys W hD rfl ⟨⟨v, hv, hrow, _⟩, hB⟩ hK
    have hcv := hv.cell
    have hfv := hv.frozen
    obtain ⟨m, hm⟩ : ∃ m, (allLines cs).length = m + 1 := ⟨(allLines cs).length - 1, by have := List.length_pos_iff.2 HN.out; omega⟩
    have hrow2 := hrow
    rw [hm] at hrow2
    obtain ⟨g, cap, rfl⟩ := ownsRow_succ hrow2
    rw [← hm] at hcv hrow hv
    clear hrow2 hm
    have HO : Hid (OwnL sendV 2 W w.heap.size 44 (.slice (some ⟨g, 0, none⟩) (allLines cs).length cap) (allLines cs)) := hidd hrow
    have HV := hidd hv
    have HB := hidd hB
    have cS := hidd (HS.out g cap w.heap.size (allLines cs) W hall HO.out)
    clear hrow hv hB
    obtain ⟨hg0, hg1⟩ := HO.out.lt g rfl
    have hnr := HV.out.not_row (by decide) HO.out
    have hDg : D ≠ g := fun e => by
      subst e
      obtain ⟨_, h1⟩ := HO.out
      rcases h1 with ⟨h2, _⟩ | ⟨g', _, _, h2, _, h3, _⟩
      · cases h2
      · cases h2; rw [hK] at h3; cases h3
    have HD := hidd hDg
    have HNR := hidd hnr
    have HK := hidd hK
    clear hDg hnr hK
    gi_wp2
    refine ⟨trivial, ?_⟩
    refine (callsIn_wide.2 cS.out).mono ?_
    rintro e W2 ⟨rfl, hO2, hg2⟩
    have hV2 := HV.out.kept hg2 HNR.out
    have hcv2 := hV2.cell
    have hK2 : W2.heap[D]? = some (.deferred (some [])) := (hg2.block D (Array.getElem?_eq_some_iff.1 HK.out).1 (fun e => HD.out (by injection e))).trans HK.out
    have HK2 := hidd hK2
    have HO2 := hidd hO2
    have HG2 := hidd hg2
    clear hK2 hO2 hg2 hV2 hcv
    gi_wp2
    refine ⟨by simp, .inl ⟨_, _, rfl, run_takeDeferred HK2.out, ?_⟩⟩
    exact ⟨_, results_tmp rfl _ _ _, g, cap, rfl, And.intro (ownsRow_putObj HO2.out _ HK2.out rfl) ((HB.out.trans ((Below.refl w.heap.size W).grown HG2.out HB.out.size (fun k e => by injection e with e; omega))).trans (belowK_b (w := w) (Nat.le_refl _) W2 D _ _ (by simp at hD; omega) HK2.out rfl rfl))⟩
  case stop =>
    rintro D c pre W _ _ h _
    exact h.elim
end Go.Proofs.Ytpgaklfgbioocaa
