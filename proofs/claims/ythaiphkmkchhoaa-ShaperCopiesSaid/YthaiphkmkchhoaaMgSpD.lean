/- Texts that the claim hangs on, in one. -/
import Derived.Test.YthaiphkmkchhoaaMgSpC
import Derived.Test.YthaiphkmkchhoaaMgSpB
import Derived.Test.YthaiphkmkchhoaaMgSpA
/- Shapers: the document's Go of any list. -/
namespace Go.Proofs.Ythaiphkmkchhoaa
open Go.RowKit Go.Sort
set_option linter.unusedVariables false
/-- the document's shaper, told by cells. -/
def DQ0 (q : Nat) (p r u m l : Int) (TA : Option Addr) (tn tc : Nat) (now room : Int) (LA : Option Addr) (ln lc : Nat) (W : World) : Prop := W.cell? ⟨q, 0, none⟩ = some (.int .i64 p) ∧ W.cell? ⟨q, 1, none⟩ = some (.int .i64 r) ∧ W.cell? ⟨q, 2, none⟩ = some (.int .i64 u) ∧ W.cell? ⟨q, 3, none⟩ = some (.int .i64 m) ∧ W.cell? ⟨q, 4, none⟩ = some (.int .i64 l) ∧ W.cell? ⟨q, 5, none⟩ = some (.slice TA tn tc) ∧ W.cell? ⟨q, 6, none⟩ = some (.int .i64 now) ∧ W.cell? ⟨q, 7, none⟩ = some (.int .i64 room) ∧ W.cell? ⟨q, 8, none⟩ = some (.slice LA ln lc)
def DQ (q : Nat) (p r u m l : Int) (TA : Option Addr) (tn tc : Nat) (now room : Int) (LA : Option Addr) (ln lc : Nat) (ad : Addr) (a z : Int) (W : World) : Prop := W.cell? ⟨q, 0, none⟩ = some (.int .i64 p) ∧ W.cell? ⟨q, 1, none⟩ = some (.int .i64 r) ∧ W.cell? ⟨q, 2, none⟩ = some (.int .i64 u) ∧ W.cell? ⟨q, 3, none⟩ = some (.int .i64 m) ∧ W.cell? ⟨q, 4, none⟩ = some (.int .i64 l) ∧ W.cell? ⟨q, 5, none⟩ = some (.slice TA tn tc) ∧ W.cell? ⟨q, 6, none⟩ = some (.int .i64 now) ∧ W.cell? ⟨q, 7, none⟩ = some (.int .i64 room) ∧ W.cell? ⟨q, 8, none⟩ = some (.slice LA ln lc) ∧ W.cell? ad = some (.int .i64 a) ∧ W.cell? ⟨ad.block, ad.off + 1, none⟩ = some (.int .i64 z)
theorem asked12_at (p r u m l : Int) (A : Option Addr) (k c : Nat) (now n : Int) (w : World) : Calls Try.prog 41 #[.agg #[.int .i64 p, .int .i64 r, .int .i64 u, .int .i64 m, .int .i64 l, .slice A k c, .int .i64 now], .int .i64 n] w fun e w' => e = .returned (.int .i64 (if decide (now ≤ n ∧ n ≤ 2147483647) then 0 else 2)) ∧ w' = w.alloc (.cells #[.int .i64 p, .int .i64 r, .int .i64 u, .int .i64 m, .int .i64 l, .slice A k c, .int .i64 now] 32) := by
  by_cases h0 : n < now
  · have e : decide (now ≤ n ∧ n ≤ 2147483647) = false := decide_eq_false (by omega)
    rw [e]
    clear e
    go_enter Try.func41, Try.ntmps41
    go_wp2_with fail
    go_ret
    exact ⟨rfl, rfl⟩
  · by_cases h1 : 2147483647 < n
    · have e : decide (now ≤ n ∧ n ≤ 2147483647) = false := decide_eq_false (by omega)
      rw [e]
      clear e
      go_enter Try.func41, Try.ntmps41
      go_wp2_with fail
      go_ret
      exact ⟨rfl, rfl⟩
    · have e : decide (now ≤ n ∧ n ≤ 2147483647) = true := decide_eq_true (by omega)
      rw [e]
      clear e
      go_enter Try.func41, Try.ntmps41
      go_wp2_with fail
      go_ret
      exact ⟨rfl, rfl⟩
/-- where it may not be asked: error 2, and nothing changes. -/
theorem rgo_no (p r u m l : Int) (TA : Option Addr) (tn tc : Nat) (now room : Int) (LA : Option Addr) (ln lc : Nat) (n : Int) (hn : decide (now ≤ n ∧ n ≤ 2147483647) = false) (w : World) : Calls Try.prog 23 #[gS p r u m l TA tn tc now room LA ln lc, .int .i64 n] w fun e w' => e = .returned (.tuple #[gS p r u m l TA tn tc now room LA ln lc, .slice none 0 0, .int .i64 2]) ∧ Below w.heap.size w w' := by
  have cA := hidd (fun W => asked12_at p r u m l TA tn tc now n W)
  unfold gS
  rw [hn] at cA
  clear hn
  go_enter Try.func23, Try.ntmps23
  go_wp2_with fail
  refine (cA.out _).mono ?_
  rintro e w1 ⟨rfl, rfl⟩
  simp only [Bool.false_eq_true, if_false]
  go_wp2_with fail
  refine bodyPost_ret (v := .tuple #[.agg #[.int .i64 p, .int .i64 r, .int .i64 u, .int .i64 m, .int .i64 l, .slice TA tn tc, .int .i64 now, .int .i64 room, .slice LA ln lc], .slice none 0 0, .int .i64 2]) (by simp [results, Try.results23, go_sem]) rfl ?_
  exact ⟨rfl, by (repeat' (first | (with_reducible exact Below.refl _ _) | (with_reducible assumption) | (with_reducible apply Below.setCell) | (with_reducible apply Below.alloc) | (with_reducible apply Below.drew) | (with_reducible apply below_drewN) | (with_reducible refine Below.trans ?_ (Below.mono (by assumption) ?_)) | omega | (simp; done) | (simp; omega)))⟩
/-- a round of the document's Go: what it took, what waits, what it gives. -/
structure RG (TA0 LA0 : Option Addr) (w : World) (p r u m l n room : Int) (T L : List (Int × Int)) (j : Nat) (TA : Option Addr) (tc : Nat) (LA : Option Addr) (lc : Nat) (ov : Value) (W : World) : Prop where
  x : GQ W w.heap.size p r u m l TA (T ++ (L.take j).map (fun x => (n, x.2))).length tc n room LA (L.drop j).length lc
  z : W.heap[w.heap.size + 1]? = some (.cells #[.int .i64 0, .int .i64 0, .int .i64 0, .int .i64 0, .int .i64 0, .slice none 0 0, .int .i64 0, .int .i64 0, .slice none 0 0] 35 (0, 0))
  tl : Lie sendV 2 W W.heap.size TA (T ++ (L.take j).map (fun x => (n, x.2)))
  tf : 0 < (T ++ (L.take j).map (fun x => (n, x.2))).length → ∀ ad, TA = some ad → (ad.block < w.heap.size ∧ TA = TA0 ∧ j = 0) ∨ w.heap.size + 2 ≤ ad.block
  ll : Lie sendV 2 W W.heap.size LA (L.drop j)
  lf : 0 < (L.drop j).length → ∀ ad, LA = some ad → ad.block < w.heap.size ∧ ∃ a0, LA0 = some a0 ∧ ad.block = a0.block
  lc0 : (L.drop j).length ≤ lc ∧ lc ≤ maxLen
  o : OwnL sendV 2 W (w.heap.size + 2) 41 ov (L.take j)
  bel : Below w.heap.size w W
  sz : w.heap.size + 2 ≤ W.heap.size
theorem Lie.sav {S : Nat → Prop} {W W' : World} {A : Option Addr} {L : List (Int × Int)} (h : Lie sendV 2 W W.heap.size A L) (hs : Sav S W W') (hn : 0 < L.length → ∀ ad, A = some ad → ¬ S ad.block) : Lie sendV 2 W' W'.heap.size A L := fun hl => by
  obtain ⟨ad, e, hB, hc⟩ := h hl
  exact ⟨ad, e, Nat.lt_of_lt_of_le hB hs.size, fun i x hx j v hv => (hs.cell (by rw [block_of_add]; exact hB) (by rw [block_of_add]; exact hn hl ad e)).trans (hc i x hx j v hv)⟩
theorem RG.below {TA0 LA0 : Option Addr} {w : World} {p r u m l n room : Int} {T L : List (Int × Int)} {j : Nat} {TA : Option Addr} {tc : Nat} {LA : Option Addr} {lc : Nat} {ov : Value} {W W' : World} (R : RG TA0 LA0 w p r u m l n room T L j TA tc LA lc ov W) (hb : Below W.heap.size W W') : RG TA0 LA0 w p r u m l n room T L j TA tc LA lc ov W' :=
  ⟨(hb.block _ (by have := R.sz; omega)).trans R.x, (hb.block _ (by have := R.sz; omega)).trans R.z, R.tl.below hb, R.tf, R.ll.below hb, R.lf, R.lc0, R.o.below hb, R.bel.trans (hb.mono (by have := R.sz; omega)), Nat.le_trans R.sz hb.size⟩
/-- what the document's Go answers, where it may be asked. -/
def RGoEnd (TA0 LA0 : Option Addr) (p r u m l room n : Int) (s0 : BM.St) (T L : List (Int × Int)) (w : World) (e : Ending) (w' : World) : Prop :=
  ∃ k s' TA tc LA lc OA oc, e = .returned (.tuple #[gS p r u m l TA (T ++ (L.take k).map (fun x => (n, x.2))).length tc n room LA (L.drop k).length lc, .slice OA (L.take k).length oc, .int .i64 0]) ∧ BM.Goes p r u m l s0 n L k s' ∧
    Lie sendV 2 w' w'.heap.size TA (T ++ (L.take k).map (fun x => (n, x.2))) ∧ (0 < (T ++ (L.take k).map (fun x => (n, x.2))).length → ∀ ad, TA = some ad → (ad.block < w.heap.size ∧ TA = TA0 ∧ k = 0) ∨ w.heap.size + 2 ≤ ad.block) ∧
    Lie sendV 2 w' w'.heap.size LA (L.drop k) ∧ (0 < (L.drop k).length → ∀ ad, LA = some ad → ad.block < w.heap.size ∧ ∃ a0, LA0 = some a0 ∧ ad.block = a0.block) ∧ ((L.drop k).length ≤ lc ∧ lc ≤ maxLen) ∧ Lie sendV 2 w' w'.heap.size OA (L.take k) ∧ (∀ ad, OA = some ad → w.heap.size ≤ ad.block) ∧ Below w.heap.size w w'
theorem RG.fin {TA0 LA0 : Option Addr} {w : World} {p r u m l n room : Int} {T L : List (Int × Int)} {j : Nat} {TA : Option Addr} {tc : Nat} {LA : Option Addr} {lc : Nat} {OA : Option Addr} {oc : Nat} {W W' : World} {s0 s' : BM.St} (R : RG TA0 LA0 w p r u m l n room T L j TA tc LA lc (.slice OA (L.take j).length oc) W) (hG : BM.Goes p r u m l s0 n L j s') (hs : Sav (fun k => k = w.heap.size + 1) W W') :
    RGoEnd TA0 LA0 p r u m l room n s0 T L w (.returned (.tuple #[gS p r u m l TA (T ++ (L.take j).map (fun x => (n, x.2))).length tc n room LA (L.drop j).length lc, .slice OA (L.take j).length oc, .int .i64 0])) W' := by
  have hsz := R.sz
  obtain ⟨A2, c2, e2, _, _, hl⟩ := R.o.lie sendV_len
  injection e2 with e21 e22 e23
  subst e21
  have hown : ∀ ad, OA = some ad → w.heap.size + 2 ≤ ad.block := fun ad e => (R.o.lt ad.block (by rw [e]; rfl)).1
  refine ⟨j, s', TA, tc, LA, lc, OA, oc, rfl, hG, R.tl.sav hs (fun hl2 ad e e3 => ?_), R.tf, R.ll.sav hs (fun hl2 ad e e3 => ?_), R.lf, R.lc0, hl.sav hs (fun hl2 ad e e3 => ?_), fun ad e => by have := hown ad e; omega, R.bel.trans ((hs.below (b := w.heap.size + 1) (by omega) (fun k e => by omega)).mono (by omega))⟩
  · have := R.tf hl2 ad e; omega
  · have := (R.lf hl2 ad e).1; omega
  · have := hown ad e; omega
theorem Sav.set1 {q : Nat} {A B : World} (h : Sav (fun k => k = q) A B) (i : Nat) (v : Value) : Sav (fun k => k = q) A (B.setCell ⟨q, i, none⟩ v) := h.tr (Sav.setCell (S := fun k => k = q) (p := ⟨q, i, none⟩) rfl B v)
theorem Sav.drewr {S : Nat → Prop} {A B : World} (h : Sav S A B) : Sav S A B.drew := ⟨h.os, h.tape, h.output, h.size, h.block⟩
theorem sav_chain9 (q : Nat) (W : World) (v0 v1 v2 v3 v4 v5 v6 v7 v8 : Value) : Sav (fun k => k = q) W ((((((((((W.setCell ⟨q, 0, none⟩ v0).setCell ⟨q, 1, none⟩ v1).setCell ⟨q, 2, none⟩ v2).setCell ⟨q, 3, none⟩ v3).setCell ⟨q, 4, none⟩ v4).setCell ⟨q, 5, none⟩ v5).setCell ⟨q, 6, none⟩ v6).setCell ⟨q, 7, none⟩ v7).setCell ⟨q, 8, none⟩ v8).drew) :=
  ((((((((((Sav.refl _ W).set1 0 v0).set1 1 v1).set1 2 v2).set1 3 v3).set1 4 v4).set1 5 v5).set1 6 v6).set1 7 v7).set1 8 v8).drewr
def BQ (W : World) (q : Nat) (p r u m l : Int) (TA : Option Addr) (tn tc : Nat) (now : Int) : Prop := W.heap[q]? = some (.cells #[.int .i64 p, .int .i64 r, .int .i64 u, .int .i64 m, .int .i64 l, .slice TA tn tc, .int .i64 now] 32 (0, 0))
theorem BQ.cells {W : World} {q : Nat} {p r u m l : Int} {TA : Option Addr} {tn tc : Nat} {now : Int} (h : BQ W q p r u m l TA tn tc now) : W.cell? ⟨q, 0, none⟩ = some (.int .i64 p) ∧ W.cell? ⟨q, 1, none⟩ = some (.int .i64 r) ∧ W.cell? ⟨q, 2, none⟩ = some (.int .i64 u) ∧ W.cell? ⟨q, 3, none⟩ = some (.int .i64 m) ∧ W.cell? ⟨q, 4, none⟩ = some (.int .i64 l) ∧ W.cell? ⟨q, 5, none⟩ = some (.slice TA tn tc) ∧ W.cell? ⟨q, 6, none⟩ = some (.int .i64 now) := by
  unfold BQ at h
  refine ⟨?_, ?_, ?_, ?_, ?_, ?_, ?_⟩ <;> simp [World.cell?, h]
theorem GQ.set7 {W : World} {q : Nat} {p r u m l : Int} {TA TA' : Option Addr} {tn tc tn' tc' : Nat} {now now' room : Int} {LA : Option Addr} {ln lc : Nat} (h : GQ W q p r u m l TA tn tc now room LA ln lc) : GQ (((((((W.setCell ⟨q, 0, none⟩ (.int .i64 p)).setCell ⟨q, 1, none⟩ (.int .i64 r)).setCell ⟨q, 2, none⟩ (.int .i64 u)).setCell ⟨q, 3, none⟩ (.int .i64 m)).setCell ⟨q, 4, none⟩ (.int .i64 l)).setCell ⟨q, 5, none⟩ (.slice TA' tn' tc')).setCell ⟨q, 6, none⟩ (.int .i64 now')) q p r u m l TA' tn' tc' now' room LA ln lc := by
  unfold GQ at h ⊢
  have h0 := heap_setCell_same W q 0 _ _ (.int .i64 p) h
  simp only [List.setIfInBounds_toArray, List.set_cons_zero] at h0
  have h1 := heap_setCell_same _ q 1 _ _ (.int .i64 r) h0
  simp only [List.setIfInBounds_toArray, List.set_cons_zero, List.set_cons_succ] at h1
  have h2 := heap_setCell_same _ q 2 _ _ (.int .i64 u) h1
  simp only [List.setIfInBounds_toArray, List.set_cons_zero, List.set_cons_succ] at h2
  have h3 := heap_setCell_same _ q 3 _ _ (.int .i64 m) h2
  simp only [List.setIfInBounds_toArray, List.set_cons_zero, List.set_cons_succ] at h3
  have h4 := heap_setCell_same _ q 4 _ _ (.int .i64 l) h3
  simp only [List.setIfInBounds_toArray, List.set_cons_zero, List.set_cons_succ] at h4
  have h5 := heap_setCell_same _ q 5 _ _ (.slice TA' tn' tc') h4
  simp only [List.setIfInBounds_toArray, List.set_cons_zero, List.set_cons_succ] at h5
  have h6 := heap_setCell_same _ q 6 _ _ (.int .i64 now') h5
  simp only [List.setIfInBounds_toArray, List.set_cons_zero, List.set_cons_succ] at h6
  exact h6
theorem GQ.set8 {W : World} {q : Nat} {p r u m l : Int} {TA : Option Addr} {tn tc : Nat} {now room : Int} {LA LA' : Option Addr} {ln lc ln' lc' : Nat} (h : GQ W q p r u m l TA tn tc now room LA ln lc) : GQ (W.setCell ⟨q, 8, none⟩ (.slice LA' ln' lc')) q p r u m l TA tn tc now room LA' ln' lc' := by
  unfold GQ at h ⊢
  have h0 := heap_setCell_same W q 8 _ _ (.slice LA' ln' lc') h
  simp only [List.setIfInBounds_toArray, List.set_cons_zero, List.set_cons_succ] at h0
  exact h0
theorem GQ.froz {W : World} {q : Nat} {p r u m l : Int} {TA : Option Addr} {tn tc : Nat} {now room : Int} {LA : Option Addr} {ln lc : Nat} (h : GQ W q p r u m l TA tn tc now room LA ln lc) (o : Nat) : W.frozen? ⟨q, o, none⟩ = false := by
  unfold GQ at h
  simp [World.frozen?, h]
theorem tail13 {w : World} {B : Nat} {ad : Addr} {x : Int × Int} {L : List (Int × Int)} (h : Lie sendV 2 w B (some ad) (x :: L)) : Lie sendV 2 w B (some ⟨ad.block, ad.off + 2, none⟩) L := fun hl => by
  obtain ⟨ad', e, hB, hc⟩ := h (by simp)
  cases e
  refine ⟨_, rfl, hB, fun i y hy j v hv => ?_⟩
  have q := hc (i + 1) y (by simpa using hy) j v hv
  have e2 : (⟨ad.block, ad.off + 2, none⟩ : Addr).add (i * 2 + j) = ad.add ((i + 1) * 2 + j) := by
    unfold Addr.add
    rw [if_neg (by omega : ¬ (i + 1) * 2 + j = 0)]
    by_cases h0 : i * 2 + j = 0
    · rw [if_pos h0]
      congr 1
      omega
    · rw [if_neg h0]
      congr 1
      show ad.off + 2 + (i * 2 + j) = _
      omega
  rw [e2]
  exact q
theorem Lie.blk {W W' : World} {A : Option Addr} {L : List (Int × Int)} (h : Lie sendV 2 W W.heap.size A L) (hs : W.heap.size ≤ W'.heap.size) (hb : 0 < L.length → ∀ ad, A = some ad → W'.heap[ad.block]? = W.heap[ad.block]?) : Lie sendV 2 W' W'.heap.size A L := fun hl => by
  obtain ⟨ad, e, hB, hc⟩ := h hl
  exact ⟨ad, e, Nat.lt_of_lt_of_le hB hs, fun i x hx j v hv => (World.cell?_of_block (a := ad.add (i * 2 + j)) (by rw [block_of_add]; exact hb hl ad e)).trans (hc i x hx j v hv)⟩
/-- a round that takes, told without its walk. -/
theorem RG.next {TA0 LA0 : Option Addr} {w : World} {p r u m l n room : Int} {T L : List (Int × Int)} {j : Nat} {TA : Option Addr} {tc : Nat} {ad : Addr} {lc : Nat} {OA : Option Addr} {oc LN TN : Nat} {w7 w8 wa : World} {B2 : Nat} {a z : Int} {TA1 : Option Addr} {tc1 : Nat} {va : Value} {LA' : Option Addr} {lc' : Nat}
    (R : RG TA0 LA0 w p r u m l n room T L j TA tc (some ad) lc (.slice OA j oc) w7) (hj : j < L.length) (hx : L[j] = (a, z)) (hLN : (L.drop j).length = LN) (hTN : (T ++ (L.take j).map (fun x => (n, x.2))).length = TN)
    (hB : w.heap.size + 2 ≤ B2) (hOA : ∀ g, (Value.slice OA j oc).ownBlock = some g → g < B2)
    (hX : GQ w8 w.heap.size p r u m l TA1 (TN + 1) tc1 n room (some ad) LN lc) (hs : Sav (fun k => k = w.heap.size) w7 w8)
    (hT : Lie sendV 2 w7 w7.heap.size TA1 (T ++ (L.take j).map (fun x => (n, x.2)) ++ [(n, z)])) (hTf : ∀ ad, TA1 = some ad → B2 ≤ ad.block)
    (hown : OwnL sendV 2 wa (w.heap.size + 2) 41 va (L.take j ++ [(a, z)])) (hgrow : (w8.alloc (.cells #[.int .i64 a, .int .i64 z] 41)).grownBy wa (Value.slice OA j oc).ownBlock)
    (hL : Lie sendV 2 w7 w7.heap.size LA' (L.drop (j + 1))) (hLf : ∀ ad', LA' = some ad' → ad'.block = ad.block) (hc : LN - 1 ≤ lc' ∧ lc' ≤ maxLen) :
    RG TA0 LA0 w p r u m l n room T L (j + 1) TA1 tc1 LA' lc' va (wa.setCell ⟨w.heap.size, 8, none⟩ (.slice LA' (LN - 1) lc')) := by
  have hd0 : 0 < (L.drop j).length := by rw [List.length_drop]; omega
  obtain ⟨hadb, a0, ha0, hab⟩ := R.lf hd0 ad rfl
  have hsz := R.sz
  have hs7 := hs.size
  have hsa : w8.heap.size + 1 ≤ wa.heap.size := by have := hgrow.size; simpa using this
  have hob : ∀ g, (Value.slice OA j oc).ownBlock = some g → w.heap.size + 2 ≤ g := fun g e => (R.o.lt g e).1
  have blk : ∀ k, k < w8.heap.size → (Value.slice OA j oc).ownBlock ≠ some k → wa.heap[k]? = w8.heap[k]? := fun k hk hne => (hgrow.block k (by simp; omega) (fun e => hne e.symm)).trans (Below.heap_alloc _ _ _ hk)
  have eT : T ++ (L.take (j + 1)).map (fun x => (n, x.2)) = T ++ (L.take j).map (fun x => (n, x.2)) ++ [(n, z)] := by
    rw [List.take_succ_eq_append_getElem hj, List.map_append, hx]; simp
  have eO : L.take (j + 1) = L.take j ++ [(a, z)] := by rw [List.take_succ_eq_append_getElem hj, hx]
  have eD : (L.drop (j + 1)).length = LN - 1 := by rw [← hLN]; simp; omega
  have eTl : (T ++ (L.take (j + 1)).map (fun x => (n, x.2))).length = TN + 1 := by rw [eT, List.length_append, hTN]; rfl
  have far : ∀ k, k ≠ w.heap.size → (wa.setCell ⟨w.heap.size, 8, none⟩ (.slice LA' (LN - 1) lc')).heap[k]? = wa.heap[k]? := fun k hk => Below.heap_setCell _ _ _ _ hk
  have hss : (wa.setCell ⟨w.heap.size, 8, none⟩ (.slice LA' (LN - 1) lc')).heap.size = wa.heap.size := by simp [World.setCell]
  refine ⟨?_, ?_, ?_, ?_, ?_, ?_, ?_, ?_, ?_, ?_⟩
  · rw [eTl, eD]
    refine GQ.set8 (LA := some ad) (ln := LN) (lc := lc) ?_
    exact (blk _ (by omega) (fun e => by have := hob _ e; omega)).trans hX
  · refine (far _ (by omega)).trans ((blk _ (by omega) (fun e => by have := hob _ e; omega)).trans ((hs.block _ (by omega) (by omega)).trans R.z))
  · rw [eT]
    refine hT.blk (by rw [hss]; omega) (fun hl ad' e => ?_)
    obtain ⟨ad2, e2, hlt, _⟩ := hT hl
    rw [e] at e2
    cases e2
    have hf := hTf ad' e
    exact (far _ (by omega)).trans ((blk _ (by omega) (fun e3 => by have := hOA _ e3; omega)).trans (hs.block _ hlt (by omega)))
  · intro _ ad' e
    exact .inr (by have := hTf ad' e; omega)
  · refine hL.blk (by rw [hss]; omega) (fun hl ad' e => ?_)
    have h1 := hLf ad' e
    exact (far _ (by omega)).trans ((blk _ (by omega) (fun e3 => by have := hob _ e3; omega)).trans (hs.block _ (by omega) (by omega)))
  · intro _ ad' e
    have h1 := hLf ad' e
    exact ⟨by omega, a0, ha0, h1.trans hab⟩
  · rw [eD]; exact hc
  · rw [eO]
    exact hown.keep1 (fun g e => far g (by have := (hown.lt g e).1; omega))
  · have b1 : Below w.heap.size w w8 := R.bel.trans (hs.below (by omega) (fun k e => by omega))
    have b2 := below_new b1 (.cells #[.int .i64 a, .int .i64 z] 41)
    have b3 := Below.grown b2 hgrow b2.size (fun k hk => by have := hob k hk; omega)
    exact b3.setCell (p := ⟨w.heap.size, 8, none⟩) (Nat.le_refl _) _
  · rw [hss]; omega
set_option maxRecDepth 100000 in
set_option maxHeartbeats 8000000 in
theorem rgo_yes {p r u m l : Int} (hr : rightB p r u m l = true) (TA0 : Option Addr) {T : List (Int × Int)} {s : BM.St} (hI : BM.Inv p r u m l T s) (hs : BM.Ok u m s) (tc0 : Nat) (room : Int) (LA0 : Option Addr) (L : List (Int × Int)) (lc0 : Nat) (hlc : L.length ≤ lc0) (hcm : lc0 ≤ maxLen) (hm : T.length + L.length ≤ 999) (n : Int) (hn : BM.askB s n = true) (w : World) (hT : Lie sendV 2 w w.heap.size TA0 T) (hL : Lie sendV 2 w w.heap.size LA0 L) :
    Calls Try.prog 23 #[gS p r u m l TA0 T.length tc0 s.1 room LA0 L.length lc0, .int .i64 n] w (RGoEnd TA0 LA0 p r u m l room n (BM.step p r u m l s n 0).1 T L w) := by
  obtain ⟨i0, hi0, hz0, hz1, hz2⟩ : ∃ i, Try.prog.info? 41 = some i ∧ i.zero = some (.agg #[.int .i64 0, .int .i64 0]) ∧ i.size = 2 ∧ i.bytes = 16 := by
    have q := waitInfo
    cases hi : Try.prog.info? 41 with
    | none => rw [hi] at q; cases q
    | some i => rw [hi] at q; simp at q; exact ⟨i, rfl, q.1, q.2.1, q.2.2⟩
  have cA := hidd (fun W => asked12_at p r u m l TA0 T.length tc0 s.1 n W)
  obtain ⟨PO, hPO⟩ : ∃ PO : Ending → World → Prop, RGoEnd TA0 LA0 p r u m l room n (BM.step p r u m l s n 0).1 T L w = PO := ⟨_, rfl⟩
  have HPO := hidd hPO
  rw [hPO]
  clear hPO
  unfold gS
  have hn' : decide (s.1 ≤ n ∧ n ≤ 2147483647) = true := hn
  rw [hn'] at cA
  clear hn'
  have HT := hidd hT
  have HL := hidd hL
  have HLC := hidd (And.intro hlc hcm)
  have HM := hidd hm
  have INV := hidd hI
  have OK := hidd hs
  have ASK := hidd hn
  have RT := hidd hr
  clear hr hI hs hlc hcm hm hn hT hL
  generalize hTN : T.length = TN0 at *
  generalize hLN : L.length = LN0 at *
  have HTN := hidd hTN
  have HLN := hidd hLN
  clear hTN hLN
  go_enter Try.func23, Try.ntmps23
  go_wp2_with fail
  refine (cA.out _).mono ?_
  rintro e w1 ⟨rfl, rfl⟩
  simp only [if_true]
  go_wp2_with fail
  go_loopg [8] (LN0 + 1) (fun gk s8 wr => ∃ (j : Nat) (TA : Option Addr) (tc : Nat) (LA : Option Addr) (lc : Nat), j ≤ LN0 ∧ j + gk = LN0 + 1 ∧ (∀ i (hi : i < L.length), i < j → (BM.step p r u m l (BM.atK p r u m l (BM.step p r u m l s n 0).1 n L i) n L[i].2).2.1 = true) ∧ RG TA0 LA0 w p r u m l n room T L j TA tc LA lc s8 wr)
  case atStart =>
    refine ⟨0, TA0, tc0, LA0, lc0, by omega, by omega, fun i _ hi => absurd hi (by omega), ?_⟩
    have b3 := three_at w (.cells #[.int .i64 p, .int .i64 r, .int .i64 u, .int .i64 m, .int .i64 l, .slice TA0 TN0 tc0, .int .i64 n, .int .i64 room, .slice LA0 LN0 lc0] 35) (.cells #[.int .i64 0, .int .i64 0, .int .i64 0, .int .i64 0, .int .i64 0, .slice none 0 0, .int .i64 0, .int .i64 0, .slice none 0 0] 35) (.cells #[.int .i64 p, .int .i64 r, .int .i64 u, .int .i64 m, .int .i64 l, .slice TA0 TN0 tc0, .int .i64 s.1] 32)
    have e0 : T ++ (L.take 0).map (fun x => (n, x.2)) = T := by simp
    have e1 : L.drop 0 = L := rfl
    have bb : Below w.heap.size w (((w.alloc (.cells #[.int .i64 p, .int .i64 r, .int .i64 u, .int .i64 m, .int .i64 l, .slice TA0 TN0 tc0, .int .i64 n, .int .i64 room, .slice LA0 LN0 lc0] 35)).alloc (.cells #[.int .i64 0, .int .i64 0, .int .i64 0, .int .i64 0, .int .i64 0, .slice none 0 0, .int .i64 0, .int .i64 0, .slice none 0 0] 35)).alloc (.cells #[.int .i64 p, .int .i64 r, .int .i64 u, .int .i64 m, .int .i64 l, .slice TA0 TN0 tc0, .int .i64 s.1] 32)) := by (repeat' (first | (with_reducible exact Below.refl _ _) | (with_reducible assumption) | (with_reducible apply Below.setCell) | (with_reducible apply Below.alloc) | (with_reducible apply Below.drew) | (with_reducible apply below_drewN) | (with_reducible refine Below.trans ?_ (Below.mono (by assumption) ?_)) | omega | (simp; done) | (simp; omega)))
    refine ⟨?_, b3.2.1, ?_, ?_, HL.out.below bb, ?_, ?_, OwnL.nil _ _ _, bb, by simp⟩
    · rw [e0, e1, HTN.out, HLN.out]; exact b3.1
    · rw [e0]; exact HT.out.below bb
    · rw [e0]; intro hl ad e; obtain ⟨ad', e', h1, _⟩ := HT.out hl; rw [e] at e'; cases e'; exact .inl ⟨h1, rfl, rfl⟩
    · intro hl ad e; obtain ⟨ad', e', h1, _⟩ := HL.out hl; rw [e] at e'; cases e'; exact ⟨h1, ad, e, rfl⟩
    · rw [e1, HLN.out]; exact HLC.out
  case round =>
    obtain ⟨j, TA, tc, LA, lc, hj, hk, hall, hR⟩ := hrel
    have HK := hidd hk
    have HALL := hidd hall
    have HR := hidd hR
    clear hk hall
    by_cases hjl : j < LN0
    · have hj1 : j < L.length := by rw [HLN.out]; exact hjl
      have hd0 : 0 < (L.drop j).length := by rw [List.length_drop]; omega
      have hdr : L.drop j = L[j] :: L.drop (j + 1) := List.drop_eq_getElem_cons hj1
      have hx0 : (L.drop j)[0] = L[j] := by simp
      obtain ⟨ad, rfl, had, q0, q1⟩ := hR.ll.send 0 hd0
      rw [hx0] at q0 q1
      clear hx0
      have INVJ0 := INV.out.move (by have := rightB_iff RT.out; omega) (by have := rightB_iff RT.out; omega) (by have := rightB_iff RT.out; omega) OK.out n
      have OK1 := BM.step_ok OK.out (p := p) (r := r) (l := l) (by have := rightB_iff RT.out; omega) n 0
      have INVJ := hidd (INVJ0.atK (n := n) (L := L) (k := j) (by have := rightB_iff RT.out; omega) (by have := rightB_iff RT.out; omega) (by have := rightB_iff RT.out; omega) OK1 (by omega) HALL.out)
      have OKJ := BM.atK_ok (p := p) (r := r) (n := n) (L := L) (k := j) (l := l) (by have := rightB_iff RT.out; omega) OK1
      have NOWJ : (BM.atK p r u m l (BM.step p r u m l s n 0).1 n L j).1 = n := by
        refine BM.atK_now ?_ (of_decide_eq_true ASK.out).2 (by omega)
        unfold BM.step
        rw [if_pos ASK.out]
        split <;> rfl
      have STEP := hidd (BM.step_is INVJ.out (by have := rightB_iff RT.out; omega) (by have := rightB_iff RT.out; omega) OKJ n L[j].2)
      have ASKJ := hidd (show BM.askB (BM.atK p r u m l (BM.step p r u m l s n 0).1 n L j) n = true from decide_eq_true ⟨by rw [NOWJ]; exact Int.le_refl _, (of_decide_eq_true ASK.out).2⟩)
      have CK : Hid (∀ Y, Below wr.heap.size wr Y → Calls Try.prog 42 #[.agg #[.int .i64 p, .int .i64 r, .int .i64 u, .int .i64 m, .int .i64 l, .slice TA (T ++ (L.take j).map (fun x => (n, x.2))).length tc, .int .i64 n], .int .i64 n, .int .i64 L[j].2] Y fun e w' => e = .returned (.bool (BM.step p r u m l (BM.atK p r u m l (BM.step p r u m l s n 0).1 n L j) n L[j].2).2.1) ∧ Below Y.heap.size Y w') := hidd (fun Y hb => (keeps12_any p r u m l RT.out TA _ tc n n L[j].2 (by rw [List.length_append, List.length_map, List.length_take]; have := HM.out; have := HTN.out; omega) Y (hR.tl.below hb)).mono (by
        rintro e w' ⟨b, rfl, hb1, hb2⟩
        refine ⟨?_, hb2⟩
        have q : b = (BM.step p r u m l (BM.atK p r u m l (BM.step p r u m l s n 0).1 n L j) n L[j].2).2.1 := by
          rw [Bool.eq_iff_iff, hb1, STEP.out]
          exact ⟨fun h => ⟨ASKJ.out, h⟩, fun h => h.2⟩
        rw [q]))
      generalize hTL : (T ++ (L.take j).map (fun x => (n, x.2))).length = TN at *
      generalize hLL : (L.drop j).length = LN at *
      have hqs : w.heap.size < wr.heap.size := by have := hR.sz; omega
      have KS : Hid (∀ Y, Below wr.heap.size wr Y → DQ w.heap.size p r u m l TA TN tc n room (some ad) LN lc ad L[j].1 L[j].2 Y) := hidd (fun Y hb => by
        have g := (show GQ Y w.heap.size p r u m l TA TN tc n room (some ad) LN lc from by have q := hR.x; rw [hTL, hLL] at q; exact (hb.block _ hqs).trans q).cells
        obtain ⟨e0, e1, e2, e3, e4, e5, e6, e7, e8⟩ := g
        exact ⟨e0, e1, e2, e3, e4, e5, e6, e7, e8, (hb.cell (p := ad) had).trans q0, (hb.cell (p := ⟨ad.block, ad.off + 1, none⟩) had).trans q1⟩)
      generalize hz : L[j].2 = z at *
      generalize ha : L[j].1 = a at *
      obtain ⟨b, hb⟩ : ∃ b, (BM.step p r u m l (BM.atK p r u m l (BM.step p r u m l s n 0).1 n L j) n z).2.1 = b := ⟨_, rfl⟩
      have HB := hidd hb
      rw [hb] at CK
      have HTL := hidd hTL
      have HLL := hidd hLL
      have HZ := hidd hz
      have HA := hidd ha
      have HAD := hidd had
      have HDR := hidd hdr
      have R := hidd hR
      have z1 : (0 : Int) < (LN : Int) := by omega
      have hLN0 : 0 < LN := hd0
      clear hb hTL hLL hz ha had hdr hR q0 q1 INVJ0 OK1 NOWJ
      cases b
      · go_wp2_with fail
        refine wp_region_held_drew (S := (fun Y => DQ w.heap.size p r u m l TA TN tc n room (some ad) LN lc ad a z Y)) (by kernel_rfl) (KS.out _ (Below.drew (Below.refl _ _))) (fun hH => ?_)
        refine wpAnyH_take (i := 0) (v := ?vs0_1) (by (conv => lhs; simp only [List.getElem?_toArray, List.getElem?_cons_succ, List.getElem?_cons_zero])) (by kernel_rfl) (by kernel_rfl) (by kernel_rfl) ?hQ (Or.inl ⟨by rfl, ?hys0_1⟩) hH ?rests0_1
        case hQ => exact fun _ _ _ h => h
        case hys0_1 => (intro Y hY; obtain ⟨y0, y1, y2, y3, y4, y5, y6, y7, y8, y9, y10⟩ := hY; go_simp; try (with_reducible rfl))
        try simp only [Act.put, List.setIfInBounds_toArray, List.set_cons_zero, List.set_cons_succ]
        refine wpAnyH_take (i := 1) (v := ?vs1_2) (by (conv => lhs; simp only [List.getElem?_toArray, List.getElem?_cons_succ, List.getElem?_cons_zero])) (by kernel_rfl) (by kernel_rfl) (by kernel_rfl) ?hQ (Or.inl ⟨by rfl, ?hys1_2⟩) hH ?rests1_2
        case hQ => exact fun _ _ _ h => h
        case hys1_2 => (intro Y hY; obtain ⟨y0, y1, y2, y3, y4, y5, y6, y7, y8, y9, y10⟩ := hY; go_simp; try (with_reducible rfl))
        try simp only [Act.put, List.setIfInBounds_toArray, List.set_cons_zero, List.set_cons_succ]
        refine wpAnyH_take (i := 2) (v := ?vs2_3) (by (conv => lhs; simp only [List.getElem?_toArray, List.getElem?_cons_succ, List.getElem?_cons_zero])) (by kernel_rfl) (by kernel_rfl) (by kernel_rfl) ?hQ (Or.inl ⟨by rfl, ?hys2_3⟩) hH ?rests2_3
        case hQ => exact fun _ _ _ h => h
        case hys2_3 => (intro Y hY; obtain ⟨y0, y1, y2, y3, y4, y5, y6, y7, y8, y9, y10⟩ := hY; go_simp; try (with_reducible rfl))
        try simp only [Act.put, List.setIfInBounds_toArray, List.set_cons_zero, List.set_cons_succ]
        refine wpAnyH_take (i := 3) (v := ?vs3_4) (by (conv => lhs; simp only [List.getElem?_toArray, List.getElem?_cons_succ, List.getElem?_cons_zero])) (by kernel_rfl) (by kernel_rfl) (by kernel_rfl) ?hQ (Or.inl ⟨by rfl, ?hys3_4⟩) hH ?rests3_4
        case hQ => exact fun _ _ _ h => h
        case hys3_4 => (intro Y hY; obtain ⟨y0, y1, y2, y3, y4, y5, y6, y7, y8, y9, y10⟩ := hY; go_simp; try (with_reducible rfl))
        try simp only [Act.put, List.setIfInBounds_toArray, List.set_cons_zero, List.set_cons_succ]
        refine wpAnyH_take (i := 4) (v := ?vs4_5) (by (conv => lhs; simp only [List.getElem?_toArray, List.getElem?_cons_succ, List.getElem?_cons_zero])) (by kernel_rfl) (by kernel_rfl) (by kernel_rfl) ?hQ (Or.inl ⟨by rfl, ?hys4_5⟩) hH ?rests4_5
        case hQ => exact fun _ _ _ h => h
        case hys4_5 => (intro Y hY; obtain ⟨y0, y1, y2, y3, y4, y5, y6, y7, y8, y9, y10⟩ := hY; go_simp; try (with_reducible rfl))
        try simp only [Act.put, List.setIfInBounds_toArray, List.set_cons_zero, List.set_cons_succ]
        refine wpAnyH_take (i := 5) (v := ?vs5_6) (by (conv => lhs; simp only [List.getElem?_toArray, List.getElem?_cons_succ, List.getElem?_cons_zero])) (by kernel_rfl) (by kernel_rfl) (by kernel_rfl) ?hQ (Or.inl ⟨by rfl, ?hys5_6⟩) hH ?rests5_6
        case hQ => exact fun _ _ _ h => h
        case hys5_6 => (intro Y hY; obtain ⟨y0, y1, y2, y3, y4, y5, y6, y7, y8, y9, y10⟩ := hY; go_simp; try (with_reducible rfl))
        try simp only [Act.put, List.setIfInBounds_toArray, List.set_cons_zero, List.set_cons_succ]
        refine wpAnyH_take (i := 6) (v := ?vs6_7) (by (conv => lhs; simp only [List.getElem?_toArray, List.getElem?_cons_succ, List.getElem?_cons_zero])) (by kernel_rfl) (by kernel_rfl) (by kernel_rfl) ?hQ (Or.inl ⟨by rfl, ?hys6_7⟩) hH ?rests6_7
        case hQ => exact fun _ _ _ h => h
        case hys6_7 => (intro Y hY; obtain ⟨y0, y1, y2, y3, y4, y5, y6, y7, y8, y9, y10⟩ := hY; go_simp; try (with_reducible rfl))
        try simp only [Act.put, List.setIfInBounds_toArray, List.set_cons_zero, List.set_cons_succ]
        refine wpAnyH_take (i := 7) (v := ?vs7_8) (by (conv => lhs; simp only [List.getElem?_toArray, List.getElem?_cons_succ, List.getElem?_cons_zero])) (by kernel_rfl) (by kernel_rfl) (by kernel_rfl) ?hQ (Or.inl ⟨by rfl, ?hys7_8⟩) hH ?rests7_8
        case hQ => exact fun _ _ _ h => h
        case hys7_8 => (intro Y hY; obtain ⟨y0, y1, y2, y3, y4, y5, y6, y7, y8, y9, y10⟩ := hY; go_simp; try (with_reducible rfl))
        try simp only [Act.put, List.setIfInBounds_toArray, List.set_cons_zero, List.set_cons_succ]
        refine wpAnyH_take (i := 8) (v := ?vs8_9) (by (conv => lhs; simp only [List.getElem?_toArray, List.getElem?_cons_succ, List.getElem?_cons_zero])) (by kernel_rfl) (by kernel_rfl) (by kernel_rfl) ?hQ (Or.inl ⟨by rfl, ?hys8_9⟩) hH ?rests8_9
        case hQ => exact fun _ _ _ h => h
        case hys8_9 => (intro Y hY; obtain ⟨y0, y1, y2, y3, y4, y5, y6, y7, y8, y9, y10⟩ := hY; go_simp; try (with_reducible rfl))
        try simp only [Act.put, List.setIfInBounds_toArray, List.set_cons_zero, List.set_cons_succ]
        refine wpAnyH_take (i := 9) (v := ?vs9_10) (by (conv => lhs; simp only [List.getElem?_toArray, List.getElem?_cons_succ, List.getElem?_cons_zero])) (by kernel_rfl) (by kernel_rfl) (by kernel_rfl) ?hQ (Or.inl ⟨by rfl, ?hys9_10⟩) hH ?rests9_10
        case hQ => exact fun _ _ _ h => h
        case hys9_10 => (intro Y hY; obtain ⟨y0, y1, y2, y3, y4, y5, y6, y7, y8, y9, y10⟩ := hY; go_simp; try (with_reducible rfl))
        try simp only [Act.put, List.setIfInBounds_toArray, List.set_cons_zero, List.set_cons_succ]
        refine wpAnyH_take (i := 10) (v := ?vs10_11) (by (conv => lhs; simp only [List.getElem?_toArray, List.getElem?_cons_succ, List.getElem?_cons_zero])) (by kernel_rfl) (by kernel_rfl) (by kernel_rfl) ?hQ (Or.inl ⟨by rfl, ?hys10_11⟩) hH ?rests10_11
        case hQ => exact fun _ _ _ h => h
        case hys10_11 => (intro Y hY; obtain ⟨y0, y1, y2, y3, y4, y5, y6, y7, y8, y9, y10⟩ := hY; go_simp; try (with_reducible rfl))
        try simp only [Act.put, List.setIfInBounds_toArray, List.set_cons_zero, List.set_cons_succ]
        refine wpAnyH_take (i := 11) (v := ?vs11_12) (by (conv => lhs; simp only [List.getElem?_toArray, List.getElem?_cons_succ, List.getElem?_cons_zero])) (by kernel_rfl) (by kernel_rfl) (by kernel_rfl) ?hQ (Or.inl ⟨by rfl, ?hys11_12⟩) hH ?rests11_12
        case hQ => exact fun _ _ _ h => h
        case hys11_12 => (intro Y hY; obtain ⟨y0, y1, y2, y3, y4, y5, y6, y7, y8, y9, y10⟩ := hY; go_simp; try (with_reducible rfl))
        try simp only [Act.put, List.setIfInBounds_toArray, List.set_cons_zero, List.set_cons_succ]
        refine wpAnyH_take (i := 12) (v := ?vs12_13) (by (conv => lhs; simp only [List.getElem?_toArray, List.getElem?_cons_succ, List.getElem?_cons_zero])) (by kernel_rfl) (by kernel_rfl) (by kernel_rfl) ?hQ (Or.inl ⟨by rfl, ?hys12_13⟩) hH ?rests12_13
        case hQ => exact fun _ _ _ h => h
        case hys12_13 => (intro Y hY; obtain ⟨y0, y1, y2, y3, y4, y5, y6, y7, y8, y9, y10⟩ := hY; go_simp; try (with_reducible rfl))
        try simp only [Act.put, List.setIfInBounds_toArray, List.set_cons_zero, List.set_cons_succ]
        refine wpAnyH_ready (rs := [13]) (by kernel_rfl) (by simp) ?_
        refine AllReadyH.cons (by (conv => lhs; simp only [List.getElem?_toArray, List.getElem?_cons_succ, List.getElem?_cons_zero])) (fun K hK => ?_) AllReadyH.nil
        go_simp
        go_at_call 42; refine (CK.out _ (Below.drew (Below.refl _ _))).mono ?_; rintro e w2 ⟨rfl, hb2⟩
        have B2 := hidd (below_step (Below.drew (Below.refl _ _)) hb2)
        refine hK.out _ _ (KS.out _ B2.out) (fun hH1 => ?_)
        clear hK hH hb2
        try simp only [Act.put, List.setIfInBounds_toArray, List.set_cons_zero, List.set_cons_succ]
        refine wpAnyH_take (i := 14) (v := ?vs14_14) (by (conv => lhs; simp only [List.getElem?_toArray, List.getElem?_cons_succ, List.getElem?_cons_zero])) (by kernel_rfl) (by kernel_rfl) (by kernel_rfl) ?hQ (Or.inl ⟨by rfl, ?hys14_14⟩) hH1 ?rests14_14
        case hQ => exact fun _ _ _ h => h
        case hys14_14 => (intro Y hY; obtain ⟨y0, y1, y2, y3, y4, y5, y6, y7, y8, y9, y10⟩ := hY; go_simp; try (with_reducible rfl))
        try simp only [Act.put, List.setIfInBounds_toArray, List.set_cons_zero, List.set_cons_succ]
        refine wpAnyH_done (by kernel_rfl) (?_) _
        have GOES := hidd (show BM.Goes p r u m l (BM.step p r u m l s n 0).1 n L j _ from ⟨by omega, rfl, HALL.out, fun hk2 => by rw [HZ.out]; exact HB.out⟩)
        have RB := R.out.below B2.out
        obtain ⟨OA, oc, hov, -, -, -⟩ := OwnL.lie RB.o sendV_len
        subst hov
        have hx := RB.x.cells
        rw [HTL.out, HLL.out] at hx
        obtain ⟨x0, x1, x2, x3, x4, x5, x6, x7, x8⟩ := hx
        have hrz := RB.z
        have u0 : w2.cell? ⟨w.heap.size + 1, 0, none⟩ = some (.int .i64 0) := by simp [World.cell?, hrz]
        have u1 : w2.cell? ⟨w.heap.size + 1, 1, none⟩ = some (.int .i64 0) := by simp [World.cell?, hrz]
        have u2 : w2.cell? ⟨w.heap.size + 1, 2, none⟩ = some (.int .i64 0) := by simp [World.cell?, hrz]
        have u3 : w2.cell? ⟨w.heap.size + 1, 3, none⟩ = some (.int .i64 0) := by simp [World.cell?, hrz]
        have u4 : w2.cell? ⟨w.heap.size + 1, 4, none⟩ = some (.int .i64 0) := by simp [World.cell?, hrz]
        have u5 : w2.cell? ⟨w.heap.size + 1, 5, none⟩ = some (.slice none 0 0) := by simp [World.cell?, hrz]
        have u6 : w2.cell? ⟨w.heap.size + 1, 6, none⟩ = some (.int .i64 0) := by simp [World.cell?, hrz]
        have u7 : w2.cell? ⟨w.heap.size + 1, 7, none⟩ = some (.int .i64 0) := by simp [World.cell?, hrz]
        have u8 : w2.cell? ⟨w.heap.size + 1, 8, none⟩ = some (.slice none 0 0) := by simp [World.cell?, hrz]
        have f0 : w2.frozen? ⟨w.heap.size + 1, 0, none⟩ = false := by simp [World.frozen?, hrz]
        have f1 : w2.frozen? ⟨w.heap.size + 1, 1, none⟩ = false := by simp [World.frozen?, hrz]
        have f2 : w2.frozen? ⟨w.heap.size + 1, 2, none⟩ = false := by simp [World.frozen?, hrz]
        have f3 : w2.frozen? ⟨w.heap.size + 1, 3, none⟩ = false := by simp [World.frozen?, hrz]
        have f4 : w2.frozen? ⟨w.heap.size + 1, 4, none⟩ = false := by simp [World.frozen?, hrz]
        have f5 : w2.frozen? ⟨w.heap.size + 1, 5, none⟩ = false := by simp [World.frozen?, hrz]
        have f6 : w2.frozen? ⟨w.heap.size + 1, 6, none⟩ = false := by simp [World.frozen?, hrz]
        have f7 : w2.frozen? ⟨w.heap.size + 1, 7, none⟩ = false := by simp [World.frozen?, hrz]
        have f8 : w2.frozen? ⟨w.heap.size + 1, 8, none⟩ = false := by simp [World.frozen?, hrz]
        have RBH := hidd RB
        clear RB hrz
        go_wp2_with fail
        refine bodyPost_ret (v := .tuple #[.agg #[.int .i64 p, .int .i64 r, .int .i64 u, .int .i64 m, .int .i64 l, .slice TA TN tc, .int .i64 n, .int .i64 room, .slice (some ad) LN lc], .slice OA (L.take j).length oc, .int .i64 0]) (by simp [results, Try.results23, go_sem, u0, u1, u2, u3, u4, u5, u6, u7, u8]) rfl ?_
        rw [← HPO.out, ← HTL.out, ← HLL.out]
        refine RBH.out.fin GOES.out ?_
        repeat' (with_reducible first | exact Sav.refl _ _ | refine Sav.drewr ?_ | refine Sav.set1 ?_ _ _)
      · have TAKE : Hid (∀ Y, Below wr.heap.size wr Y → Calls Try.prog 43 #[.agg #[.int .i64 p, .int .i64 r, .int .i64 u, .int .i64 m, .int .i64 l, .slice TA TN tc, .int .i64 n], .int .i64 n, .int .i64 z] Y fun e w' => ∃ A c, e = .returned (.tuple #[.agg #[.int .i64 p, .int .i64 r, .int .i64 u, .int .i64 m, .int .i64 l, .slice A (TN + 1) c, .int .i64 n], .bool true, .int .i64 0]) ∧ Lie sendV 2 w' w'.heap.size A (T ++ (L.take j).map (fun x => (n, x.2)) ++ [(n, z)]) ∧ (∀ ad, A = some ad → Y.heap.size ≤ ad.block) ∧ Below Y.heap.size Y w') := hidd (fun Y hb => by
          have tk := take12_yes p r u m l RT.out TA (T ++ (L.take j).map (fun x => (n, x.2))) tc n n z (decide_eq_true ⟨Int.le_refl _, (of_decide_eq_true ASK.out).2⟩) (by rw [HTL.out, ← HTL.out, List.length_append, List.length_map, List.length_take]; have := HM.out; have := HTN.out; omega) ((STEP.out).1 HB.out).2 Y (R.out.tl.below hb)
          rw [HTL.out] at tk
          refine tk.mono ?_
          rintro e w' ⟨A, c, rfl, h1, h2, h3⟩
          refine ⟨A, c, by rw [List.length_append, HTL.out]; rfl, h1, ?_, h3⟩
          rcases h2 with h2 | h2
          · have := congrArg List.length h2.2
            simp at this
          · exact h2 (by simp; omega))
        go_wp2_with fail
        refine wp_region_held_drew (S := (fun Y => DQ w.heap.size p r u m l TA TN tc n room (some ad) LN lc ad a z Y)) (by kernel_rfl) (KS.out _ (Below.drew (Below.refl _ _))) (fun hH => ?_)
        refine wpAnyH_take (i := 0) (v := ?vt0_1) (by (conv => lhs; simp only [List.getElem?_toArray, List.getElem?_cons_succ, List.getElem?_cons_zero])) (by kernel_rfl) (by kernel_rfl) (by kernel_rfl) ?hQ (Or.inl ⟨by rfl, ?hyt0_1⟩) hH ?restt0_1
        case hQ => exact fun _ _ _ h => h
        case hyt0_1 => (intro Y hY; obtain ⟨y0, y1, y2, y3, y4, y5, y6, y7, y8, y9, y10⟩ := hY; go_simp; try (with_reducible rfl))
        try simp only [Act.put, List.setIfInBounds_toArray, List.set_cons_zero, List.set_cons_succ]
        refine wpAnyH_take (i := 1) (v := ?vt1_2) (by (conv => lhs; simp only [List.getElem?_toArray, List.getElem?_cons_succ, List.getElem?_cons_zero])) (by kernel_rfl) (by kernel_rfl) (by kernel_rfl) ?hQ (Or.inl ⟨by rfl, ?hyt1_2⟩) hH ?restt1_2
        case hQ => exact fun _ _ _ h => h
        case hyt1_2 => (intro Y hY; obtain ⟨y0, y1, y2, y3, y4, y5, y6, y7, y8, y9, y10⟩ := hY; go_simp; try (with_reducible rfl))
        try simp only [Act.put, List.setIfInBounds_toArray, List.set_cons_zero, List.set_cons_succ]
        refine wpAnyH_take (i := 2) (v := ?vt2_3) (by (conv => lhs; simp only [List.getElem?_toArray, List.getElem?_cons_succ, List.getElem?_cons_zero])) (by kernel_rfl) (by kernel_rfl) (by kernel_rfl) ?hQ (Or.inl ⟨by rfl, ?hyt2_3⟩) hH ?restt2_3
        case hQ => exact fun _ _ _ h => h
        case hyt2_3 => (intro Y hY; obtain ⟨y0, y1, y2, y3, y4, y5, y6, y7, y8, y9, y10⟩ := hY; go_simp; try (with_reducible rfl))
        try simp only [Act.put, List.setIfInBounds_toArray, List.set_cons_zero, List.set_cons_succ]
        refine wpAnyH_take (i := 3) (v := ?vt3_4) (by (conv => lhs; simp only [List.getElem?_toArray, List.getElem?_cons_succ, List.getElem?_cons_zero])) (by kernel_rfl) (by kernel_rfl) (by kernel_rfl) ?hQ (Or.inl ⟨by rfl, ?hyt3_4⟩) hH ?restt3_4
        case hQ => exact fun _ _ _ h => h
        case hyt3_4 => (intro Y hY; obtain ⟨y0, y1, y2, y3, y4, y5, y6, y7, y8, y9, y10⟩ := hY; go_simp; try (with_reducible rfl))
        try simp only [Act.put, List.setIfInBounds_toArray, List.set_cons_zero, List.set_cons_succ]
        refine wpAnyH_take (i := 4) (v := ?vt4_5) (by (conv => lhs; simp only [List.getElem?_toArray, List.getElem?_cons_succ, List.getElem?_cons_zero])) (by kernel_rfl) (by kernel_rfl) (by kernel_rfl) ?hQ (Or.inl ⟨by rfl, ?hyt4_5⟩) hH ?restt4_5
        case hQ => exact fun _ _ _ h => h
        case hyt4_5 => (intro Y hY; obtain ⟨y0, y1, y2, y3, y4, y5, y6, y7, y8, y9, y10⟩ := hY; go_simp; try (with_reducible rfl))
        try simp only [Act.put, List.setIfInBounds_toArray, List.set_cons_zero, List.set_cons_succ]
        refine wpAnyH_take (i := 5) (v := ?vt5_6) (by (conv => lhs; simp only [List.getElem?_toArray, List.getElem?_cons_succ, List.getElem?_cons_zero])) (by kernel_rfl) (by kernel_rfl) (by kernel_rfl) ?hQ (Or.inl ⟨by rfl, ?hyt5_6⟩) hH ?restt5_6
        case hQ => exact fun _ _ _ h => h
        case hyt5_6 => (intro Y hY; obtain ⟨y0, y1, y2, y3, y4, y5, y6, y7, y8, y9, y10⟩ := hY; go_simp; try (with_reducible rfl))
        try simp only [Act.put, List.setIfInBounds_toArray, List.set_cons_zero, List.set_cons_succ]
        refine wpAnyH_take (i := 6) (v := ?vt6_7) (by (conv => lhs; simp only [List.getElem?_toArray, List.getElem?_cons_succ, List.getElem?_cons_zero])) (by kernel_rfl) (by kernel_rfl) (by kernel_rfl) ?hQ (Or.inl ⟨by rfl, ?hyt6_7⟩) hH ?restt6_7
        case hQ => exact fun _ _ _ h => h
        case hyt6_7 => (intro Y hY; obtain ⟨y0, y1, y2, y3, y4, y5, y6, y7, y8, y9, y10⟩ := hY; go_simp; try (with_reducible rfl))
        try simp only [Act.put, List.setIfInBounds_toArray, List.set_cons_zero, List.set_cons_succ]
        refine wpAnyH_take (i := 7) (v := ?vt7_8) (by (conv => lhs; simp only [List.getElem?_toArray, List.getElem?_cons_succ, List.getElem?_cons_zero])) (by kernel_rfl) (by kernel_rfl) (by kernel_rfl) ?hQ (Or.inl ⟨by rfl, ?hyt7_8⟩) hH ?restt7_8
        case hQ => exact fun _ _ _ h => h
        case hyt7_8 => (intro Y hY; obtain ⟨y0, y1, y2, y3, y4, y5, y6, y7, y8, y9, y10⟩ := hY; go_simp; try (with_reducible rfl))
        try simp only [Act.put, List.setIfInBounds_toArray, List.set_cons_zero, List.set_cons_succ]
        refine wpAnyH_take (i := 8) (v := ?vt8_9) (by (conv => lhs; simp only [List.getElem?_toArray, List.getElem?_cons_succ, List.getElem?_cons_zero])) (by kernel_rfl) (by kernel_rfl) (by kernel_rfl) ?hQ (Or.inl ⟨by rfl, ?hyt8_9⟩) hH ?restt8_9
        case hQ => exact fun _ _ _ h => h
        case hyt8_9 => (intro Y hY; obtain ⟨y0, y1, y2, y3, y4, y5, y6, y7, y8, y9, y10⟩ := hY; go_simp; try (with_reducible rfl))
        try simp only [Act.put, List.setIfInBounds_toArray, List.set_cons_zero, List.set_cons_succ]
        refine wpAnyH_take (i := 9) (v := ?vt9_10) (by (conv => lhs; simp only [List.getElem?_toArray, List.getElem?_cons_succ, List.getElem?_cons_zero])) (by kernel_rfl) (by kernel_rfl) (by kernel_rfl) ?hQ (Or.inl ⟨by rfl, ?hyt9_10⟩) hH ?restt9_10
        case hQ => exact fun _ _ _ h => h
        case hyt9_10 => (intro Y hY; obtain ⟨y0, y1, y2, y3, y4, y5, y6, y7, y8, y9, y10⟩ := hY; go_simp; try (with_reducible rfl))
        try simp only [Act.put, List.setIfInBounds_toArray, List.set_cons_zero, List.set_cons_succ]
        refine wpAnyH_take (i := 10) (v := ?vt10_11) (by (conv => lhs; simp only [List.getElem?_toArray, List.getElem?_cons_succ, List.getElem?_cons_zero])) (by kernel_rfl) (by kernel_rfl) (by kernel_rfl) ?hQ (Or.inl ⟨by rfl, ?hyt10_11⟩) hH ?restt10_11
        case hQ => exact fun _ _ _ h => h
        case hyt10_11 => (intro Y hY; obtain ⟨y0, y1, y2, y3, y4, y5, y6, y7, y8, y9, y10⟩ := hY; go_simp; try (with_reducible rfl))
        try simp only [Act.put, List.setIfInBounds_toArray, List.set_cons_zero, List.set_cons_succ]
        refine wpAnyH_take (i := 11) (v := ?vt11_12) (by (conv => lhs; simp only [List.getElem?_toArray, List.getElem?_cons_succ, List.getElem?_cons_zero])) (by kernel_rfl) (by kernel_rfl) (by kernel_rfl) ?hQ (Or.inl ⟨by rfl, ?hyt11_12⟩) hH ?restt11_12
        case hQ => exact fun _ _ _ h => h
        case hyt11_12 => (intro Y hY; obtain ⟨y0, y1, y2, y3, y4, y5, y6, y7, y8, y9, y10⟩ := hY; go_simp; try (with_reducible rfl))
        try simp only [Act.put, List.setIfInBounds_toArray, List.set_cons_zero, List.set_cons_succ]
        refine wpAnyH_take (i := 12) (v := ?vt12_13) (by (conv => lhs; simp only [List.getElem?_toArray, List.getElem?_cons_succ, List.getElem?_cons_zero])) (by kernel_rfl) (by kernel_rfl) (by kernel_rfl) ?hQ (Or.inl ⟨by rfl, ?hyt12_13⟩) hH ?restt12_13
        case hQ => exact fun _ _ _ h => h
        case hyt12_13 => (intro Y hY; obtain ⟨y0, y1, y2, y3, y4, y5, y6, y7, y8, y9, y10⟩ := hY; go_simp; try (with_reducible rfl))
        try simp only [Act.put, List.setIfInBounds_toArray, List.set_cons_zero, List.set_cons_succ]
        refine wpAnyH_ready (rs := [13]) (by kernel_rfl) (by simp) ?_
        refine AllReadyH.cons (by (conv => lhs; simp only [List.getElem?_toArray, List.getElem?_cons_succ, List.getElem?_cons_zero])) (fun K hK => ?_) AllReadyH.nil
        go_simp
        go_at_call 42; refine (CK.out _ (Below.drew (Below.refl _ _))).mono ?_; rintro e w2 ⟨rfl, hb2⟩
        have B2 := hidd (below_step (Below.drew (Below.refl _ _)) hb2)
        refine hK.out _ _ (KS.out _ B2.out) (fun hH1 => ?_)
        clear hK hH hb2
        try simp only [Act.put, List.setIfInBounds_toArray, List.set_cons_zero, List.set_cons_succ]
        refine wpAnyH_take (i := 14) (v := ?vt14_14) (by (conv => lhs; simp only [List.getElem?_toArray, List.getElem?_cons_succ, List.getElem?_cons_zero])) (by kernel_rfl) (by kernel_rfl) (by kernel_rfl) ?hQ (Or.inl ⟨by rfl, ?hyt14_14⟩) hH1 ?restt14_14
        case hQ => exact fun _ _ _ h => h
        case hyt14_14 => (intro Y hY; obtain ⟨y0, y1, y2, y3, y4, y5, y6, y7, y8, y9, y10⟩ := hY; go_simp; try (with_reducible rfl))
        try simp only [Act.put, List.setIfInBounds_toArray, List.set_cons_zero, List.set_cons_succ]
        refine wpAnyH_done (by kernel_rfl) (?_) _
        go_wp2_with fail
        go_cut [9] (fun s9 wy => ∃ (q : Nat) (TA1 : Option Addr) (tc1 : Nat), s9 = .pointer (some ⟨q, 0, none⟩) ∧ w2.heap.size ≤ q ∧ q < wy.heap.size ∧ BQ wy q p r u m l TA1 (TN + 1) tc1 n ∧ Lie sendV 2 wy wy.heap.size TA1 (T ++ (L.take j).map (fun x => (n, x.2)) ++ [(n, z)]) ∧ (∀ ad, TA1 = some ad → w2.heap.size ≤ ad.block) ∧ Below w2.heap.size w2 wy)
        case first =>
          refine wp_region_held_drew (S := (fun Y => DQ w.heap.size p r u m l TA TN tc n room (some ad) LN lc ad a z Y)) (by kernel_rfl) (KS.out _ (Below.drew B2.out)) (fun hH => ?_)
          refine wpAnyH_take (i := 0) (v := ?vk0_1) (by (conv => lhs; simp only [List.getElem?_toArray, List.getElem?_cons_succ, List.getElem?_cons_zero])) (by kernel_rfl) (by kernel_rfl) (by kernel_rfl) ?hQ (Or.inl ⟨by rfl, ?hyk0_1⟩) hH ?restk0_1
          case hQ => exact fun _ _ _ h => h
          case hyk0_1 => (intro Y hY; obtain ⟨y0, y1, y2, y3, y4, y5, y6, y7, y8, y9, y10⟩ := hY; go_simp; try (with_reducible rfl))
          try simp only [Act.put, List.setIfInBounds_toArray, List.set_cons_zero, List.set_cons_succ]
          refine wpAnyH_take (i := 1) (v := ?vk1_2) (by (conv => lhs; simp only [List.getElem?_toArray, List.getElem?_cons_succ, List.getElem?_cons_zero])) (by kernel_rfl) (by kernel_rfl) (by kernel_rfl) ?hQ (Or.inl ⟨by rfl, ?hyk1_2⟩) hH ?restk1_2
          case hQ => exact fun _ _ _ h => h
          case hyk1_2 => (intro Y hY; obtain ⟨y0, y1, y2, y3, y4, y5, y6, y7, y8, y9, y10⟩ := hY; go_simp; try (with_reducible rfl))
          try simp only [Act.put, List.setIfInBounds_toArray, List.set_cons_zero, List.set_cons_succ]
          refine wpAnyH_take (i := 2) (v := ?vk2_3) (by (conv => lhs; simp only [List.getElem?_toArray, List.getElem?_cons_succ, List.getElem?_cons_zero])) (by kernel_rfl) (by kernel_rfl) (by kernel_rfl) ?hQ (Or.inl ⟨by rfl, ?hyk2_3⟩) hH ?restk2_3
          case hQ => exact fun _ _ _ h => h
          case hyk2_3 => (intro Y hY; obtain ⟨y0, y1, y2, y3, y4, y5, y6, y7, y8, y9, y10⟩ := hY; go_simp; try (with_reducible rfl))
          try simp only [Act.put, List.setIfInBounds_toArray, List.set_cons_zero, List.set_cons_succ]
          refine wpAnyH_take (i := 3) (v := ?vk3_4) (by (conv => lhs; simp only [List.getElem?_toArray, List.getElem?_cons_succ, List.getElem?_cons_zero])) (by kernel_rfl) (by kernel_rfl) (by kernel_rfl) ?hQ (Or.inl ⟨by rfl, ?hyk3_4⟩) hH ?restk3_4
          case hQ => exact fun _ _ _ h => h
          case hyk3_4 => (intro Y hY; obtain ⟨y0, y1, y2, y3, y4, y5, y6, y7, y8, y9, y10⟩ := hY; go_simp; try (with_reducible rfl))
          try simp only [Act.put, List.setIfInBounds_toArray, List.set_cons_zero, List.set_cons_succ]
          refine wpAnyH_take (i := 4) (v := ?vk4_5) (by (conv => lhs; simp only [List.getElem?_toArray, List.getElem?_cons_succ, List.getElem?_cons_zero])) (by kernel_rfl) (by kernel_rfl) (by kernel_rfl) ?hQ (Or.inl ⟨by rfl, ?hyk4_5⟩) hH ?restk4_5
          case hQ => exact fun _ _ _ h => h
          case hyk4_5 => (intro Y hY; obtain ⟨y0, y1, y2, y3, y4, y5, y6, y7, y8, y9, y10⟩ := hY; go_simp; try (with_reducible rfl))
          try simp only [Act.put, List.setIfInBounds_toArray, List.set_cons_zero, List.set_cons_succ]
          refine wpAnyH_take (i := 5) (v := ?vk5_6) (by (conv => lhs; simp only [List.getElem?_toArray, List.getElem?_cons_succ, List.getElem?_cons_zero])) (by kernel_rfl) (by kernel_rfl) (by kernel_rfl) ?hQ (Or.inl ⟨by rfl, ?hyk5_6⟩) hH ?restk5_6
          case hQ => exact fun _ _ _ h => h
          case hyk5_6 => (intro Y hY; obtain ⟨y0, y1, y2, y3, y4, y5, y6, y7, y8, y9, y10⟩ := hY; go_simp; try (with_reducible rfl))
          try simp only [Act.put, List.setIfInBounds_toArray, List.set_cons_zero, List.set_cons_succ]
          refine wpAnyH_take (i := 6) (v := ?vk6_7) (by (conv => lhs; simp only [List.getElem?_toArray, List.getElem?_cons_succ, List.getElem?_cons_zero])) (by kernel_rfl) (by kernel_rfl) (by kernel_rfl) ?hQ (Or.inl ⟨by rfl, ?hyk6_7⟩) hH ?restk6_7
          case hQ => exact fun _ _ _ h => h
          case hyk6_7 => (intro Y hY; obtain ⟨y0, y1, y2, y3, y4, y5, y6, y7, y8, y9, y10⟩ := hY; go_simp; try (with_reducible rfl))
          try simp only [Act.put, List.setIfInBounds_toArray, List.set_cons_zero, List.set_cons_succ]
          refine wpAnyH_take (i := 7) (v := ?vk7_8) (by (conv => lhs; simp only [List.getElem?_toArray, List.getElem?_cons_succ, List.getElem?_cons_zero])) (by kernel_rfl) (by kernel_rfl) (by kernel_rfl) ?hQ (Or.inl ⟨by rfl, ?hyk7_8⟩) hH ?restk7_8
          case hQ => exact fun _ _ _ h => h
          case hyk7_8 => (intro Y hY; obtain ⟨y0, y1, y2, y3, y4, y5, y6, y7, y8, y9, y10⟩ := hY; go_simp; try (with_reducible rfl))
          try simp only [Act.put, List.setIfInBounds_toArray, List.set_cons_zero, List.set_cons_succ]
          refine wpAnyH_ready (rs := [8, 13]) (by kernel_rfl) (by simp) ?_
          refine AllReadyH.cons (by (conv => lhs; simp only [List.getElem?_toArray, List.getElem?_cons_succ, List.getElem?_cons_zero])) (fun K hK => ?_) (AllReadyH.cons (by (conv => lhs; simp only [List.getElem?_toArray, List.getElem?_cons_succ, List.getElem?_cons_zero])) (fun K hK => ?_) AllReadyH.nil)
          · go_simp
            go_at_call 43; refine (TAKE.out _ (Below.drew B2.out)).mono ?_; rintro e w5 ⟨TA1, tc1, rfl, hl5, hf5, hb5⟩
            have cum1 : Below w2.heap.size w2 w5 := (Below.drew (Below.refl _ _)).trans hb5
            refine hK.out _ _ (KS.out _ (B2.out.trans (cum1.mono B2.out.size))) (fun hH1 => ?_)
            clear hK hH
            try simp only [Act.put, List.setIfInBounds_toArray, List.set_cons_zero, List.set_cons_succ]
            refine wpAnyH_take (i := 9) (v := ?vka9_1) (by (conv => lhs; simp only [List.getElem?_toArray, List.getElem?_cons_succ, List.getElem?_cons_zero])) (by kernel_rfl) (by kernel_rfl) (by kernel_rfl) ?hQ (Or.inl ⟨by rfl, ?hyka9_1⟩) hH1 ?restka9_1
            case hQ => exact fun _ _ _ h => h
            case hyka9_1 => (intro Y hY; obtain ⟨y0, y1, y2, y3, y4, y5, y6, y7, y8, y9, y10⟩ := hY; go_simp; try (with_reducible rfl))
            try simp only [Act.put, List.setIfInBounds_toArray, List.set_cons_zero, List.set_cons_succ]
            refine wpAnyH_take (i := 10) (v := ?vka10_2) (by (conv => lhs; simp only [List.getElem?_toArray, List.getElem?_cons_succ, List.getElem?_cons_zero])) (by kernel_rfl) (by kernel_rfl) (by kernel_rfl) ?hQ (Or.inl ⟨by rfl, ?hyka10_2⟩) hH1 ?restka10_2
            case hQ => exact fun _ _ _ h => h
            case hyka10_2 => (intro Y hY; obtain ⟨y0, y1, y2, y3, y4, y5, y6, y7, y8, y9, y10⟩ := hY; go_simp; try (with_reducible rfl))
            try simp only [Act.put, List.setIfInBounds_toArray, List.set_cons_zero, List.set_cons_succ]
            refine wpAnyH_take (i := 11) (v := ?vka11_3) (by (conv => lhs; simp only [List.getElem?_toArray, List.getElem?_cons_succ, List.getElem?_cons_zero])) (by kernel_rfl) (by kernel_rfl) (by kernel_rfl) ?hQ (Or.inl ⟨by rfl, ?hyka11_3⟩) hH1 ?restka11_3
            case hQ => exact fun _ _ _ h => h
            case hyka11_3 => (intro Y hY; obtain ⟨y0, y1, y2, y3, y4, y5, y6, y7, y8, y9, y10⟩ := hY; go_simp; try (with_reducible rfl))
            try simp only [Act.put, List.setIfInBounds_toArray, List.set_cons_zero, List.set_cons_succ]
            refine wpAnyH_take (i := 12) (v := ?vka12_4) (by (conv => lhs; simp only [List.getElem?_toArray, List.getElem?_cons_succ, List.getElem?_cons_zero])) (by kernel_rfl) (by kernel_rfl) (by kernel_rfl) ?hQ (Or.inl ⟨by rfl, ?hyka12_4⟩) hH1 ?restka12_4
            case hQ => exact fun _ _ _ h => h
            case hyka12_4 => (intro Y hY; obtain ⟨y0, y1, y2, y3, y4, y5, y6, y7, y8, y9, y10⟩ := hY; go_simp; try (with_reducible rfl))
            try simp only [Act.put, List.setIfInBounds_toArray, List.set_cons_zero, List.set_cons_succ]
            refine wpAnyH_ready (rs := [13]) (by kernel_rfl) (by simp) ?_
            refine AllReadyH.cons (by (conv => lhs; simp only [List.getElem?_toArray, List.getElem?_cons_succ, List.getElem?_cons_zero])) (fun K hK => ?_) AllReadyH.nil
            go_simp
            refine hK.out _ _ (KS.out _ (B2.out.trans ((below_new cum1 _).mono B2.out.size))) (fun hH2 => ?_)
            clear hK hH1
            try simp only [Act.put, List.setIfInBounds_toArray, List.set_cons_zero, List.set_cons_succ]
            refine wpAnyH_ready (rs := [14]) (by kernel_rfl) (by simp) ?_
            refine AllReadyH.cons (by (conv => lhs; simp only [List.getElem?_toArray, List.getElem?_cons_succ, List.getElem?_cons_zero])) (fun K hK => ?_) AllReadyH.nil
            clear hH2
            go_simp
            refine hK.out _ _ (KS.out _ (B2.out.trans ((below_new cum1 _).mono B2.out.size))) (fun hH3 => ?_)
            clear hK
            try simp only [Act.put, List.setIfInBounds_toArray, List.set_cons_zero, List.set_cons_succ]
            refine wpAnyH_take (i := 15) (v := ?vka15_5) (by (conv => lhs; simp only [List.getElem?_toArray, List.getElem?_cons_succ, List.getElem?_cons_zero])) (by kernel_rfl) (by kernel_rfl) (by kernel_rfl) ?hQ (Or.inl ⟨by rfl, ?hyka15_5⟩) hH3 ?restka15_5
            case hQ => exact fun _ _ _ h => h
            case hyka15_5 => (intro Y hY; obtain ⟨y0, y1, y2, y3, y4, y5, y6, y7, y8, y9, y10⟩ := hY; go_simp; try (with_reducible rfl))
            try simp only [Act.put, List.setIfInBounds_toArray, List.set_cons_zero, List.set_cons_succ]
            refine wpAnyH_take (i := 16) (v := ?vka16_6) (by (conv => lhs; simp only [List.getElem?_toArray, List.getElem?_cons_succ, List.getElem?_cons_zero])) (by kernel_rfl) (by kernel_rfl) (by kernel_rfl) ?hQ (Or.inl ⟨by rfl, ?hyka16_6⟩) hH3 ?restka16_6
            case hQ => exact fun _ _ _ h => h
            case hyka16_6 => (intro Y hY; obtain ⟨y0, y1, y2, y3, y4, y5, y6, y7, y8, y9, y10⟩ := hY; go_simp; try (with_reducible rfl))
            try simp only [Act.put, List.setIfInBounds_toArray, List.set_cons_zero, List.set_cons_succ]
            refine wpAnyH_done (by kernel_rfl) (?_) _
            clear hH3
            go_wp2_with fail
            go_meet
            exact ⟨w5.heap.size, TA1, tc1, rfl, cum1.size, by simp, World.alloc_heap_new w5 _, hl5.below (below_new (Below.refl _ _) _), hf5, below_new cum1 _⟩
          · go_simp
            refine hK.out _ _ (KS.out _ (B2.out.trans ((below_new (Below.drew (Below.refl _ _)) _).mono B2.out.size))) (fun hH1 => ?_)
            clear hK hH
            try simp only [Act.put, List.setIfInBounds_toArray, List.set_cons_zero, List.set_cons_succ]
            refine wpAnyH_ready (rs := [8]) (by kernel_rfl) (by simp) ?_
            refine AllReadyH.cons (by (conv => lhs; simp only [List.getElem?_toArray, List.getElem?_cons_succ, List.getElem?_cons_zero])) (fun K hK => ?_) AllReadyH.nil
            go_simp
            go_at_call 43; refine (TAKE.out _ (B2.out.trans ((below_new (Below.drew (Below.refl _ _)) _).mono B2.out.size))).mono ?_; rintro e w5 ⟨TA1, tc1, rfl, hl5, hf5, hb5⟩
            have cum1 : Below w2.heap.size w2 w5 := (below_new (Below.drew (Below.refl _ _)) _).trans (hb5.mono (by simp))
            have cumB := hidd hb5
            clear hb5
            refine hK.out _ _ (KS.out _ (B2.out.trans (cum1.mono B2.out.size))) (fun hH2 => ?_)
            clear hK hH1
            try simp only [Act.put, List.setIfInBounds_toArray, List.set_cons_zero, List.set_cons_succ]
            refine wpAnyH_take (i := 9) (v := ?vkb9_1) (by (conv => lhs; simp only [List.getElem?_toArray, List.getElem?_cons_succ, List.getElem?_cons_zero])) (by kernel_rfl) (by kernel_rfl) (by kernel_rfl) ?hQ (Or.inl ⟨by rfl, ?hykb9_1⟩) hH2 ?restkb9_1
            case hQ => exact fun _ _ _ h => h
            case hykb9_1 => (intro Y hY; obtain ⟨y0, y1, y2, y3, y4, y5, y6, y7, y8, y9, y10⟩ := hY; go_simp; try (with_reducible rfl))
            try simp only [Act.put, List.setIfInBounds_toArray, List.set_cons_zero, List.set_cons_succ]
            refine wpAnyH_take (i := 10) (v := ?vkb10_2) (by (conv => lhs; simp only [List.getElem?_toArray, List.getElem?_cons_succ, List.getElem?_cons_zero])) (by kernel_rfl) (by kernel_rfl) (by kernel_rfl) ?hQ (Or.inl ⟨by rfl, ?hykb10_2⟩) hH2 ?restkb10_2
            case hQ => exact fun _ _ _ h => h
            case hykb10_2 => (intro Y hY; obtain ⟨y0, y1, y2, y3, y4, y5, y6, y7, y8, y9, y10⟩ := hY; go_simp; try (with_reducible rfl))
            try simp only [Act.put, List.setIfInBounds_toArray, List.set_cons_zero, List.set_cons_succ]
            refine wpAnyH_take (i := 11) (v := ?vkb11_3) (by (conv => lhs; simp only [List.getElem?_toArray, List.getElem?_cons_succ, List.getElem?_cons_zero])) (by kernel_rfl) (by kernel_rfl) (by kernel_rfl) ?hQ (Or.inl ⟨by rfl, ?hykb11_3⟩) hH2 ?restkb11_3
            case hQ => exact fun _ _ _ h => h
            case hykb11_3 => (intro Y hY; obtain ⟨y0, y1, y2, y3, y4, y5, y6, y7, y8, y9, y10⟩ := hY; go_simp; try (with_reducible rfl))
            try simp only [Act.put, List.setIfInBounds_toArray, List.set_cons_zero, List.set_cons_succ]
            refine wpAnyH_take (i := 12) (v := ?vkb12_4) (by (conv => lhs; simp only [List.getElem?_toArray, List.getElem?_cons_succ, List.getElem?_cons_zero])) (by kernel_rfl) (by kernel_rfl) (by kernel_rfl) ?hQ (Or.inl ⟨by rfl, ?hykb12_4⟩) hH2 ?restkb12_4
            case hQ => exact fun _ _ _ h => h
            case hykb12_4 => (intro Y hY; obtain ⟨y0, y1, y2, y3, y4, y5, y6, y7, y8, y9, y10⟩ := hY; go_simp; try (with_reducible rfl))
            try simp only [Act.put, List.setIfInBounds_toArray, List.set_cons_zero, List.set_cons_succ]
            refine wpAnyH_ready (rs := [14]) (by kernel_rfl) (by simp) ?_
            refine AllReadyH.cons (by (conv => lhs; simp only [List.getElem?_toArray, List.getElem?_cons_succ, List.getElem?_cons_zero])) (fun K hK => ?_) AllReadyH.nil
            clear hH2
            have hrow : w5.heap[w2.heap.size]? = some (.cells #[.int .i64 0, .int .i64 0, .int .i64 0, .int .i64 0, .int .i64 0, .slice none 0 0, .int .i64 0] 32 (0, 0)) := by first | exact (cumB.out.block w2.heap.size (by simp)).trans (World.alloc_heap_new w2.drew _) | exact (cumB.out.block w2.heap.size (by simp)).trans (World.alloc_heap_new w2 _)
            rw [if_pos (by rfl)]
            refine wp_store_row 32 (.tmp 9) (.tmp 48) (by rfl) w2.heap.size #[.int .i64 p, .int .i64 r, .int .i64 u, .int .i64 m, .int .i64 l, .slice TA1 (TN + 1) tc1, .int .i64 n] (by rfl) (by rfl) _ _ hrow (by kernel_rfl) (by rfl) (by simp [Value.oneCell']) ?_
            have hrow2 := setRow_heap w5 w2.heap.size _ #[.int .i64 p, .int .i64 r, .int .i64 u, .int .i64 m, .int .i64 l, .slice TA1 (TN + 1) tc1, .int .i64 n] _ _ hrow
            have cum2 : Below w2.heap.size w2 (w5.setRow w2.heap.size #[.int .i64 p, .int .i64 r, .int .i64 u, .int .i64 m, .int .i64 l, .slice TA1 (TN + 1) tc1, .int .i64 n]) := below_row cum1 (Nat.le_refl _) _
            have hsz5 : w2.heap.size < w5.heap.size := (Array.getElem?_eq_some_iff.1 hrow).1
            refine hK.out _ _ (KS.out _ (B2.out.trans (cum2.mono B2.out.size))) (fun hH3 => ?_)
            clear hK
            try simp only [Act.put]
            refine wpAnyH_take (i := 15) (v := ?vkb15_5) (by (conv => lhs; simp only [List.getElem?_toArray, List.getElem?_cons_succ, List.getElem?_cons_zero])) (by kernel_rfl) (by kernel_rfl) (by kernel_rfl) ?hQ (Or.inl ⟨by rfl, ?hykb15_5⟩) hH3 ?restkb15_5
            case hQ => exact fun _ _ _ h => h
            case hykb15_5 => (intro Y hY; obtain ⟨y0, y1, y2, y3, y4, y5, y6, y7, y8, y9, y10⟩ := hY; go_simp; try (with_reducible rfl))
            try simp only [Act.put, List.setIfInBounds_toArray, List.set_cons_zero, List.set_cons_succ]
            refine wpAnyH_take (i := 16) (v := ?vkb16_6) (by (conv => lhs; simp only [List.getElem?_toArray, List.getElem?_cons_succ, List.getElem?_cons_zero])) (by kernel_rfl) (by kernel_rfl) (by kernel_rfl) ?hQ (Or.inl ⟨by rfl, ?hykb16_6⟩) hH3 ?restkb16_6
            case hQ => exact fun _ _ _ h => h
            case hykb16_6 => (intro Y hY; obtain ⟨y0, y1, y2, y3, y4, y5, y6, y7, y8, y9, y10⟩ := hY; go_simp; try (with_reducible rfl))
            try simp only [Act.put, List.setIfInBounds_toArray, List.set_cons_zero, List.set_cons_succ]
            refine wpAnyH_done (by kernel_rfl) (?_) _
            clear hH3
            go_wp2_with fail
            go_meet
            refine ⟨w2.heap.size, TA1, tc1, rfl, Nat.le_refl _, by rw [setRow_size]; exact hsz5, hrow2, hl5.sav (Sav.row (q := w2.heap.size) (Below.refl _ _)) (fun hl ad e e2 => ?_), fun ad e => ?_, cum2⟩
            · have := hf5 ad e; simp at this; omega
            · have := hf5 ad e; simp at this; omega
        case rest =>
          rename_i hKc
          obtain ⟨w7, rfl⟩ : ∃ w7 : World, w7 = wc := ⟨_, rfl⟩
          obtain ⟨q, TA1, tc1, rfl, hq, hq1, hB7, hL7, hF7, hb7⟩ := hcut
          have R2 := (R.out.below B2.out).below hb7
          have hws := R.out.sz
          have hws2 := B2.out.size
          obtain ⟨OA, oc, hov, hoc1, hoc2, -⟩ := OwnL.lie R2.o sendV_len
          subst hov
          have HX7 : GQ w7 w.heap.size p r u m l TA TN tc n room (some ad) LN lc := by have q := R2.x; rw [HTL.out, HLL.out] at q; exact q
          obtain ⟨x0, x1, x2, x3, x4, x5, x6, x7, x8⟩ := HX7.cells
          have fz := HX7.froz
          have f0 := fz 0
          have f1 := fz 1
          have f2 := fz 2
          have f3 := fz 3
          have f4 := fz 4
          have f5 := fz 5
          have f6 := fz 6
          obtain ⟨c0, c1, c2, c3, c4, c5, c6⟩ := hB7.cells
          have hqw : q ≠ w.heap.size := by omega
          have HB2 := hidd R2
          have HX := hidd HX7
          have HQ1 := hidd hq1
          have HQ := hidd (show w.heap.size + 2 ≤ w2.heap.size from by omega)
          have HL7 := hidd hL7
          have HF7 := hidd hF7
          have HB7 := hidd hb7
          obtain ⟨-, -, -, -, -, -, -, -, -, qa, qz⟩ := KS.out w7 (B2.out.trans (hb7.mono B2.out.size))
          have hd1 : 0 < (L.drop j).length := by rw [HLL.out]; exact hLN0
          have hadb := (R.out.lf hd1 ad rfl).1
          have LCM := hidd (show LN ≤ lc ∧ lc ≤ maxLen from by have q := R2.lc0; rw [HLL.out] at q; exact q)
          have hjj : (L.take j).length = j := by rw [List.length_take]; omega
          have HOA : Hid (∀ g, (Value.slice OA j oc).ownBlock = some g → w.heap.size + 2 ≤ g ∧ g < w2.heap.size) := hidd (fun g e => ((R.out.below B2.out).o.lt g (by rw [hjj]; exact e)))
          have LTL : Hid (Lie sendV 2 w7 w7.heap.size (some ad) (L[j] :: L.drop (j + 1))) := hidd (by have q := R2.ll; rw [HDR.out] at q; exact q)
          have eaz : L[j] = (a, z) := Prod.ext HA.out HZ.out
          rw [hjj] at HB2
          rw [hjj] at hoc1
          have hqsz := R2.sz
          have HAZ := hidd eaz
          clear R2 HX7 fz hB7 hL7 hF7 hb7 hq1 hws hws2 hq TAKE CK KS eaz
          rw [hjj]
          clear hjj
          refine hKc _ _ ?_
          refine Go.wp_seq_k (fun K8 hK8 => ?_)
          go_cut [] (fun wy => GQ wy w.heap.size p r u m l TA1 (TN + 1) tc1 n room (some ad) LN lc ∧ Sav (fun k => k = w.heap.size) w7 wy)
          case first =>
            go_wp2_with fail
            go_meet
            refine ⟨GQ.set7 HX.out, ?_⟩
            repeat' (with_reducible first | exact Sav.refl _ _ | refine Sav.drewr ?_ | refine Sav.set1 ?_ _ _)
          case rest =>
            obtain ⟨w8, rfl⟩ : ∃ w8 : World, w8 = wc := ⟨_, rfl⟩
            refine hK8 _ _ ?_
            obtain ⟨hX8, hs8⟩ := hcut
            have hws : w7.heap.size ≤ w8.heap.size := hs8.size
            have hw7 : w.heap.size + 2 ≤ w7.heap.size := hqsz
            have e0 : w8.cell? ad = some (.int .i64 a) := (hs8.cell (p := ad) (by omega) (by omega)).trans qa
            have e1 : w8.cell? ⟨ad.block, ad.off + 1, none⟩ = some (.int .i64 z) := (hs8.cell (p := ⟨ad.block, ad.off + 1, none⟩) (by show ad.block < _; omega) (by show ¬ ad.block = _; omega)).trans qz
            obtain ⟨x0, x1, x2, x3, x4, x5, x6, x7, x8⟩ := hX8.cells
            have HGO := hidd (show w8.ownsRow (w.heap.size + 2) 41 2 (.slice OA j oc) j (rowOf sendV (L.take j)) from by
              have q := (HB2.out.o.keep1 (w' := w8) (fun g e => hs8.block g (HB2.out.o.lt g e).2 (by have := (HB2.out.o.lt g e).1; omega)))
              unfold OwnL at q
              rw [show (L.take j).length = j by rw [List.length_take]; omega] at q
              exact q)
            have X8 := hidd hX8
            have S8 := hidd hs8
            have XA : Hid (∀ wa, (w8.alloc (.cells #[.int .i64 a, .int .i64 z] 41)).grownBy wa (Value.slice OA j oc).ownBlock → GQ wa w.heap.size p r u m l TA1 (TN + 1) tc1 n room (some ad) LN lc) := hidd (fun wa hg => ((hg.block _ (by simp; omega) (fun e => by have := (HOA.out _ e.symm).1; omega)).trans (Below.heap_alloc _ _ _ (by omega))).trans X8.out)
            have NX : Hid (∀ va wa LA' lc', OwnL sendV 2 wa (w.heap.size + 2) 41 va (L.take j ++ [(a, z)]) → (w8.alloc (.cells #[.int .i64 a, .int .i64 z] 41)).grownBy wa (Value.slice OA j oc).ownBlock → Lie sendV 2 w7 w7.heap.size LA' (L.drop (j + 1)) → (∀ ad', LA' = some ad' → ad'.block = ad.block) → LN - 1 ≤ lc' ∧ lc' ≤ maxLen → RG TA0 LA0 w p r u m l n room T L (j + 1) TA1 tc1 LA' lc' va (wa.setCell ⟨w.heap.size, 8, none⟩ (.slice LA' (LN - 1) lc'))) :=
              hidd (fun va wa LA' lc' h1 h2 h3 h4 h5 => RG.next HB2.out hj1 HAZ.out HLL.out HTL.out HQ.out (fun g e => (HOA.out g e).2) X8.out S8.out HL7.out HF7.out h1 h2 h3 h4 h5)
            have HALL2 : Hid (∀ i (hi : i < L.length), i < j + 1 → (BM.step p r u m l (BM.atK p r u m l (BM.step p r u m l s n 0).1 n L i) n L[i].2).2.1 = true) := hidd (fun i hi h2 => by
              rcases Nat.lt_or_ge i j with q | q
              · exact HALL.out i hi q
              · obtain rfl : i = j := by omega
                rw [HZ.out]; exact HB.out)
            have o1 : 1 ≤ LN := hLN0
            have o2 : LN ≤ lc := LCM.out.1
            have o3 : (1 : Int) ≤ (LN : Int) := by omega
            have o4 : (LN : Int) ≤ (lc : Int) := by omega
            have h999 : j ≤ 999 := by have := HM.out; have := HTN.out; omega
            clear hX8 hs8
            by_cases hl1 : lc = 1
            · subst hl1
              go_wp2_with (at_builtin; refine wpList_append_some (by rfl) (.tmp 53) (.tmp 58) _ (by rfl) (w.heap.size + 2) 41 i0 _ 2 16 Try.underlying33 hi0 hz0 hz1 hz2 rfl (by omega) (.slice OA j oc) j (rowOf sendV (L.take j)) (by rfl) (World.ownsRow.alloc HGO.out _) (some ⟨w8.heap.size, 0, none⟩) 1 1 (sendV (a, z)) (by rfl) (by rfl) (fun _ => ⟨_, rfl, World.news_of_block (cs := #[.int .i64 a, .int .i64 z]) (t := 41) (fr := (0, 0)) (heap_alloc_new w8 _)⟩) (sendV_one _) (by simp only [maxLen]; omega) (by omega) (by simp; omega) ?_; intro va wa hown hgrow hat; obtain ⟨-, -, -, -, -, -, -, -, y8⟩ := (XA.out wa hgrow).cells; have g8 := (XA.out wa hgrow).froz 8)
              have hO : OwnL sendV 2 wa (w.heap.size + 2) 41 va (L.take j ++ [(a, z)]) := OwnL.snoc (f := sendV) (L := L.take j) (x := (a, z)) hown (by rw [List.length_take]; omega) rfl
              have hd2 : (L.drop (j + 1)).length = LN - 1 := by have := HLL.out; rw [List.length_drop] at this ⊢; omega
              have q1 := NX.out va wa (some ad) 0 hO hgrow (fun hl => by rw [hd2] at hl; omega) (fun ad' e => by cases e; rfl) ⟨by omega, by simp [maxLen]⟩
              rw [show LN - 1 = 0 by omega] at q1
              have hkk := HK.out
              go_roundg (gk - 1)
              case measure => omega
              case rel => exact ⟨j + 1, TA1, tc1, _, _, by omega, by omega, HALL2.out, q1⟩
            · go_wp2_with (at_builtin; refine wpList_append_some (by rfl) (.tmp 53) (.tmp 58) _ (by rfl) (w.heap.size + 2) 41 i0 _ 2 16 Try.underlying33 hi0 hz0 hz1 hz2 rfl (by omega) (.slice OA j oc) j (rowOf sendV (L.take j)) (by rfl) (World.ownsRow.alloc HGO.out _) (some ⟨w8.heap.size, 0, none⟩) 1 1 (sendV (a, z)) (by rfl) (by rfl) (fun _ => ⟨_, rfl, World.news_of_block (cs := #[.int .i64 a, .int .i64 z]) (t := 41) (fr := (0, 0)) (heap_alloc_new w8 _)⟩) (sendV_one _) (by simp only [maxLen]; omega) (by omega) (by simp; omega) ?_; intro va wa hown hgrow hat; obtain ⟨-, -, -, -, -, -, -, -, y8⟩ := (XA.out wa hgrow).cells; have g8 := (XA.out wa hgrow).froz 8)
              have hO : OwnL sendV 2 wa (w.heap.size + 2) 41 va (L.take j ++ [(a, z)]) := OwnL.snoc (f := sendV) (L := L.take j) (x := (a, z)) hown (by rw [List.length_take]; omega) rfl
              have q1 := NX.out va wa (some ⟨ad.block, ad.off + 2, none⟩) (lc - 1) hO hgrow (tail13 LTL.out) (fun ad' e => by cases e; rfl) ⟨by omega, by have := LCM.out.2; omega⟩
              have hkk := HK.out
              go_roundg (gk - 1)
              case measure => omega
              case rel => exact ⟨j + 1, TA1, tc1, _, _, by omega, by omega, HALL2.out, q1⟩
    · have hR0 := hR
      generalize hTL : (T ++ (L.take j).map (fun x => (n, x.2))).length = TN at *
      generalize hLL : (L.drop j).length = LN at *
      have hl0 : LN = 0 := by rw [← hLL, List.length_drop, HLN.out]; omega
      have z1 : ¬ (0 : Int) < (LN : Int) := by omega
      have z2 : decide (0 < LN) = false := decide_eq_false (by omega)
      have z3 : decide ((0 : Int) < (LN : Int)) = false := decide_eq_false (by omega)
      have KS : Hid (∀ Y, Below wr.heap.size wr Y → DQ0 w.heap.size p r u m l TA TN tc n room LA LN lc Y) := hidd (fun Y hb => (show GQ Y w.heap.size p r u m l TA TN tc n room LA LN lc from by have q := hR.x; rw [hTL, hLL] at q; exact (hb.block _ (by have := hR.sz; omega)).trans q).cells)
      have HTL := hidd hTL
      have HLL := hidd hLL
      have R := hidd hR
      have GOES := hidd (show BM.Goes p r u m l (BM.step p r u m l s n 0).1 n L j _ from ⟨by have := HLN.out; omega, rfl, HALL.out, fun hk2 => by have := HLN.out; omega⟩)
      clear hTL hLL hR hR0 hl0
      go_wp2_with fail
      refine wp_region_held_drew (S := (fun Y => DQ0 w.heap.size p r u m l TA TN tc n room LA LN lc Y)) (by kernel_rfl) (KS.out _ (Below.drew (Below.refl _ _))) (fun hH => ?_)
      refine wpAnyH_take (i := 0) (v := ?vq0_1) (by (conv => lhs; simp only [List.getElem?_toArray, List.getElem?_cons_succ, List.getElem?_cons_zero])) (by kernel_rfl) (by kernel_rfl) (by kernel_rfl) ?hQ (Or.inl ⟨by rfl, ?hyq0_1⟩) hH ?restq0_1
      case hQ => exact fun _ _ _ h => h
      case hyq0_1 => (intro Y hY; obtain ⟨y0, y1, y2, y3, y4, y5, y6, y7, y8⟩ := hY; go_simp; try (with_reducible rfl))
      try simp only [Act.put, List.setIfInBounds_toArray, List.set_cons_zero, List.set_cons_succ]
      refine wpAnyH_take (i := 1) (v := ?vq1_2) (by (conv => lhs; simp only [List.getElem?_toArray, List.getElem?_cons_succ, List.getElem?_cons_zero])) (by kernel_rfl) (by kernel_rfl) (by kernel_rfl) ?hQ (Or.inl ⟨by rfl, ?hyq1_2⟩) hH ?restq1_2
      case hQ => exact fun _ _ _ h => h
      case hyq1_2 => (intro Y hY; obtain ⟨y0, y1, y2, y3, y4, y5, y6, y7, y8⟩ := hY; go_simp; try (with_reducible rfl))
      try simp only [Act.put, List.setIfInBounds_toArray, List.set_cons_zero, List.set_cons_succ]
      refine wpAnyH_take (i := 2) (v := ?vq2_3) (by (conv => lhs; simp only [List.getElem?_toArray, List.getElem?_cons_succ, List.getElem?_cons_zero])) (by kernel_rfl) (by kernel_rfl) (by kernel_rfl) ?hQ (Or.inl ⟨by rfl, ?hyq2_3⟩) hH ?restq2_3
      case hQ => exact fun _ _ _ h => h
      case hyq2_3 => (intro Y hY; obtain ⟨y0, y1, y2, y3, y4, y5, y6, y7, y8⟩ := hY; go_simp; try (with_reducible rfl))
      try simp only [Act.put, List.setIfInBounds_toArray, List.set_cons_zero, List.set_cons_succ]
      refine wpAnyH_take (i := 3) (v := ?vq3_4) (by (conv => lhs; simp only [List.getElem?_toArray, List.getElem?_cons_succ, List.getElem?_cons_zero])) (by kernel_rfl) (by kernel_rfl) (by kernel_rfl) ?hQ (Or.inl ⟨by rfl, ?hyq3_4⟩) hH ?restq3_4
      case hQ => exact fun _ _ _ h => h
      case hyq3_4 => (intro Y hY; obtain ⟨y0, y1, y2, y3, y4, y5, y6, y7, y8⟩ := hY; go_simp; try (with_reducible rfl))
      try simp only [Act.put, List.setIfInBounds_toArray, List.set_cons_zero, List.set_cons_succ]
      refine wpAnyH_take (i := 4) (v := ?vq4_5) (by (conv => lhs; simp only [List.getElem?_toArray, List.getElem?_cons_succ, List.getElem?_cons_zero])) (by kernel_rfl) (by kernel_rfl) (by kernel_rfl) ?hQ (Or.inl ⟨by rfl, ?hyq4_5⟩) hH ?restq4_5
      case hQ => exact fun _ _ _ h => h
      case hyq4_5 => (intro Y hY; obtain ⟨y0, y1, y2, y3, y4, y5, y6, y7, y8⟩ := hY; go_simp; try (with_reducible rfl))
      try simp only [Act.put, List.setIfInBounds_toArray, List.set_cons_zero, List.set_cons_succ]
      refine wpAnyH_take (i := 5) (v := undef) (by (conv => lhs; simp only [List.getElem?_toArray, List.getElem?_cons_succ, List.getElem?_cons_zero])) (by kernel_rfl) (by kernel_rfl) (by kernel_rfl) ?hQ (Or.inr ⟨by rfl, rfl⟩) hH ?_
      case hQ => exact fun _ _ _ h => h
      try simp only [Act.put, List.setIfInBounds_toArray, List.set_cons_zero, List.set_cons_succ]
      refine wpAnyH_take (i := 6) (v := undef) (by (conv => lhs; simp only [List.getElem?_toArray, List.getElem?_cons_succ, List.getElem?_cons_zero])) (by kernel_rfl) (by kernel_rfl) (by kernel_rfl) ?hQ (Or.inr ⟨by rfl, rfl⟩) hH ?_
      case hQ => exact fun _ _ _ h => h
      try simp only [Act.put, List.setIfInBounds_toArray, List.set_cons_zero, List.set_cons_succ]
      refine wpAnyH_take (i := 7) (v := undef) (by (conv => lhs; simp only [List.getElem?_toArray, List.getElem?_cons_succ, List.getElem?_cons_zero])) (by kernel_rfl) (by kernel_rfl) (by kernel_rfl) ?hQ (Or.inr ⟨by rfl, rfl⟩) hH ?_
      case hQ => exact fun _ _ _ h => h
      try simp only [Act.put, List.setIfInBounds_toArray, List.set_cons_zero, List.set_cons_succ]
      refine wpAnyH_take (i := 8) (v := undef) (by (conv => lhs; simp only [List.getElem?_toArray, List.getElem?_cons_succ, List.getElem?_cons_zero])) (by kernel_rfl) (by kernel_rfl) (by kernel_rfl) ?hQ (Or.inr ⟨by rfl, rfl⟩) hH ?_
      case hQ => exact fun _ _ _ h => h
      try simp only [Act.put, List.setIfInBounds_toArray, List.set_cons_zero, List.set_cons_succ]
      refine wpAnyH_take (i := 9) (v := undef) (by (conv => lhs; simp only [List.getElem?_toArray, List.getElem?_cons_succ, List.getElem?_cons_zero])) (by kernel_rfl) (by kernel_rfl) (by kernel_rfl) ?hQ (Or.inr ⟨by rfl, rfl⟩) hH ?_
      case hQ => exact fun _ _ _ h => h
      try simp only [Act.put, List.setIfInBounds_toArray, List.set_cons_zero, List.set_cons_succ]
      refine wpAnyH_take (i := 10) (v := undef) (by (conv => lhs; simp only [List.getElem?_toArray, List.getElem?_cons_succ, List.getElem?_cons_zero])) (by kernel_rfl) (by kernel_rfl) (by kernel_rfl) ?hQ (Or.inr ⟨by rfl, rfl⟩) hH ?_
      case hQ => exact fun _ _ _ h => h
      try simp only [Act.put, List.setIfInBounds_toArray, List.set_cons_zero, List.set_cons_succ]
      refine wpAnyH_take (i := 11) (v := undef) (by (conv => lhs; simp only [List.getElem?_toArray, List.getElem?_cons_succ, List.getElem?_cons_zero])) (by kernel_rfl) (by kernel_rfl) (by kernel_rfl) ?hQ (Or.inr ⟨by rfl, rfl⟩) hH ?_
      case hQ => exact fun _ _ _ h => h
      try simp only [Act.put, List.setIfInBounds_toArray, List.set_cons_zero, List.set_cons_succ]
      refine wpAnyH_take (i := 12) (v := undef) (by (conv => lhs; simp only [List.getElem?_toArray, List.getElem?_cons_succ, List.getElem?_cons_zero])) (by kernel_rfl) (by kernel_rfl) (by kernel_rfl) ?hQ (Or.inr ⟨by rfl, rfl⟩) hH ?_
      case hQ => exact fun _ _ _ h => h
      try simp only [Act.put, List.setIfInBounds_toArray, List.set_cons_zero, List.set_cons_succ]
      refine wpAnyH_take (i := 13) (v := undef) (by (conv => lhs; simp only [List.getElem?_toArray, List.getElem?_cons_succ, List.getElem?_cons_zero])) (by kernel_rfl) (by kernel_rfl) (by kernel_rfl) ?hQ (Or.inr ⟨by rfl, rfl⟩) hH ?_
      case hQ => exact fun _ _ _ h => h
      try simp only [Act.put, List.setIfInBounds_toArray, List.set_cons_zero, List.set_cons_succ]
      refine wpAnyH_take (i := 14) (v := ?vq14_6) (by (conv => lhs; simp only [List.getElem?_toArray, List.getElem?_cons_succ, List.getElem?_cons_zero])) (by kernel_rfl) (by kernel_rfl) (by kernel_rfl) ?hQ (Or.inl ⟨by rfl, ?hyq14_6⟩) hH ?restq14_6
      case hQ => exact fun _ _ _ h => h
      case hyq14_6 => (intro Y hY; obtain ⟨y0, y1, y2, y3, y4, y5, y6, y7, y8⟩ := hY; go_simp; try (with_reducible rfl))
      try simp only [Act.put, List.setIfInBounds_toArray, List.set_cons_zero, List.set_cons_succ]
      refine wpAnyH_done (by kernel_rfl) (?_) _
      have RB := R.out
      obtain ⟨OA, oc, hov, -, -, -⟩ := OwnL.lie RB.o sendV_len
      subst hov
      have hx := RB.x.cells
      rw [HTL.out, HLL.out] at hx
      obtain ⟨x0, x1, x2, x3, x4, x5, x6, x7, x8⟩ := hx
      have hrz := RB.z
      have u0 : wr.cell? ⟨w.heap.size + 1, 0, none⟩ = some (.int .i64 0) := by simp [World.cell?, hrz]
      have u1 : wr.cell? ⟨w.heap.size + 1, 1, none⟩ = some (.int .i64 0) := by simp [World.cell?, hrz]
      have u2 : wr.cell? ⟨w.heap.size + 1, 2, none⟩ = some (.int .i64 0) := by simp [World.cell?, hrz]
      have u3 : wr.cell? ⟨w.heap.size + 1, 3, none⟩ = some (.int .i64 0) := by simp [World.cell?, hrz]
      have u4 : wr.cell? ⟨w.heap.size + 1, 4, none⟩ = some (.int .i64 0) := by simp [World.cell?, hrz]
      have u5 : wr.cell? ⟨w.heap.size + 1, 5, none⟩ = some (.slice none 0 0) := by simp [World.cell?, hrz]
      have u6 : wr.cell? ⟨w.heap.size + 1, 6, none⟩ = some (.int .i64 0) := by simp [World.cell?, hrz]
      have u7 : wr.cell? ⟨w.heap.size + 1, 7, none⟩ = some (.int .i64 0) := by simp [World.cell?, hrz]
      have u8 : wr.cell? ⟨w.heap.size + 1, 8, none⟩ = some (.slice none 0 0) := by simp [World.cell?, hrz]
      have f0 : wr.frozen? ⟨w.heap.size + 1, 0, none⟩ = false := by simp [World.frozen?, hrz]
      have f1 : wr.frozen? ⟨w.heap.size + 1, 1, none⟩ = false := by simp [World.frozen?, hrz]
      have f2 : wr.frozen? ⟨w.heap.size + 1, 2, none⟩ = false := by simp [World.frozen?, hrz]
      have f3 : wr.frozen? ⟨w.heap.size + 1, 3, none⟩ = false := by simp [World.frozen?, hrz]
      have f4 : wr.frozen? ⟨w.heap.size + 1, 4, none⟩ = false := by simp [World.frozen?, hrz]
      have f5 : wr.frozen? ⟨w.heap.size + 1, 5, none⟩ = false := by simp [World.frozen?, hrz]
      have f6 : wr.frozen? ⟨w.heap.size + 1, 6, none⟩ = false := by simp [World.frozen?, hrz]
      have f7 : wr.frozen? ⟨w.heap.size + 1, 7, none⟩ = false := by simp [World.frozen?, hrz]
      have f8 : wr.frozen? ⟨w.heap.size + 1, 8, none⟩ = false := by simp [World.frozen?, hrz]
      have RBH := hidd RB
      clear RB hrz
      go_wp2_with fail
      refine bodyPost_ret (v := .tuple #[.agg #[.int .i64 p, .int .i64 r, .int .i64 u, .int .i64 m, .int .i64 l, .slice TA TN tc, .int .i64 n, .int .i64 room, .slice LA LN lc], .slice OA (L.take j).length oc, .int .i64 0]) (by simp [results, Try.results23, go_sem, u0, u1, u2, u3, u4, u5, u6, u7, u8]) rfl ?_
      rw [← HPO.out, ← HTL.out, ← HLL.out]
      refine RBH.out.fin GOES.out ?_
      repeat' (with_reducible first | exact Sav.refl _ _ | refine Sav.drewr ?_ | refine Sav.set1 ?_ _ _)
end Go.Proofs.Ythaiphkmkchhoaa

/- Shapers: what a call of the law's answers beside the document's shaper. -/
namespace Go.Proofs.Ythaiphkmkchhoaa
open Go.RowKit Go.Sort
set_option linter.unusedVariables false
/-- a call of the shaper's leaves this one. -/
def LeftT (h g b : Nat) (v : Value) (p r u m l room : Int) (s1 : BM.St) (L1 : List (Int × Int)) (W W' : World) : Prop :=
  ∃ v', ShAt W' h g b v' p r u m l s1 room L1 ∧ Sav (ShBlk h g b v) W W' ∧ ∀ k, k < W.heap.size → ShBlk h g b v' k → ShBlk h g b v k
section
variable {w w' W W' : World} {h g b : Nat} {v : Value} {p r u m l : Int} {s s1 : BM.St} {room : Int} {L L1 : List (Int × Int)}
theorem LeftT.of (H : ShAt W h g b v p r u m l s room L) (hb : Below W.heap.size W W') : LeftT h g b v p r u m l room s L W W' := ⟨v, H.below hb, Sav.of hb, fun _ _ q => q⟩
theorem LeftT.ahead (hb : Below w.heap.size w W) (hl : ∀ k, ShBlk h g b v k → k < w.heap.size) (H : LeftT h g b v p r u m l room s1 L1 W W') : LeftT h g b v p r u m l room s1 L1 w W' := by
  obtain ⟨v', h1, h2, h3⟩ := H
  exact ⟨v', h1, (Sav.of (S := ShBlk h g b v) hb).tr h2, fun k hk hq => h3 k (Nat.lt_of_lt_of_le hk hb.size) hq⟩
/-- then a write to what the caller made. -/
theorem LeftT.far {q : Nat} (hq : w.heap.size ≤ q) {W1 : World} (hq1 : q < W1.heap.size) (b1 : Below w.heap.size w W1) (hs : LeftT h g b v p r u m l room s1 L1 W1 W) (hl : ∀ k, ShBlk h g b v k → k < w.heap.size) {W2 : World} (hW : Sav (fun j => j = q) W W2) : LeftT h g b v p r u m l room s1 L1 w W2 := by
  obtain ⟨v', h1, h2, h3⟩ := hs
  have hnq : ∀ k, ShBlk h g b v' k → ¬ k = q := fun k hk e => by
    subst e
    have := hl _ (h3 _ hq1 hk)
    omega
  refine ⟨v', h1.sav hW hnq, ((Sav.of (S := ShBlk h g b v) b1).tr h2).trans hW (fun j hj e => by omega), fun k hk hq => h3 k (Nat.lt_of_lt_of_le hk b1.size) hq⟩
theorem LeftT.block {W1 : World} (hs : LeftT h g b v p r u m l room s1 L1 W1 W) (hl : ∀ k, ShBlk h g b v k → k < w.heap.size) {j : Nat} (hj : w.heap.size ≤ j) (hj1 : j < W1.heap.size) : W.heap[j]? = W1.heap[j]? := by
  obtain ⟨v', h1, h2, h3⟩ := hs
  exact h2.block j hj1 (fun hk => by have := hl _ hk; omega)
theorem LeftT.low (H : LeftT h g b v p r u m l room s1 L1 w W) (hb : Below W.heap.size W W') : LeftT h g b v p r u m l room s1 L1 w W' := by
  obtain ⟨v', h1, h2, h3⟩ := H
  exact ⟨v', h1.below hb, h2.tr (Sav.of hb), h3⟩
theorem LeftT.size {W1 : World} (hs : LeftT h g b v p r u m l room s1 L1 W1 W) : W1.heap.size ≤ W.heap.size := by
  obtain ⟨v', h1, h2, h3⟩ := hs
  exact h2.size
/-- .. and none of these blocks are its own. -/
def LeftU (P : Nat → Prop) (h g b : Nat) (v : Value) (p r u m l room : Int) (s1 : BM.St) (L1 : List (Int × Int)) (W W' : World) : Prop :=
  ∃ v', ShAt W' h g b v' p r u m l s1 room L1 ∧ Sav (ShBlk h g b v) W W' ∧ (∀ k, k < W.heap.size → ShBlk h g b v' k → ShBlk h g b v k) ∧ ∀ k, P k → ¬ ShBlk h g b v' k
theorem LeftT.farU {q : Nat} (hq : w.heap.size ≤ q) {W1 : World} (hq1 : q < W1.heap.size) (b1 : Below w.heap.size w W1) (hs : LeftT h g b v p r u m l room s1 L1 W1 W) (hl : ∀ k, ShBlk h g b v k → k < w.heap.size) {W2 : World} (hW : Sav (fun j => j = q) W W2) : LeftU (fun k => w.heap.size ≤ k ∧ k < W1.heap.size) h g b v p r u m l room s1 L1 w W2 := by
  obtain ⟨v', h1, h2, h3⟩ := hs
  have hnq : ∀ k, ShBlk h g b v' k → ¬ k = q := fun k hk e => by
    subst e
    have := hl _ (h3 _ hq1 hk)
    omega
  refine ⟨v', h1.sav hW hnq, ((Sav.of (S := ShBlk h g b v) b1).tr h2).trans hW (fun j hj e => by omega), fun k hk hq => h3 k (Nat.lt_of_lt_of_le hk b1.size) hq, fun k hk hq => ?_⟩
  have := hl _ (h3 k hk.2 hq)
  omega
theorem LeftT.farV {q : Nat} (hq : w.heap.size ≤ q) {W1 : World} (hq1 : q < W1.heap.size) (b1 : Below w.heap.size w W1) (hs : LeftT h g b v p r u m l room s1 L1 W1 W) (hl : ∀ k, ShBlk h g b v k → k < w.heap.size) {Y W2 : World} (hY : Below W.heap.size W Y) (hW : Sav (fun j => j = q) Y W2) : LeftU (fun k => W.heap.size ≤ k) h g b v p r u m l room s1 L1 w W2 := by
  obtain ⟨v', h1, h2, h3⟩ := hs
  have hnq : ∀ k, ShBlk h g b v' k → ¬ k = q := fun k hk e => by
    subst e
    have := hl _ (h3 _ hq1 hk)
    omega
  refine ⟨v', (h1.below hY).sav hW hnq, (((Sav.of (S := ShBlk h g b v) b1).tr h2).tr (Sav.of hY)).trans hW (fun j hj e => by omega), fun k hk hq => h3 k (Nat.lt_of_lt_of_le hk b1.size) hq, fun k hk hq => ?_⟩
  have := h1.lt hq
  omega
theorem put_res (H : ShAt W h g b v p r u m l s room L) (i z : Int) : Calls Try.prog 15 #[.pointer (some ⟨h, 0, none⟩), .agg #[.int .i64 i, .int .i64 z]] W fun e W' => e = .returned (.int .i64 (putE m l room L i z)) ∧ LeftT h g b v p r u m l room s (if putE m l room L i z = 0 then L ++ [(i, z)] else L) W W' := by
  unfold putE
  by_cases hi : i < 0 ∨ 4611686018427387904 < i
  · rw [if_pos hi]
    refine (put_arg H hi z).mono ?_
    rintro e W' ⟨rfl, hb⟩
    exact ⟨rfl, by rw [if_neg (by omega)]; exact .of H hb⟩
  · rw [if_neg hi]
    cases hz : BM.sizeB m l z
    · simp only [Bool.false_eq_true, if_false]
      refine (put_size H (by omega) hz).mono ?_
      rintro e W' ⟨rfl, hb⟩
      exact ⟨rfl, by rw [if_neg (by omega)]; exact .of H hb⟩
    · simp only [if_true]
      by_cases hr : room < sumB L + z
      · rw [if_pos hr]
        refine (put_room H (by omega) hz hr).mono ?_
        rintro e W' ⟨rfl, hb⟩
        exact ⟨rfl, by rw [if_neg (by omega)]; exact .of H hb⟩
      · rw [if_neg hr]
        refine (put_ok H (by omega) hz hr).mono ?_
        rintro e W' ⟨rfl, v', hS', hs, hn⟩
        exact ⟨rfl, by rw [if_pos rfl]; exact ⟨v', hS', hs, hn⟩⟩
/-- what goes at a tick, and whether it may be asked. -/
def GoR (p r u m l : Int) (s : BM.St) (n : Int) (L : List (Int × Int)) (k : Nat) (s' : BM.St) (no : Int) : Prop :=
  (BM.askB s n = false ∧ k = 0 ∧ s' = s ∧ no = 2) ∨ (BM.askB s n = true ∧ BM.Goes p r u m l (BM.step p r u m l s n 0).1 n L k s' ∧ no = 0)
theorem GoR.uniq {n : Int} {k k' : Nat} {s' s'' : BM.St} {no no' : Int} (h1 : GoR p r u m l s n L k s' no) (h2 : GoR p r u m l s n L k' s'' no') : k = k' ∧ s' = s'' ∧ no = no' := by
  rcases h1 with ⟨a, b, c, d⟩ | ⟨a, b, c⟩ <;> rcases h2 with ⟨a', b', c', d'⟩ | ⟨a', b', c'⟩
  · exact ⟨b.trans b'.symm, c.trans c'.symm, d.trans d'.symm⟩
  · rw [a] at a'; cases a'
  · rw [a] at a'; cases a'
  · obtain ⟨e1, e2⟩ := b.uniq b'
    exact ⟨e1, e2, c.trans c'.symm⟩
theorem go_res (H : ShAt W h g b v p r u m l s room L) (n : Int) : Calls Try.prog 16 #[.pointer (some ⟨h, 0, none⟩), .int .i64 n] W fun e W' => ∃ k s' A c no, GoR p r u m l s n L k s' no ∧ e = .returned (.tuple #[.slice A (L.take k).length c, .int .i64 no]) ∧ Lie sendV 2 W' W'.heap.size A (L.take k) ∧ LeftT h g b v p r u m l room s' (L.drop k) W W' := by
  cases hn : BM.askB s n
  · refine (go_no H n hn).mono ?_
    rintro e W' ⟨rfl, hS, hs⟩
    exact ⟨0, s, none, 0, 2, .inl ⟨hn, rfl, rfl, rfl⟩, rfl, fun hl => absurd hl (by simp), v, hS, hs, fun _ _ q => q⟩
  · refine (go_yes H n hn).mono ?_
    rintro e W' ⟨k, s', A2, c2, v2, rfl, hg, hS', ho, hq, hqn, hs⟩
    have hk := hg.le
    have hkl : (L.take k).length = k := by rw [List.length_take]; omega
    obtain ⟨A3, c3, e3, _, _, hl⟩ := hq.lie
    injection e3 with e31 e32 e33
    subst e31
    exact ⟨k, s', A2, c2, 0, .inr ⟨hn, hg, rfl⟩, by rw [hkl], hl, v2, hS', hs, fun j _ hj => by unfold ShBlk at hj ⊢; rw [ho] at hj; exact hj⟩
end
theorem rput_res {p r u m l : Int} (hr : rightB p r u m l = true) (TA : Option Addr) (tn tc : Nat) (now room : Int) (LA : Option Addr) {L : List (Int × Int)} (lc : Nat) (i z : Int) (hL : L.length ≤ 1000000) (hs0 : ∀ x ∈ L, 0 ≤ x.2) (hs1 : sumB L ≤ 1000000000000) (hs2 : 0 ≤ sumB L) (w : World) (hA : Lie sendV 2 w w.heap.size LA L) :
    Calls Try.prog 22 #[gS p r u m l TA tn tc now room LA L.length lc, .agg #[.int .i64 i, .int .i64 z]] w (RPutEnd p r u m l TA tn tc now room LA lc L (if putE m l room L i z = 0 then L ++ [(i, z)] else L) (putE m l room L i z) w) := by
  have hb := rightB_iff hr
  unfold putE
  by_cases hi : i < 0 ∨ 4611686018427387904 < i
  · simp only [if_pos hi]
    rw [if_neg (by omega)]
    exact rput_arg p r u m l TA tn tc now room LA L lc i z hL hi w hA
  · simp only [if_neg hi]
    by_cases hz : l ≤ z ∧ z ≤ m
    · have e : BM.sizeB m l z = true := decide_eq_true hz
      simp only [e, if_true]
      by_cases hr2 : room < sumB L + z
      · simp only [if_pos hr2]
        rw [if_neg (by omega)]
        exact rput_room p r u m l TA tn tc now room LA L lc i z hL hs0 hs1 (by omega) (by omega) hz hr2 w hA
      · simp only [if_neg hr2, if_true]
        exact rput_ok p r u m l TA tn tc now room LA L lc i z hL hs0 hs1 (by omega) (by omega) hz hr2 w hA
    · have e : BM.sizeB m l z = false := decide_eq_false hz
      simp only [e, Bool.false_eq_true, if_false]
      rw [if_neg (by omega)]
      exact rput_size p r u m l TA tn tc now room LA L lc i z hL (by omega) (by omega) w hA
/-- the document's Go, whether it may be asked or not. -/
def RGoR (TA0 LA0 : Option Addr) (p r u m l room n : Int) (s : BM.St) (T L : List (Int × Int)) (w : World) (e : Ending) (w' : World) : Prop :=
  ∃ k s' no T' TA tc LA lc OA oc, GoR p r u m l s n L k s' no ∧ BM.Inv p r u m l T' s' ∧ BM.Ok u m s' ∧ T'.length + (L.drop k).length = T.length + L.length ∧ e = .returned (.tuple #[gS p r u m l TA (List.length (α := Int × Int) T') tc s'.1 room LA (L.drop k).length lc, .slice OA (L.take k).length oc, .int .i64 no]) ∧
    Lie sendV 2 w' w'.heap.size TA T' ∧ (0 < T'.length → ∀ ad, TA = some ad → (TA = TA0 ∧ T' = T) ∨ w.heap.size ≤ ad.block) ∧
    Lie sendV 2 w' w'.heap.size LA (L.drop k) ∧ (0 < (L.drop k).length → ∀ ad, LA = some ad → ∃ a0, LA0 = some a0 ∧ ad.block = a0.block) ∧ ((L.drop k).length ≤ lc ∧ lc ≤ maxLen) ∧ Lie sendV 2 w' w'.heap.size OA (L.take k) ∧ Below w.heap.size w w'
theorem rgo_res {p r u m l : Int} (hr : rightB p r u m l = true) (TA0 : Option Addr) {T : List (Int × Int)} {s : BM.St} (hI : BM.Inv p r u m l T s) (hs : BM.Ok u m s) (tc0 : Nat) (room : Int) (LA0 : Option Addr) (L : List (Int × Int)) (lc0 : Nat) (hlc : L.length ≤ lc0) (hcm : lc0 ≤ maxLen) (hm : T.length + L.length ≤ 999) (n : Int) (w : World) (hT : Lie sendV 2 w w.heap.size TA0 T) (hL : Lie sendV 2 w w.heap.size LA0 L) :
    Calls Try.prog 23 #[gS p r u m l TA0 T.length tc0 s.1 room LA0 L.length lc0, .int .i64 n] w (RGoR TA0 LA0 p r u m l room n s T L w) := by
  have hb := rightB_iff hr
  cases hn : BM.askB s n
  · refine (rgo_no p r u m l TA0 T.length tc0 s.1 room LA0 L.length lc0 n hn w).mono ?_
    rintro e w' ⟨rfl, hb⟩
    exact ⟨0, s, 2, T, TA0, tc0, LA0, lc0, none, 0, .inl ⟨hn, rfl, rfl, rfl⟩, hI, hs, by simp, rfl, hT.below hb, fun _ ad e => .inl ⟨rfl, rfl⟩, hL.below hb, fun _ ad e => ⟨ad, e, rfl⟩, ⟨hlc, hcm⟩, fun hl => absurd hl (by simp), hb⟩
  · refine (rgo_yes hr TA0 hI hs tc0 room LA0 L lc0 hlc hcm hm n hn w hT hL).mono ?_
    rintro e w' ⟨k, s', TA, tc, LA, lc, OA, oc, rfl, hg, h1, h2, h3, h4, h5, h6, h7, h8⟩
    have hok := BM.step_ok hs (p := p) (r := r) (l := l) (by omega) n 0
    have hinv := (hI.move (by omega) (by omega) (by omega) hs n).atK (n := n) (L := L) (k := k) (by omega) (by omega) (by omega) hok hg.le hg.all
    rw [← hg.st] at hinv
    have hnow : s'.1 = n := by
      rw [hg.st]
      refine BM.atK_now ?_ (of_decide_eq_true hn).2 hg.le
      unfold BM.step
      rw [if_pos hn]
      split <;> rfl
    refine ⟨k, s', 0, _, TA, tc, LA, lc, OA, oc, .inr ⟨hn, hg, rfl⟩, hinv, by rw [hg.st]; exact BM.atK_ok (by omega) hok, ?_, by rw [hnow], h1, ?_, h3, ?_, h5, h6, h8⟩
    · have := hg.le
      rw [List.length_append, List.length_map, List.length_take, List.length_drop]
      omega
    · intro hl ad e
      rcases h2 hl ad e with ⟨_, q1, q2⟩ | q
      · exact .inl ⟨q1, by rw [q2]; simp⟩
      · exact .inr (by omega)
    · intro hl ad e
      exact (h4 hl ad e).2
def DP (D Q : Nat) (p r u m l : Int) (TA : Option Addr) (tn tc : Nat) (now room : Int) (LA : Option Addr) (ln lc : Nat) (a z : Int) (W : World) : Prop := W.cell? ⟨D, 0, none⟩ = some (.int .i64 p) ∧ W.cell? ⟨D, 1, none⟩ = some (.int .i64 r) ∧ W.cell? ⟨D, 2, none⟩ = some (.int .i64 u) ∧ W.cell? ⟨D, 3, none⟩ = some (.int .i64 m) ∧ W.cell? ⟨D, 4, none⟩ = some (.int .i64 l) ∧ W.cell? ⟨D, 5, none⟩ = some (.slice TA tn tc) ∧ W.cell? ⟨D, 6, none⟩ = some (.int .i64 now) ∧ W.cell? ⟨D, 7, none⟩ = some (.int .i64 room) ∧ W.cell? ⟨D, 8, none⟩ = some (.slice LA ln lc) ∧ W.cell? ⟨Q, 1, none⟩ = some (.int .i64 a) ∧ W.cell? ⟨Q, 2, none⟩ = some (.int .i64 z)
theorem DP.of {D Q : Nat} {p r u m l : Int} {TA : Option Addr} {tn tc : Nat} {now room : Int} {LA : Option Addr} {ln lc : Nat} {k a z : Int} {W : World} (h1 : GQ W D p r u m l TA tn tc now room LA ln lc) (h2 : W.heap[Q]? = some (.cells #[.int .i64 k, .int .i64 a, .int .i64 z] 43 (0, 0))) : DP D Q p r u m l TA tn tc now room LA ln lc a z W := by
  obtain ⟨c0, c1, c2, c3, c4, c5, c6, c7, c8⟩ := h1.cells
  exact ⟨c0, c1, c2, c3, c4, c5, c6, c7, c8, by simp [World.cell?, h2], by simp [World.cell?, h2]⟩
/-- a shaper beside the document's. -/
structure PP (F : Nat → Prop) (B : Nat) (w : World) (h : Nat) (p r u m l room : Int) (s : BM.St) (T L : List (Int × Int)) (TA : Option Addr) (LA : Option Addr) (lc : Nat) (n : Nat) (W : World) : Prop where
  sh : ∃ g b v, ShAt W h g b v p r u m l s room L ∧ (∀ j, ShBlk h g b v j → B ≤ j) ∧ (0 < T.length → ∀ ad, TA = some ad → ¬ ShBlk h g b v ad.block) ∧ (0 < L.length → ∀ ad, LA = some ad → ¬ ShBlk h g b v ad.block) ∧ ∀ k, F k → ¬ ShBlk h g b v k
  tl : Lie sendV 2 W W.heap.size TA T
  ll : Lie sendV 2 W W.heap.size LA L
  inv : BM.Inv p r u m l T s
  lc : L.length ≤ lc ∧ lc ≤ maxLen
  sm : T.length + L.length ≤ n
  bel : Below B w W
  bsz : B ≤ W.heap.size
  ft : ∀ k, F k → 0 < T.length → ∀ ad, TA = some ad → ad.block ≠ k
  fl : ∀ k, F k → 0 < L.length → ∀ ad, LA = some ad → ad.block ≠ k
  fw : ∀ k, F k → B ≤ k ∧ k < W.heap.size
theorem PP.below {F : Nat → Prop} {B : Nat} {w : World} {h : Nat} {p r u m l room : Int} {s : BM.St} {T L : List (Int × Int)} {TA LA : Option Addr} {lc n : Nat} {W W' : World} (H : PP F B w h p r u m l room s T L TA LA lc n W) (hb : Below W.heap.size W W') : PP F B w h p r u m l room s T L TA LA lc n W' := by
  obtain ⟨g, b, v, hS, h1, h2, h3, h4⟩ := H.sh
  exact ⟨⟨g, b, v, hS.below hb, h1, h2, h3, h4⟩, H.tl.below hb, H.ll.below hb, H.inv, H.lc, H.sm, H.bel.trans (hb.mono H.bsz), Nat.le_trans H.bsz hb.size, H.ft, H.fl, fun k hk => ⟨(H.fw k hk).1, Nat.lt_of_lt_of_le (H.fw k hk).2 hb.size⟩⟩
/-- what stands aside may be written. -/
theorem PP.sav {F : Nat → Prop} {B : Nat} {w : World} {h : Nat} {p r u m l room : Int} {s : BM.St} {T L : List (Int × Int)} {TA LA : Option Addr} {lc n : Nat} {W W' : World} (H : PP F B w h p r u m l room s T L TA LA lc n W) (hs : Sav F W W') : PP F B w h p r u m l room s T L TA LA lc n W' := by
  obtain ⟨g, b, v, hS, h1, h2, h3, h4⟩ := H.sh
  exact ⟨⟨g, b, v, hS.sav hs (fun k hk hF => h4 k hF hk), h1, h2, h3, h4⟩, H.tl.sav hs (fun hl ad e hF => H.ft _ hF hl ad e rfl), H.ll.sav hs (fun hl ad e hF => H.fl _ hF hl ad e rfl), H.inv, H.lc, H.sm, H.bel.trans (hs.below H.bsz (fun k hk => (H.fw k hk).1)), Nat.le_trans H.bsz hs.size, H.ft, H.fl, fun k hk => ⟨(H.fw k hk).1, Nat.lt_of_lt_of_le (H.fw k hk).2 hs.size⟩⟩
theorem PP.less {F F' : Nat → Prop} {B : Nat} {w : World} {h : Nat} {p r u m l room : Int} {s : BM.St} {T L : List (Int × Int)} {TA LA : Option Addr} {lc n : Nat} {W : World} (H : PP F B w h p r u m l room s T L TA LA lc n W) (hF : ∀ k, F' k → F k) : PP F' B w h p r u m l room s T L TA LA lc n W := by
  obtain ⟨g, b, v, hS, h1, h2, h3, h4⟩ := H.sh
  exact ⟨⟨g, b, v, hS, h1, h2, h3, fun k hk => h4 k (hF k hk)⟩, H.tl, H.ll, H.inv, H.lc, H.sm, H.bel, H.bsz, fun k hk => H.ft k (hF k hk), fun k hk => H.fl k (hF k hk), fun k hk => H.fw k (hF k hk)⟩
/-- a block that is made stands aside. -/
theorem PP.more {F : Nat → Prop} {B : Nat} {w : World} {h : Nat} {p r u m l room : Int} {s : BM.St} {T L : List (Int × Int)} {TA LA : Option Addr} {lc n : Nat} {W : World} (H : PP F B w h p r u m l room s T L TA LA lc n W) (o : Obj) : PP (fun k => F k ∨ k = W.heap.size) B w h p r u m l room s T L TA LA lc n (W.alloc o) := by
  have H2 := H.below (below_new (Below.refl _ _) o)
  obtain ⟨g, b, v, hS, h1, h2, h3, h4⟩ := H.sh
  refine ⟨⟨g, b, v, hS.below (below_new (Below.refl _ _) o), h1, h2, h3, fun k hk hb => ?_⟩, H2.tl, H2.ll, H.inv, H.lc, H.sm, H2.bel, H2.bsz, fun k hk hl ad e hk2 => ?_, fun k hk hl ad e hk2 => ?_, fun k hk => ?_⟩
  · rcases hk with hk | hk
    · exact h4 k hk hb
    · have := hS.lt hb; omega
  · rcases hk with hk | hk
    · exact H.ft k hk hl ad e hk2
    · obtain ⟨ad', e', hB, _⟩ := H.tl hl
      rw [e] at e'; cases e'; omega
  · rcases hk with hk | hk
    · exact H.fl k hk hl ad e hk2
    · obtain ⟨ad', e', hB, _⟩ := H.ll hl
      rw [e] at e'; cases e'; omega
  · rcases hk with hk | hk
    · exact H2.fw k hk
    · exact ⟨by have := H.bsz; omega, by simp; omega⟩
def DoesEnd (F : Nat → Prop) (B : Nat) (w : World) (h : Nat) (p r u m l room : Int) (n : Nat) (W : World) (e : Ending) (W' : World) : Prop :=
  ∃ s' T' L' TA' tc' LA' lc' OA on oc, e = .returned (.tuple #[gS p r u m l TA' (List.length (α := Int × Int) T') tc' s'.1 room LA' (List.length (α := Int × Int) L') lc', .slice OA on oc, .bool true]) ∧ PP F B w h p r u m l room s' T' L' TA' LA' lc' (n + 1) W' ∧ ∀ k, F k → W'.heap[k]? = W.heap[k]?
set_option maxRecDepth 100000 in
set_option maxHeartbeats 4000000 in
theorem doesP {F : Nat → Prop} {B : Nat} {w : World} {h : Nat} {p r u m l room : Int} {s : BM.St} {T L : List (Int × Int)} {TA LA : Option Addr} {lc n : Nat} {W : World} (H : PP F B w h p r u m l room s T L TA LA lc n W) (tc : Nat) (hn : n ≤ 900) (k a z : Int) : Calls Try.prog 8 #[.pointer (some ⟨h, 0, none⟩), gS p r u m l TA T.length tc s.1 room LA L.length lc, .agg #[.int .i64 k, .int .i64 a, .int .i64 z]] W (DoesEnd F B w h p r u m l room n W) := by
  have HP := hidd H
  obtain ⟨g, b, v, hS, hge, hTn, hLn, hFn⟩ := H.sh
  have HH := hidd hS
  have HLT := hidd (fun k (hk : ShBlk h g b v k) => hS.lt hk)
  have HGE := hidd hge
  have HTN := hidd hTn
  have HLN := hidd hLn
  have HFN := hidd hFn
  have LEN := hidd (show L.length ≤ 1000000 ∧ T.length + L.length ≤ 999 from by have := H.sm; omega)
  have RT := hidd hS.rt
  have OK := hidd hS.ok
  have SZ := hidd (show (∀ x ∈ L, 0 ≤ x.2) ∧ sumB L ≤ 1000000000000 ∧ 0 ≤ sumB L from ⟨fun x hx => by have := hS.sz x hx; have := rightB_iff hS.rt; omega, by have := hS.sm; have := hS.r1; omega, by have := hS.sz.sum (by have := rightB_iff hS.rt; omega); omega⟩)
  have cP := hidd (fun Y (hb : Below W.heap.size W Y) => rput_res RT.out TA T.length tc s.1 room LA lc a z LEN.out.1 SZ.out.1 SZ.out.2.1 SZ.out.2.2 Y (HP.out.ll.below hb))
  have cG := hidd (fun Y (hT : Lie sendV 2 Y Y.heap.size TA T) (hL : Lie sendV 2 Y Y.heap.size LA L) => rgo_res RT.out TA HP.out.inv OK.out tc room LA L lc HP.out.lc.1 HP.out.lc.2 LEN.out.2 a Y hT hL)
  have cS := hidd (fun Y (hb : Below W.heap.size W Y) => put_res (HH.out.below hb) a z)
  have cO := hidd (fun Y (hb : Below W.heap.size W Y) => go_res (HH.out.below hb) a)
  obtain ⟨PO, hPO⟩ : ∃ PO : Ending → World → Prop, DoesEnd F B w h p r u m l room n W = PO := ⟨_, rfl⟩
  have HPO := hidd hPO
  rw [hPO]
  unfold RPutEnd at cP
  unfold RGoR at cG
  unfold gS at cP cG ⊢
  generalize hTL : T.length = TN at *
  generalize hLL : L.length = LN at *
  obtain ⟨now, hnow⟩ : ∃ now, s.1 = now := ⟨_, rfl⟩
  rw [hnow] at cP cG
  rw [hnow]
  have HTL := hidd hTL
  have HLL := hidd hLL
  have HNOW := hidd hnow
  clear H hS hge hTn hLn hFn hPO hTL hLL hnow
  by_cases hk1 : k = 1
  · subst hk1
    have B0 : Hid (Below W.heap.size W (((W.alloc (.cells #[.int .i64 p, .int .i64 r, .int .i64 u, .int .i64 m, .int .i64 l, .slice TA TN tc, .int .i64 now, .int .i64 room, .slice LA LN lc] 35)).alloc (.cells #[.int .i64 1, .int .i64 a, .int .i64 z] 43)).alloc (.cells #[.int .i64 0, .int .i64 0, .int .i64 0, .int .i64 0, .int .i64 0, .slice none 0 0, .int .i64 0, .int .i64 0, .slice none 0 0] 35))) := hidd (by (repeat' (first | (with_reducible exact Below.refl _ _) | (with_reducible assumption) | (with_reducible apply Below.setCell) | (with_reducible apply Below.alloc) | (with_reducible apply Below.drew) | (with_reducible apply below_drewN) | (with_reducible refine Below.trans ?_ (Below.mono (by assumption) ?_)) | omega | (simp; done) | (simp; omega))))
    generalize hno : putE m l room L a z = no at *
    generalize hLX : (if no = 0 then L ++ [(a, z)] else L) = LX at *
    have HLX := hidd hLX
    clear hLX
    go_enter Try.func8, Try.ntmps8
    go_wp2_with fail
    refine (cP.out _ B0.out).mono ?_
    rintro e w2 ⟨LA1, lc1, rfl, hl1, hf1, hb2⟩
    have B2 := hidd (below_step (below_new (below_new (below_new (Below.refl _ _) _) _) _) hb2)
    have hs2 : W.heap.size + 1 + 1 + 1 ≤ w2.heap.size := by have := hb2.size; simpa using this
    have R6 : Hid (w2.heap[W.heap.size + 1 + 1]? = some (.cells #[.int .i64 0, .int .i64 0, .int .i64 0, .int .i64 0, .int .i64 0, .slice none 0 0, .int .i64 0, .int .i64 0, .slice none 0 0] 35 (0, 0))) := hidd ((hb2.block _ (by simp)).trans (three_at W _ _ _).2.2)
    have R5 : Hid (w2.heap[W.heap.size + 1]? = some (.cells #[.int .i64 1, .int .i64 a, .int .i64 z] 43 (0, 0))) := hidd ((hb2.block _ (by simp)).trans (three_at W _ _ _).2.1)
    have HL1 := hidd hl1
    have HF1 := hidd (show (LA1 = LA ∧ LX = L ∧ lc1 = lc) ∨ (∀ ad, LA1 = some ad → W.heap.size + 3 ≤ ad.block) ∧ LX.length ≤ lc1 ∧ lc1 ≤ maxLen from by simpa using hf1)
    clear hb2 hl1 hf1
    generalize hLN1 : LX.length = LN1 at *
    have HLN1 := hidd hLN1
    clear hLN1
    go_wp2_with fail
    obtain ⟨W3, hW3⟩ : ∃ W3, w2.alloc (.cells #[.int .i64 p, .int .i64 r, .int .i64 u, .int .i64 m, .int .i64 l, .slice TA TN tc, .int .i64 now, .int .i64 room, .slice LA1 LN1 lc1] 35) = W3 := ⟨_, rfl⟩
    rw [hW3]
    have HS3 := hidd (show W.heap.size + 1 + 1 < W3.heap.size ∧ w2.heap.size < W3.heap.size from by rw [← hW3]; simp; omega)
    have B3 := hidd (show Below W.heap.size W W3 from by rw [← hW3]; exact below_new B2.out _)
    have B23 := hidd (show Below w2.heap.size w2 W3 from by rw [← hW3]; exact below_new (Below.refl _ _) _)
    have G3 := hidd (show GQ W3 w2.heap.size p r u m l TA TN tc now room LA1 LN1 lc1 from by rw [← hW3]; exact World.alloc_heap_new w2 _)
    have F3 := hidd (show W3.heap[W.heap.size + 1]? = some (.cells #[.int .i64 1, .int .i64 a, .int .i64 z] 43 (0, 0)) from by rw [← hW3]; exact (Below.heap_alloc w2 _ _ (by omega)).trans R5.out)
    have E3 := hidd (show W3.heap[W.heap.size + 1 + 1]? = some (.cells #[.int .i64 0, .int .i64 0, .int .i64 0, .int .i64 0, .int .i64 0, .slice none 0 0, .int .i64 0, .int .i64 0, .slice none 0 0] 35 (0, 0)) from by rw [← hW3]; exact (Below.heap_alloc w2 _ _ (by omega)).trans R6.out)
    have HS2 := hidd hs2
    clear hW3 R5 R6 hs2
    refine wp_region_held_drew (S := (fun Y => DP w2.heap.size (W.heap.size + 1) p r u m l TA TN tc now room LA1 LN1 lc1 a z Y)) (by kernel_rfl) (DP.of G3.out F3.out) (fun hH => ?_)
    refine wpAnyH_take (i := 0) (v := ?vp0_1) (by (conv => lhs; simp only [List.getElem?_toArray, List.getElem?_cons_succ, List.getElem?_cons_zero])) (by kernel_rfl) (by kernel_rfl) (by kernel_rfl) ?hQ (Or.inl ⟨by rfl, ?hyp0_1⟩) hH ?restp0_1
    case hQ => exact fun _ _ _ h => h
    case hyp0_1 => (intro Y hY; obtain ⟨y0, y1, y2, y3, y4, y5, y6, y7, y8, y9, y10⟩ := hY; go_simp; try (with_reducible rfl))
    try simp only [Act.put, List.setIfInBounds_toArray, List.set_cons_zero, List.set_cons_succ]
    refine wpAnyH_take (i := 1) (v := ?vp1_2) (by (conv => lhs; simp only [List.getElem?_toArray, List.getElem?_cons_succ, List.getElem?_cons_zero])) (by kernel_rfl) (by kernel_rfl) (by kernel_rfl) ?hQ (Or.inl ⟨by rfl, ?hyp1_2⟩) hH ?restp1_2
    case hQ => exact fun _ _ _ h => h
    case hyp1_2 => (intro Y hY; obtain ⟨y0, y1, y2, y3, y4, y5, y6, y7, y8, y9, y10⟩ := hY; go_simp; try (with_reducible rfl))
    try simp only [Act.put, List.setIfInBounds_toArray, List.set_cons_zero, List.set_cons_succ]
    refine wpAnyH_take (i := 2) (v := ?vp2_3) (by (conv => lhs; simp only [List.getElem?_toArray, List.getElem?_cons_succ, List.getElem?_cons_zero])) (by kernel_rfl) (by kernel_rfl) (by kernel_rfl) ?hQ (Or.inl ⟨by rfl, ?hyp2_3⟩) hH ?restp2_3
    case hQ => exact fun _ _ _ h => h
    case hyp2_3 => (intro Y hY; obtain ⟨y0, y1, y2, y3, y4, y5, y6, y7, y8, y9, y10⟩ := hY; go_simp; try (with_reducible rfl))
    try simp only [Act.put, List.setIfInBounds_toArray, List.set_cons_zero, List.set_cons_succ]
    refine wpAnyH_take (i := 3) (v := ?vp3_4) (by (conv => lhs; simp only [List.getElem?_toArray, List.getElem?_cons_succ, List.getElem?_cons_zero])) (by kernel_rfl) (by kernel_rfl) (by kernel_rfl) ?hQ (Or.inl ⟨by rfl, ?hyp3_4⟩) hH ?restp3_4
    case hQ => exact fun _ _ _ h => h
    case hyp3_4 => (intro Y hY; obtain ⟨y0, y1, y2, y3, y4, y5, y6, y7, y8, y9, y10⟩ := hY; go_simp; try (with_reducible rfl))
    try simp only [Act.put, List.setIfInBounds_toArray, List.set_cons_zero, List.set_cons_succ]
    refine wpAnyH_take (i := 5) (v := ?vp5_5) (by (conv => lhs; simp only [List.getElem?_toArray, List.getElem?_cons_succ, List.getElem?_cons_zero])) (by kernel_rfl) (by kernel_rfl) (by kernel_rfl) ?hQ (Or.inl ⟨by rfl, ?hyp5_5⟩) hH ?restp5_5
    case hQ => exact fun _ _ _ h => h
    case hyp5_5 => (intro Y hY; obtain ⟨y0, y1, y2, y3, y4, y5, y6, y7, y8, y9, y10⟩ := hY; go_simp; try (with_reducible rfl))
    try simp only [Act.put, List.setIfInBounds_toArray, List.set_cons_zero, List.set_cons_succ]
    refine wpAnyH_ready (rs := [4]) (by kernel_rfl) (by simp) ?_
    refine AllReadyH.cons (by (conv => lhs; simp only [List.getElem?_toArray, List.getElem?_cons_succ, List.getElem?_cons_zero])) (fun K hK => ?_) AllReadyH.nil
    go_simp
    go_at_call 15; refine (cS.out _ (Below.drew B3.out)).mono ?_; rintro e w4 ⟨rfl, hL4⟩
    have G4 := hidd (show GQ w4 w2.heap.size p r u m l TA TN tc now room LA1 LN1 lc1 from (hL4.block HLT.out (by have := HS2.out; omega) HS3.out.2).trans G3.out)
    have F4 := hidd ((hL4.block HLT.out (j := W.heap.size + 1) (by omega) (by have := HS3.out.1; show _ < W3.heap.size; omega)).trans F3.out)
    have hrow := (hL4.block HLT.out (j := W.heap.size + 1 + 1) (by omega) HS3.out.1).trans E3.out
    have FIN := hidd (fun cs => LeftT.farU (q := W.heap.size + 1 + 1) (by omega) (show _ < W3.drew.heap.size from HS3.out.1) (Below.drew B3.out) hL4 HLT.out (Sav.row (cs := cs) (Below.refl _ _)))
    have FB := hidd (fun k (hk : W.heap.size ≤ k) (hk2 : k < W3.heap.size) => hL4.block HLT.out (j := k) hk hk2)
    have HSZ4 := hidd (show W3.heap.size ≤ w4.heap.size from hL4.size)
    refine hK.out _ _ (DP.of G4.out F4.out) (fun hH1 => ?_)
    clear hK hH hL4
    try simp only [Act.put, List.setIfInBounds_toArray, List.set_cons_zero, List.set_cons_succ]
    refine wpAnyH_take (i := 6) (v := ?vp6_6) (by (conv => lhs; simp only [List.getElem?_toArray, List.getElem?_cons_succ, List.getElem?_cons_zero])) (by kernel_rfl) (by kernel_rfl) (by kernel_rfl) ?hQ (Or.inl ⟨by rfl, ?hyp6_6⟩) hH1 ?restp6_6
    case hQ => exact fun _ _ _ h => h
    case hyp6_6 => (intro Y hY; obtain ⟨y0, y1, y2, y3, y4, y5, y6, y7, y8, y9, y10⟩ := hY; go_simp; try (with_reducible rfl))
    try simp only [Act.put, List.setIfInBounds_toArray, List.set_cons_zero, List.set_cons_succ]
    refine wpAnyH_ready (rs := [7]) (by kernel_rfl) (by simp) ?_
    refine AllReadyH.cons (by (conv => lhs; simp only [List.getElem?_toArray, List.getElem?_cons_succ, List.getElem?_cons_zero])) (fun K hK => ?_) AllReadyH.nil
    rw [if_pos (by rfl)]
    refine wp_store_row 35 (.tmp 6) (.tmp 27) (by rfl) (W.heap.size + 1 + 1) #[.int .i64 p, .int .i64 r, .int .i64 u, .int .i64 m, .int .i64 l, .slice TA TN tc, .int .i64 now, .int .i64 room, .slice LA1 LN1 lc1] (by rfl) (by rfl) _ _ hrow (by kernel_rfl) (by rfl) (by simp [Value.oneCell']) ?_
    have hrow2 := setRow_heap w4 (W.heap.size + 1 + 1) _ #[.int .i64 p, .int .i64 r, .int .i64 u, .int .i64 m, .int .i64 l, .slice TA TN tc, .int .i64 now, .int .i64 room, .slice LA1 LN1 lc1] _ _ hrow
    refine hK.out _ _ (DP.of ((setRow_other w4 _ _ _ (by have := HS2.out; omega)).trans G4.out) ((setRow_other w4 _ _ _ (by omega)).trans F4.out)) (fun hH2 => ?_)
    clear hK hH1 hrow
    try simp only [Act.put]
    refine wpAnyH_take (i := 8) (v := ?vp8_7) (by (conv => lhs; simp only [List.getElem?_toArray, List.getElem?_cons_succ, List.getElem?_cons_zero])) (by kernel_rfl) (by kernel_rfl) (by kernel_rfl) ?hQ (Or.inl ⟨by rfl, ?hyp8_7⟩) hH2 ?restp8_7
    case hQ => exact fun _ _ _ h => h
    case hyp8_7 => (intro Y hY; obtain ⟨y0, y1, y2, y3, y4, y5, y6, y7, y8, y9, y10⟩ := hY; go_simp; try (with_reducible rfl))
    try simp only [Act.put, List.setIfInBounds_toArray, List.set_cons_zero, List.set_cons_succ]
    refine wpAnyH_take (i := 9) (v := ?vp9_8) (by (conv => lhs; simp only [List.getElem?_toArray, List.getElem?_cons_succ, List.getElem?_cons_zero])) (by kernel_rfl) (by kernel_rfl) (by kernel_rfl) ?hQ (Or.inl ⟨by rfl, ?hyp9_8⟩) hH2 ?restp9_8
    case hQ => exact fun _ _ _ h => h
    case hyp9_8 => (intro Y hY; obtain ⟨y0, y1, y2, y3, y4, y5, y6, y7, y8, y9, y10⟩ := hY; go_simp; try (with_reducible rfl))
    try simp only [Act.put, List.setIfInBounds_toArray, List.set_cons_zero, List.set_cons_succ]
    have FIN2 := hidd (FIN.out #[.int .i64 p, .int .i64 r, .int .i64 u, .int .i64 m, .int .i64 l, .slice TA TN tc, .int .i64 now, .int .i64 room, .slice LA1 LN1 lc1])
    have FB2 := hidd (fun k (hk : W.heap.size ≤ k) (hk2 : k < W3.heap.size) (hk3 : k ≠ W.heap.size + 1 + 1) => (setRow_other w4 (W.heap.size + 1 + 1) k #[.int .i64 p, .int .i64 r, .int .i64 u, .int .i64 m, .int .i64 l, .slice TA TN tc, .int .i64 now, .int .i64 room, .slice LA1 LN1 lc1] hk3).trans (FB.out k hk hk2))
    have FS2 := hidd (show W3.heap.size ≤ (w4.setRow (W.heap.size + 1 + 1) #[.int .i64 p, .int .i64 r, .int .i64 u, .int .i64 m, .int .i64 l, .slice TA TN tc, .int .i64 now, .int .i64 room, .slice LA1 LN1 lc1]).heap.size from by rw [setRow_size]; exact HSZ4.out)
    have ROW := hidd (show GQ _ _ p r u m l TA TN tc now room LA1 LN1 lc1 from hrow2)
    clear FIN FB hrow2
    obtain ⟨wz, hwz⟩ : ∃ wz : World, w4.setRow (W.heap.size + 1 + 1) #[.int .i64 p, .int .i64 r, .int .i64 u, .int .i64 m, .int .i64 l, .slice TA TN tc, .int .i64 now, .int .i64 room, .slice LA1 LN1 lc1] = wz := ⟨_, rfl⟩
    rw [hwz] at FIN2 FB2 FS2 ROW hH2
    rw [hwz]
    clear hwz
    refine wpAnyH_done (by kernel_rfl) (?_) _
    clear hH2
    have FIN := FIN2
    obtain ⟨d0, d1, d2, d3, d4, d5, d6, d7, d8⟩ := ROW.out.cells
    go_wp2_with fail
    refine bodyPost_ret (v := .tuple #[.agg #[.int .i64 p, .int .i64 r, .int .i64 u, .int .i64 m, .int .i64 l, .slice TA TN tc, .int .i64 now, .int .i64 room, .slice LA1 LN1 lc1], .slice none 0 0, .bool true]) (by simp [results, Try.results8, go_sem, d0, d1, d2, d3, d4, d5, d6, d7, d8]) rfl ?_
    rw [← HPO.out]
    obtain ⟨v', hS', hsv, hn', hnew⟩ := FIN.out
    have hTlt : 0 < T.length → ∀ ad, TA = some ad → ad.block < W.heap.size := fun hl ad e => by
      obtain ⟨ad', e', hB, _⟩ := HP.out.tl hl
      rw [e] at e'; cases e'; exact hB
    have hLlt : 0 < L.length → ∀ ad, LA = some ad → ad.block < W.heap.size := fun hl ad e => by
      obtain ⟨ad', e', hB, _⟩ := HP.out.ll hl
      rw [e] at e'; cases e'; exact hB
    have tn : ∀ hl : 0 < T.length, ∀ ad, TA = some ad → ¬ ShBlk h g b v ad.block := fun hl ad e => HTN.out (by rw [← HTL.out]; exact hl) ad e
    have ln : ∀ hl : 0 < L.length, ∀ ad, LA = some ad → ¬ ShBlk h g b v ad.block := fun hl ad e => HLN.out (by rw [← HLL.out]; exact hl) ad e
    have hsm := HP.out.sm
    refine ⟨s, T, LX, TA, tc, LA1, lc1, none, 0, 0, by rw [HTL.out, HLN1.out, HNOW.out]; rfl, ⟨⟨g, b, v', hS', fun j hj => ?_, fun hl ad e hb => tn hl ad e (hn' _ (hTlt hl ad e) hb), fun hl ad e hb => ?_, fun k hF hb => HFN.out k hF (hn' k (HP.out.fw k hF).2 hb)⟩, HP.out.tl.sav hsv tn, ?_, HP.out.inv, ?_, ?_, HP.out.bel.trans (hsv.below HP.out.bsz HGE.out), Nat.le_trans HP.out.bsz hsv.size, HP.out.ft, fun k hF hl ad e => ?_, fun k hF => ⟨(HP.out.fw k hF).1, Nat.lt_of_lt_of_le (HP.out.fw k hF).2 hsv.size⟩⟩, fun k hF => hsv.block k (HP.out.fw k hF).2 (HFN.out k hF)⟩
    · rcases Nat.lt_or_ge j W.heap.size with q | q
      · exact HGE.out j (hn' j q hj)
      · exact Nat.le_trans HP.out.bsz q
    · rcases HF1.out with ⟨q1, q2, q3⟩ | ⟨q1, q2, q3⟩
      · rw [q1] at e
        rw [q2] at hl
        exact ln hl ad e (hn' _ (hLlt hl ad e) hb)
      · obtain ⟨ad', e', hB, _⟩ := HL1.out hl
        rw [e] at e'; cases e'
        exact hnew _ ⟨by have := q1 ad e; omega, by have := HS3.out.2; show _ < W3.heap.size; omega⟩ hb
    · rcases HF1.out with ⟨q1, q2, q3⟩ | ⟨q1, q2, q3⟩
      · rw [q1, q2]
        exact HP.out.ll.sav hsv ln
      · refine HL1.out.blk (by have := FS2.out; have := HS3.out.2; omega) (fun hl ad e => ?_)
        obtain ⟨ad', e', hB, _⟩ := HL1.out hl
        rw [e] at e'; cases e'
        have := q1 ad e
        exact (FB2.out ad.block (by omega) (by have := HS3.out.2; omega) (by omega)).trans (B23.out.block _ hB)
    · rcases HF1.out with ⟨q1, q2, q3⟩ | ⟨q1, q2, q3⟩
      · rw [q2, q3]; exact HP.out.lc
      · exact ⟨by rw [HLN1.out]; exact q2, q3⟩
    · rw [← HLX.out]
      split
      · rw [List.length_append]; simp; omega
      · omega
    · have := (HP.out.fw k hF).2
      rcases HF1.out with ⟨q1, q2, q3⟩ | ⟨q1, q2, q3⟩
      · rw [q1] at e
        rw [q2] at hl
        exact HP.out.fl k hF hl ad e
      · have := q1 ad e
        omega
  · by_cases hk2 : k = 2
    · subst hk2
      go_enter Try.func8, Try.ntmps8
      go_wp2_with fail
      have B1 : Hid (Below W.heap.size W (((W.alloc (.cells #[.int .i64 p, .int .i64 r, .int .i64 u, .int .i64 m, .int .i64 l, .slice TA TN tc, .int .i64 now, .int .i64 room, .slice LA LN lc] 35)).alloc (.cells #[.int .i64 2, .int .i64 a, .int .i64 z] 43)).alloc (.cells #[.int .i64 0, .int .i64 0, .int .i64 0, .int .i64 0, .int .i64 0, .slice none 0 0, .int .i64 0, .int .i64 0, .slice none 0 0] 35))) := hidd (by (repeat' (first | (with_reducible exact Below.refl _ _) | (with_reducible assumption) | (with_reducible apply Below.setCell) | (with_reducible apply Below.alloc) | (with_reducible apply Below.drew) | (with_reducible apply below_drewN) | (with_reducible refine Below.trans ?_ (Below.mono (by assumption) ?_)) | omega | (simp; done) | (simp; omega))))
      refine (cO.out _ B1.out).mono ?_
      rintro e w2 ⟨kk, s1, A, c, no, hgo, rfl, hlm, hL2⟩
      have R4 : GQ w2 W.heap.size p r u m l TA TN tc now room LA LN lc := (hL2.block HLT.out (j := W.heap.size) (by omega) (by simp; omega)).trans (three_at W _ _ _).1
      have R5 : w2.heap[W.heap.size + 1]? = some (.cells #[.int .i64 2, .int .i64 a, .int .i64 z] 43 (0, 0)) := (hL2.block HLT.out (j := W.heap.size + 1) (by omega) (by simp)).trans (three_at W _ _ _).2.1
      have R6 : w2.heap[W.heap.size + 1 + 1]? = some (.cells #[.int .i64 0, .int .i64 0, .int .i64 0, .int .i64 0, .int .i64 0, .slice none 0 0, .int .i64 0, .int .i64 0, .slice none 0 0] 35 (0, 0)) := (hL2.block HLT.out (j := W.heap.size + 1 + 1) (by omega) (by simp)).trans (three_at W _ _ _).2.2
      have hs2 : W.heap.size + 1 + 1 + 1 ≤ w2.heap.size := by have := hL2.size; simpa using this
      have savT : Sav (ShBlk h g b v) W w2 := by obtain ⟨v9, _, q2, _⟩ := hL2.ahead B1.out HLT.out; exact q2
      have LT2 := hidd (show Lie sendV 2 w2 w2.heap.size TA T from HP.out.tl.sav savT (by intro hl ad e; exact HTN.out (by rw [← HTL.out]; exact hl) ad e))
      have LL2 := hidd (show Lie sendV 2 w2 w2.heap.size LA L from HP.out.ll.sav savT (by intro hl ad e; exact HLN.out (by rw [← HLL.out]; exact hl) ad e))
      have L2 := hidd hL2
      have HGO := hidd hgo
      have HLM := hidd hlm
      have HR5 := hidd R5
      have HR6 := hidd R6
      have HS2 := hidd hs2
      generalize hKN : (L.take kk).length = KN at *
      have HKN := hidd hKN
      obtain ⟨x0, x1, x2, x3, x4, x5, x6, x7, x8⟩ := R4.cells
      have x9 : w2.cell? ⟨W.heap.size + 1, 1, none⟩ = some (.int .i64 a) := by simp [World.cell?, R5]
      clear hL2 hlm hgo R4 R5 R6 savT hKN
      go_wp2_with fail
      refine (cG.out _ (LT2.out.below (by first | exact Below.refl _ _ | exact Below.drew (Below.refl _ _))) (LL2.out.below (by first | exact Below.refl _ _ | exact Below.drew (Below.refl _ _)))).mono ?_
      rintro e w3 ⟨k2, s2, no2, T2, TA1, tc1, LA1, lc1, OA, oc, hgo2, hinv, hok, hlen, rfl, hT1, hTf, hL1, hLf, hlc, hOA, hb3⟩
      obtain ⟨rfl, rfl, rfl⟩ := HGO.out.uniq hgo2
      have B3 := hidd (show Below w2.heap.size w2 w3 from by first | exact hb3 | exact below_step (Below.drew (Below.refl _ _)) hb3)
      rw [HKN.out]
      have HT1 := hidd hT1
      have HTF := hidd (show 0 < T2.length → ∀ ad, TA1 = some ad → (TA1 = TA ∧ T2 = T) ∨ w2.heap.size ≤ ad.block from hTf)
      have HL1 := hidd hL1
      have HLF := hidd hLf
      have HLC := hidd hlc
      have HOA := hidd hOA
      have HINV := hidd hinv
      have HLEN := hidd hlen
      generalize hTN1 : T2.length = TN1 at *
      generalize hLN1 : (L.drop kk).length = LN1 at *
      have HTN1 := hidd hTN1
      have HLN1 := hidd hLN1
      obtain ⟨now1, hnow1⟩ : ∃ now1, s1.1 = now1 := ⟨_, rfl⟩
      rw [hnow1]
      have HNOW1 := hidd hnow1
      clear hb3 x0 x1 x2 x3 x4 x5 x6 x7 x8 x9 hs2 hgo2 hinv hok hlen hT1 hTf hL1 hLf hlc hOA hTN1 hLN1 hnow1
      go_wp2_with fail
      obtain ⟨W4, hW4⟩ : ∃ W4, w3.alloc (.cells #[.int .i64 p, .int .i64 r, .int .i64 u, .int .i64 m, .int .i64 l, .slice TA1 TN1 tc1, .int .i64 now1, .int .i64 room, .slice LA1 LN1 lc1] 35) = W4 := ⟨_, rfl⟩
      rw [hW4]
      have B34 := hidd (show Below w3.heap.size w3 W4 from by rw [← hW4]; exact below_new (Below.refl _ _) _)
      have B4 := hidd (show Below w2.heap.size w2 W4 from by rw [← hW4]; exact below_new B3.out _)
      have HS4 := hidd (show W.heap.size + 1 + 1 < w2.heap.size ∧ w2.heap.size ≤ w3.heap.size ∧ w2.heap.size ≤ W4.heap.size from ⟨by have := HS2.out; omega, B3.out.size, B4.out.size⟩)
      have G4 := hidd (show GQ W4 w3.heap.size p r u m l TA1 TN1 tc1 now1 room LA1 LN1 lc1 from by rw [← hW4]; exact World.alloc_heap_new w3 _)
      have F4 := hidd ((B4.out.block (W.heap.size + 1) (by have := HS2.out; omega)).trans HR5.out)
      have E4 := hidd ((B4.out.block (W.heap.size + 1 + 1) (by have := HS2.out; omega)).trans HR6.out)
      clear hW4
      have FI : Hid (∀ Y, Below W4.heap.size W4 Y → ∀ cs, LeftU (fun k => w2.heap.size ≤ k) h g b v p r u m l room s1 (L.drop kk) W (Y.setRow (W.heap.size + 1 + 1) cs)) := hidd (fun Y hb cs => LeftT.farV (q := W.heap.size + 1 + 1) (by omega) (by simp) B1.out L2.out HLT.out (B4.out.trans (hb.mono HS4.out.2.2)) (Sav.row (cs := cs) (Below.refl _ _)))
      have cSa : Hid (∀ Y, Below W4.heap.size W4 Y → Calls Try.prog 12 #[.slice A KN c, .slice OA KN oc] Y fun e w' => e = .returned (.bool true) ∧ ∃ q, w' = Y.drewN q) := hidd (fun Y hb => by
        have hk9 : (L.take kk).length ≤ 1000000000 := by rw [List.length_take]; have := LEN.out; have := HLL.out; omega
        have q := refSame_any A OA (L.take kk) (L.take kk) c oc hk9 hk9 Y (HLM.out.below (B4.out.trans (hb.mono HS4.out.2.2))) (HOA.out.below (B34.out.trans (hb.mono B34.out.size)))
        rw [HKN.out] at q
        refine q.mono ?_
        rintro e w' ⟨rfl, h9⟩
        exact ⟨by simp, h9⟩)
      refine wp_region_held_drew (S := (fun Y => DP w3.heap.size (W.heap.size + 1) p r u m l TA1 TN1 tc1 now1 room LA1 LN1 lc1 a z Y)) (by kernel_rfl) (DP.of G4.out F4.out) (fun hH => ?_)
      refine wpAnyH_take (i := 0) (v := ?ve0_1) (by (conv => lhs; simp only [List.getElem?_toArray, List.getElem?_cons_succ, List.getElem?_cons_zero])) (by kernel_rfl) (by kernel_rfl) (by kernel_rfl) ?hQ (Or.inl ⟨by rfl, ?hye0_1⟩) hH ?reste0_1
      case hQ => exact fun _ _ _ h => h
      case hye0_1 => (intro Y hY; obtain ⟨y0, y1, y2, y3, y4, y5, y6, y7, y8, y9, y10⟩ := hY; go_simp; try (with_reducible rfl))
      try simp only [Act.put, List.setIfInBounds_toArray, List.set_cons_zero, List.set_cons_succ]
      refine wpAnyH_take (i := 1) (v := ?ve1_2) (by (conv => lhs; simp only [List.getElem?_toArray, List.getElem?_cons_succ, List.getElem?_cons_zero])) (by kernel_rfl) (by kernel_rfl) (by kernel_rfl) ?hQ (Or.inl ⟨by rfl, ?hye1_2⟩) hH ?reste1_2
      case hQ => exact fun _ _ _ h => h
      case hye1_2 => (intro Y hY; obtain ⟨y0, y1, y2, y3, y4, y5, y6, y7, y8, y9, y10⟩ := hY; go_simp; try (with_reducible rfl))
      try simp only [Act.put, List.setIfInBounds_toArray, List.set_cons_zero, List.set_cons_succ]
      refine wpAnyH_take (i := 2) (v := ?ve2_3) (by (conv => lhs; simp only [List.getElem?_toArray, List.getElem?_cons_succ, List.getElem?_cons_zero])) (by kernel_rfl) (by kernel_rfl) (by kernel_rfl) ?hQ (Or.inl ⟨by rfl, ?hye2_3⟩) hH ?reste2_3
      case hQ => exact fun _ _ _ h => h
      case hye2_3 => (intro Y hY; obtain ⟨y0, y1, y2, y3, y4, y5, y6, y7, y8, y9, y10⟩ := hY; go_simp; try (with_reducible rfl))
      try simp only [Act.put, List.setIfInBounds_toArray, List.set_cons_zero, List.set_cons_succ]
      refine wpAnyH_take (i := 3) (v := ?ve3_4) (by (conv => lhs; simp only [List.getElem?_toArray, List.getElem?_cons_succ, List.getElem?_cons_zero])) (by kernel_rfl) (by kernel_rfl) (by kernel_rfl) ?hQ (Or.inl ⟨by rfl, ?hye3_4⟩) hH ?reste3_4
      case hQ => exact fun _ _ _ h => h
      case hye3_4 => (intro Y hY; obtain ⟨y0, y1, y2, y3, y4, y5, y6, y7, y8, y9, y10⟩ := hY; go_simp; try (with_reducible rfl))
      try simp only [Act.put, List.setIfInBounds_toArray, List.set_cons_zero, List.set_cons_succ]
      refine wpAnyH_take (i := 4) (v := ?ve4_5) (by (conv => lhs; simp only [List.getElem?_toArray, List.getElem?_cons_succ, List.getElem?_cons_zero])) (by kernel_rfl) (by kernel_rfl) (by kernel_rfl) ?hQ (Or.inl ⟨by rfl, ?hye4_5⟩) hH ?reste4_5
      case hQ => exact fun _ _ _ h => h
      case hye4_5 => (intro Y hY; obtain ⟨y0, y1, y2, y3, y4, y5, y6, y7, y8, y9, y10⟩ := hY; go_simp; try (with_reducible rfl))
      try simp only [Act.put, List.setIfInBounds_toArray, List.set_cons_zero, List.set_cons_succ]
      refine wpAnyH_take (i := 5) (v := ?ve5_6) (by (conv => lhs; simp only [List.getElem?_toArray, List.getElem?_cons_succ, List.getElem?_cons_zero])) (by kernel_rfl) (by kernel_rfl) (by kernel_rfl) ?hQ (Or.inl ⟨by rfl, ?hye5_6⟩) hH ?reste5_6
      case hQ => exact fun _ _ _ h => h
      case hye5_6 => (intro Y hY; obtain ⟨y0, y1, y2, y3, y4, y5, y6, y7, y8, y9, y10⟩ := hY; go_simp; try (with_reducible rfl))
      try simp only [Act.put, List.setIfInBounds_toArray, List.set_cons_zero, List.set_cons_succ]
      refine wpAnyH_take (i := 6) (v := ?ve6_7) (by (conv => lhs; simp only [List.getElem?_toArray, List.getElem?_cons_succ, List.getElem?_cons_zero])) (by kernel_rfl) (by kernel_rfl) (by kernel_rfl) ?hQ (Or.inl ⟨by rfl, ?hye6_7⟩) hH ?reste6_7
      case hQ => exact fun _ _ _ h => h
      case hye6_7 => (intro Y hY; obtain ⟨y0, y1, y2, y3, y4, y5, y6, y7, y8, y9, y10⟩ := hY; go_simp; try (with_reducible rfl))
      try simp only [Act.put, List.setIfInBounds_toArray, List.set_cons_zero, List.set_cons_succ]
      refine wpAnyH_take (i := 7) (v := ?ve7_8) (by (conv => lhs; simp only [List.getElem?_toArray, List.getElem?_cons_succ, List.getElem?_cons_zero])) (by kernel_rfl) (by kernel_rfl) (by kernel_rfl) ?hQ (Or.inl ⟨by rfl, ?hye7_8⟩) hH ?reste7_8
      case hQ => exact fun _ _ _ h => h
      case hye7_8 => (intro Y hY; obtain ⟨y0, y1, y2, y3, y4, y5, y6, y7, y8, y9, y10⟩ := hY; go_simp; try (with_reducible rfl))
      try simp only [Act.put, List.setIfInBounds_toArray, List.set_cons_zero, List.set_cons_succ]
      refine wpAnyH_ready (rs := [8]) (by kernel_rfl) (by simp) ?_
      refine AllReadyH.cons (by (conv => lhs; simp only [List.getElem?_toArray, List.getElem?_cons_succ, List.getElem?_cons_zero])) (fun K hK => ?_) AllReadyH.nil
      go_simp
      go_at_call 12; refine (cSa.out _ (Below.drew (Below.refl _ _))).mono ?_; rintro e w5 ⟨rfl, q, hw5⟩
      have BW : Below W4.heap.size W4 w5 := by rw [hw5]; exact below_drewN (Below.drew (Below.refl _ _)) _
      have G5 := hidd (show GQ w5 w3.heap.size p r u m l TA1 TN1 tc1 now1 room LA1 LN1 lc1 from (BW.block _ (by have := Array.getElem?_eq_some_iff.1 G4.out; exact this.1)).trans G4.out)
      have F5 := hidd ((BW.block (W.heap.size + 1) (by have := HS4.out; omega)).trans F4.out)
      have hrow := (BW.block (W.heap.size + 1 + 1) (by have := HS4.out; omega)).trans E4.out
      have FIN := hidd (fun cs => FI.out _ BW cs)
      have FB := hidd (fun k (hk : k < W4.heap.size) => BW.block k hk)
      have FS := hidd BW.size
      refine hK.out _ _ (DP.of G5.out F5.out) (fun hH1 => ?_)
      clear hK hH hw5
      try simp only [Act.put, List.setIfInBounds_toArray, List.set_cons_zero, List.set_cons_succ]
      refine wpAnyH_take (i := 9) (v := ?ve9_9) (by (conv => lhs; simp only [List.getElem?_toArray, List.getElem?_cons_succ, List.getElem?_cons_zero])) (by kernel_rfl) (by kernel_rfl) (by kernel_rfl) ?hQ (Or.inl ⟨by rfl, ?hye9_9⟩) hH1 ?reste9_9
      case hQ => exact fun _ _ _ h => h
      case hye9_9 => (intro Y hY; obtain ⟨y0, y1, y2, y3, y4, y5, y6, y7, y8, y9, y10⟩ := hY; go_simp; try (with_reducible rfl))
      try simp only [Act.put, List.setIfInBounds_toArray, List.set_cons_zero, List.set_cons_succ]
      refine wpAnyH_ready (rs := [10]) (by kernel_rfl) (by simp) ?_
      refine AllReadyH.cons (by (conv => lhs; simp only [List.getElem?_toArray, List.getElem?_cons_succ, List.getElem?_cons_zero])) (fun K hK => ?_) AllReadyH.nil
      rw [if_pos (by rfl)]
      refine wp_store_row 35 (.tmp 6) (.tmp 53) (by rfl) (W.heap.size + 1 + 1) #[.int .i64 p, .int .i64 r, .int .i64 u, .int .i64 m, .int .i64 l, .slice TA1 TN1 tc1, .int .i64 now1, .int .i64 room, .slice LA1 LN1 lc1] (by rfl) (by rfl) _ _ hrow (by kernel_rfl) (by rfl) (by simp [Value.oneCell']) ?_
      have hrow2 := setRow_heap w5 (W.heap.size + 1 + 1) _ #[.int .i64 p, .int .i64 r, .int .i64 u, .int .i64 m, .int .i64 l, .slice TA1 TN1 tc1, .int .i64 now1, .int .i64 room, .slice LA1 LN1 lc1] _ _ hrow
      refine hK.out _ _ (DP.of ((setRow_other w5 _ _ _ (by have := HS4.out; omega)).trans G5.out) ((setRow_other w5 _ _ _ (by omega)).trans F5.out)) (fun hH2 => ?_)
      clear hK hH1 hrow
      try simp only [Act.put]
      refine wpAnyH_take (i := 11) (v := ?ve11_10) (by (conv => lhs; simp only [List.getElem?_toArray, List.getElem?_cons_succ, List.getElem?_cons_zero])) (by kernel_rfl) (by kernel_rfl) (by kernel_rfl) ?hQ (Or.inl ⟨by rfl, ?hye11_10⟩) hH2 ?reste11_10
      case hQ => exact fun _ _ _ h => h
      case hye11_10 => (intro Y hY; obtain ⟨y0, y1, y2, y3, y4, y5, y6, y7, y8, y9, y10⟩ := hY; go_simp; try (with_reducible rfl))
      try simp only [Act.put, List.setIfInBounds_toArray, List.set_cons_zero, List.set_cons_succ]
      refine wpAnyH_take (i := 12) (v := ?ve12_11) (by (conv => lhs; simp only [List.getElem?_toArray, List.getElem?_cons_succ, List.getElem?_cons_zero])) (by kernel_rfl) (by kernel_rfl) (by kernel_rfl) ?hQ (Or.inl ⟨by rfl, ?hye12_11⟩) hH2 ?reste12_11
      case hQ => exact fun _ _ _ h => h
      case hye12_11 => (intro Y hY; obtain ⟨y0, y1, y2, y3, y4, y5, y6, y7, y8, y9, y10⟩ := hY; go_simp; try (with_reducible rfl))
      try simp only [Act.put, List.setIfInBounds_toArray, List.set_cons_zero, List.set_cons_succ]
      have FIN2 := hidd (FIN.out #[.int .i64 p, .int .i64 r, .int .i64 u, .int .i64 m, .int .i64 l, .slice TA1 TN1 tc1, .int .i64 now1, .int .i64 room, .slice LA1 LN1 lc1])
      have FB2 := hidd (fun k (hk : k < W4.heap.size) (hk3 : k ≠ W.heap.size + 1 + 1) => (setRow_other w5 (W.heap.size + 1 + 1) k #[.int .i64 p, .int .i64 r, .int .i64 u, .int .i64 m, .int .i64 l, .slice TA1 TN1 tc1, .int .i64 now1, .int .i64 room, .slice LA1 LN1 lc1] hk3).trans (FB.out k hk))
      have FS2 := hidd (show W4.heap.size ≤ (w5.setRow (W.heap.size + 1 + 1) #[.int .i64 p, .int .i64 r, .int .i64 u, .int .i64 m, .int .i64 l, .slice TA1 TN1 tc1, .int .i64 now1, .int .i64 room, .slice LA1 LN1 lc1]).heap.size from by rw [setRow_size]; exact FS.out)
      have ROW := hidd (show GQ _ _ p r u m l TA1 TN1 tc1 now1 room LA1 LN1 lc1 from hrow2)
      clear FIN FB FS hrow2
      obtain ⟨wz, hwz⟩ : ∃ wz : World, w5.setRow (W.heap.size + 1 + 1) #[.int .i64 p, .int .i64 r, .int .i64 u, .int .i64 m, .int .i64 l, .slice TA1 TN1 tc1, .int .i64 now1, .int .i64 room, .slice LA1 LN1 lc1] = wz := ⟨_, rfl⟩
      rw [hwz] at FIN2 FB2 FS2 ROW hH2
      rw [hwz]
      clear hwz
      refine wpAnyH_done (by kernel_rfl) (?_) _
      clear hH2
      have FIN := FIN2
      obtain ⟨d0, d1, d2, d3, d4, d5, d6, d7, d8⟩ := ROW.out.cells
      go_wp2_with fail
      refine bodyPost_ret (v := .tuple #[.agg #[.int .i64 p, .int .i64 r, .int .i64 u, .int .i64 m, .int .i64 l, .slice TA1 TN1 tc1, .int .i64 now1, .int .i64 room, .slice LA1 LN1 lc1], .slice A KN c, .bool true]) (by simp [results, Try.results8, go_sem, d0, d1, d2, d3, d4, d5, d6, d7, d8]) rfl ?_
      rw [← HPO.out]
      obtain ⟨v', hS', hsv, hn', hnew⟩ := FIN.out
      have hTlt : 0 < T.length → ∀ ad, TA = some ad → ad.block < W.heap.size := fun hl ad e => by
        obtain ⟨ad', e', hB, _⟩ := HP.out.tl hl
        rw [e] at e'; cases e'; exact hB
      have hLlt : 0 < L.length → ∀ ad, LA = some ad → ad.block < W.heap.size := fun hl ad e => by
        obtain ⟨ad', e', hB, _⟩ := HP.out.ll hl
        rw [e] at e'; cases e'; exact hB
      have tn : ∀ hl : 0 < T.length, ∀ ad, TA = some ad → ¬ ShBlk h g b v ad.block := fun hl ad e => HTN.out (by rw [← HTL.out]; exact hl) ad e
      have ln : ∀ hl : 0 < L.length, ∀ ad, LA = some ad → ¬ ShBlk h g b v ad.block := fun hl ad e => HLN.out (by rw [← HLL.out]; exact hl) ad e
      have hsm := HP.out.sm
      have hd0 : 0 < (L.drop kk).length → 0 < L.length := fun hl => by rw [List.length_drop] at hl; omega
      have wzb : ∀ k, k < W4.heap.size → k ≠ W.heap.size + 1 + 1 → wz.heap[k]? = W4.heap[k]? := FB2.out
      have h34 := B34.out.size
      refine ⟨s1, T2, L.drop kk, TA1, tc1, LA1, lc1, A, KN, c, by rw [HTN1.out, HLN1.out, HNOW1.out]; rfl, ⟨⟨g, b, v', hS', fun j hj => ?_, fun hl ad e hb => ?_, fun hl ad e hb => ?_, fun k hF hb => HFN.out k hF (hn' k (HP.out.fw k hF).2 hb)⟩, HT1.out.blk (by have := FS2.out; omega) (fun hl ad e => ?_), HL1.out.blk (by have := FS2.out; omega) (fun hl ad e => ?_), HINV.out, by rw [HLN1.out]; exact HLC.out, ?_, HP.out.bel.trans (hsv.below HP.out.bsz HGE.out), Nat.le_trans HP.out.bsz hsv.size, fun k hF hl ad e => ?_, fun k hF hl ad e => ?_, fun k hF => ⟨(HP.out.fw k hF).1, Nat.lt_of_lt_of_le (HP.out.fw k hF).2 hsv.size⟩⟩, fun k hF => hsv.block k (HP.out.fw k hF).2 (HFN.out k hF)⟩
      · rcases Nat.lt_or_ge j W.heap.size with q | q
        · exact HGE.out j (hn' j q hj)
        · exact Nat.le_trans HP.out.bsz q
      · rcases HTF.out (by rw [← HTN1.out]; exact hl) ad e with ⟨q1, q2⟩ | q
        · rw [q1] at e
          rw [q2] at hl
          exact tn hl ad e (hn' _ (hTlt hl ad e) hb)
        · exact hnew _ q hb
      · obtain ⟨a0, q1, q2⟩ := HLF.out (by rw [← HLN1.out]; exact hl) ad e
        rw [q2] at hb
        exact ln (hd0 hl) a0 q1 (hn' _ (hLlt (hd0 hl) a0 q1) hb)
      · obtain ⟨ad', e', hB, _⟩ := HT1.out hl
        rw [e] at e'; cases e'
        refine (wzb _ (by omega) ?_).trans (B34.out.block _ hB)
        rcases HTF.out (by rw [← HTN1.out]; exact hl) ad e with ⟨q1, q2⟩ | q
        · rw [q1] at e
          rw [q2] at hl
          have := hTlt hl ad e
          omega
        · have := HS4.out.1
          omega
      · obtain ⟨ad', e', hB, _⟩ := HL1.out hl
        rw [e] at e'; cases e'
        refine (wzb _ (by omega) ?_).trans (B34.out.block _ hB)
        obtain ⟨a0, q1, q2⟩ := HLF.out (by rw [← HLN1.out]; exact hl) ad e
        have := hLlt (hd0 hl) a0 q1
        omega
      · rw [HTN1.out, HLN1.out]
        have := HLEN.out
        rw [HTL.out, HLL.out] at hsm
        omega
      · have := (HP.out.fw k hF).2
        have := HS4.out.1
        rcases HTF.out (by rw [← HTN1.out]; exact hl) ad e with ⟨q1, q2⟩ | q
        · rw [q1] at e
          rw [q2] at hl
          exact HP.out.ft k hF hl ad e
        · omega
      · obtain ⟨a0, q1, q2⟩ := HLF.out (by rw [← HLN1.out]; exact hl) ad e
        rw [q2]
        exact HP.out.fl k hF (hd0 hl) a0 q1
    · go_enter Try.func8, Try.ntmps8
      go_wp2_with fail
      refine bodyPost_ret (v := .tuple #[.agg #[.int .i64 p, .int .i64 r, .int .i64 u, .int .i64 m, .int .i64 l, .slice TA TN tc, .int .i64 now, .int .i64 room, .slice LA LN lc], .slice none 0 0, .bool true]) (by simp [results, Try.results8, go_sem]) rfl ?_
      rw [← HPO.out]
      refine ⟨s, T, L, TA, tc, LA, lc, none, 0, 0, by rw [HTL.out, HLL.out, HNOW.out]; rfl, (fun q => ⟨q.sh, q.tl, q.ll, q.inv, q.lc, Nat.le_succ_of_le q.sm, q.bel, q.bsz, q.ft, q.fl, q.fw⟩) (HP.out.below ?hb), fun k hF => Below.block ?hb k (HP.out.fw k hF).2⟩
      case hb => (repeat' (first | (with_reducible exact Below.refl _ _) | (with_reducible assumption) | (with_reducible apply Below.setCell) | (with_reducible apply Below.alloc) | (with_reducible apply Below.drew) | (with_reducible apply below_drewN) | (with_reducible refine Below.trans ?_ (Below.mono (by assumption) ?_)) | omega | (simp; done) | (simp; omega)))
end Go.Proofs.Ythaiphkmkchhoaa

/- Shapers: ShaperNil's walk. -/
namespace Go.Proofs.Ythaiphkmkchhoaa
open Go.RowKit Go.Sort
set_option linter.unusedVariables false
attribute [local go_sem] Oper.semAt_some
theorem eqIn_nilFunc13 (f : Fn) (fs cs : Array Value) (d : Nat) (w : World) : (Op.equalIn (d + 1) 72 (.func f fs cs) .nilFunc).run Try.prog w = .ok false w := by
  simp [Op.equalIn, run_underlying Try.underlying72]
theorem eq_nilFunc13 (f : Fn) (fs cs : Array Value) (w : World) : (binOp .eql 72 (.func f fs cs) .nilFunc).run Try.prog w = .ok (.bool false) w := by
  simp only [binOp]
  simp [Op.equal, Op.maxDepth, eqIn_nilFunc13 f fs cs 9999 w]
theorem SeqV.empty {α : Type} {F : Fence} {n : Nat} {P : Program} {g : Nat} {lb : Array Value} {encs : α → Array Value} {encs' : Empty → Array Value} {Rd : World → Prop} (h : SeqV F n P g lb encs ([] : List α) Rd) : SeqV F n P g lb encs' ([] : List Empty) Rd := fun l J Jx W h1 h2 _ h4 => h l J Jx W h1 h2 (fun k X hk => absurd hk (by simp)) h4
/-- the law's own boxes: the packet, what is answered, a shaper of nothing. -/
structure NilK (w : World) (Z : Nat) (i z : Int) (W : World) : Prop where
  x0 : W.cell? ⟨w.heap.size, 0, none⟩ = some (.int .i64 i)
  x1 : W.cell? ⟨w.heap.size, 1, none⟩ = some (.int .i64 z)
  r0 : W.cell? ⟨w.heap.size + 1, 0, none⟩ = some (.bool false)
  r1 : W.frozen? ⟨w.heap.size + 1, 0, none⟩ = false
  z0 : PtrAt W Z none
  bel : Below w.heap.size w W
theorem NilK.below {w W W' : World} {Z : Nat} {i z : Int} (h : NilK w Z i z W) (hb : Below W.heap.size W W') : NilK w Z i z W' :=
  ⟨(hb.cell (p := ⟨w.heap.size, 0, none⟩) (World.block_lt_of_cell? W _ h.x0)).trans h.x0, (hb.cell (p := ⟨w.heap.size, 1, none⟩) (World.block_lt_of_cell? W _ h.x1)).trans h.x1, (hb.cell (p := ⟨w.heap.size + 1, 0, none⟩) (World.block_lt_of_cell? W _ h.r0)).trans h.r0, (hb.frozen (p := ⟨w.heap.size + 1, 0, none⟩) (World.block_lt_of_cell? W _ h.r0)).trans h.r1, (hb.cell (p := ⟨Z, 0, none⟩) (World.block_lt_of_cell? W _ h.z0)).trans h.z0, below_step h.bel hb⟩
end Go.Proofs.Ythaiphkmkchhoaa

/- Shapers: does what waits stand with the document's. -/
namespace Go.Proofs.Ythaiphkmkchhoaa
open Go.RowKit Go.Sort
set_option linter.unusedVariables false
attribute [local go_sem] Oper.semAt_some
/-- what a round keeps: how many it has gone over. -/
structure SI (W3 : World) (NB : Nat) (k : Nat) (W : World) : Prop where
  c : W.cell? ⟨NB, 0, none⟩ = some (.int .i64 (k : Int))
  f : W.frozen? ⟨NB, 0, none⟩ = false
  sv : Sav (fun j => j = NB) W3 W
theorem SI.rng {W3 W Y : World} {NB k : Nat} (h : SI W3 NB k W) (hN : NB < W3.heap.size) (hr : Rng W3.heap.size W Y) : SI W3 NB k Y := by
  have hs := h.sv.size
  have e : Y.heap[NB]? = W.heap[NB]? := hr.block NB (by omega) (by omega) (by omega)
  exact ⟨(World.cell?_of_block (a := ⟨NB, 0, none⟩) e).trans h.c, (World.frozen?_of_block (a := ⟨NB, 0, none⟩) e).trans h.f, ⟨hr.os.trans h.sv.os, hr.tape.trans h.sv.tape, hr.output.trans h.sv.output, Nat.le_trans h.sv.size hr.size, fun j hj hn => (hr.block j (by omega) (by omega) (by omega)).trans (h.sv.block j hj hn)⟩⟩
def SN (N D : Nat) (k : Int) (p r u m l : Int) (TA : Option Addr) (tn tc : Nat) (now room : Int) (LA : Option Addr) (ln lc : Nat) (W : World) : Prop := W.cell? ⟨N, 0, none⟩ = some (.int .i64 k) ∧ W.cell? ⟨D, 0, none⟩ = some (.int .i64 p) ∧ W.cell? ⟨D, 1, none⟩ = some (.int .i64 r) ∧ W.cell? ⟨D, 2, none⟩ = some (.int .i64 u) ∧ W.cell? ⟨D, 3, none⟩ = some (.int .i64 m) ∧ W.cell? ⟨D, 4, none⟩ = some (.int .i64 l) ∧ W.cell? ⟨D, 5, none⟩ = some (.slice TA tn tc) ∧ W.cell? ⟨D, 6, none⟩ = some (.int .i64 now) ∧ W.cell? ⟨D, 7, none⟩ = some (.int .i64 room) ∧ W.cell? ⟨D, 8, none⟩ = some (.slice LA ln lc)
theorem SN.far {N D : Nat} {k : Int} {p r u m l : Int} {TA : Option Addr} {tn tc : Nat} {now room : Int} {LA : Option Addr} {ln lc : Nat} {W : World} {j : Nat} (h : SN N D k p r u m l TA tn tc now room LA ln lc W) (hj : j ≠ N ∧ j ≠ D) (v : Value) : SN N D k p r u m l TA tn tc now room LA ln lc (W.setCell ⟨j, 0, none⟩ v) := by
  obtain ⟨h0, h1, h2, h3, h4, h5, h6, h7, h8, h9⟩ := h
  have e : ∀ (b o : Nat), b ≠ j → (W.setCell ⟨j, 0, none⟩ v).cell? ⟨b, o, none⟩ = W.cell? ⟨b, o, none⟩ := fun b o hb => World.cell?_of_block (a := ⟨b, o, none⟩) (Below.heap_setCell _ _ _ _ hb)
  refine ⟨(e N 0 (fun q => hj.1 q.symm)).trans h0, (e D 0 (fun q => hj.2 q.symm)).trans h1, (e D 1 (fun q => hj.2 q.symm)).trans h2, (e D 2 (fun q => hj.2 q.symm)).trans h3, (e D 3 (fun q => hj.2 q.symm)).trans h4, (e D 4 (fun q => hj.2 q.symm)).trans h5, (e D 5 (fun q => hj.2 q.symm)).trans h6, (e D 6 (fun q => hj.2 q.symm)).trans h7, (e D 7 (fun q => hj.2 q.symm)).trans h8, (e D 8 (fun q => hj.2 q.symm)).trans h9⟩
set_option maxRecDepth 100000 in
set_option maxHeartbeats 8000000 in
theorem sameP {F : Nat → Prop} {B : Nat} {w0 : World} {h : Nat} {p r u m l room : Int} {s : BM.St} {T L : List (Int × Int)} {TA LA : Option Addr} {lc n : Nat} {w : World} (H : PP F B w0 h p r u m l room s T L TA LA lc n w) (tc : Nat) : Calls Try.prog 9 #[.pointer (some ⟨h, 0, none⟩), gS p r u m l TA T.length tc s.1 room LA L.length lc] w fun e w' => e = .returned (.bool true) ∧ Below w.heap.size w w' := by
  obtain ⟨g, b, v, hS, -, -, hLn, -⟩ := H.sh
  have hq := fun f fs cs w => eq_nilFunc13 f fs cs w
  obtain ⟨AV, cv, hv, hvc, hvm, hvl⟩ := hS.q.lie
  subst hv
  have HH := hidd hS
  have LEN := hidd hS.len
  have SZ := hidd (show (∀ x ∈ L, 0 ≤ x.2) ∧ sumB L ≤ 1000000000000 from ⟨fun x hx => by have := hS.sz x hx; have := rightB_iff hS.rt; omega, by have := hS.sm; have := hS.r1; omega⟩)
  have LL := hidd H.ll
  have VL := hidd hvl
  have cA := hidd (fun Y (hb : Below w.heap.size w Y) => all_any (HH.out.below hb))
  have cBy := hidd (fun Y (hb : Below w.heap.size w Y) => bytes_any (HH.out.below hb))
  have cRy := hidd (fun Y (hb : Below w.heap.size w Y) => refBytes_any p r u m l TA T.length tc s.1 room LA L lc (by have := LEN.out; omega) SZ.out.1 SZ.out.2 Y (LL.out.below hb))
  unfold gS at cRy ⊢
  generalize s.1 = now at *
  generalize T.length = TN at *
  have hLNe : ∃ LN, L.length = LN := ⟨_, rfl⟩
  obtain ⟨LN, hLN⟩ := hLNe
  rw [hLN] at cRy cA
  rw [hLN]
  have HLN := hidd hLN
  obtain ⟨W1, hW1⟩ : ∃ W1, (w.alloc (.cells #[.int .i64 p, .int .i64 r, .int .i64 u, .int .i64 m, .int .i64 l, .slice TA TN tc, .int .i64 now, .int .i64 room, .slice LA LN lc] 35)).alloc (.cells #[.bool false] 4) = W1 := ⟨_, rfl⟩
  have HW := hidd hW1
  have B1 := hidd (show Below w.heap.size w W1 from by rw [← hW1]; (repeat' (first | (with_reducible exact Below.refl _ _) | (with_reducible assumption) | (with_reducible apply Below.setCell) | (with_reducible apply Below.alloc) | (with_reducible apply Below.drew) | (with_reducible apply below_drewN) | (with_reducible refine Below.trans ?_ (Below.mono (by assumption) ?_)) | omega | (simp; done) | (simp; omega))))
  have HZ1 := hidd (show W1.heap.size = w.heap.size + 2 from by rw [← hW1]; simp)
  have G1 := hidd (show GQ W1 w.heap.size p r u m l TA TN tc now room LA LN lc from by rw [← hW1]; exact (two_at w _ _).1)
  have R1 := hidd (show W1.heap[w.heap.size + 1]? = some (.cells #[.bool false] 4 (0, 0)) from by rw [← hW1]; exact (two_at w _ _).2)
  clear H hS hLn hvl hW1 hLN
  refine (callsIn_wide (n := 6)).1 ?_
  refine callsIn_of_wp_marks Try.func9 rfl trivial ?_ rfl
  simp only [Try.ntmps9, List.size_toArray, List.length_cons, List.length_nil, Nat.reduceAdd, Nat.reduceSub, Array.replicate_succ, Array.replicate_zero, List.push_toArray, List.append_toArray, List.nil_append, List.cons_append]
  gi_wp2_with fail
  rw [HW.out]
  refine ⟨trivial, ?_⟩; gi_at_call 24; refine (callsIn_wide.2 (cA.out _ B1.out)).mono ?_; rintro e w2 ⟨rfl, rfl⟩
  gi_wp2_with fail
  obtain ⟨Q, hQ⟩ : ∃ Q, W1.heap.size = Q := ⟨_, rfl⟩
  obtain ⟨NB, hNB⟩ : ∃ NB, Q + 1 = NB := ⟨_, rfl⟩
  obtain ⟨W3, hW3⟩ : ∃ W3, (W1.alloc (.cells #[.slice AV LN cv] 33)).alloc (.cells #[.int .i64 0] 3) = W3 := ⟨_, rfl⟩
  have B3 := hidd (show Below w.heap.size w W3 from by rw [← hW3]; exact below_new (below_new B1.out _) _)
  have B13 := hidd (show Below W1.heap.size W1 W3 from by rw [← hW3]; (repeat' (first | (with_reducible exact Below.refl _ _) | (with_reducible assumption) | (with_reducible apply Below.setCell) | (with_reducible apply Below.alloc) | (with_reducible apply Below.drew) | (with_reducible apply below_drewN) | (with_reducible refine Below.trans ?_ (Below.mono (by assumption) ?_)) | omega | (simp; done) | (simp; omega))))
  have QC := hidd (show W3.heap[Q]? = some (.cells #[.slice AV LN cv] 33 (0, 0)) from by rw [← hW3, ← hQ]; exact (two_at W1 _ _).1)
  have NC := hidd (show W3.heap[NB]? = some (.cells #[.int .i64 0] 3 (0, 0)) from by rw [← hW3, ← hNB, ← hQ]; exact (two_at W1 _ _).2)
  have HS3 := hidd (show W3.heap.size = NB + 1 from by rw [← hW3, ← hNB, ← hQ]; simp)
  have HQ := hidd hQ
  have HNB := hidd hNB
  try simp only [World.size_alloc]
  rw [hW3, hQ, hNB]
  clear hW3 hQ hNB
  have hmix : Try.prog.follows .mixedOrders = true := by kernel_rfl
  refine wpIn_rangeFunc_V (L := L) rfl (by omega) (gf := 54) (lb := #[.pointer (some ⟨Q, 0, none⟩)]) rfl trivial (enters_of Try.func54 (by kernel_rfl) rfl)
    (vals1_in (6 - 1) (by omega) Q AV cv L (by have := LEN.out; omega)) (fun _ => rfl)
    (SI W3 NB) (fun _ _ _ => False)
    ?read ?own ?ownx ?start (fun x => .cells #[.int .i64 x.1, .int .i64 x.2] 41)
    (fun x q => { tmps := #[.pointer (some ⟨h, 0, none⟩), .agg #[.int .i64 p, .int .i64 r, .int .i64 u, .int .i64 m, .int .i64 l, .slice TA TN tc, .int .i64 now, .int .i64 room, .slice LA LN lc], undef, .pointer (some ⟨w.heap.size, 0, none⟩), .pointer (some ⟨w.heap.size + 1, 0, none⟩), .func (.func 54) #[] #[.pointer (some ⟨Q, 0, none⟩)], .pointer (some ⟨NB, 0, none⟩), .pointer (some ⟨q, 0, none⟩), .pointer (some ⟨h, 0, none⟩), .func (.func 54) #[] #[.pointer (some ⟨Q, 0, none⟩)], .func (.func 54) #[] #[.pointer (some ⟨Q, 0, none⟩)], .bool false, .func (.func 54) #[] #[.pointer (some ⟨Q, 0, none⟩)], .agg #[.int .i64 x.1, .int .i64 x.2], undef, undef, undef, undef, undef, undef, undef, undef, undef, undef, undef, undef, undef, undef, undef, undef, undef, undef, undef, undef, undef, undef, undef, undef, undef, undef, undef, undef], defers := [] })
    ?assign ?body ?done ?stop
  case read =>
    intro k W hI
    have h1 := HS3.out
    have h2 := HNB.out
    refine ⟨?_, (VL.out.below B3.out).sav hI.sv (fun hl ad e e2 => ?_)⟩
    · have q := (hI.sv.block Q (by omega) (by omega)).trans QC.out
      rw [HLN.out]
      simp [World.cell?, q]
    · obtain ⟨ad', e', hB, _⟩ := VL.out hl
      rw [e] at e'
      cases e'
      have := HZ1.out
      have := HQ.out
      omega
  case own => exact fun k W Y hI hr => hI.rng (by have := HS3.out; omega) hr
  case ownx => exact fun c k W Y hI hr => hI
  case start => exact ⟨by simp [World.cell?, NC.out], by simp [World.frozen?, NC.out], Sav.refl _ _⟩
  case assign =>
    rintro l' k x W K hI hK
    unfold agW
    gi_wp2
    exact hK
  case body =>
    rintro l' k q W hk hq' hx hI
    have h1 := HS3.out
    have h2 := HNB.out
    have h3 := HQ.out
    have h4 := HZ1.out
    have hws := hI.sv.size
    have hkc : W.cell? ⟨NB, 0, none⟩ = some (.int .i64 (k : Int)) := hI.c
    have hkf : W.frozen? ⟨NB, 0, none⟩ = false := hI.f
    have gq : GQ W w.heap.size p r u m l TA TN tc now room LA LN lc := (hI.sv.block _ (by omega) (by omega)).trans ((B13.out.block _ (by omega)).trans G1.out)
    obtain ⟨-, -, -, -, -, -, -, -, g8⟩ := gq.cells
    have lk := LL.out.below B3.out
    have llw : Lie sendV 2 W W.heap.size LA L := lk.sav hI.sv (fun hl ad e e2 => by
      obtain ⟨ad', e', hB, _⟩ := LL.out hl
      rw [e] at e'; cases e'; omega)
    obtain ⟨ad, rfl, hadb, c0, c1⟩ := llw.send k hk
    have x0 : W.cell? ⟨q, 0, none⟩ = some (.int .i64 L[k].1) := by simp [World.cell?, hx]
    have x1 : W.cell? ⟨q, 1, none⟩ = some (.int .i64 L[k].2) := by simp [World.cell?, hx]
    have eqq := fun W => wait_run L[k].1 L[k].2 L[k].1 L[k].2 W
    simp only [decide_true] at eqq
    have hkl : k < LN := by rw [← HLN.out]; exact hk
    have HI := hidd hI
    have HKL := hidd hkl
    have z0 : (0 : Int) ≤ (k : Int) := by omega
    have z1 : ¬ (LN : Int) ≤ (k : Int) := by omega
    have z2 : (k : Int) < (LN : Int) := by omega
    have z5 : decide (LN ≤ k) = false := decide_eq_false (by omega)
    have hwr : IntKind.i64.wrap ((k : Int) + 1) = (k : Int) + 1 := by rw [IntKind.wrap_i64]; have := LEN.out; have := HLN.out; omega
    generalize L[k].1 = a0 at *
    generalize L[k].2 = a1 at *
    clear hx llw lk gq hI hkl
    gi_wp2_with fail
    refine Tp.wpIn_quiet_round (F := Fence.wide) rfl hmix (by kernel_rfl) rfl ?_
    repeat (gi_big_quiet_step (fail))
    refine wpQuietIn_nil ?_
    intro _ hw'
    obtain ⟨nq, hw''⟩ := hw'
    subst hw''
    obtain ⟨X1, hX1⟩ : ∃ X1, W.drewN nq = X1 := ⟨_, rfl⟩
    rw [hX1]
    have hcx : X1.cell? ⟨NB, 0, none⟩ = some (.int .i64 (k : Int)) := by rw [← hX1]; exact hkc
    have hfx : X1.frozen? ⟨NB, 0, none⟩ = false := by rw [← hX1]; exact hkf
    have SD : Sav (fun j => j = NB) W X1 := by rw [← hX1]; exact ⟨rfl, rfl, rfl, Nat.le_refl _, fun _ _ _ => rfl⟩
    have SX : Hid (Sav (fun j => j = NB) W3 X1) := hidd (HI.out.sv.tr SD)
    have HX : Hid (∀ j : Nat, X1.heap[j]? = W.heap[j]?) := hidd (fun j => by rw [← hX1]; rfl)
    clear hX1 hkc hkf c0 c1 x0 x1 g8 eqq SD
    gi_wp2_with fail
    refine ⟨(Below.heap_setCell _ _ _ _ (by show _ ≠ NB; omega)).trans (HX.out _), (Below.heap_setCell _ _ _ _ (by show _ ≠ NB; omega)).trans (HX.out _), ⟨?_, ?_, SX.out.tr (Sav.setCell (S := fun j => j = NB) (p := ⟨NB, 0, none⟩) rfl _ _)⟩⟩
    · exact World.cell?_setCell_same' X1 ⟨NB, 0, none⟩ _ (by rw [hcx]; rfl)
    · simpa [go_sem] using hfx
  case stop => exact fun D c' k W _ _ hx _ => hx.elim
  case done =>
    rintro D W hD hI hK
    subst hD
    have h1 := HS3.out
    have h2 := HNB.out
    have h3 := HQ.out
    have h4 := HZ1.out
    have HLO := hidd (show w.heap.size + 1 < NB ∧ NB < W3.heap.size ∧ W3.heap.size ≤ W.heap.size from ⟨by omega, by omega, hI.sv.size⟩)
    have HBW := hidd (B3.out.trans (hI.sv.below (b := w.heap.size) (by omega) (fun j e => by omega)))
    have hIc := hI.c
    rw [HLN.out] at hIc
    have gq : GQ W w.heap.size p r u m l TA TN tc now room LA LN lc := (hI.sv.block _ (by omega) (by omega)).trans ((B13.out.block _ (by omega)).trans G1.out)
    have SNK : Hid (∀ Y, Below W.heap.size W Y → SN NB w.heap.size (LN : Int) p r u m l TA TN tc now room LA LN lc Y) := hidd (fun Y hb => ⟨(hb.cell (p := ⟨NB, 0, none⟩) (by have := HLO.out; show NB < _; omega)).trans hIc, (show GQ Y w.heap.size p r u m l TA TN tc now room LA LN lc from (hb.block _ (by have := HLO.out; omega)).trans gq).cells⟩)
    have hr1 : W.heap[w.heap.size + 1]? = some (.cells #[.bool false] 4 (0, 0)) := (hI.sv.block _ (by omega) (by omega)).trans ((B13.out.block _ (by omega)).trans R1.out)
    have RC := hidd (show W.cell? ⟨w.heap.size + 1, 0, none⟩ = some (.bool false) ∧ W.frozen? ⟨w.heap.size + 1, 0, none⟩ = false from ⟨by simp [World.cell?, hr1], by simp [World.frozen?, hr1]⟩)
    have cB := hidd (fun Y (hb : Below W.heap.size W Y) => cBy.out Y (HBW.out.trans (hb.mono HBW.out.size)))
    have cR := hidd (fun Y (hb : Below W.heap.size W Y) => cRy.out Y (HBW.out.trans (hb.mono HBW.out.size)))
    obtain ⟨D, hD⟩ : ∃ D, W3.heap.size = D := ⟨_, rfl⟩
    rw [hD] at hK HLO
    rw [hD]
    have HDW := hidd (show D < W.heap.size from (Array.getElem?_eq_some_iff.1 hK).1)
    have HK := hidd hK
    generalize sumB L = SM at *
    clear h1 h2 h3 h4 hI hIc gq hr1 hD hK
    gi_wp2_with fail
    refine wpIn_wide.2 (wp_noP ?_)
    refine wp_region_held_drew (S := (fun Y => SN NB w.heap.size (LN : Int) p r u m l TA TN tc now room LA LN lc Y)) (by kernel_rfl) (SNK.out _ (Below.drew (Below.refl _ _))) (fun hH => ?_)
    refine wpAnyH_take (i := 0) (v := ?vz0_1) (by (conv => lhs; simp only [List.getElem?_toArray, List.getElem?_cons_succ, List.getElem?_cons_zero])) (by kernel_rfl) (by kernel_rfl) (by kernel_rfl) ?hQ (Or.inl ⟨by rfl, ?hyz0_1⟩) hH ?restz0_1
    case hQ => exact fun _ _ _ h => h
    case hyz0_1 => (intro Y hY; obtain ⟨y0, y1, y2, y3, y4, y5, y6, y7, y8, y9⟩ := hY; go_simp; try (with_reducible rfl))
    try simp only [Act.put, List.setIfInBounds_toArray, List.set_cons_zero, List.set_cons_succ]
    refine wpAnyH_take (i := 1) (v := ?vz1_2) (by (conv => lhs; simp only [List.getElem?_toArray, List.getElem?_cons_succ, List.getElem?_cons_zero])) (by kernel_rfl) (by kernel_rfl) (by kernel_rfl) ?hQ (Or.inl ⟨by rfl, ?hyz1_2⟩) hH ?restz1_2
    case hQ => exact fun _ _ _ h => h
    case hyz1_2 => (intro Y hY; obtain ⟨y0, y1, y2, y3, y4, y5, y6, y7, y8, y9⟩ := hY; go_simp; try (with_reducible rfl))
    try simp only [Act.put, List.setIfInBounds_toArray, List.set_cons_zero, List.set_cons_succ]
    refine wpAnyH_take (i := 2) (v := ?vz2_3) (by (conv => lhs; simp only [List.getElem?_toArray, List.getElem?_cons_succ, List.getElem?_cons_zero])) (by kernel_rfl) (by kernel_rfl) (by kernel_rfl) ?hQ (Or.inl ⟨by rfl, ?hyz2_3⟩) hH ?restz2_3
    case hQ => exact fun _ _ _ h => h
    case hyz2_3 => (intro Y hY; obtain ⟨y0, y1, y2, y3, y4, y5, y6, y7, y8, y9⟩ := hY; go_simp; try (with_reducible rfl))
    try simp only [Act.put, List.setIfInBounds_toArray, List.set_cons_zero, List.set_cons_succ]
    refine wpAnyH_take (i := 3) (v := ?vz3_4) (by (conv => lhs; simp only [List.getElem?_toArray, List.getElem?_cons_succ, List.getElem?_cons_zero])) (by kernel_rfl) (by kernel_rfl) (by kernel_rfl) ?hQ (Or.inl ⟨by rfl, ?hyz3_4⟩) hH ?restz3_4
    case hQ => exact fun _ _ _ h => h
    case hyz3_4 => (intro Y hY; obtain ⟨y0, y1, y2, y3, y4, y5, y6, y7, y8, y9⟩ := hY; go_simp; try (with_reducible rfl))
    try simp only [Act.put, List.setIfInBounds_toArray, List.set_cons_zero, List.set_cons_succ]
    refine wpAnyH_take (i := 4) (v := ?vz4_5) (by (conv => lhs; simp only [List.getElem?_toArray, List.getElem?_cons_succ, List.getElem?_cons_zero])) (by kernel_rfl) (by kernel_rfl) (by kernel_rfl) ?hQ (Or.inl ⟨by rfl, ?hyz4_5⟩) hH ?restz4_5
    case hQ => exact fun _ _ _ h => h
    case hyz4_5 => (intro Y hY; obtain ⟨y0, y1, y2, y3, y4, y5, y6, y7, y8, y9⟩ := hY; go_simp; try (with_reducible rfl))
    try simp only [Act.put, List.setIfInBounds_toArray, List.set_cons_zero, List.set_cons_succ]
    refine wpAnyH_take (i := 5) (v := ?vz5_6) (by (conv => lhs; simp only [List.getElem?_toArray, List.getElem?_cons_succ, List.getElem?_cons_zero])) (by kernel_rfl) (by kernel_rfl) (by kernel_rfl) ?hQ (Or.inl ⟨by rfl, ?hyz5_6⟩) hH ?restz5_6
    case hQ => exact fun _ _ _ h => h
    case hyz5_6 => (intro Y hY; obtain ⟨y0, y1, y2, y3, y4, y5, y6, y7, y8, y9⟩ := hY; go_simp; try (with_reducible rfl))
    try simp only [Act.put, List.setIfInBounds_toArray, List.set_cons_zero, List.set_cons_succ]
    refine wpAnyH_take (i := 6) (v := ?vz6_7) (by (conv => lhs; simp only [List.getElem?_toArray, List.getElem?_cons_succ, List.getElem?_cons_zero])) (by kernel_rfl) (by kernel_rfl) (by kernel_rfl) ?hQ (Or.inl ⟨by rfl, ?hyz6_7⟩) hH ?restz6_7
    case hQ => exact fun _ _ _ h => h
    case hyz6_7 => (intro Y hY; obtain ⟨y0, y1, y2, y3, y4, y5, y6, y7, y8, y9⟩ := hY; go_simp; try (with_reducible rfl))
    try simp only [Act.put, List.setIfInBounds_toArray, List.set_cons_zero, List.set_cons_succ]
    refine wpAnyH_take (i := 8) (v := ?vz8_8) (by (conv => lhs; simp only [List.getElem?_toArray, List.getElem?_cons_succ, List.getElem?_cons_zero])) (by kernel_rfl) (by kernel_rfl) (by kernel_rfl) ?hQ (Or.inl ⟨by rfl, ?hyz8_8⟩) hH ?restz8_8
    case hQ => exact fun _ _ _ h => h
    case hyz8_8 => (intro Y hY; obtain ⟨y0, y1, y2, y3, y4, y5, y6, y7, y8, y9⟩ := hY; go_simp; try (with_reducible rfl))
    try simp only [Act.put, List.setIfInBounds_toArray, List.set_cons_zero, List.set_cons_succ]
    refine wpAnyH_ready (rs := [7]) (by kernel_rfl) (by simp) ?_
    refine AllReadyH.cons (by (conv => lhs; simp only [List.getElem?_toArray, List.getElem?_cons_succ, List.getElem?_cons_zero])) (fun K hK => ?_) AllReadyH.nil
    go_simp
    go_at_call 18; refine (cB.out _ (Below.drew (Below.refl _ _))).mono ?_; rintro e w5 ⟨rfl, rfl⟩
    refine hK.out _ _ hH (fun hH1 => ?_)
    clear hK hH
    try simp only [Act.put, List.setIfInBounds_toArray, List.set_cons_zero, List.set_cons_succ]
    refine wpAnyH_ready (rs := [9]) (by kernel_rfl) (by simp) ?_
    refine AllReadyH.cons (by (conv => lhs; simp only [List.getElem?_toArray, List.getElem?_cons_succ, List.getElem?_cons_zero])) (fun K hK => ?_) AllReadyH.nil
    go_simp
    go_at_call 25; refine (cR.out _ (Below.drew (Below.refl _ _))).mono ?_; rintro e w6 ⟨rfl, hb6⟩
    have B6 := hidd (show Below W.heap.size W w6 from below_step (Below.drew (Below.refl _ _)) hb6)
    clear hb6
    refine hK.out _ _ (SNK.out _ B6.out) (fun hH2 => ?_)
    clear hK hH1
    try simp only [Act.put, List.setIfInBounds_toArray, List.set_cons_zero, List.set_cons_succ]
    refine wpAnyH_take (i := 10) (v := ?vz10_9) (by (conv => lhs; simp only [List.getElem?_toArray, List.getElem?_cons_succ, List.getElem?_cons_zero])) (by kernel_rfl) (by kernel_rfl) (by kernel_rfl) ?hQ (Or.inl ⟨by rfl, ?hyz10_9⟩) hH2 ?restz10_9
    case hQ => exact fun _ _ _ h => h
    case hyz10_9 => (intro Y hY; obtain ⟨y0, y1, y2, y3, y4, y5, y6, y7, y8, y9⟩ := hY; go_simp; try (with_reducible rfl))
    try simp only [Act.put, List.setIfInBounds_toArray, List.set_cons_zero, List.set_cons_succ]
    refine wpAnyH_take (i := 11) (v := ?vz11_10) (by (conv => lhs; simp only [List.getElem?_toArray, List.getElem?_cons_succ, List.getElem?_cons_zero])) (by kernel_rfl) (by kernel_rfl) (by kernel_rfl) ?hQ (Or.inl ⟨by rfl, ?hyz11_10⟩) hH2 ?restz11_10
    case hQ => exact fun _ _ _ h => h
    case hyz11_10 => (intro Y hY; obtain ⟨y0, y1, y2, y3, y4, y5, y6, y7, y8, y9⟩ := hY; go_simp; try (with_reducible rfl))
    try simp only [Act.put, List.setIfInBounds_toArray, List.set_cons_zero, List.set_cons_succ]
    refine wpAnyH_ready (rs := [12]) (by kernel_rfl) (by simp) ?_
    refine AllReadyH.cons (by (conv => lhs; simp only [List.getElem?_toArray, List.getElem?_cons_succ, List.getElem?_cons_zero])) (fun K hK => ?_) AllReadyH.nil
    have r6 : w6.cell? ⟨w.heap.size + 1, 0, none⟩ = some (.bool false) := (B6.out.cell (p := ⟨w.heap.size + 1, 0, none⟩) (by have := HLO.out; show w.heap.size + 1 < _; omega)).trans RC.out.1
    have f6 : w6.frozen? ⟨w.heap.size + 1, 0, none⟩ = false := (B6.out.frozen (p := ⟨w.heap.size + 1, 0, none⟩) (by have := HLO.out; show w.heap.size + 1 < _; omega)).trans RC.out.2
    go_simp
    refine hK.out _ _ ((SNK.out _ B6.out).far (by have := HLO.out; omega) _) (fun hH3 => ?_)
    clear hK hH2
    try simp only [Act.put]
    refine wpAnyH_done (by kernel_rfl) (noP_of ?_) _
    gi_wp2_with fail
    have hK6 : w6.heap[D]? = some (.deferred (some [])) := (B6.out.block D HDW.out).trans HK.out
    have hne : D ≠ w.heap.size + 1 := by have := HLO.out; omega
    have hKS : (w6.setCell ⟨w.heap.size + 1, 0, none⟩ (.bool true)).heap[D]? = some (.deferred (some [])) := (Below.heap_setCell _ _ _ _ hne).trans hK6
    have hrc : (w6.setCell ⟨w.heap.size + 1, 0, none⟩ (.bool true)).cell? ⟨w.heap.size + 1, 0, none⟩ = some (.bool true) := World.cell?_setCell_same' w6 ⟨w.heap.size + 1, 0, none⟩ (.bool true) (by rw [r6]; rfl)
    have hgp := grownBy_putObj' (w6.setCell ⟨w.heap.size + 1, 0, none⟩ (.bool true)) D (.deferred none)
    have hrp := cell_kept hrc hgp (fun r e => by cases e; exact ⟨_, hKS, rfl⟩)
    have hbb : Below w.heap.size w (w6.setCell ⟨w.heap.size + 1, 0, none⟩ (.bool true)) := (HBW.out.trans (B6.out.mono HBW.out.size)).setCell (p := ⟨w.heap.size + 1, 0, none⟩) (by show w.heap.size ≤ w.heap.size + 1; omega) (.bool true)
    refine ⟨by simp, .inl ⟨_, _, rfl, run_takeDeferred hKS, ?_⟩⟩
    refine ⟨.bool true, ?_, rfl, ?_⟩
    · simp [results, Try.results9, go_sem, hrp]
    · exact hbb.grown hgp hbb.size (fun k e => by cases e; have := HLO.out; omega)
end Go.Proofs.Ythaiphkmkchhoaa

