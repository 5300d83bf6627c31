/- Objects: one object is taken out of bytes. -/
import Derived.Test.YtnneolkedekfbaaObP
namespace Go.Proofs.Ytnneolkedekfbaa
set_option linter.unusedVariables false
open Go.RowKit

theorem rowOf_wd (l : List Int) : rowOf wdV l = l.map (fun x => Value.int .i64 x) := by
  induction l with
  | nil => rfl
  | cons x l ih => simp only [rowOf, List.flatMap_cons, wdV, List.map_cons, List.cons_append, List.nil_append] at *; rw [ih]
/-- words of the call's own, one set. -/
theorem OwnL.setW {w : World} {base g n cap : Nat} {e : TypeId} {l : List Int} (h : OwnL wdV 1 w base e (.slice (some ⟨g, 0, none⟩) n cap) l) (i : Nat) (hi : i < l.length) (x : Int) :
    OwnL wdV 1 (w.setCell ⟨g, i, none⟩ (.int .i64 x)) base e (.slice (some ⟨g, 0, none⟩) n cap) (l.set i x) := by
  obtain ⟨h0, h1⟩ := h
  rcases h1 with ⟨hv, _⟩ | ⟨g', cap', cur, hv, hb, hh, hn, hm, hc, ht⟩
  · cases hv
  cases hv
  have hic : i < cur.size := by omega
  refine ⟨by rw [row_len wdV_len], .inr ⟨g, cap, cur.set i (.int .i64 x) hic, by simp, hb, ?_, by simpa using hn, hm, by simpa using hc, ?_⟩⟩
  · simp [World.setCell, Array.getElem?_modify, hh, hic, Array.setIfInBounds]
  · rw [Nat.mul_one] at ht
    rw [rowOf_wd] at ht ⊢
    rw [Nat.mul_one, List.length_set, Array.toList_set, List.map_set, ← ht, List.take_set]
theorem add_zeroW (g i : Nat) : Addr.add ⟨g, 0, none⟩ i = ⟨g, i, none⟩ := by
  unfold Addr.add
  by_cases h : i = 0 <;> simp [h]
theorem OwnL.wordAt {w : World} {base g n cap : Nat} {e : TypeId} {l : List Int} (h : OwnL wdV 1 w base e (.slice (some ⟨g, 0, none⟩) n cap) l) (i : Nat) (hi : i < l.length) :
    w.cell? ⟨g, i, none⟩ = some (.int .i64 (av l i)) ∧ w.frozen? ⟨g, i, none⟩ = false := by
  constructor
  · have := World.ownsRow.cells h (g := g) rfl i (.int .i64 (av l i)) (by rw [rowOf_wd]; simp [av, hi])
    rwa [add_zeroW] at this
  · obtain ⟨h0, h1⟩ := h
    rcases h1 with ⟨hv, _⟩ | ⟨g', cap', cur, hv, hb, hh, hn, hm, hc, ht⟩
    · cases hv
    cases hv
    simp [World.frozen?, hh]
theorem OwnL.wordsLie {w : World} {base g n cap : Nat} {e : TypeId} {l : List Int} (h : OwnL wdV 1 w base e (.slice (some ⟨g, 0, none⟩) n cap) l) {p : Nat → Prop} (hp : p g) : LieQ wdV 1 w p (some ⟨g, 0, none⟩) l := fun hl => by
  refine ⟨_, rfl, hp, fun i x hx j v hv => ?_⟩
  have hi : i < l.length := (List.getElem?_eq_some_iff.1 hx).1
  match j, hv with
  | 0, hv =>
    simp [wdV] at hv
    subst hv
    have := (OwnL.wordAt h i hi).1
    have e : av l i = x := by simp [av, List.getD_eq_getElem?_getD, hx]
    rw [e] at this
    rw [Nat.mul_one, Nat.add_zero, add_zeroW]
    exact this
  | j + 1, hv => simp [wdV] at hv
theorem OwnL.but {w w' : World} {base b g n cap : Nat} {e : TypeId} {l : List Int} (h : OwnL wdV 1 w base e (.slice (some ⟨g, 0, none⟩) n cap) l) (hb : But b w w') (hg : g ≠ b) : OwnL wdV 1 w' base e (.slice (some ⟨g, 0, none⟩) n cap) l := by
  obtain ⟨h0, h1⟩ := h
  rcases h1 with ⟨hv, _⟩ | ⟨g', cap', cur, hv, hbs, hh, hr⟩
  · cases hv
  cases hv
  exact ⟨h0, .inr ⟨g, cap, cur, rfl, hbs, (hb.block g (Array.getElem?_eq_some_iff.1 hh).1 hg).trans hh, hr⟩⟩
theorem TkAt.drew {W : World} {pb pa : Nat} {A : Option Addr} {L : List Int} {c i : Nat} (h : TkAt W pb pa A L c i) : TkAt W.drew pb pa A L c i := ⟨h.cb, h.ca, h.hl, h.lt, h.ne⟩
theorem But.cell {b : Nat} {w w' : World} (h : But b w w') {k o : Nat} (hk : k < w.heap.size) (hn : k ≠ b) : w'.cell? ⟨k, o, none⟩ = w.cell? ⟨k, o, none⟩ := World.cell?_of_block (h.block k hk hn)
theorem But.frozen {b : Nat} {w w' : World} (h : But b w w') {k o : Nat} (hk : k < w.heap.size) (hn : k ≠ b) : w'.frozen? ⟨k, o, none⟩ = w.frozen? ⟨k, o, none⟩ := World.frozen?_of_block (h.block k hk hn)
theorem But.far {b : Nat} {w W : World} (h : But b w W) {p : Addr} (hp : w.heap.size ≤ p.block) (v : Value) : But b w (W.setCell p v) :=
  ⟨h.os, h.tape, h.output, by simpa using h.size, fun k hk hn => (Below.heap_setCell _ _ _ _ (by omega)).trans (h.block k hk hn)⟩
theorem But.grown {b : Nat} {x y z : World} (h : But b x y) (hg : y.grownBy z none) : But b x z :=
  ⟨hg.os.trans h.os, hg.tape.trans h.tape, hg.output.trans h.output, Nat.le_trans h.size hg.size, fun k hk hn => (hg.block k (Nat.lt_of_lt_of_le hk h.size) (fun e => by cases e)).trans (h.block k hk hn)⟩
theorem row_zerosW (n : Nat) : rowOf wdV (List.replicate n 0) = (madeCells (Value.int .i64 0).cells (n * 1)).toList := by
  rw [rowOf_wd, Nat.mul_one, List.map_replicate]
  exact (toList_madeCells_one (.int .i64 0) n).symm
theorem words_set (L : List Int) (i j m : Nat) (h : j < m) : (wordsN L i j ++ List.replicate (m - j) 0).set j (wd4 L (i + 4 + 4 * j)) = wordsN L i (j + 1) ++ List.replicate (m - (j + 1)) 0 := by
  have e : m - j = (m - (j + 1)) + 1 := by omega
  rw [e, List.replicate_succ, wordsN_one, List.set_append_right _ _ (by rw [wordsN_len]; exact Nat.le_refl _), wordsN_len, Nat.sub_self]
  simp
/-- what take tells, its world by a name. -/
def TookEnd (L : List Int) (pb pa : Nat) (A : Option Addr) (c i k : Nat) (n : Int) (w : World) (e : Ending) (w' : World) : Prop :=
  (i + k ≤ L.length ∧ e = .returned (.int .i64 n) ∧ TkAt w' pb pa A L c (i + k) ∧ But pa w w' ∧ w'.heap.size = w.heap.size) ∨ (¬ i + k ≤ L.length ∧ e = errPanic 170 ∧ But pa w w')
theorem took_any (pb pa : Nat) (A : Option Addr) (L : List Int) (c i k : Nat) (n : Int) (hn : i + k ≤ L.length → numB ((L.drop i).take k) = n) (hk1 : 1 ≤ k) (hk4 : k ≤ 4) (hi : i ≤ L.length) (hL : L.length ≤ 1000000) (hc : L.length ≤ c) (hc2 : c ≤ maxLen) (hb : Bytes L) (w : World) (h : TkAt w pb pa A L c i) :
    Calls Try.prog 59 #[.int .i64 (k : Int), .pointer (some ⟨pb, 0, none⟩), .pointer (some ⟨pa, 0, none⟩)] w (TookEnd L pb pa A c i k n w) :=
  (take_any pb pa A L c i k hk1 hk4 hi hL hc hc2 hb w h).mono fun e w' q => by
    rcases q with ⟨q1, q2, q3⟩ | ⟨q1, q2, q3⟩
    · refine .inl ⟨q1, by rw [← hn q1]; exact q2, ?_, ?_, ?_⟩
      · rw [q3]; exact h.set (i + k)
      · rw [q3]; exact But.set _ _ _
      · rw [q3]; simp
    · exact .inr ⟨q1, q2, by rw [q3]; exact But.refl _ _⟩
/-- what taken tells. -/
def TakenEnd (L : List Int) (pb pa : Nat) (A : Option Addr) (c i : Nat) (w : World) (e : Ending) (w' : World) : Prop :=
  But pa w w' ∧ ((fitsAt L i ∧ ∃ g, e = .returned (.agg #[.int .i64 (av L (i + 2)), .int .i64 (av L (i + 3)), .slice (some ⟨g, 0, none⟩) (wordsAt L i).length (wordsAt L i).length]) ∧ LieQ wdV 1 w' (fun q => w.heap.size ≤ q ∧ q < w'.heap.size) (some ⟨g, 0, none⟩) (wordsAt L i) ∧ TkAt w' pb pa A L c (i + nAt L i)) ∨ (¬ fitsAt L i ∧ e = errPanic 170))
theorem intInfo : (Try.prog.info? 2).map (fun i => (i.zero, i.size, i.bytes)) = some (some (.int .i64 0), 1, 8) := by kernel_rfl
set_option maxRecDepth 100000 in
set_option maxHeartbeats 8000000 in
theorem taken_any (pb pa : Nat) (A : Option Addr) (L : List Int) (c i : Nat) (hi : i ≤ L.length) (hL : L.length ≤ 1000000) (hc : L.length ≤ c) (hc2 : c ≤ maxLen) (hb : Bytes L) (w : World) (h : TkAt w pb pa A L c i) :
    Calls Try.prog 42 #[.func (.func 59) #[] #[.pointer (some ⟨pb, 0, none⟩), .pointer (some ⟨pa, 0, none⟩)]] w (TakenEnd L pb pa A c i w) := by
  obtain ⟨i0, hi0, hz0, hz1, hz2⟩ := info_parts intInfo
  have HTK := hidd (fun i k n (hn : i + k ≤ L.length → numB ((L.drop i).take k) = n) (hk1 : 1 ≤ k) (hk4 : k ≤ 4) (hi : i ≤ L.length) W (h : TkAt W pb pa A L c i) => took_any pb pa A L c i k n hn hk1 hk4 hi hL hc hc2 hb W h)
  have hpa := h.ca.lt
  have HNF := hidd (show (¬ i + 8 ≤ L.length → ¬ fitsAt L i) from fun h1 h2 => h1 h2.1)
  have HB := hidd hb
  have HH := hidd h
  clear hb h hc hc2
  go_enter Try.func42, Try.ntmps42
  go_wp2_with fail
  obtain ⟨W0, hW0⟩ : ∃ W0 : World, w.alloc (.cells #[.int .i64 0, .int .i64 0, .slice none 0 0] 32) = W0 := ⟨_, rfl⟩
  rw [hW0]
  have hB0 : Below w.heap.size w W0 := by rw [← hW0]; (repeat' (first | (with_reducible exact Below.refl _ _) | (with_reducible assumption) | (with_reducible apply Below.setCell) | (with_reducible apply Below.alloc) | (with_reducible apply Below.drew) | (with_reducible apply below_drewN) | (with_reducible refine Below.trans ?_ (Below.mono (by assumption) ?_)) | omega | (simp; done) | (simp; omega)))
  have hs0 : W0.heap.size = w.heap.size + 1 := by rw [← hW0]; simp
  have r0 : W0.cell? ⟨w.heap.size, 0, none⟩ = some (.int .i64 0) := by rw [← hW0]; simp [go_sem]
  have r1 : W0.cell? ⟨w.heap.size, 1, none⟩ = some (.int .i64 0) := by rw [← hW0]; simp [go_sem]
  have r2 : W0.cell? ⟨w.heap.size, 2, none⟩ = some (.slice none 0 0) := by rw [← hW0]; simp [go_sem]
  have f0 : W0.frozen? ⟨w.heap.size, 0, none⟩ = false := by rw [← hW0]; simp [go_sem]
  have f1 : W0.frozen? ⟨w.heap.size, 1, none⟩ = false := by rw [← hW0]; simp [go_sem]
  have f2 : W0.frozen? ⟨w.heap.size, 2, none⟩ = false := by rw [← hW0]; simp [go_sem]
  have HR := hidd (fun (W : World) (hb : But pa W0 W) => (show (W.cell? ⟨w.heap.size, 0, none⟩ = some (.int .i64 0) ∧ W.cell? ⟨w.heap.size, 1, none⟩ = some (.int .i64 0) ∧ W.cell? ⟨w.heap.size, 2, none⟩ = some (.slice none 0 0)) ∧ W.frozen? ⟨w.heap.size, 0, none⟩ = false ∧ W.frozen? ⟨w.heap.size, 1, none⟩ = false ∧ W.frozen? ⟨w.heap.size, 2, none⟩ = false from
    have k1 : w.heap.size < W0.heap.size := by omega
    have k2 : w.heap.size ≠ pa := by omega
    ⟨⟨(hb.cell k1 k2).trans r0, (hb.cell k1 k2).trans r1, (hb.cell k1 k2).trans r2⟩, (hb.frozen k1 k2).trans f0, (hb.frozen k1 k2).trans f1, (hb.frozen k1 k2).trans f2⟩))
  have HT0 := hidd (HH.out.below hB0)
  have HBW := hidd (fun (W : World) (hb : But pa W0 W) => (below_but hB0 pa).trans hb)
  clear hB0 r0 r1 r2 f0 f1 f2 hW0
  go_wp2_with fail
  refine (HTK.out i 2 (hd2 L i) (fun h => numB_two h) (by omega) (by omega) hi W0 HT0.out).mono ?_
  rintro e w1 (⟨hok1, rfl, ht1, hb1, hs1⟩ | ⟨hno, rfl, hb1⟩)
  rotate_left
  · have HX := hidd (HBW.out _ hb1)
    have HN := hidd (HNF.out (by omega))
    clear hb1 hno
    go_wp2_with fail
    exact ⟨rfl, HX.out, .inr ⟨HN.out, rfl⟩⟩
  have HT1 := hidd ht1
  have HB1 := hidd hb1
  clear ht1 hb1
  go_wp2_with fail
  refine (HTK.out (i + 2) 1 (av L (i + 2)) (fun h => numB_one h) (by omega) (by omega) hok1 w1 HT1.out).mono ?_
  rintro e w2 (⟨hok2, rfl, ht2, hb2, hs2⟩ | ⟨hno, rfl, hb2⟩)
  rotate_left
  · have HX := hidd (HBW.out _ (HB1.out.trans hb2))
    have HN := hidd (HNF.out (by omega))
    clear hb2 hno
    go_wp2_with fail
    exact ⟨rfl, HX.out, .inr ⟨HN.out, rfl⟩⟩
  have HT2 := hidd ht2
  have HB2 := hidd (HB1.out.trans hb2)
  clear ht2 hb2
  go_wp2_with fail
  refine (HTK.out (i + 2 + 1) 1 (av L (i + 3)) (fun h => numB_one h) (by omega) (by omega) hok2 w2 HT2.out).mono ?_
  rintro e w3 (⟨hok3, rfl, ht3, hb3, hs3⟩ | ⟨hno, rfl, hb3⟩)
  rotate_left
  · have HX := hidd (HBW.out _ (HB2.out.trans hb3))
    have HN := hidd (HNF.out (by omega))
    clear hb3 hno
    go_wp2_with fail
    exact ⟨rfl, HX.out, .inr ⟨HN.out, rfl⟩⟩
  have HT3 := hidd ht3
  have HB3 := hidd (HB2.out.trans hb3)
  clear ht3 hb3
  have hs3' : w3.heap.size = w.heap.size + 1 := by omega
  obtain ⟨n0, n1⟩ := hd2_bound HB.out (i := i) (by omega)
  obtain ⟨N, hN⟩ : ∃ N : Nat, nAt L i = N := ⟨_, rfl⟩
  have hNN : hd2 L i = (N : Int) := by rw [← hN]; unfold nAt; omega
  have HNQ := hidd hN
  have HNI := hidd hNN
  rw [hNN] at n0 n1 ⊢
  clear hN hNN
  have e1 : IntKind.i64.wrap ((N : Int) / 4 - 1) = (N : Int) / 4 - 1 := IntWalk.i64_in _ (by omega)
  have cf := hidd (fun W => isFrom_any 1 ((N : Int) / 4 - 1) 64 W)
  by_cases h4 : (N : Int) % 4 = 0
  rotate_left
  · have HN := hidd (show ¬ fitsAt L i from fun q => h4 (by have := q.2.1; rw [HNQ.out] at this; omega))
    have HX := hidd (HBW.out _ HB3.out)
    go_wp2_with fail
    refine (need_no _ _).mono ?_
    rintro e w4 ⟨rfl, rfl⟩
    go_wp2_with fail
    exact ⟨rfl, HX.out, .inr ⟨HN.out, rfl⟩⟩
  by_cases h5 : 1 ≤ (N : Int) / 4 - 1 ∧ (N : Int) / 4 - 1 ≤ 64
  rotate_left
  · have HN := hidd (show ¬ fitsAt L i from fun q => h5 (by have a := q.2.2.1; have b := q.2.2.2.1; rw [HNQ.out] at a b; omega))
    have HX := hidd (HBW.out _ HB3.out)
    have hz : inB 1 ((N : Int) / 4 - 1) 64 = false := by
      cases h : inB 1 ((N : Int) / 4 - 1) 64
      · rfl
      · exact absurd (inB_iff.1 h) h5
    rw [hz] at cf
    clear h5 hz
    go_wp2_with fail
    refine (cf.out _).mono ?_
    rintro e w4 ⟨rfl, rfl⟩
    go_wp2_with fail
    refine (need_no _ _).mono ?_
    rintro e w4 ⟨rfl, rfl⟩
    go_wp2_with fail
    exact ⟨rfl, HX.out, .inr ⟨HN.out, rfl⟩⟩
  rw [show inB 1 ((N : Int) / 4 - 1) 64 = true from inB_iff.2 h5] at cf
  obtain ⟨h6, h7⟩ := h5
  obtain ⟨m, hm⟩ : ∃ m : Nat, N = 4 + 4 * m := ⟨N / 4 - 1, by omega⟩
  have hmi : (N : Int) / 4 - 1 = (m : Int) := by omega
  have hm1 : 1 ≤ m := by omega
  have hm64 : m ≤ 64 := by omega
  have HM := hidd hm
  rw [hmi] at cf e1
  clear h6 h7 hm n0 n1
  go_wp2_with fail
  refine (cf.out _).mono ?_
  rintro e w4 ⟨rfl, rfl⟩
  go_wp2_with fail
  refine (need_yes _ _).mono ?_
  rintro e w4 ⟨rfl, rfl⟩
  have hmx : m * 8 ≤ 9223372036854775807 := by omega
  go_wp2_with (at_make; refine wpList_make_full _ rfl (.tmp 28) (.tmp 28) _ rfl w3.heap.size 2 i0 (.int .i64 0) 1 Try.underlying30 hi0 hz0 hz1 .i64 .i64 (m : Int) (m : Int) m rfl rfl (by simp [*]) (by simp [*]) (by rw [hz2]; omega) (by simp only [maxLen]; omega) (Nat.le_refl _) ?_; intro w4 hown hgrow)
  have HO0 : Hid (OwnL wdV 1 w4 (w.heap.size + 1) 2 (.slice (some ⟨w.heap.size + 1, 0, none⟩) m m) (List.replicate m 0)) := hidd (by unfold OwnL; rw [row_zerosW, List.length_replicate, ← hs3']; exact hown)
  have hs4 : w3.heap.size < w4.heap.size := by
    have hlt := HO0.out.lt (w.heap.size + 1) rfl
    omega
  have HB4 := hidd (HB3.out.grown hgrow)
  have HC4 : Hid (Boxed w4 pa 3 (.int .i64 ((i + 4 : Nat) : Int))) := hidd ((hgrow.block pa HT3.out.ca.lt (fun e => by cases e)).trans HT3.out.ca)
  have hok4 : i + 4 ≤ L.length := hok3
  clear hown hgrow h4 hmx hok1 hok2 hok3 hs1 hs2 hi0 hz0 hz1 hz2 hi
  refine (object_any _ _ _ _ _ _).mono ?_
  rintro e w5 ⟨rfl, hb5⟩
  have HB5 := hidd (HB4.out.trans (below_but hb5 pa))
  have HO5 := hidd (HO0.out.below hb5)
  have HC5 : Hid (Boxed w5 pa 3 (.int .i64 ((i + 4 : Nat) : Int))) := hidd ((hb5.block pa HC4.out.lt).trans HC4.out)
  have hs5 : w3.heap.size < w5.heap.size := by have := hb5.size; omega
  clear hb5 hs4
  obtain ⟨C, hC⟩ : ∃ C, av L (i + 2) = C := ⟨_, rfl⟩
  obtain ⟨T, hT⟩ : ∃ C, av L (i + 3) = C := ⟨_, rfl⟩
  rw [hC, hT]
  have HCT := hidd (And.intro hC hT)
  clear hC hT
  go_wp2_with fail
  obtain ⟨W5, hW5⟩ : ∃ W5 : World, w5.alloc (.cells #[.int .i64 C, .int .i64 T, .slice (some ⟨w.heap.size + 1, 0, none⟩) m m] 32) = W5 := ⟨_, rfl⟩
  rw [hW5]
  have HB6 : Hid (But pa W0 W5) := hidd (by rw [← hW5]; exact HB5.out.alloc _)
  have HO6 : Hid (OwnL wdV 1 W5 (w.heap.size + 1) 2 (.slice (some ⟨w.heap.size + 1, 0, none⟩) m m) (List.replicate m 0)) := hidd (by rw [← hW5]; exact HO5.out.alloc _)
  have HC6 : Hid (Boxed W5 pa 3 (.int .i64 ((i + 4 : Nat) : Int))) := hidd (by rw [← hW5]; exact HC5.out.alloc _)
  have hs6 : W5.heap.size = w5.heap.size + 1 := by rw [← hW5]; simp
  have HX6 : Hid (W5.cell? ⟨w5.heap.size, 0, none⟩ = some (.int .i64 C) ∧ W5.cell? ⟨w5.heap.size, 1, none⟩ = some (.int .i64 T) ∧ W5.cell? ⟨w5.heap.size, 2, none⟩ = some (.slice (some ⟨w.heap.size + 1, 0, none⟩) m m)) := hidd (by rw [← hW5]; exact ⟨by simp [go_sem], by simp [go_sem], by simp [go_sem]⟩)
  clear hW5
  generalize hbo : w5.heap.size = bo at *
  clear hbo
  have hbo1 : w.heap.size + 1 < bo := by omega
  clear hs3 hs5 hs3'
  go_loopg [34] (m + 1) (fun g s34 wr => ∃ j : Nat, j ≤ m ∧ j + g = m + 1 ∧ s34 = .int .i64 (j : Int) ∧ i + 4 + 4 * j ≤ L.length ∧ But pa W0 wr ∧ Boxed wr pa 3 (.int .i64 ((i + 4 + 4 * j : Nat) : Int)) ∧
    OwnL wdV 1 wr (w.heap.size + 1) 2 (.slice (some ⟨w.heap.size + 1, 0, none⟩) m m) (wordsN L i j ++ List.replicate (m - j) 0) ∧ bo < wr.heap.size ∧
    (wr.cell? ⟨bo, 0, none⟩ = some (.int .i64 C) ∧ wr.cell? ⟨bo, 1, none⟩ = some (.int .i64 T) ∧ wr.cell? ⟨bo, 2, none⟩ = some (.slice (some ⟨w.heap.size + 1, 0, none⟩) m m)))
  case atStart => exact ⟨0, by omega, by omega, by first | rfl | simp, by omega, HB6.out, HC6.out, by simpa [wordsN] using HO6.out, by omega, HX6.out⟩
  case round =>
    obtain ⟨j, hj, hg, rfl, hok, hB, hC, hO, hbs, x0, x1, x2⟩ := hrel
    have HG := hidd hg
    have HBr := hidd hB
    have HOr := hidd hO
    have HTr := hidd (HH.out.to (HBW.out _ hB) (i + 4 + 4 * j) hC)
    clear hg hB hO hC
    by_cases hjm : j < m
    · have hjm2 : (j : Int) < (m : Int) := by omega
      have ct := hidd (fun W (h : TkAt W pb pa A L c (i + 4 + 4 * j)) => HTK.out (i + 4 + 4 * j) 4 (wd4 L (i + 4 + 4 * j)) (fun h => numB_four h) (by omega) (by omega) hok W h)
      have HNX := hidd (show ¬ i + 4 + 4 * j + 4 ≤ L.length → ¬ fitsAt L i from fun h1 q => h1 (by have := q.2.2.2.2; rw [HNQ.out, HM.out] at this; omega))
      have HBD := hidd (show But pa W0 wr.drew from HBr.out.drew)
      have hnp : bo ≠ pa := by omega
      have hnp2 : w.heap.size + 1 ≠ pa := by omega
      have hnb : ¬ bo = w.heap.size + 1 := by omega
      have e4 : IntKind.i64.wrap ((j : Int) + 1) = (j : Int) + 1 := IntWalk.i64_in _ (by omega)
      have HLEN := hidd (show (wordsN L i j ++ List.replicate (m - j) 0).length = m by simp [wordsN_len]; omega)
      have HSET := hidd (words_set L i j m hjm)
      clear HR HT0 HT1 HT2 HT3 HB1 HB2 HB3 HB4 HO0 HC4 HB5 HO5 HC5 HB6 HO6 HC6 HX6
      go_wp2_with fail
      go_region_held (fun W => W.cell? ⟨bo, 2, none⟩ = some (.slice (some ⟨w.heap.size + 1, 0, none⟩) m m)) ((first | exact k2 | exact x2 | (simp [go_sem, *]; done) | go_keep))
        ((first
          | (go_at_call 59; refine (ct.out _ (by first | exact HTr.out | exact HTr.out.drew)).mono ?_; rintro E1 v1 (⟨hok1, rfl, ht1, hb1, hs1⟩ | ⟨hno, rfl, hb1⟩); rotate_left; exact ⟨rfl, HBW.out _ (by first | exact HBr.out.trans hb1 | exact HBD.out.trans hb1), .inr ⟨HNX.out hno, rfl⟩⟩; have k2 : v1.cell? ⟨bo, 2, none⟩ = some (.slice (some ⟨w.heap.size + 1, 0, none⟩) m m) := (hb1.cell hbs hnp).trans x2; have k0 : v1.cell? ⟨bo, 0, none⟩ = some (.int .i64 C) := (hb1.cell hbs hnp).trans x0; have k1 : v1.cell? ⟨bo, 1, none⟩ = some (.int .i64 T) := (hb1.cell hbs hnp).trans x1; have HBv : Hid (But pa W0 v1) := hidd (by first | exact HBr.out.trans hb1 | exact HBD.out.trans hb1); have HOv := hidd (OwnL.but (show OwnL wdV 1 wr.drew (w.heap.size + 1) 2 (.slice (some ⟨w.heap.size + 1, 0, none⟩) m m) (wordsN L i j ++ List.replicate (m - j) 0) from HOr.out) hb1 hnp2); obtain ⟨y0, y1⟩ := OwnL.wordAt HOv.out j (by rw [HLEN.out]; exact hjm); have HTv := hidd ht1; have hbv : bo < v1.heap.size := (Nat.lt_of_lt_of_le hbs hb1.size); clear hb1 ht1 hs1)))
      all_goals go_wp2_with fail
      have hg := HG.out
      have ej : i + 4 + 4 * (j + 1) = i + 4 + 4 * j + 4 := by omega
      go_roundg (gk - 1)
      case measure => omega
      case rel =>
        refine ⟨j + 1, by omega, by omega, by go_num, by omega, HBv.out.far (p := ⟨w.heap.size + 1, j, none⟩) (by show W0.heap.size ≤ w.heap.size + 1; omega) _, ?_, ?_, by simpa using hbv, by simp [go_sem, *], by simp [go_sem, *], by simp [go_sem, *]⟩
        · rw [ej]
          exact (Below.heap_setCell v1 ⟨w.heap.size + 1, j, none⟩ _ pa (fun q => hnp2 q.symm)).trans HTv.out.ca
        · rw [← HSET.out]
          exact OwnL.setW HOv.out j (by rw [HLEN.out]; exact hjm) _
    · obtain rfl : j = m := by omega
      obtain ⟨⟨r0, r1, r2⟩, f0, f1, f2⟩ := HR.out _ HBr.out
      have HF := hidd (show fitsAt L i by unfold fitsAt; rw [HNQ.out, HM.out]; omega)
      have HWD := hidd (show wordsAt L i = wordsN L i j by unfold wordsAt; rw [HNQ.out, HM.out]; congr 1; omega)
      have HNJ := hidd (show i + nAt L i = i + 4 + 4 * j by rw [HNQ.out, HM.out]; omega)
      have hne : ¬ w.heap.size = bo := by omega
      clear HT0 HT1 HT2 HT3 HB1 HB2 HB3 HB4 HO0 HC4 HB5 HO5 HC5 HB6 HO6 HC6 HX6
      go_wp2_with fail
      refine bodyPost_ret (v := .agg #[.int .i64 C, .int .i64 T, .slice (some ⟨w.heap.size + 1, 0, none⟩) j j]) (by simp [results, Try.results42, go_sem, *]) rfl ?_
      have HBF := hidd ((((HBW.out _ HBr.out).far (p := ⟨w.heap.size, 0, none⟩) (Nat.le_refl _) (.int .i64 C)).far (p := ⟨w.heap.size, 1, none⟩) (Nat.le_refl _) (.int .i64 T)).far (p := ⟨w.heap.size, 2, none⟩) (Nat.le_refl _) (.slice (some ⟨w.heap.size + 1, 0, none⟩) j j))
      have hsame : ∀ k, k ≠ w.heap.size → (((wr.setCell ⟨w.heap.size, 0, none⟩ (.int .i64 C)).setCell ⟨w.heap.size, 1, none⟩ (.int .i64 T)).setCell ⟨w.heap.size, 2, none⟩ (.slice (some ⟨w.heap.size + 1, 0, none⟩) j j)).heap[k]? = wr.heap[k]? := fun k hk =>
        (Below.heap_setCell _ _ _ k hk).trans ((Below.heap_setCell _ _ _ k hk).trans (Below.heap_setCell _ _ _ k hk))
      have hO2 : OwnL wdV 1 wr (w.heap.size + 1) 2 (.slice (some ⟨w.heap.size + 1, 0, none⟩) j j) (wordsN L i j) := by simpa using HOr.out
      refine ⟨HBF.out, .inl ⟨HF.out, w.heap.size + 1, by rw [HWD.out, wordsN_len, HCT.out.1, HCT.out.2], ?_, ?_⟩⟩
      · rw [HWD.out]
        refine (OwnL.wordsLie hO2 (p := fun q => q = w.heap.size + 1) rfl).to (fun k hk => ⟨⟨by omega, ?_⟩, hsame k (by omega)⟩)
        simp; omega
      · rw [HNJ.out]
        refine HH.out.to HBF.out _ ((hsame pa (by omega)).trans ?_)
        exact HTr.out.ca
end Go.Proofs.Ytnneolkedekfbaa
