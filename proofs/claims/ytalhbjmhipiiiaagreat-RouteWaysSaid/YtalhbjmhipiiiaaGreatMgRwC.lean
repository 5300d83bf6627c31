/- Texts that the claim hangs on, in one. -/
import Derived.Test.YtalhbjmhipiiiaaGreatMgRwA
import Derived.Test.YtalhbjmhipiiiaaGreatMgRwB
import Derived.Test.YtalhbjmhipiiiaaGreatRows
import Derived.Test.YtalhbjmhipiiiaaGreatTpE
import Derived.OpenShut
import Derived.ProofKit
import Derived.ChangeSame
import Derived.JoinedOf
import Derived.JoinedAt
import Derived.Carry
import Derived.Deep.Slices
import Derived.Deep.Fields
import Derived.Lib.SmallJoins
import Derived.Laws.Rows
import Derived.Test.YtalhbjmhipiiiaaGreatRtM
import Derived.Test.YtalhbjmhipiiiaaGreatTpK
/- The row's frame, for maps: arguments are opened to numbers and lists; behind a call that made new memory alone each reads as it did. -/
namespace Go.Proofs.YtalhbjmhipiiiaaGreat.Tp
set_option linter.unusedVariables false
namespace RowK
open Go.ChangeShapes Go.WideShapes Go.ChangeAt Go.RowKit Go.Joins Go.Deep

theorem own : ownKnob Tryz.prog.godebug = none := by kernel_rfl
theorem laidOut : laidOutB Tryz.prog = true := by kernel_rfl
theorem i64_bounds {n : Int} (h : (Lit.int .i64 n).wf = true) : -9223372036854775808 ≤ n ∧ n ≤ 9223372036854775807 := by
  simp only [Lit.wf, Bool.and_eq_true, decide_eq_true_eq] at h
  have a : IntKind.i64.min = -9223372036854775808 := rfl
  have b : IntKind.i64.max = 9223372036854775807 := rfl
  omega
section
variable {H : Type} {enc : TypeId × Value → H} {P : Program}
theorem all_stays (hl : laidOutB P = true) {W W' : World} (hb : Below W.heap.size W W') : ∀ {ts : List TypeId} {vs : List Value} {ds : List (DataW H)} {ps : List MemPlace},
    (∀ t ∈ ts, P.readableRec t = true ∧ t < P.types.size) → DataW.TrodAll enc P W 0 (fun _ => true) true ts vs ds ps → (∀ x ∈ ps, x.block < W.heap.size) → ∀ sp : Nat → Bool, (∀ x ∈ ps, sp x.block = true) → DataW.TrodAll enc P W' 0 sp true ts vs ds ps
  | [], vs, ds, ps, _, h, _, sp, _ => by
    obtain ⟨rfl, rfl, rfl⟩ := trodAll_nil h
    exact trodAll_mk0
  | t :: ts, vs, ds, ps, hr, h, hlt, sp, hsp => by
    obtain ⟨v, vs', d, ds', p, p', rfl, rfl, rfl, h0, h1⟩ := trodAll_cons h
    refine trodAll_cons_mk (WideElems.Trod_stays hl (hr t (by simp)).1 (hr t (by simp)).2 h0 (fun x hx => hb.same (hlt x (by simp [hx]))) (fun x hx => hsp x (by simp [hx]))) ?_
    exact all_stays hl hb (fun t ht => hr t (by simp [ht])) h1 (fun x hx => hlt x (by simp [hx])) sp (fun x hx => hsp x (by simp [hx]))

theorem post_law {f : Func} {s : ChangeSpec} {apart fresh handsOn again : Bool} {W W' : World} {args : Array Value} {v : Value} {ds gs : List (DataW H)} {before pv : List MemPlace}
    (hl : laidOutB P = true) (hr : ∀ t ∈ f.params.toList, P.readableRec t = true ∧ t < P.types.size)
    (hW : DataW.Whole enc P f.params.toList s.vars apart W args.toList ds gs (before ++ pv))
    (hA : DataW.TrodAll enc P W 0 (fun _ => true) true f.params.toList args.toList ds before)
    (hs : (s.fn H (ds ++ gs)).args = ds)
    (hres : ∀ (b : Nat) (sp : Nat → Bool) (hd : Bool), DataW.TrodAll enc P W' b sp hd f.resultTypes.toList (v.resultList f.resultTypes.size) (s.fn H (ds ++ gs)).results [])
    (hvars : ∀ sp : Nat → Bool, DataW.TrodVars enc P W' sp s.vars (s.fn H (ds ++ gs)).vars pv)
    (hb : Below W.heap.size W W')
    (hok : ∀ (j : Nat) (t : TypeId) (r : Value), f.resultTypes[j]? = some t → (v.resultList f.resultTypes.size)[j]? = some r → Value.okWide P W' .any 0 t r) :
    s.post enc P f apart fresh handsOn again W args v W' := by
  have hlt : ∀ p ∈ before ++ pv, p.block < W.heap.size := fun p hp => hW.lt p hp
  have hargs : ∀ sp : Nat → Bool, (∀ p ∈ before ++ pv, sp p.block = true) → DataW.TrodAll enc P W' 0 sp true f.params.toList args.toList (s.fn H (ds ++ gs)).args before := fun sp hsp => by
    rw [hs]
    exact all_stays hl hb hr hA (fun x hx => hlt x (by simp [hx])) sp (fun x hx => hsp x (by simp [hx]))
  have hold : ∀ p ∈ before ++ pv, (fun b => decide (b < W.heap.size)) p.block = true := fun p hp => by simpa using hlt p hp
  refine ⟨ds, gs, before ++ pv, [], before, pv, hW, hres _ _ _, hargs _ hold, hvars _, World.keptBut_mono (fun p hp => ⟨hp, ?_⟩) (hb.frame (· ∈ before ++ pv)), fun _ => ?_⟩
  · rw [List.mem_append] at hp
    exact Or.inr hp
  · obtain ⟨_, _, _, _, _, hz, hn⟩ := hW
    refine ⟨hok, _, _, ([] ++ before) ++ pv, ⟨[] ++ before, pv, trodAll_append (hargs _ (fun _ _ => rfl)) (hres _ _ _), hvars _, rfl, ?_, ?_⟩, ?_⟩
    · intro b off hp
      have hin : MemPlace.cell b off ∈ before ++ pv := by simpa using hp
      rw [hb.frozen (hlt _ hin)]
      exact hz b off hin
    · intro ha
      have := hn ha
      simpa using this
    · intro p hp _
      simpa using hp
end

section
variable {H : Type} {enc : TypeId × Value → H} {P : Program} {w : World} {base : Nat} {spare : Nat → Bool} {held : Bool}
theorem open_slice_fields {t e : TypeId} {fs : Array Field} {fuel : Nat} {cs : List Value} {x : DataW H × List MemPlace} (ht : P.underlying t = some (.slice e)) (he : P.underlying e = some (.struct fs))
    (hone : oneCellFields P fs = true) (hC : P.cellsOf e = fs.size) (h : DataW.trod enc P w base spare held fuel t cs = some x) :
    cs = [.slice none 0 0] ∨
    ∃ (a : Addr) (len cap : Nat), cs = [.slice (some a) len cap] ∧ len ≤ cap ∧ cap ≤ maxLen ∧
      ∀ i, i < len → ∀ (j : Nat) (f : Field), fs[j]? = some f → ∃ (v : Value) (n : Nat) (y : DataW H × List MemPlace), w.cell? (a.add (i * fs.size + j)) = some v ∧ DataW.trod enc P w base spare held n f.type [v] = some y := by
  rcases open_slice ht h with h0 | ⟨a, len, cap, m, n, D, Pl, hcs, hb, hl, hm, hmm, hx, hi⟩
  · exact .inl h0.1
  · refine .inr ⟨a, len, cap, hcs, hl, hm, fun i hil j f hj => ?_⟩
    have him : i < m := by rw [hmm]; split <;> omega
    obtain ⟨cs', hc, ht'⟩ := hi i him
    rw [hC] at hc
    obtain ⟨ys, n', hn', hy, hlen, hyl, hf⟩ := DataW.trod_struct he ht'
    obtain ⟨_, hcl, hat⟩ := World.cells?_some hc
    obtain ⟨ho, hk⟩ := hone_of hone j f hj
    have hjl : j < fs.size := (Array.getElem?_eq_some_iff.1 hj).1
    have hcell := hat j hjl
    have hv : cs'[j]? = some (cs'[j]'(by omega)) := List.getElem?_eq_getElem (by omega)
    have h1 := hf j f hj
    rw [ho, hk] at h1
    have hone' : (cs'.drop j).take 1 = [cs'[j]'(by omega)] := by
      rw [List.drop_eq_getElem_cons (by omega)]
      rfl
    rw [hone'] at h1
    have hys : ys[j]? = some (ys[j]'(by omega)) := List.getElem?_eq_getElem (by omega)
    refine ⟨_, n', _, ?_, h1.trans hys⟩
    rw [← Go.Deep.add_add, hcell, hv]
theorem list_of {α : Type} {Q : Nat → α → Prop} : ∀ {n : Nat}, (∀ i, i < n → ∃ x, Q i x) → ∃ L : List α, L.length = n ∧ ∀ i x, L[i]? = some x → Q i x
  | 0, _ => ⟨[], rfl, fun i x h => by simp at h⟩
  | n + 1, h => by
    obtain ⟨L, hL, hQ⟩ := list_of (n := n) (fun i hi => h i (by omega))
    obtain ⟨x, hx⟩ := h n (by omega)
    refine ⟨L ++ [x], by simp [hL], fun i y hy => ?_⟩
    rw [List.getElem?_append] at hy
    split at hy
    · exact hQ i y hy
    · have : i = n := by
        have := (List.getElem?_eq_some_iff.1 hy).1
        simp at this
        omega
      subst this
      rw [hL] at hy
      simp at hy
      exact hy ▸ hx
end

theorem cellsLink : Tryz.prog.cellsOf 51 = 8 := by kernel_rfl
theorem i64_of {n : Int} (h : (Lit.int .i64 n).wf = true) : I64 n := i64_bounds h
section
variable {H : Type} {enc : TypeId × Value → H} {w : World} {base : Nat} {spare : Nat → Bool} {held : Bool}
theorem open_links {fuel : Nat} {cs : List Value} {x : DataW H × List MemPlace} (h : DataW.trod enc Tryz.prog w base spare held fuel 22 cs = some x) :
    ∃ (A : Option Addr) (L : List Lk) (c : Nat), cs = [.slice A L.length c] ∧ L.length ≤ c ∧ c ≤ maxLen ∧ WideL L ∧ Lie linkV 8 w w.heap.size A L := by
  rcases open_slice_fields Tryz.underlying22 Tryz.underlying51 (by kernel_rfl) cellsLink h with rfl | ⟨a, len, cap, rfl, hl, hm, hc⟩
  · exact ⟨none, [], 0, rfl, by simp, by simp [maxLen], fun x hx => absurd hx (by simp), Lie.nil⟩
  · obtain ⟨L, rfl, hL⟩ := list_of (α := Lk) (Q := fun i x => I64P (ends1 x) ∧ w.cell? (a.add (i * 8 + 0)) = some (.int .i64 (fr x)) ∧ w.cell? (a.add (i * 8 + 1)) = some (.int .i64 (tw x)) ∧ w.cell? (a.add (i * 8 + 2)) = some (.int .i64 (rt x)) ∧ w.cell? (a.add (i * 8 + 3)) = some (.int .i64 (sh x)) ∧ w.cell? (a.add (i * 8 + 4)) = some (.int .i64 (fa x)) ∧ w.cell? (a.add (i * 8 + 5)) = some (.int .i64 (mo x)) ∧ w.cell? (a.add (i * 8 + 6)) = some (.int .i64 (ro x)) ∧ w.cell? (a.add (i * 8 + 7)) = some (.int .i64 (fi x))) (n := len) (fun i hi => by
      obtain ⟨v0, n0, y0, hv0, ht0⟩ := hc i hi 0 _ rfl
      obtain ⟨v1, n1, y1, hv1, ht1⟩ := hc i hi 1 _ rfl
      obtain ⟨v2, n2, y2, hv2, ht2⟩ := hc i hi 2 _ rfl
      obtain ⟨v3, n3, y3, hv3, ht3⟩ := hc i hi 3 _ rfl
      obtain ⟨v4, n4, y4, hv4, ht4⟩ := hc i hi 4 _ rfl
      obtain ⟨v5, n5, y5, hv5, ht5⟩ := hc i hi 5 _ rfl
      obtain ⟨v6, n6, y6, hv6, ht6⟩ := hc i hi 6 _ rfl
      obtain ⟨v7, n7, y7, hv7, ht7⟩ := hc i hi 7 _ rfl
      obtain ⟨a0, e0, -, z0⟩ := DataW.trod_int Tryz.underlying3 ht0
      obtain ⟨a1, e1, -, z1⟩ := DataW.trod_int Tryz.underlying3 ht1
      obtain ⟨a2, e2, -, z2⟩ := DataW.trod_int Tryz.underlying2 ht2
      obtain ⟨a3, e3, -, z3⟩ := DataW.trod_int Tryz.underlying2 ht3
      obtain ⟨a4, e4, -, z4⟩ := DataW.trod_int Tryz.underlying2 ht4
      obtain ⟨a5, e5, -, z5⟩ := DataW.trod_int Tryz.underlying2 ht5
      obtain ⟨a6, e6, -, z6⟩ := DataW.trod_int Tryz.underlying2 ht6
      obtain ⟨a7, e7, -, z7⟩ := DataW.trod_int Tryz.underlying2 ht7
      simp at e0 e1 e2 e3 e4 e5 e6 e7
      subst e0 e1 e2 e3 e4 e5 e6 e7
      exact ⟨(a0, a1, a2, a3, a4, a5, a6, a7), ⟨i64_of z0, i64_of z1⟩, hv0, hv1, hv2, hv3, hv4, hv5, hv6, hv7⟩)
    refine ⟨some a, L, cap, rfl, hl, hm, fun x hx => ?_, fun hlen => ⟨a, rfl, ?_, fun i x hx j v hv => ?_⟩⟩
    · obtain ⟨i, hi, rfl⟩ := List.getElem_of_mem hx
      exact (hL i L[i] (List.getElem?_eq_getElem hi)).1
    · have := (hL 0 L[0] (List.getElem?_eq_getElem hlen)).2.1
      have := World.block_lt_of_cell? _ _ this
      rwa [block_of_add] at this
    · obtain ⟨_, h0, h1, h2, h3, h4, h5, h6, h7⟩ := hL i x hx
      match j, hv with
      | 0, hv => simp [linkV] at hv; subst hv; exact h0
      | 1, hv => simp [linkV] at hv; subst hv; exact h1
      | 2, hv => simp [linkV] at hv; subst hv; exact h2
      | 3, hv => simp [linkV] at hv; subst hv; exact h3
      | 4, hv => simp [linkV] at hv; subst hv; exact h4
      | 5, hv => simp [linkV] at hv; subst hv; exact h5
      | 6, hv => simp [linkV] at hv; subst hv; exact h6
      | 7, hv => simp [linkV] at hv; subst hv; exact h7
      | j + 8, hv => simp [linkV] at hv
end
section
variable {H : Type} {enc : TypeId × Value → H} {P : Program} {w : World} {base : Nat} {spare : Nat → Bool} {held : Bool}
theorem open_ints8 {r : Reach} {b0 : Nat} {t : TypeId} {f0 f1 f2 f3 f4 f5 f6 f7 : Field} {v : Value} {d : DataW H} {p : List MemPlace} (hs : P.underlying t = some (.struct #[f0, f1, f2, f3, f4, f5, f6, f7])) (hone : oneCellFields P #[f0, f1, f2, f3, f4, f5, f6, f7] = true) (hC : P.cellsOf t = 8)
    (i0 : P.underlying f0.type = some (.int .i64)) (i1 : P.underlying f1.type = some (.int .i64)) (i2 : P.underlying f2.type = some (.int .i64)) (i3 : P.underlying f3.type = some (.int .i64)) (i4 : P.underlying f4.type = some (.int .i64)) (i5 : P.underlying f5.type = some (.int .i64)) (i6 : P.underlying f6.type = some (.int .i64)) (i7 : P.underlying f7.type = some (.int .i64))
    (hv : Value.okWide P w r b0 t v) (h : DataW.Trod enc P w base spare held t v d p) :
    ∃ a0 a1 a2 a3 a4 a5 a6 a7 : Int, v = .agg #[.int .i64 a0, .int .i64 a1, .int .i64 a2, .int .i64 a3, .int .i64 a4, .int .i64 a5, .int .i64 a6, .int .i64 a7] ∧ I64 a0 ∧ I64 a1 := by
  obtain ⟨cs, rfl, hsz⟩ := okWide_struct hs hv
  obtain ⟨l⟩ := cs
  match l, hsz.trans hC with
  | [c0, c1, c2, c3, c4, c5, c6, c7], _ =>
    obtain ⟨fuel, hf⟩ := h
    obtain ⟨xs, n, _, hx, _, hlen, hg⟩ := DataW.trod_struct hs hf
    obtain ⟨o0, k0⟩ := hone_of hone 0 f0 rfl
    obtain ⟨o1, k1⟩ := hone_of hone 1 f1 rfl
    obtain ⟨o2, k2⟩ := hone_of hone 2 f2 rfl
    obtain ⟨o3, k3⟩ := hone_of hone 3 f3 rfl
    obtain ⟨o4, k4⟩ := hone_of hone 4 f4 rfl
    obtain ⟨o5, k5⟩ := hone_of hone 5 f5 rfl
    obtain ⟨o6, k6⟩ := hone_of hone 6 f6 rfl
    obtain ⟨o7, k7⟩ := hone_of hone 7 f7 rfl
    match xs, hlen with
    | [y0, y1, y2, y3, y4, y5, y6, y7], _ =>
      have g0 : DataW.trod enc P w base spare held n f0.type [c0] = some y0 := by simpa [Value.cells, o0, k0] using hg 0 f0 rfl
      have g1 : DataW.trod enc P w base spare held n f1.type [c1] = some y1 := by simpa [Value.cells, o1, k1] using hg 1 f1 rfl
      have g2 : DataW.trod enc P w base spare held n f2.type [c2] = some y2 := by simpa [Value.cells, o2, k2] using hg 2 f2 rfl
      have g3 : DataW.trod enc P w base spare held n f3.type [c3] = some y3 := by simpa [Value.cells, o3, k3] using hg 3 f3 rfl
      have g4 : DataW.trod enc P w base spare held n f4.type [c4] = some y4 := by simpa [Value.cells, o4, k4] using hg 4 f4 rfl
      have g5 : DataW.trod enc P w base spare held n f5.type [c5] = some y5 := by simpa [Value.cells, o5, k5] using hg 5 f5 rfl
      have g6 : DataW.trod enc P w base spare held n f6.type [c6] = some y6 := by simpa [Value.cells, o6, k6] using hg 6 f6 rfl
      have g7 : DataW.trod enc P w base spare held n f7.type [c7] = some y7 := by simpa [Value.cells, o7, k7] using hg 7 f7 rfl
      obtain ⟨a0, e0, -, z0⟩ := DataW.trod_int i0 g0
      obtain ⟨a1, e1, -, z1⟩ := DataW.trod_int i1 g1
      obtain ⟨a2, e2, -, z2⟩ := DataW.trod_int i2 g2
      obtain ⟨a3, e3, -, z3⟩ := DataW.trod_int i3 g3
      obtain ⟨a4, e4, -, z4⟩ := DataW.trod_int i4 g4
      obtain ⟨a5, e5, -, z5⟩ := DataW.trod_int i5 g5
      obtain ⟨a6, e6, -, z6⟩ := DataW.trod_int i6 g6
      obtain ⟨a7, e7, -, z7⟩ := DataW.trod_int i7 g7
      simp at e0 e1 e2 e3 e4 e5 e6 e7
      exact ⟨a0, a1, a2, a3, a4, a5, a6, a7, by rw [e0, e1, e2, e3, e4, e5, e6, e7], i64_of z0, i64_of z1⟩
theorem okWide_array {r : Reach} {b0 : Nat} {t e : TypeId} {n : Nat} {v : Value} (ht : P.underlying t = some (.array n e)) (h : Value.okWide P w r b0 t v) : ∃ cs, v = .agg cs ∧ cs.size = P.cellsOf t := by
  simp only [Value.okWide, ht] at h
  obtain ⟨cs, h1, h2, _⟩ := h
  exact ⟨cs, h1, h2⟩
theorem open_pairI {r : Reach} {b0 : Nat} {t e : TypeId} {v : Value} {d : DataW H} {p : List MemPlace} (ht : P.underlying t = some (.array 2 e)) (hC : P.cellsOf t = 2) (hE : P.cellsOf e = 1) (he : P.underlying e = some (.int .i64))
    (hv : Value.okWide P w r b0 t v) (h : DataW.Trod enc P w base spare held t v d p) : ∃ a b : Int, v = .agg #[.int .i64 a, .int .i64 b] ∧ I64 a ∧ I64 b := by
  obtain ⟨cs, rfl, hsz⟩ := okWide_array ht hv
  obtain ⟨l⟩ := cs
  match l, hsz.trans hC with
  | [c0, c1], _ =>
    obtain ⟨fuel, hf⟩ := h
    obtain ⟨xs, m, _, _, _, hlen, hg⟩ := DataW.trod_array ht hf
    match xs, hlen with
    | [y0, y1], _ =>
      have g0 : DataW.trod enc P w base spare held m e [c0] = some y0 := by simpa [Value.cells, hE] using hg 0 (by omega)
      have g1 : DataW.trod enc P w base spare held m e [c1] = some y1 := by simpa [Value.cells, hE] using hg 1 (by omega)
      obtain ⟨a0, e0, -, z0⟩ := DataW.trod_int he g0
      obtain ⟨a1, e1, -, z1⟩ := DataW.trod_int he g1
      simp at e0 e1
      subst e0 e1
      exact ⟨a0, a1, rfl, i64_of z0, i64_of z1⟩
end
end RowK
end Go.Proofs.YtalhbjmhipiiiaaGreat.Tp

/- Routes: what is told of them: how many ticks its links are; the map; made. -/
namespace Go.Proofs.YtalhbjmhipiiiaaGreat.Tp
set_option linter.unusedVariables false
open Go.RowKit Go.Maps

theorem lsI_in {n : Int} {L : List Lk} (hV : Valid n L) (x t : Int) : ∀ z ∈ lsI n L x t, ∃ i, i < L.length ∧ z = (i : Int) := fun z hz => by
  unfold lsI at hz
  split at hz
  · rename_i hok
    split at hz
    · simp at hz
    · rename_i h16
      obtain ⟨⟨hx0, hx1⟩, _⟩ := okB_iff.1 hok
      have hd := dist_le hV x t
      have := hV.hi
      exact wayL_in hV t _ x hx0 hx1 (by omega) rfl z hz
  · simp at hz
/-- how many ticks links are, together. -/
def ahL (L : List Lk) : List Int → Int
  | [] => 0
  | z :: l => fa (lkAt L z.toNat) + ahL L l
theorem ahL_snoc (L : List Lk) (z : Int) : ∀ l : List Int, ahL L (l ++ [z]) = ahL L l + fa (lkAt L z.toNat)
  | [] => by simp [ahL]
  | y :: l => by
    show fa (lkAt L y.toNat) + ahL L (l ++ [z]) = fa (lkAt L y.toNat) + ahL L l + fa (lkAt L z.toNat)
    rw [ahL_snoc L z l]
    omega
theorem ahL_le {n : Int} {L : List Lk} (hV : Valid n L) : ∀ l : List Int, (∀ z ∈ l, ∃ i, i < L.length ∧ z = (i : Int)) → 0 ≤ ahL L l ∧ ahL L l ≤ 1000 * l.length
  | [], _ => by simp [ahL]
  | z :: l, h => by
    have ih := ahL_le hV l (fun y hy => h y (by simp [hy]))
    obtain ⟨i, hi, rfl⟩ := h z (by simp)
    have hr := (rightB_iff n _).1 (hV.all _ (lkAt_mem hi))
    simp only [ahL, List.length_cons, Int.toNat_natCast]
    omega
theorem Ahead_no (v : Value) (x t : Int) (w : World) (h : NoneR w v) : Calls Tryz.prog 18 #[v, .int .i64 x, .int .i64 t] w fun e w' => e = .returned (.int .i64 0) ∧ w = w' := by
  have c := hidd (find_no v x t w h)
  clear h
  go_enter Tryz.func18, Tryz.ntmps18
  go_wp2_with fail
  refine c.out.mono ?_
  rintro e w1 ⟨rfl, rfl⟩
  go_wp2_with fail
  go_loopg [9, 23] 1 (fun g s9 s23 wr => s9 = .int .i64 0 ∧ s23 = .int .i64 0 ∧ wr = w)
  case atStart => exact ⟨rfl, rfl, rfl⟩
  case round =>
    obtain ⟨rfl, rfl, rfl⟩ := hrel
    go_wp2_with fail
    go_ret
    exact ⟨rfl, rfl⟩
set_option maxRecDepth 100000 in
set_option maxHeartbeats 4000000 in
theorem Ahead_all (B r bw m : Nat) (n : Int) (L : List Lk) (hV : Valid n L) (done : Bool) (x t : Int) (w : World) (h : RoutesAt w B r bw m n L done) (hB : B ≤ w.heap.size) :
    Calls Tryz.prog 18 #[.pointer (some ⟨r, 0, none⟩), .int .i64 x, .int .i64 t] w fun e w' => Post B r bw m n L done x t w w' ∧ e = .returned (.int .i64 (ahL L (lsI n L x t))) := by
  have hn1 := hV.lo
  have hLl : L.length ≤ 1000000 := by have := hV.len; omega
  have c := hidd (find_all B r bw m n L hV done x t w h hB)
  have hlen := lsI_len n L hV x t
  have hin := lsI_in hV x t
  have HLE := hidd (fun (l : List Int) h => ahL_le hV l h)
  have CK := hidd (fun (i : Nat) (hi : i < L.length) W (h : MapAt W m n L) => Link_in m n hn1 L hLl i hi W h)
  have HB := hidd hB
  obtain ⟨PO, hPO⟩ : ∃ PO : Ending → World → Prop, (fun (e : Ending) (w' : World) => Post B r bw m n L done x t w w' ∧ e = .returned (.int .i64 (ahL L (lsI n L x t)))) = PO := ⟨_, rfl⟩
  rw [hPO]
  have HPO := hidd hPO
  clear h hPO hV hB
  generalize lsI n L x t = l at *
  generalize erI n L x t = er at *
  go_enter Tryz.func18, Tryz.ntmps18
  go_wp2_with fail
  refine c.out.mono ?_
  rintro e w1 ⟨hP, _, A, k, rfl, hk, hl⟩
  have HP := hidd hP
  have HL := hidd hl
  have HIN := hidd hin
  obtain ⟨d, hR, _⟩ := hP
  have HR := hidd hR
  clear hl hR hin
  go_wp2_with fail
  go_loopg [9, 23] 20 (fun g s9 s23 wr => ∃ i : Nat, i ≤ l.length ∧ i + g = 20 ∧ s23 = .int .i64 (i : Int) ∧ s9 = .int .i64 (ahL L (l.take i)) ∧ Below w1.heap.size w1 wr)
  case atStart => exact ⟨0, by omega, by omega, rfl, rfl, Below.refl _ _⟩
  case round =>
    obtain ⟨i, hi, hg, rfl, rfl, hb⟩ := hrel
    have HG := hidd hg
    have HBW := hidd hb
    clear hg hb
    by_cases hlt : i < l.length
    · have hlt2 : (i : Int) < (l.length : Int) := by omega
      have hi0 : (0 : Int) ≤ (i : Int) := by omega
      obtain ⟨ad, rfl, _, hcell⟩ := (HL.out.below HBW.out).int i hlt
      obtain ⟨j, hj, hz⟩ := HIN.out (av l i) (av_mem hlt)
      have hR := HR.out.below HBW.out
      have c3 := hR.c3
      have c0 := hR.ways.map
      have ck := hidd (CK.out j hj wr hR.ways.mapAt)
      have hs1 := (HLE.out (l.take i) (fun z h => HIN.out z (List.mem_of_mem_take h)))
      have hs2 := (HLE.out (l.take (i + 1)) (fun z h => HIN.out z (List.mem_of_mem_take h)))
      have htl : (l.take i).length ≤ 15 := by rw [List.length_take]; omega
      have htl2 : (l.take (i + 1)).length ≤ 15 := by rw [List.length_take]; omega
      have hst : ahL L (l.take (i + 1)) = ahL L (l.take i) + fa (lkAt L j) := by rw [take_oneB hlt, ahL_snoc, hz]; rfl
      rw [hz] at hcell
      rw [hst] at hs2
      have HST := hidd hst
      clear hR hst hz
      unfold linkA at ck
      generalize ahL L (l.take i) = S at *
      generalize fr (lkAt L j) = a0 at *
      generalize tw (lkAt L j) = a1 at *
      generalize rt (lkAt L j) = a2 at *
      generalize sh (lkAt L j) = a3 at *
      generalize fa (lkAt L j) = a4 at *
      generalize mo (lkAt L j) = a5 at *
      generalize ro (lkAt L j) = a6 at *
      generalize fi (lkAt L j) = a7 at *
      have hw1 : -9223372036854775808 ≤ S + a4 := by omega
      have hw2 : S + a4 ≤ 9223372036854775807 := by omega
      clear hs1 hs2 htl htl2
      go_wp2_with fail
      refine ck.out.mono ?_
      rintro e w2 ⟨rfl, hb2⟩
      have HB2 := hidd (below_step HBW.out hb2)
      clear hb2
      go_wp2_with fail
      go_roundg (gk - 1)
      case measure => have := HG.out; omega
      case rel => exact ⟨i + 1, by omega, by have := HG.out; omega, by go_num, by rw [HST.out], below_new HB2.out _⟩
    · have hin2 : ¬ (i : Int) < (l.length : Int) := by omega
      have he : Hid (l.take i = l) := hidd (List.take_of_length_le (by omega))
      go_wp2_with fail
      rw [he.out]
      show PO (.returned (.int .i64 (ahL L l))) wr
      rw [← HPO.out]
      exact ⟨HP.out.then HB.out HBW.out, rfl⟩
theorem MapR_no (v : Value) (w : World) (h : NoneR w v) : Calls Tryz.prog 20 #[v] w fun e w' => e = .returned (.pointer none) ∧ w = w' := by
  have c := hidd (isNoneR_no v w h)
  clear h
  go_enter Tryz.func20, Tryz.ntmps20
  go_wp2_with fail
  refine c.out.mono ?_
  rintro e w1 ⟨rfl, rfl⟩
  go_wp2_with fail
  go_ret
  exact ⟨rfl, rfl⟩
theorem MapR_yes (B r bw m : Nat) (n : Int) (L : List Lk) (hV : Valid n L) (hI : WideL L) (done : Bool) (w : World) (h : RoutesAt w B r bw m n L done) : Calls Tryz.prog 20 #[.pointer (some ⟨r, 0, none⟩)] w fun e w' => ∃ m', e = .returned (.pointer (some ⟨m', 0, none⟩)) ∧ MapAt w' m' n L ∧ Below w.heap.size w w' := by
  have c := hidd (isNoneR_yes r bw w h.c3)
  have cc := hidd (Copy_yes m n hV.lo L (by have := hV.len; omega) hI w h.ways.mapAt)
  have c3 := h.c3
  have c0 := h.ways.map
  clear h hV
  go_enter Tryz.func20, Tryz.ntmps20
  go_wp2_with fail
  refine c.out.mono ?_
  rintro e w1 ⟨rfl, rfl⟩
  go_wp2_with fail
  refine cc.out.mono ?_
  rintro e w1 ⟨m', rfl, hm, _, hb⟩
  go_wp2_with fail
  go_ret
  exact ⟨m', rfl, hm, hb⟩
end Go.Proofs.YtalhbjmhipiiiaaGreat.Tp

/- Routes: made. -/
namespace Go.Proofs.YtalhbjmhipiiiaaGreat.Tp
set_option linter.unusedVariables false
open Go.RowKit Go.Maps

theorem NewR_no (v : Value) (w : World) (h : NoneV w v) : Calls Tryz.prog 10 #[v] w fun e w' => e = .returned (.tuple #[.pointer none, .int .i64 1]) ∧ w = w' := by
  have c := hidd (Copy_no v w h)
  clear h
  go_enter Tryz.func10, Tryz.ntmps10
  go_wp2_with fail
  refine c.out.mono ?_
  rintro e w1 ⟨rfl, rfl⟩
  go_wp2_with fail
  exact ⟨rfl, .tuple #[.pointer none, .int .i64 1], by simp [results, Tryz.results10, go_sem], rfl, rfl⟩
def isI0 : Value → Bool
  | .int .i64 z => decide (z = 0)
  | _ => false
def isS0 : Value → Bool
  | .slice none 0 0 => true
  | _ => false
theorem isI0_eq {v : Value} (h : isI0 v = true) : v = .int .i64 0 := by
  unfold isI0 at h
  split at h
  · rw [of_decide_eq_true h]
  · cases h
theorem isS0_eq {v : Value} (h : isS0 v = true) : v = .slice none 0 0 := by
  unfold isS0 at h
  split at h
  · rfl
  · cases h
theorem zc_size : (Tryz.zeroCells88).size = 513 := by kernel_rfl
theorem zc_far : ((List.range 256).all fun j => isI0 ((Tryz.zeroCells88).getD (1 + j) (.bool false))) = true := by kernel_rfl
theorem zc_links : ((List.range 256).all fun j => isS0 ((Tryz.zeroCells88).getD (257 + j) (.bool false))) = true := by kernel_rfl
theorem newWays (p : Option Addr) : ∃ cs : Array Value, (Tryz.zeroCells88).setIfInBounds 0 (.pointer p) = cs ∧ cs[0]? = some (.pointer p) ∧ (∀ j, j < 256 → cs[1 + j]? = some (.int .i64 0)) ∧ (∀ j, j < 256 → cs[257 + j]? = some (.slice none 0 0)) := by
  have hs := zc_size
  have h1 := zc_far
  have h2 := zc_links
  generalize Tryz.zeroCells88 = Z at *
  refine ⟨_, rfl, ?_, fun j hj => ?_, fun j hj => ?_⟩
  · rw [Array.getElem?_setIfInBounds_self_of_lt (by omega)]
  · rw [Array.getElem?_setIfInBounds_ne (by omega)]
    have := isI0_eq (List.all_eq_true.1 h1 j (List.mem_range.2 hj))
    rw [Array.getD_eq_getD_getElem?] at this
    rw [Array.getElem?_eq_getElem (by omega)] at this ⊢
    simpa using this
  · rw [Array.getElem?_setIfInBounds_ne (by omega)]
    have := isS0_eq (List.all_eq_true.1 h2 j (List.mem_range.2 hj))
    rw [Array.getD_eq_getD_getElem?] at this
    rw [Array.getElem?_eq_getElem (by omega)] at this ⊢
    simpa using this
set_option maxRecDepth 100000 in
set_option maxHeartbeats 4000000 in
theorem NewR_yes (m0 : Nat) (n : Int) (L : List Lk) (hV : Valid n L) (hI : WideL L) (w : World) (h : MapAt w m0 n L) : Calls Tryz.prog 10 #[.pointer (some ⟨m0, 0, none⟩)] w fun e w' => ∃ r bw m, e = .returned (.tuple #[.pointer (some ⟨r, 0, none⟩), .int .i64 0]) ∧ RoutesAt w' w.heap.size r bw m n L false ∧ Below w.heap.size w w' := by
  have cc := hidd (Copy_yes m0 n hV.lo L (by have := hV.len; omega) hI w h)
  clear h hV
  go_enter Tryz.func10, Tryz.ntmps10
  go_wp2_with fail
  refine cc.out.mono ?_
  rintro e w1 ⟨m, rfl, hm, hmb, hb⟩
  have HM := hidd hm
  have HBB := hidd hb
  have HMB := hidd hmb
  clear hm hb hmb
  obtain ⟨cs, hcs, hc0, hc1, hc2⟩ := newWays (some ⟨m, 0, none⟩)
  have HC0 := hidd hc0
  have HC1 := hidd hc1
  have HC2 := hidd hc2
  clear hc0 hc1 hc2
  go_wp2_with fail
  obtain ⟨W1, hW1⟩ : ∃ W1, w1.alloc (.cells cs 88) = W1 := ⟨_, rfl⟩
  have hk : W1.heap[w1.heap.size]? = some (.cells cs 88 (0, 0)) := by rw [← hW1]; exact World.alloc_heap_new w1 _
  have hb1 : Below w1.heap.size w1 W1 := by rw [← hW1]; (repeat' (first | (with_reducible exact Below.refl _ _) | (with_reducible assumption) | (with_reducible apply Below.setCell) | (with_reducible apply Below.alloc) | (with_reducible apply Below.drew) | (with_reducible apply below_drewN) | (with_reducible refine Below.trans ?_ (Below.mono (by assumption) ?_)) | omega | (simp; done) | (simp; omega)))
  have hs1 : W1.heap.size = w1.heap.size + 1 := by rw [← hW1]; simp
  have hbs := HBB.out.size
  have hWA : WaysAt W1 W1.heap.size w1.heap.size m n L (farOf n L false) (lksOf n L false) :=
    ⟨⟨w1, HM.out, Nat.le_refl _, hb1⟩, by omega, Nat.le_refl _, ⟨cs, hk⟩, by simp [World.cell?, hk, HC0.out], fun x t hx ht => by
      have := HC1.out (x * 16 + t) (by omega)
      rw [show 1 + x * 16 + t = 1 + (x * 16 + t) from by omega]
      simp [World.cell?, hk, this, farOf], fun x t hx ht => ⟨none, 0, by
      have := HC2.out (x * 16 + t) (by omega)
      rw [show 257 + x * 16 + t = 257 + (x * 16 + t) from by omega]
      simp [World.cell?, hk, this, lksOf], by simp [lksOf], by decide, by simp [lksOf]; exact Lie.nil, fun ad e => by cases e⟩⟩
  rw [hW1]
  have hb2 : Below W1.heap.size W1 (W1.alloc (.cells #[.int .u32 0, .int .i32 0, .int .u32 0, .pointer (some ⟨w1.heap.size, 0, none⟩)] 72)) := by (repeat' (first | (with_reducible exact Below.refl _ _) | (with_reducible assumption) | (with_reducible apply Below.setCell) | (with_reducible apply Below.alloc) | (with_reducible apply Below.drew) | (with_reducible apply below_drewN) | (with_reducible refine Below.trans ?_ (Below.mono (by assumption) ?_)) | omega | (simp; done) | (simp; omega)))
  refine ⟨rfl, .tuple #[.pointer (some ⟨w1.heap.size + 1, 0, none⟩), .int .i64 0], by simp [results, Tryz.results10, go_sem], w1.heap.size + 1, w1.heap.size, m, rfl, ⟨hWA.below hb2, ?_, hbs, by omega⟩, (HBB.out.trans (hb1.mono hbs)).trans (hb2.mono (by omega))⟩
  rw [← hs1]
  exact World.alloc_heap_new W1 _
end Go.Proofs.YtalhbjmhipiiiaaGreat.Tp

/- Routes: four nodes in a ring; a way of two links is known. -/
namespace Go.Proofs.YtalhbjmhipiiiaaGreat.Tp
set_option linter.unusedVariables false
open Go.RowKit Go.Maps

def lkR (a b : Int) : Lk := (a, b, 10, 0, 1, 100, 0, 0)
def paR (k : Nat) : Int := ([0, 1, 0, 3] : List Int).getD k 0
def pbR (k : Nat) : Int := ([1, 2, 3, 2] : List Int).getD k 0
def ringL : List Lk := [lkR 0 1, lkR 1 0, lkR 1 2, lkR 2 1, lkR 0 3, lkR 3 0, lkR 3 2, lkR 2 3]
theorem ring_wide : WideL ringL := fun x hx => by
  simp only [ringL, List.mem_cons, List.not_mem_nil, or_false] at hx
  rcases hx with rfl | rfl | rfl | rfl | rfl | rfl | rfl | rfl <;> (simp [I64P, I64, ends1, lkR, fr, tw])
theorem err_ring : errN 4 ringL = 0 := by decide +kernel
theorem ring_valid : Valid 4 ringL := valid_of err_ring
theorem ring_next : ∀ k, k < 4 → ringL.take (2 * (k + 1)) = ringL.take (2 * k) ++ [lkR (paR k) (pbR k), lkR (pbR k) (paR k)]
  | 0, _ => rfl
  | 1, _ => rfl
  | 2, _ => rfl
  | 3, _ => rfl
set_option maxRecDepth 100000 in
set_option maxHeartbeats 4000000 in
theorem ring_any (w : World) : Calls Tryz.prog 22 #[] w fun e w' => ∃ A c, e = .returned (.slice A ringL.length c) ∧ Lie linkV 8 w' w'.heap.size A ringL ∧ Below w.heap.size w w' := by
  obtain ⟨i0, hi, hz0, hz1, hz2⟩ := info_parts linkInfo
  obtain ⟨W0, hW0⟩ : ∃ W0, w.alloc (.cells #[.int .i64 0, .int .i64 1, .int .i64 1, .int .i64 2, .int .i64 0, .int .i64 3, .int .i64 3, .int .i64 2] 23) = W0 := ⟨_, rfl⟩
  have hb0 : Below w.heap.size w W0 := by rw [← hW0]; (repeat' (first | (with_reducible exact Below.refl _ _) | (with_reducible assumption) | (with_reducible apply Below.setCell) | (with_reducible apply Below.alloc) | (with_reducible apply Below.drew) | (with_reducible apply below_drewN) | (with_reducible refine Below.trans ?_ (Below.mono (by assumption) ?_)) | omega | (simp; done) | (simp; omega)))
  have hs0 : W0.heap.size = w.heap.size + 1 := by rw [← hW0]; simp
  have hcl : ∀ k, k < 4 → W0.cell? ⟨w.heap.size, k * 2, none⟩ = some (.int .i64 (paR k)) ∧ W0.cell? ⟨w.heap.size, k * 2 + 1, none⟩ = some (.int .i64 (pbR k)) := fun k hk => by
    rw [← hW0]
    match k, hk with
    | 0, _ => simp [go_sem, paR, pbR]
    | 1, _ => simp [go_sem, paR, pbR]
    | 2, _ => simp [go_sem, paR, pbR]
    | 3, _ => simp [go_sem, paR, pbR]
  have HCL := hidd hcl
  have HB0 := hidd hb0
  have HS0 := hidd hs0
  have HW := hidd hW0
  clear hb0 hs0 hcl hW0
  go_enter Tryz.func22, Tryz.ntmps22
  go_wp2_with fail
  rw [HW.out]
  go_loopg [1, 10] 4 (fun g s1 s10 wr => ∃ k : Nat, k + g = 4 ∧ s10 = .int .i64 (k : Int) ∧ OwnL linkV 8 wr W0.heap.size 51 s1 (ringL.take (2 * k)) ∧ Below W0.heap.size W0 wr)
  case atStart => exact ⟨0, rfl, rfl, OwnL.nil _ _ _, Below.refl _ _⟩
  case round =>
    obtain ⟨k, hg, rfl, hO, hB⟩ := hrel
    obtain ⟨A5, c5, rfl, _, _, hl5⟩ := hO.lie linkV_len
    have HG := hidd hg
    have HO := hidd hO
    have HBW := hidd hB
    have hbs := hB.size
    have hlk : (ringL.take (2 * k)).length ≤ 8 := by rw [List.length_take]; simp [ringL]; omega
    clear hg hO hB
    by_cases hk : k < 4
    · have hk2 : (k : Int) < 4 := by omega
      have hk0 : (0 : Int) ≤ (k : Int) := by omega
      have hs0 := HS0.out
      obtain ⟨q0, q1⟩ := HCL.out k hk
      have x0 := (HBW.out.cell (p := ⟨w.heap.size, k * 2, none⟩) (by show w.heap.size < _; omega)).trans q0
      have x1 := (HBW.out.cell (p := ⟨w.heap.size, k * 2 + 1, none⟩) (by show w.heap.size < _; omega)).trans q1
      have HN := hidd (ring_next k hk)
      generalize ringL.take (2 * k) = D at *
      obtain ⟨K, hK⟩ : ∃ K, D.length = K := ⟨_, rfl⟩
      have HO1 : Hid (wr.ownsRow W0.heap.size 51 8 (.slice A5 K c5) K (rowOf linkV D)) := hidd (by rw [← hK]; exact HO.out)
      rw [hK] at hlk ⊢
      have HK := hidd hK
      clear hK q0 q1 hl5 hs0
      generalize paR k = a at *
      generalize pbR k = b at *
      have HO2 := hidd ((World.ownsRow.alloc HO1.out (.cells #[.int .i64 a, .int .i64 b] 23)).alloc (.cells #[.int .i64 a, .int .i64 b, .int .i64 10, .int .i64 0, .int .i64 1, .int .i64 100, .int .i64 0, .int .i64 0, .int .i64 b, .int .i64 a, .int .i64 10, .int .i64 0, .int .i64 1, .int .i64 100, .int .i64 0, .int .i64 0] 51))
      have hsrc : Hid (0 < 2 → ∃ ad', some (⟨wr.heap.size + 1, 0, none⟩ : Addr) = some ad' ∧ ∀ j u, (rowOf linkV [lkR a b, lkR b a])[j]? = some u → ((wr.alloc (.cells #[.int .i64 a, .int .i64 b] 23)).alloc (.cells #[.int .i64 a, .int .i64 b, .int .i64 10, .int .i64 0, .int .i64 1, .int .i64 100, .int .i64 0, .int .i64 0, .int .i64 b, .int .i64 a, .int .i64 10, .int .i64 0, .int .i64 1, .int .i64 100, .int .i64 0, .int .i64 0] 51)).cell? (ad'.add j) = some u) := hidd (fun _ => ⟨_, rfl, fun j u hj => by
        have e0 : (⟨wr.heap.size + 1, 0, none⟩ : Addr).add j = ⟨wr.heap.size + 1, j, none⟩ := by unfold Addr.add; split <;> simp_all
        rw [e0]
        have e1 : ((wr.alloc (.cells #[.int .i64 a, .int .i64 b] 23)).alloc (.cells #[.int .i64 a, .int .i64 b, .int .i64 10, .int .i64 0, .int .i64 1, .int .i64 100, .int .i64 0, .int .i64 0, .int .i64 b, .int .i64 a, .int .i64 10, .int .i64 0, .int .i64 1, .int .i64 100, .int .i64 0, .int .i64 0] 51)).heap[wr.heap.size + 1]? = some (.cells #[.int .i64 a, .int .i64 b, .int .i64 10, .int .i64 0, .int .i64 1, .int .i64 100, .int .i64 0, .int .i64 0, .int .i64 b, .int .i64 a, .int .i64 10, .int .i64 0, .int .i64 1, .int .i64 100, .int .i64 0, .int .i64 0] 51 (0, 0)) := by
          have h := World.alloc_heap_new (wr.alloc (.cells #[.int .i64 a, .int .i64 b] 23)) (.cells #[.int .i64 a, .int .i64 b, .int .i64 10, .int .i64 0, .int .i64 1, .int .i64 100, .int .i64 0, .int .i64 0, .int .i64 b, .int .i64 a, .int .i64 10, .int .i64 0, .int .i64 1, .int .i64 100, .int .i64 0, .int .i64 0] 51)
          rwa [World.size_alloc] at h
        rw [World.cell?]
        simp only [e1]
        have hj' : ([.int .i64 a, .int .i64 b, .int .i64 10, .int .i64 0, .int .i64 1, .int .i64 100, .int .i64 0, .int .i64 0, .int .i64 b, .int .i64 a, .int .i64 10, .int .i64 0, .int .i64 1, .int .i64 100, .int .i64 0, .int .i64 0] : List Value)[j]? = some u := hj
        simpa using hj'⟩)
      have HONE := hidd (rowOf_one linkV_one [lkR a b, lkR b a])
      have hmax : Hid (K + 2 ≤ maxLen) := hidd (by unfold maxLen; omega)
      have hby : Hid ((K + 2) * 64 ≤ 140737488355328) := hidd (by omega)
      have hbase : Hid (W0.heap.size ≤ ((wr.alloc (.cells #[.int .i64 a, .int .i64 b] 23)).alloc (.cells #[.int .i64 a, .int .i64 b, .int .i64 10, .int .i64 0, .int .i64 1, .int .i64 100, .int .i64 0, .int .i64 0, .int .i64 b, .int .i64 a, .int .i64 10, .int .i64 0, .int .i64 1, .int .i64 100, .int .i64 0, .int .i64 0] 51)).heap.size) := hidd (by simp; omega)
      go_wp2_with (first | (at_builtin; refine wpList_append_some rfl _ _ 22 rfl W0.heap.size 51 i0 (.agg #[.int .i64 0, .int .i64 0, .int .i64 0, .int .i64 0, .int .i64 0, .int .i64 0, .int .i64 0, .int .i64 0]) 8 64 Tryz.underlying22 hi hz0 hz1 hz2 rfl (by decide) (.slice A5 K c5) K (rowOf linkV D) rfl HO2.out (some ⟨wr.heap.size + 1, 0, none⟩) 2 2 (rowOf linkV [lkR a b, lkR b a]) rfl rfl hsrc.out HONE.out hmax.out hby.out hbase.out ?_; intro v' w1 hown' hgrow hor; have HO3 := hidd hown'; have HG3 := hidd hgrow; clear hown' hgrow hor) | fail)
      go_roundg (gk - 1)
      case measure => have := HG.out; omega
      case rel =>
        refine ⟨k + 1, by have := HG.out; omega, by go_num, ?_, ((below_new (below_new HBW.out _) _)).grown HG3.out hbase.out (fun k hk => (World.ownsRow.lt HO1.out k hk).1)⟩
        rw [HN.out]
        unfold OwnL
        have e1 : (D ++ [lkR a b, lkR b a]).length = K + 2 := by rw [List.length_append, HK.out]; rfl
        have e2 : rowOf linkV (D ++ [lkR a b, lkR b a]) = rowOf linkV D ++ rowOf linkV [lkR a b, lkR b a] := by simp [rowOf]
        rw [e1, e2]
        exact HO3.out
    · have hk4 : k = 4 := by have := HG.out; omega
      subst hk4
      have he : ringL.take (2 * 4) = ringL := rfl
      rw [he]
      rw [he] at hl5
      go_wp2_with fail
      go_ret
      exact ⟨A5, c5, rfl, hl5, HB0.out.trans (HBW.out.mono HB0.out.size)⟩
def decWk (L : List Lk) : (k : Nat) → (x y : Int) → Decidable (Wk L k x y)
  | 0, x, y => inferInstanceAs (Decidable (x = y))
  | k + 1, x, y =>
    have : ∀ i, Decidable (fr (lkAt L i) = x ∧ Wk L k (tw (lkAt L i)) y) := fun i =>
      have := decWk L k (tw (lkAt L i)) y
      inferInstanceAs (Decidable (_ ∧ _))
    inferInstanceAs (Decidable (∃ i, i < L.length ∧ (fr (lkAt L i) = x ∧ Wk L k (tw (lkAt L i)) y)))
theorem wk_yes {k : Nat} {x y : Int} (h : @decide (Wk ringL k x y) (decWk ringL k x y) = true) : Wk ringL k x y := @of_decide_eq_true _ (decWk ringL k x y) h
theorem wk_no {k : Nat} {x y : Int} (h : @decide (Wk ringL k x y) (decWk ringL k x y) = false) : ¬ Wk ringL k x y := @of_decide_eq_false _ (decWk ringL k x y) h
theorem ring_d0 : dist 4 ringL 2 0 = 2 := (dist_iff ring_valid (by decide) (by decide) 2 2 (by decide)).2 ⟨wk_yes (by kernel_rfl), fun j hj => by
  match j, hj with
  | 0, _ => exact wk_no (by kernel_rfl)
  | 1, _ => exact wk_no (by kernel_rfl)⟩
theorem ring_d1 : dist 4 ringL 2 1 = 1 := (dist_iff ring_valid (by decide) (by decide) 2 1 (by decide)).2 ⟨wk_yes (by kernel_rfl), fun j hj => by
  match j, hj with
  | 0, _ => exact wk_no (by kernel_rfl)⟩
theorem ring_d2 : dist 4 ringL 2 2 = 0 := dist_self ring_valid (by decide) (by decide)
theorem ring_o0 : outs ringL 0 = [0, 4] := by
  refine sorted_ext (toOf ringL) _ _ (outs_sorted ring_valid 0) (by decide) (fun z => ?_)
  rw [outs_mem]
  constructor
  · rintro ⟨i, hi, hf, rfl⟩
    have hi8 : i < 8 := hi
    have hc : i = 0 ∨ i = 1 ∨ i = 2 ∨ i = 3 ∨ i = 4 ∨ i = 5 ∨ i = 6 ∨ i = 7 := by omega
    rcases hc with rfl | rfl | rfl | rfl | rfl | rfl | rfl | rfl <;> first | (exfalso; revert hf; decide) | simp
  · intro h
    have h' : z = 0 ∨ z = 4 := by simpa using h
    rcases h' with rfl | rfl
    · exact ⟨0, by decide, by decide, rfl⟩
    · exact ⟨4, by decide, by decide, rfl⟩
theorem ring_o1 : outs ringL 1 = [1, 2] := by
  refine sorted_ext (toOf ringL) _ _ (outs_sorted ring_valid 1) (by decide) (fun z => ?_)
  rw [outs_mem]
  constructor
  · rintro ⟨i, hi, hf, rfl⟩
    have hi8 : i < 8 := hi
    have hc : i = 0 ∨ i = 1 ∨ i = 2 ∨ i = 3 ∨ i = 4 ∨ i = 5 ∨ i = 6 ∨ i = 7 := by omega
    rcases hc with rfl | rfl | rfl | rfl | rfl | rfl | rfl | rfl <;> first | (exfalso; revert hf; decide) | simp
  · intro h
    have h' : z = 1 ∨ z = 2 := by simpa using h
    rcases h' with rfl | rfl
    · exact ⟨1, by decide, by decide, rfl⟩
    · exact ⟨2, by decide, by decide, rfl⟩
theorem ring_f0 : firstL 4 ringL 2 0 1 = 0 := by
  have h : dist 4 ringL 2 (toF ringL 0) = 1 := ring_d1
  unfold firstL
  rw [ring_o0, List.find?_cons_of_pos (by simpa using h)]
  rfl
theorem ring_f1 : firstL 4 ringL 2 1 0 = 2 := by
  have h : dist 4 ringL 2 (toF ringL 1) ≠ 0 := by
    have : dist 4 ringL 2 (toF ringL 1) = 2 := ring_d0
    omega
  have h2 : dist 4 ringL 2 (toF ringL 2) = 0 := ring_d2
  unfold firstL
  rw [ring_o1, List.find?_cons_of_neg (by simpa using h), List.find?_cons_of_pos (by simpa using h2)]
  rfl
theorem ring_way : wayL 4 ringL 2 2 0 = [0, 2] := by
  have e : toF ringL 0 = 1 := rfl
  rw [wayL, ring_f0, e, wayL, ring_f1, wayL]
theorem ring_ls : lsI 4 ringL 0 2 = [0, 2] := by
  unfold lsI
  rw [if_pos (by decide), ring_d0, if_neg (by decide), ring_way]
theorem ring_er : erI 4 ringL 0 2 = 0 := by
  unfold erI
  rw [if_pos (by decide), ring_d0, if_neg (by decide)]
theorem ring_nx : nxI 4 ringL 0 2 = 0 := by
  unfold nxI
  rw [if_pos ring_er, ring_ls]
  rfl
theorem ring_ne : neI 4 ringL 0 2 = 0 := by
  unfold neI
  rw [if_pos ring_er, ring_ls]
  rfl
theorem ring_ah : ahL ringL [0, 2] = 2 := by decide
set_option maxRecDepth 100000 in
set_option maxHeartbeats 4000000 in
theorem known10_any (w : World) : Calls Tryz.prog 7 #[] w fun e w' => e = .returned (.bool true) ∧ Below w.heap.size w w' := by
  have cP := hidd (fun W => ring_any W)
  have cN := hidd (fun A c W h => New_any 4 A ringL c (by decide) ring_wide W h)
  have cR := hidd (fun m W h => NewR_yes m 4 ringL ring_valid ring_wide W h)
  have cW := hidd (fun B r bw m d W h hB => Way_all B r bw m 4 ringL ring_valid d 0 2 W h hB)
  have cX := hidd (fun B r bw m d W h hB => Next_all B r bw m 4 ringL ring_valid d 0 2 W h hB)
  have cA := hidd (fun B r bw m d W h hB => Ahead_all B r bw m 4 ringL ring_valid d 0 2 W h hB)
  rw [ring_ls, ring_er] at cW
  rw [ring_nx, ring_ne] at cX
  rw [ring_ls, ring_ah] at cA
  go_enter Tryz.func7, Tryz.ntmps7
  go_wp2_with fail
  refine (cP.out _).mono ?_
  rintro e w1 ⟨A, c, rfl, hl, hb1⟩
  have HL1 := hidd hl
  have HB1 := hidd hb1
  clear hl hb1
  go_wp2_with fail
  refine (cN.out _ _ _ HL1.out).mono ?_
  rintro e w2 (⟨h0, _⟩ | ⟨_, m, rfl, hm, _, hb2⟩)
  · exact absurd err_ring h0
  have HM2 := hidd hm
  have HB2 := hidd (below_step HB1.out hb2)
  clear hm hb2
  go_wp2_with fail
  refine (cR.out _ _ HM2.out).mono ?_
  rintro e w3 ⟨r, bw, m', rfl, hr, hb3⟩
  have HR3 := hidd hr
  have HB3 := hidd (below_step HB2.out hb3)
  have HS3 := hidd hb3.size
  clear hr hb3
  go_wp2_with fail
  refine (cW.out _ _ _ _ _ _ HR3.out HS3.out).mono ?_
  rintro e w4 ⟨⟨d4, hR4, hrd4, hb4, _, _⟩, A4, c4, rfl, hl4⟩
  have HR4 := hidd hR4
  have HB4 := hidd (HB3.out.trans (hb4.mono HB2.out.size))
  have HS4 := hidd (Nat.le_trans HS3.out hb4.size)
  have HRD4 := hidd hrd4
  have HL4 := hidd hl4
  clear hR4 hb4 hrd4 hl4
  go_wp2_with fail
  refine (cX.out _ _ _ _ _ _ HR4.out HS4.out).mono ?_
  rintro e w5 ⟨⟨d5, hR5, hrd5, hb5, hk5, _⟩, rfl⟩
  have hbb := hk5 HRD4.out
  have HR5 := hidd hR5
  have HB5 := hidd (below_step HB4.out hbb)
  have HS5 := hidd (Nat.le_trans HS4.out hbb.size)
  have HL5 := hidd (HL4.out.below hbb)
  obtain ⟨ad, rfl, _, hc0⟩ := HL5.out.int 0 (by decide)
  obtain ⟨ad', e', _, hc1⟩ := HL5.out.int 1 (by decide)
  cases e'
  have hc0' : w5.cell? ad = some (.int .i64 0) := by
    have e0 : ad.add 0 = ad := by unfold Addr.add; split <;> simp_all
    rw [← e0]; exact hc0
  have hc1' : w5.cell? ⟨ad.block, ad.off + 1, none⟩ = some (.int .i64 2) := hc1
  clear hR5 hb5 hrd5 hk5 hbb hc0 hc1
  go_wp2_with fail
  refine (cA.out _ _ _ _ _ _ HR5.out HS5.out).mono ?_
  rintro e w6 ⟨⟨d6, hR6, hrd6, hb6, hk6, _⟩, rfl⟩
  have HB6 := hidd (HB5.out.trans (hb6.mono HB2.out.size))
  clear hR6 hb6 hrd6 hk6 hc0' hc1'
  go_wp2_with fail
  go_ret
  exact ⟨rfl, HB6.out⟩
end Go.Proofs.YtalhbjmhipiiiaaGreat.Tp

/- Routes: RouteNil. -/
namespace Go.Proofs.YtalhbjmhipiiiaaGreat.Tp
set_option linter.unusedVariables false
open Go.RowKit Go.Maps

set_option maxHeartbeats 2000000 in
theorem TermsR_no (v : Value) (x t : Int) (w : World) (h : NoneR w v) : Calls Tryz.prog 14 #[v, .int .i64 x, .int .i64 t] w fun e w' => e = .returned (.tuple #[.agg #[.int .i64 0, .int .i64 0], .int .i64 1]) ∧ Below w.heap.size w w' := by
  have c := hidd (fun W (hb : Below w.heap.size w W) => find_no v x t W (h.below hb))
  clear h
  go_enter Tryz.func14, Tryz.ntmps14
  go_wp2_with fail
  refine (c.out _ (by (repeat' (first | (with_reducible exact Below.refl _ _) | (with_reducible assumption) | (with_reducible apply Below.setCell) | (with_reducible apply Below.alloc) | (with_reducible apply Below.drew) | (with_reducible apply below_drewN) | (with_reducible refine Below.trans ?_ (Below.mono (by assumption) ?_)) | omega | (simp; done) | (simp; omega))))).mono ?_
  rintro e w1 ⟨rfl, rfl⟩
  go_wp2_with fail
  refine ⟨rfl, .tuple #[.agg #[.int .i64 0, .int .i64 0], .int .i64 1], by simp [results, Tryz.results14, go_sem], rfl, by (repeat' (first | (with_reducible exact Below.refl _ _) | (with_reducible assumption) | (with_reducible apply Below.setCell) | (with_reducible apply Below.alloc) | (with_reducible apply Below.drew) | (with_reducible apply below_drewN) | (with_reducible refine Below.trans ?_ (Below.mono (by assumption) ?_)) | omega | (simp; done) | (simp; omega)))⟩
set_option maxRecDepth 100000 in
set_option maxHeartbeats 8000000 in
theorem routeNil_walk (x t : Int) (hx : I64 x) (ht : I64 t) (w : World) : Calls Tryz.prog 5 #[.int .i64 x, .int .i64 t] w fun e w' => e = .returned (.bool true) ∧ Below w.heap.size w w' := by
  clear hx ht
  have cW := hidd (fun W => Way_no (.pointer none) x t W (.inl rfl))
  have cX := hidd (fun v W h => Next_no v x t W h)
  have cF := hidd (fun W => Far_no (.pointer none) x t W (.inl rfl))
  have cT := hidd (fun v W h => TermsR_no v x t W h)
  have cR := hidd (fun W => NewR_no (.pointer none) W (.inl rfl))
  have cA := hidd (fun W => Ahead_no (.pointer none) x t W (.inl rfl))
  have cM := hidd (fun v W h => MapR_no v W h)
  have cK := hidd (fun W => known10_any W)
  obtain ⟨W1, hW1⟩ : ∃ W1, w.alloc (.cells #[.int .u32 0, .int .i32 0, .int .u32 0, .pointer none] 72) = W1 := ⟨_, rfl⟩
  have hb1 : Below w.heap.size w W1 := by rw [← hW1]; (repeat' (first | (with_reducible exact Below.refl _ _) | (with_reducible assumption) | (with_reducible apply Below.setCell) | (with_reducible apply Below.alloc) | (with_reducible apply Below.drew) | (with_reducible apply below_drewN) | (with_reducible refine Below.trans ?_ (Below.mono (by assumption) ?_)) | omega | (simp; done) | (simp; omega)))
  have hz : NoneR W1 (.pointer (some ⟨w.heap.size, 0, none⟩)) := .inr ⟨w.heap.size, rfl, by rw [← hW1]; simp, by rw [← hW1]; simp [go_sem]⟩
  have HZ := hidd (fun W (hb : Below W1.heap.size W1 W) => hz.below hb)
  have HB1 := hidd hb1
  have HW := hidd hW1
  clear hb1 hz hW1
  go_enter Tryz.func5, Tryz.ntmps5
  go_wp2_with fail
  rw [HW.out]
  refine (cW.out _).mono ?_
  rintro e w2 ⟨A, c, rfl, hb2⟩
  have HB2 := hidd hb2
  clear hb2
  go_wp2_with fail
  refine (cX.out _ _ (HZ.out _ HB2.out)).mono ?_
  rintro e w' ⟨rfl, rfl⟩
  go_wp2_with fail
  refine (cF.out _).mono ?_
  rintro e w' ⟨rfl, rfl⟩
  go_wp2_with fail
  refine (cT.out _ _ (HZ.out _ HB2.out)).mono ?_
  rintro e w3 ⟨rfl, hb3⟩
  have HB3 := hidd (below_new (below_step HB2.out hb3) (.cells #[.int .i64 0, .int .i64 0] 42))
  clear hb3
  go_wp2_with fail
  refine (cR.out _).mono ?_
  rintro e w' ⟨rfl, rfl⟩
  go_wp2_with fail
  refine (cA.out _).mono ?_
  rintro e w' ⟨rfl, rfl⟩
  go_wp2_with fail
  refine (cM.out _ _ (HZ.out _ HB3.out)).mono ?_
  rintro e w' ⟨rfl, rfl⟩
  go_wp2_with fail
  refine (cK.out _).mono ?_
  rintro e w4 ⟨rfl, hb4⟩
  have HB4 := hidd (below_step HB3.out hb4)
  clear hb4
  go_wp2_with fail
  go_ret
  exact ⟨by first | rfl | simp, HB1.out.trans (HB4.out.mono HB1.out.size)⟩
end Go.Proofs.YtalhbjmhipiiiaaGreat.Tp

/- Routes: RouteNear. -/
namespace Go.Proofs.YtalhbjmhipiiiaaGreat.Tp
set_option linter.unusedVariables false
open Go.RowKit Go.Maps

theorem er_iff {n : Int} {L : List Lk} {x t : Int} : erI n L x t = 0 ↔ okB n x t = true ∧ dist n L t x ≠ 16 := by
  unfold erI
  by_cases h : okB n x t = true
  · rw [if_pos h]
    by_cases h2 : dist n L t x = 16
    · rw [if_pos h2]; simp [h2]
    · rw [if_neg h2]; simp [h, h2]
  · rw [if_neg h]
    simp [h]
theorem okB_back (n x t : Int) : okB n x t = okB n t x := by unfold okB; rw [Bool.and_comm]
theorem er_back {n : Int} {L : List Lk} (hV : Valid n L) (x t : Int) : erI n L x t = erI n L t x := by
  unfold erI
  by_cases h : okB n x t = true
  · obtain ⟨⟨hx0, hx1⟩, ht0, ht1⟩ := okB_iff.1 h
    rw [if_pos h, if_pos (show okB n t x = true by rw [okB_back]; exact h), dist_back hV hx0 hx1 ht0 ht1]
  · rw [if_neg h, if_neg (show ¬ okB n t x = true by rw [okB_back]; exact h)]
theorem fk_back {n : Int} {L : List Lk} (hV : Valid n L) (x t : Int) : fkI n L x t = fkI n L t x := by
  unfold fkI
  rw [er_back hV x t]
  by_cases h : erI n L t x = 0
  · obtain ⟨⟨hx0, hx1⟩, ht0, ht1⟩ := okB_iff.1 (er_iff.1 h).1
    rw [if_pos h, if_pos h, dist_back hV ht0 ht1 hx0 hx1]
  · rw [if_neg h, if_neg h]
theorem fk_le {n : Int} {L : List Lk} (hV : Valid n L) (x t : Int) : 0 ≤ fkI n L x t ∧ fkI n L x t ≤ 16 := by
  have hd := dist_le hV x t
  have := hV.hi
  unfold fkI
  split <;> omega
theorem fk_tri {n : Int} {L : List Lk} (hV : Valid n L) {x y z : Int} (h1 : erI n L x y = 0) (h2 : erI n L y z = 0) : erI n L x z = 0 ∧ fkI n L x z ≤ fkI n L x y + fkI n L y z := by
  obtain ⟨a1, a2⟩ := er_iff.1 h1
  obtain ⟨b1, b2⟩ := er_iff.1 h2
  obtain ⟨⟨hx0, hx1⟩, hy0, hy1⟩ := okB_iff.1 a1
  obtain ⟨_, hz0, hz1⟩ := okB_iff.1 b1
  obtain ⟨c1, c2⟩ := dist_tri hV hx0 hx1 hy0 hy1 a2 b2
  have h3 : erI n L x z = 0 := er_iff.2 ⟨okB_iff.2 ⟨⟨hx0, hx1⟩, hz0, hz1⟩, c1⟩
  refine ⟨h3, ?_⟩
  unfold fkI
  rw [if_pos h1, if_pos h2, if_pos h3]
  omega
theorem fk_zero {n : Int} {L : List Lk} (hV : Valid n L) {x y : Int} (h : erI n L x y = 0) : fkI n L x y = 0 ↔ x = y := by
  obtain ⟨⟨hx0, hx1⟩, _⟩ := okB_iff.1 (er_iff.1 h).1
  unfold fkI
  rw [if_pos h]
  constructor
  · intro e
    exact dist_zero hV hx0 hx1 (by omega)
  · rintro rfl
    rw [dist_self hV hx0 hx1]
    rfl
set_option maxRecDepth 100000 in
set_option maxHeartbeats 16000000 in
theorem routeNear_walk (n : Int) (A : Option Addr) (L : List Lk) (c : Nat) (p0 p1 p2 : Int) (hn : I64 n) (hc : L.length ≤ c) (hc2 : c ≤ maxLen) (hI : WideL L) (w : World) (hA : Lie linkV 8 w w.heap.size A L) :
    Calls Tryz.prog 6 #[.int .i64 n, .slice A L.length c, .agg #[.int .i64 p0, .int .i64 p1, .int .i64 p2]] w fun e w' => e = .returned (.bool true) ∧ Below w.heap.size w w' := by
  have cK := hidd (fun W => known10_any W)
  by_cases hlen : 60 < L.length
  · have hl2 : (60 : Int) < (L.length : Int) := by omega
    have hl3 : (L.length : Int) ≤ 9223372036854775807 := by unfold maxLen at hc2; omega
    clear hlen hc hc2 hI hA hn
    go_enter Tryz.func6, Tryz.ntmps6
    go_wp2_with fail
    refine (cK.out _).mono ?_
    rintro e w1 ⟨rfl, hb⟩
    go_wp2_with fail
    go_ret
    exact ⟨rfl, by (repeat' (first | (with_reducible exact Below.refl _ _) | (with_reducible assumption) | (with_reducible apply Below.setCell) | (with_reducible apply Below.alloc) | (with_reducible apply Below.drew) | (with_reducible apply below_drewN) | (with_reducible refine Below.trans ?_ (Below.mono (by assumption) ?_)) | omega | (simp; done) | (simp; omega)))⟩
  have hl2 : ¬ (60 : Int) < (L.length : Int) := by omega
  obtain ⟨W0, hW0⟩ : ∃ W0, w.alloc (.cells #[.int .i64 p0, .int .i64 p1, .int .i64 p2] 74) = W0 := ⟨_, rfl⟩
  have hz : W0.heap.size = w.heap.size + 1 := by rw [← hW0]; simp
  have hb0 : Below w.heap.size w W0 := by rw [← hW0]; (repeat' (first | (with_reducible exact Below.refl _ _) | (with_reducible assumption) | (with_reducible apply Below.setCell) | (with_reducible apply Below.alloc) | (with_reducible apply Below.drew) | (with_reducible apply below_drewN) | (with_reducible refine Below.trans ?_ (Below.mono (by assumption) ?_)) | omega | (simp; done) | (simp; omega)))
  have q0 : W0.cell? ⟨w.heap.size, 0, none⟩ = some (.int .i64 p0) := by rw [← hW0]; simp [go_sem]
  have q1 : W0.cell? ⟨w.heap.size, 1, none⟩ = some (.int .i64 p1) := by rw [← hW0]; simp [go_sem]
  have q2 : W0.cell? ⟨w.heap.size, 2, none⟩ = some (.int .i64 p2) := by rw [← hW0]; simp [go_sem]
  have hlt : w.heap.size < W0.heap.size := by omega
  have AT := hidd (fun W (h : Below W0.heap.size W0 W) => show W.cell? ⟨w.heap.size, 0, none⟩ = some (.int .i64 p0) ∧ W.cell? ⟨w.heap.size, 1, none⟩ = some (.int .i64 p1) ∧ W.cell? ⟨w.heap.size, 2, none⟩ = some (.int .i64 p2) from ⟨(h.cell (p := ⟨w.heap.size, 0, none⟩) hlt).trans q0, (h.cell (p := ⟨w.heap.size, 1, none⟩) hlt).trans q1, (h.cell (p := ⟨w.heap.size, 2, none⟩) hlt).trans q2⟩)
  have HB0 := hidd hb0
  have HW := hidd hW0
  have HI := hidd hI
  have CN := hidd (New_any n A L c (by omega) hI W0 (hA.below hb0))
  clear hz hb0 q0 q1 q2 hW0 hA hc hc2 hlen hI hn hlt
  go_enter Tryz.func6, Tryz.ntmps6
  go_wp2_with fail
  rw [HW.out]
  refine CN.out.mono ?_
  rintro e w1 (⟨hE, rfl, hb1⟩ | ⟨hE, m, rfl, hm1, hmz, hb1⟩)
  · have HB1 := hidd hb1
    clear hb1
    generalize errN n L = R at *
    have hR2 : (R != 0) = true := by simp [hE]
    go_wp2_with fail
    refine (cK.out _).mono ?_
    rintro e w4 ⟨rfl, hb4⟩
    have HB4 := hidd (below_step HB1.out hb4)
    clear hb4
    go_wp2_with fail
    go_ret
    exact ⟨rfl, HB0.out.trans (HB4.out.mono HB0.out.size)⟩
  · have HV := hidd (valid_of hE)
    have HB1 := hidd hb1
    have CR := hidd (NewR_yes m n L HV.out HI.out w1 hm1)
    clear hb1 hm1 hE
    go_wp2_with fail
    refine CR.out.mono ?_
    rintro e w2 ⟨r, bw, m', rfl, hr, hb2⟩
    have HR2 := hidd hr
    have HB2 := hidd (below_step HB1.out hb2)
    have HS1 := hidd HB1.out.size
    have HS2 := hidd hb2.size
    obtain ⟨c0, c1, c2⟩ := AT.out _ HB2.out
    clear hr hb2
    go_wp2_with fail
    refine (Far_all w1.heap.size r bw m' n L HV.out false p0 p1 w2 HR2.out HS2.out).mono ?_
    rintro e w3 ⟨⟨d3, hr3, _, hb3, _, _⟩, rfl⟩
    have HR3 := hidd hr3
    have HB3 := hidd (HB2.out.trans (hb3.mono HS1.out))
    have HS3 := hidd (Nat.le_trans HS2.out hb3.size)
    clear hr3 hb3 c0 c1 c2
    obtain ⟨c0, c1, c2⟩ := AT.out _ HB3.out
    go_wp2_with fail
    refine (Far_all w1.heap.size r bw m' n L HV.out d3 p1 p2 w3 HR3.out HS3.out).mono ?_
    rintro e w4 ⟨⟨d4, hr4, _, hb4, _, _⟩, rfl⟩
    have HR4 := hidd hr4
    have HB4 := hidd (HB3.out.trans (hb4.mono HS1.out))
    have HS4 := hidd (Nat.le_trans HS3.out hb4.size)
    clear hr4 hb4 c0 c1 c2
    obtain ⟨c0, c1, c2⟩ := AT.out _ HB4.out
    go_wp2_with fail
    refine (Far_all w1.heap.size r bw m' n L HV.out d4 p0 p2 w4 HR4.out HS4.out).mono ?_
    rintro e w5 ⟨⟨d5, hr5, _, hb5, _, _⟩, rfl⟩
    have HR5 := hidd hr5
    have HB5 := hidd (HB4.out.trans (hb5.mono HS1.out))
    have HS5 := hidd (Nat.le_trans HS4.out hb5.size)
    clear hr5 hb5 c0 c1 c2
    obtain ⟨c0, c1, c2⟩ := AT.out _ HB5.out
    go_wp2_with fail
    refine (Far_all w1.heap.size r bw m' n L HV.out d5 p1 p0 w5 HR5.out HS5.out).mono ?_
    rintro e w6 ⟨⟨d6, hr6, _, hb6, _, _⟩, rfl⟩
    have HB6 := hidd (HB5.out.trans (hb6.mono HS1.out))
    clear hr6 hb6 c0 c1 c2
    obtain ⟨c0, c1, c2⟩ := AT.out _ HB6.out
    rw [er_back HV.out p1 p0, fk_back HV.out p1 p0]
    have hl0 := fk_le HV.out p0 p1
    have hl1 := fk_le HV.out p1 p2
    have htri := fk_tri HV.out (x := p0) (y := p1) (z := p2)
    have hzero := fk_zero HV.out (x := p0) (y := p1)
    clear HR2 HR3 HR4 HR5 AT CR HB2 HB3 HB4 HB5 HS1 HS2 HS3 HS4 HS5 HV
    generalize erI n L p0 p1 = g at *
    generalize erI n L p1 p2 = h at *
    generalize erI n L p0 p2 = i at *
    generalize fkI n L p0 p1 = a at *
    generalize fkI n L p1 p2 = b at *
    generalize fkI n L p0 p2 = d at *
    have hfin : Hid (∀ W, Below W0.heap.size W0 W → Below w.heap.size w W) := hidd (fun W h => HB0.out.trans (h.mono HB0.out.size))
    by_cases hg : g = 0
    · have heq : ∃ eb, (a == 0) = eb ∧ (p0 == p1) = eb := by
        by_cases e : p0 = p1
        · exact ⟨true, beq_iff_eq.2 ((hzero hg).2 e), beq_iff_eq.2 e⟩
        · exact ⟨false, beq_eq_false_iff_ne.2 (fun q => e ((hzero hg).1 q)), beq_eq_false_iff_ne.2 e⟩
      obtain ⟨eb, he1, he2⟩ := heq
      by_cases hh : h = 0
      · obtain ⟨hi0, hdl⟩ := htri hg hh
        subst hg hh hi0
        have hgt : ¬ a + b < d := by omega
        have ha1 : -9223372036854775808 ≤ a + b := by omega
        have ha2 : a + b ≤ 9223372036854775807 := by omega
        clear htri hzero hl0 hl1 hdl
        cases eb with
        | true =>
          go_wp2_with fail
          refine (cK.out _).mono ?_
          rintro e w7 ⟨rfl, hb7⟩
          have HB7 := hidd (below_step HB6.out hb7)
          clear hb7
          go_wp2_with fail
          go_ret
          exact ⟨rfl, hfin.out _ HB7.out⟩
        | false =>
          go_wp2_with fail
          refine (cK.out _).mono ?_
          rintro e w7 ⟨rfl, hb7⟩
          have HB7 := hidd (below_step HB6.out hb7)
          clear hb7
          go_wp2_with fail
          go_ret
          exact ⟨rfl, hfin.out _ HB7.out⟩
      · have hhb : (h == 0) = false := beq_eq_false_iff_ne.2 hh
        subst hg
        clear htri hzero hl0 hl1
        cases eb with
        | true =>
          go_wp2_with fail
          refine (cK.out _).mono ?_
          rintro e w7 ⟨rfl, hb7⟩
          have HB7 := hidd (below_step HB6.out hb7)
          clear hb7
          go_wp2_with fail
          go_ret
          exact ⟨rfl, hfin.out _ HB7.out⟩
        | false =>
          go_wp2_with fail
          refine (cK.out _).mono ?_
          rintro e w7 ⟨rfl, hb7⟩
          have HB7 := hidd (below_step HB6.out hb7)
          clear hb7
          go_wp2_with fail
          go_ret
          exact ⟨rfl, hfin.out _ HB7.out⟩
    · have hgb : (g == 0) = false := beq_eq_false_iff_ne.2 hg
      clear htri hzero hl0 hl1
      go_wp2_with fail
      refine (cK.out _).mono ?_
      rintro e w7 ⟨rfl, hb7⟩
      have HB7 := hidd (below_step HB6.out hb7)
      clear hb7
      go_wp2_with fail
      go_ret
      exact ⟨rfl, hfin.out _ HB7.out⟩
end Go.Proofs.YtalhbjmhipiiiaaGreat.Tp

/- Routes: RouteHops. -/
namespace Go.Proofs.YtalhbjmhipiiiaaGreat.Tp
set_option linter.unusedVariables false
open Go.RowKit Go.Maps

/-- behind the first link of a way is the way from there. -/
theorem hop {n : Int} {L : List Lk} (hV : Valid n L) {x t : Int} {k : Nat} (hok : okB n x t = true) (hk : k + 1 < 16) (hd : dist n L t x = k + 1) :
    ∃ (j : Nat) (y : Int), j < L.length ∧ fr (lkAt L j) = x ∧ tw (lkAt L j) = y ∧ okB n y t = true ∧ dist n L t y = k ∧ wayL n L t (k + 1) x = (j : Int) :: wayL n L t k y ∧ nxI n L x t = (j : Int) ∧ neI n L x t = 0 ∧ fkI n L x t = (k : Int) + 1 ∧ erI n L x t = 0 := by
  obtain ⟨⟨hx0, hx1⟩, ht0, ht1⟩ := okB_iff.1 hok
  obtain ⟨j, hj, hfj, hfr, hdj⟩ := first_is hV hx0 hx1 hk hd
  have he := (hV.ends hj).2
  have hw : wayL n L t (k + 1) x = (j : Int) :: wayL n L t k (tw (lkAt L j)) := by rw [wayL, hfj, toF_nat hj]
  have her : erI n L x t = 0 := er_iff.2 ⟨hok, by omega⟩
  have hls : lsI n L x t = (j : Int) :: wayL n L t k (tw (lkAt L j)) := by
    unfold lsI
    rw [if_pos hok, if_neg (by omega), hd, hw]
  refine ⟨j, tw (lkAt L j), hj, hfr, rfl, okB_iff.2 ⟨he, ht0, ht1⟩, hdj, hw, ?_, ?_, ?_, her⟩
  · unfold nxI
    rw [if_pos her, hls]
    rfl
  · unfold neI
    rw [if_pos her, hls, if_neg (by simp)]
  · unfold fkI
    rw [if_pos her, hd]
    omega
/-- the way that is left behind so many links. -/
theorem way_drop {n : Int} {L : List Lk} {t x : Int} (l : List Int) (i : Nat) (j : Int) (m : List Int) (h : l.drop i = j :: m) : l[i]? = some j ∧ l.drop (i + 1) = m ∧ i < l.length := by
  have h1 : l[i]? = some j := by
    have := List.getElem?_drop (xs := l) (i := i) (j := 0)
    rw [h] at this
    simpa using this.symm
  refine ⟨h1, ?_, (List.getElem?_eq_some_iff.1 h1).1⟩
  have : (l.drop i).drop 1 = m := by rw [h]; rfl
  rw [List.drop_drop] at this
  exact this
set_option maxRecDepth 100000 in
set_option maxHeartbeats 16000000 in
theorem routeHops_walk (n : Int) (A : Option Addr) (L : List Lk) (c : Nat) (p0 p1 : Int) (hn : I64 n) (hc : L.length ≤ c) (hc2 : c ≤ maxLen) (hI : WideL L) (h0 : I64 p0) (h1 : I64 p1) (w : World) (hA : Lie linkV 8 w w.heap.size A L) :
    Calls Tryz.prog 4 #[.int .i64 n, .slice A L.length c, .agg #[.int .i64 p0, .int .i64 p1]] w fun e w' => e = .returned (.bool true) ∧ Below w.heap.size w w' := by
  have cK := hidd (fun W => known10_any W)
  by_cases hlen : 60 < L.length
  · have hl2 : (60 : Int) < (L.length : Int) := by omega
    have hl3 : (L.length : Int) ≤ 9223372036854775807 := by unfold maxLen at hc2; omega
    clear hlen hc hc2 hI hA hn h0 h1
    go_enter Tryz.func4, Tryz.ntmps4
    go_wp2_with fail
    refine (cK.out _).mono ?_
    rintro e w1 ⟨rfl, hb⟩
    go_wp2_with fail
    go_ret
    exact ⟨rfl, by (repeat' (first | (with_reducible exact Below.refl _ _) | (with_reducible assumption) | (with_reducible apply Below.setCell) | (with_reducible apply Below.alloc) | (with_reducible apply Below.drew) | (with_reducible apply below_drewN) | (with_reducible refine Below.trans ?_ (Below.mono (by assumption) ?_)) | omega | (simp; done) | (simp; omega)))⟩
  have hl2 : ¬ (60 : Int) < (L.length : Int) := by omega
  obtain ⟨W0, hW0⟩ : ∃ W0, w.alloc (.cells #[.int .i64 p0, .int .i64 p1] 23) = W0 := ⟨_, rfl⟩
  have hz : W0.heap.size = w.heap.size + 1 := by rw [← hW0]; simp
  have hb0 : Below w.heap.size w W0 := by rw [← hW0]; (repeat' (first | (with_reducible exact Below.refl _ _) | (with_reducible assumption) | (with_reducible apply Below.setCell) | (with_reducible apply Below.alloc) | (with_reducible apply Below.drew) | (with_reducible apply below_drewN) | (with_reducible refine Below.trans ?_ (Below.mono (by assumption) ?_)) | omega | (simp; done) | (simp; omega)))
  have q0 : W0.cell? ⟨w.heap.size, 0, none⟩ = some (.int .i64 p0) := by rw [← hW0]; simp [go_sem]
  have q1 : W0.cell? ⟨w.heap.size, 1, none⟩ = some (.int .i64 p1) := by rw [← hW0]; simp [go_sem]
  have hlt : w.heap.size < W0.heap.size := by omega
  have AT := hidd (fun W (h : Below W0.heap.size W0 W) => show W.cell? ⟨w.heap.size, 0, none⟩ = some (.int .i64 p0) ∧ W.cell? ⟨w.heap.size, 1, none⟩ = some (.int .i64 p1) from ⟨(h.cell (p := ⟨w.heap.size, 0, none⟩) hlt).trans q0, (h.cell (p := ⟨w.heap.size, 1, none⟩) hlt).trans q1⟩)
  have HB0 := hidd hb0
  have HW := hidd hW0
  have HI := hidd hI
  have CN := hidd (New_any n A L c (by omega) hI W0 (hA.below hb0))
  have hfin : Hid (∀ W, Below W0.heap.size W0 W → Below w.heap.size w W) := hidd (fun W h => hb0.trans (h.mono hb0.size))
  clear hz hb0 q0 q1 hW0 hA hc hc2 hlen hI hn hlt h0 h1
  go_enter Tryz.func4, Tryz.ntmps4
  go_wp2_with fail
  rw [HW.out]
  refine CN.out.mono ?_
  rintro e w1 (⟨hE, rfl, hb1⟩ | ⟨hE, m, rfl, hm1, hmz, hb1⟩)
  · have HB1 := hidd hb1
    clear hb1
    generalize errN n L = R at *
    have hR2 : (R != 0) = true := by simp [hE]
    go_wp2_with fail
    refine (cK.out _).mono ?_
    rintro e w4 ⟨rfl, hb4⟩
    have HB4 := hidd (below_step HB1.out hb4)
    clear hb4
    go_wp2_with fail
    go_ret
    exact ⟨rfl, hfin.out _ HB4.out⟩
  · have hv := valid_of hE
    have HV := hidd hv
    have HM1 := hidd hm1
    have HB1 := hidd hb1
    have CR := hidd (NewR_yes m n L HV.out HI.out w1 hm1)
    clear hb1 hm1 hE hv
    go_wp2_with fail
    refine CR.out.mono ?_
    rintro e w2 ⟨r, bw, m', rfl, hr, hb2⟩
    have HR2 := hidd hr
    have HB2 := hidd (below_step HB1.out hb2)
    have HS1 := hidd HB1.out.size
    have HS2 := hidd hb2.size
    have HBm2 := hidd hb2
    obtain ⟨c0, c1⟩ := AT.out _ HB2.out
    clear hr hb2
    go_wp2_with fail
    refine (Far_all w1.heap.size r bw m' n L HV.out false p0 p1 w2 HR2.out HS2.out).mono ?_
    rintro e w3 ⟨⟨d3, hr3, hrd3, hb3, _, _⟩, rfl⟩
    have HR3 := hidd hr3
    have HRD3 := hidd hrd3
    have HB3 := hidd (HB2.out.trans (hb3.mono HS1.out))
    have HBm3 := hidd (HBm2.out.trans hb3)
    have HS3 := hidd (Nat.le_trans HS2.out hb3.size)
    clear hr3 hb3 c0 c1 hrd3
    obtain ⟨c0, c1⟩ := AT.out _ HB3.out
    go_wp2_with fail
    refine (Way_all w1.heap.size r bw m' n L HV.out d3 p0 p1 w3 HR3.out HS3.out).mono ?_
    rintro e w4 ⟨⟨d4, hr4, hrd4, hb4, _, hdd⟩, A4, k4, rfl, hl4⟩
    have HR4 := hidd hr4
    have HRD4 := hidd hrd4
    have HB4 := hidd (HB3.out.trans (hb4.mono HS1.out))
    have HBm4 := hidd (HBm3.out.trans hb4)
    have HS4 := hidd (Nat.le_trans HS3.out hb4.size)
    have HL4 := hidd hl4
    clear hr4 hb4 c0 c1 hrd4 hl4 hdd
    by_cases hg : erI n L p0 p1 = 0
    · obtain ⟨hok, h16⟩ := er_iff.1 hg
      have hd := dist_le HV.out p0 p1
      have hn16 := HV.out.hi
      have hfk : fkI n L p0 p1 = (dist n L p1 p0 : Int) := by unfold fkI; rw [if_pos hg]
      have hls : lsI n L p0 p1 = wayL n L p1 (dist n L p1 p0) p0 := by unfold lsI; rw [if_pos hok, if_neg h16]
      have hd4 : d4 = true := HRD4.out.resolve_right (by rw [hok]; simp)
      subst hd4
      rw [hg, hfk, hls]
      rw [hls] at HL4
      have hwl : (wayL n L p1 (dist n L p1 p0) p0).length = dist n L p1 p0 := wayL_len _ _ _ _ _
      obtain ⟨D, hD⟩ : ∃ D, dist n L p1 p0 = D := ⟨_, rfl⟩
      rw [hD] at hwl hd h16 HL4 ⊢
      have HWD := hidd (show (wayL n L p1 D p0).drop 0 = wayL n L p1 D p0 from rfl)
      have HD := hidd hD
      have HOK := hidd hok
      have hD15 : D ≤ 15 := by omega
      generalize hWY : wayL n L p1 D p0 = WY at *
      have HWY := hidd hWY
      rw [hwl]
      clear hfk hls hg hD hok hd h16 hWY
      obtain ⟨c0, c1⟩ := AT.out _ HB4.out
      go_wp2_with fail
      go_loopg [15, 16] 20 (fun g s15 s16 wr => ∃ (i : Nat) (x : Int), i ≤ D ∧ i + g = 20 ∧ s15 = .int .i64 x ∧ s16 = .int .i64 (i : Int) ∧ okB n x p1 = true ∧ dist n L p1 x = D - i ∧ WY.drop i = wayL n L p1 (D - i) x ∧ Below w4.heap.size w4 wr)
      case atStart => exact ⟨0, p0, by omega, by omega, rfl, rfl, HOK.out, HD.out, by rw [Nat.sub_zero, HWY.out]; rfl, Below.refl _ _⟩
      case round =>
        obtain ⟨i, x, hi, hgk, rfl, rfl, hxok, hxd, hdrop, hb⟩ := hrel
        have HG := hidd hgk
        have HBW := hidd hb
        have HB5 := hidd (HB4.out.trans (hb.mono HB4.out.size))
        clear hgk hb c0 c1
        obtain ⟨c0, c1⟩ := AT.out _ HB5.out
        by_cases hlt : i < D
        · have hlt2 : (i : Int) < (D : Int) := by omega
          obtain ⟨k, hk⟩ : ∃ k, D - i = k + 1 := ⟨D - i - 1, by omega⟩
          rw [hk] at hxd hdrop
          obtain ⟨j, y, hj, hfr, htw, hyok, hyd, hway, hnx, hne, hfk, her⟩ := hop HV.out hxok (by omega) hxd
          rw [hway] at hdrop
          obtain ⟨hget, hdrop2, hil⟩ := way_drop (n := n) (L := L) (t := p1) (x := x) WY i _ _ hdrop
          obtain ⟨ad, rfl, _, hcell⟩ := (HL4.out.below HBW.out).int i hil
          have hav : av WY i = (j : Int) := by rw [av_at hil]; exact (List.getElem?_eq_some_iff.1 hget).2
          rw [hav] at hcell
          have HR5 := hidd (HR4.out.below HBW.out)
          have HS5 := hidd (Nat.le_trans HS4.out HBW.out.size)
          have hX := hidd (Next_all w1.heap.size r bw m' n L HV.out true x p1 wr HR5.out HS5.out)
          rw [hnx, hne] at hX
          have HM5 := hidd (HM1.out.below (HBm4.out.trans (HBW.out.mono HS4.out)))
          have hdi : (D : Int) - (i : Int) = (k : Int) + 1 := by omega
          have hi15 : (i : Int) ≤ 15 := by omega
          have hge : ¬ (D : Int) ≤ (i : Int) := by omega
          have hi0 : (0 : Int) ≤ (i : Int) := by omega
          have hk0 : -9223372036854775808 ≤ (D : Int) - (i : Int) := by omega
          have hk1 : (D : Int) - (i : Int) ≤ 9223372036854775807 := by omega
          have HNX := hidd (show (i + 1 ≤ D) ∧ okB n y p1 = true ∧ dist n L p1 y = D - (i + 1) ∧ WY.drop (i + 1) = wayL n L p1 (D - (i + 1)) y from ⟨hlt, hyok, by rw [hyd]; omega, by rw [hdrop2]; congr 1; omega⟩)
          have hlk := hidd (fun W (h : MapAt W m n L) => Link_in m n HV.out.lo L (by have := HV.out.len; omega) j hj W h)
          have hff := hidd (fun d W (h : RoutesAt W w1.heap.size r bw m' n L d) hB => Far_all w1.heap.size r bw m' n L HV.out d x p1 W h hB)
          rw [hfk, her] at hff
          unfold linkA at hlk
          rw [hfr, htw] at hlk
          clear hnx hne hfk her hway hdrop hdrop2 hget hav hfr htw hyok hyd hxok hxd hk hlt
          generalize rt (lkAt L j) = a2 at *
          generalize sh (lkAt L j) = a3 at *
          generalize fa (lkAt L j) = a4 at *
          generalize mo (lkAt L j) = a5 at *
          generalize ro (lkAt L j) = a6 at *
          generalize fi (lkAt L j) = a7 at *
          go_wp2_with fail
          refine hX.out.mono ?_
          rintro e w5 ⟨⟨d5, hr5, hrd5, _, hk5, hdd5⟩, rfl⟩
          have hb5 := hk5 (.inl rfl)
          have hd5 := hdd5 rfl
          subst hd5
          have HR6 := hidd hr5
          have HBW5 := hidd (below_step HBW.out hb5)
          have HM6 := hidd (HM5.out.below hb5)
          have hcell5 := (hb5.cell (p := ad.add i) (World.block_lt_of_cell? wr _ hcell)).trans hcell
          obtain ⟨c0, c1⟩ := AT.out _ (HB5.out.trans (hb5.mono HB5.out.size))
          have HBB5 := hidd (HB5.out.trans (hb5.mono HB5.out.size))
          clear hr5 hrd5 hk5 hdd5 hcell
          go_wp2_with fail
          refine (hlk.out _ HM6.out).mono ?_
          rintro e w6 ⟨rfl, hb6⟩
          obtain ⟨W7, hW7⟩ : ∃ W7, w6.alloc (.cells #[.int .i64 x, .int .i64 y, .int .i64 a2, .int .i64 a3, .int .i64 a4, .int .i64 a5, .int .i64 a6, .int .i64 a7] 51) = W7 := ⟨_, rfl⟩
          have hb7 : Below w5.heap.size w5 W7 := by rw [← hW7]; exact below_new hb6 _
          have e0 : W7.cell? ⟨w6.heap.size, 0, none⟩ = some (.int .i64 x) := by rw [← hW7]; simp [go_sem]
          have e1 : W7.cell? ⟨w6.heap.size, 1, none⟩ = some (.int .i64 y) := by rw [← hW7]; simp [go_sem]
          have z7 : w6.heap.size < W7.heap.size := by rw [← hW7]; simp
          have HR7 := hidd (HR6.out.below hb7)
          have HBW7 := hidd (below_step HBW5.out hb7)
          have hcell7 := (hb7.cell (p := ad.add i) (World.block_lt_of_cell? w5 _ hcell5)).trans hcell5
          have HBB7 := hidd (HBB5.out.trans (hb7.mono HBB5.out.size))
          have HS7 := hidd (Nat.le_trans HS4.out HBW7.out.size)
          have HW7 := hidd hW7
          clear c0 c1
          obtain ⟨c0, c1⟩ := AT.out w6 (HBB5.out.trans (hb6.mono HBB5.out.size))
          have hw6 : w.heap.size < w6.heap.size := World.block_lt_of_cell? w6 _ c0
          clear hcell5 hb6 hb7 hW7 hb5
          go_wp2_with fail
          rw [HW7.out]
          refine (hff.out true _ HR7.out HS7.out).mono ?_
          rintro e w8 ⟨⟨d8, _, _, _, hk8, _⟩, rfl⟩
          have hb8 := hk8 (.inl rfl)
          have f0 := (hb8.cell (p := ⟨w6.heap.size, 0, none⟩) z7).trans e0
          have f1 := (hb8.cell (p := ⟨w6.heap.size, 1, none⟩) z7).trans e1
          have hcell8 := (hb8.cell (p := ad.add i) (World.block_lt_of_cell? W7 _ hcell7)).trans hcell7
          have HBW8 := hidd (below_step HBW7.out hb8)
          clear hk8 hb8 hcell7 c0 c1 e0 e1 hw6
          go_wp2_with fail
          go_roundg (gk - 1)
          case measure => have := HG.out; omega
          case rel => exact ⟨i + 1, y, HNX.out.1, by have := HG.out; omega, rfl, by go_num, HNX.out.2.1, HNX.out.2.2.1, HNX.out.2.2.2, HBW8.out⟩
        · have hid : i = D := by omega
          subst hid
          obtain ⟨⟨hx0, hx1⟩, _⟩ := okB_iff.1 hxok
          have hxp := dist_zero HV.out hx0 hx1 (hxd.trans (Nat.sub_self _))
          subst hxp
          have hlt2 : ¬ (i : Int) < (i : Int) := by omega
          clear hxok hxd hdrop
          go_wp2_with fail
          refine (cK.out _).mono ?_
          rintro e w7 ⟨rfl, hb7⟩
          have HB7 := hidd (below_step HB5.out hb7)
          clear hb7
          go_wp2_with fail
          go_ret
          exact ⟨rfl, hfin.out _ HB7.out⟩
    · have hgb : (erI n L p0 p1 != 0) = true := by simp [hg]
      generalize erI n L p0 p1 = g at *
      go_wp2_with fail
      refine (cK.out _).mono ?_
      rintro e w7 ⟨rfl, hb7⟩
      have HB7 := hidd (below_step HB4.out hb7)
      clear hb7
      go_wp2_with fail
      go_ret
      exact ⟨rfl, hfin.out _ HB7.out⟩
end Go.Proofs.YtalhbjmhipiiiaaGreat.Tp

/- Routes: the terms of a way. -/
namespace Go.Proofs.YtalhbjmhipiiiaaGreat.Tp
set_option linter.unusedVariables false
open Go.RowKit Go.Maps

/-- a link's terms, in memory. -/
def tmV (p : Int × Int) : List Value := [.int .i64 p.1, .int .i64 p.2]
theorem tmV_len (x : Int × Int) : (tmV x).length = 2 := rfl
theorem tmV_one (x : Int × Int) : ∀ u ∈ tmV x, u.oneCell' = true := fun u hu => by
  simp [tmV] at hu; rcases hu with rfl | rfl <;> rfl
theorem termsInfo : (Tryz.prog.info? 42).map (fun i => (i.zero, i.size, i.bytes)) = some (some (.agg #[.int .i64 0, .int .i64 0]), 2, 16) := by kernel_rfl
theorem Lie.pairs {w : World} {A : Option Addr} {l : List (Int × Int)} (h : Lie tmV 2 w w.heap.size A l) : LiesO w A l := fun hl => by
  obtain ⟨ad, e, hB, hc⟩ := h hl
  exact ⟨ad, e, hB, fun i hi => ⟨hc i l[i] (List.getElem?_eq_getElem hi) 0 _ rfl, by have q := hc i l[i] (List.getElem?_eq_getElem hi) 1 _ rfl; rw [← add_of_add] at q; exact q⟩⟩
/-- the terms of a link. -/
def tmOf (L : List Lk) (z : Int) : Int × Int := (mo (lkAt L z.toNat), upZ (mo (lkAt L z.toNat)) (rt (lkAt L z.toNat)) + 1 + fa (lkAt L z.toNat))
def tmI (n : Int) (L : List Lk) (x t : Int) : Int × Int × Int := if erI n L x t = 0 then wayR ((lsI n L x t).map (tmOf L)) else (0, 0, erI n L x t)
theorem Post.of {B r bw m : Nat} {n : Int} {L : List Lk} {done : Bool} {x t : Int} {w w' : World} (h : RoutesAt w B r bw m n L done) (hrd : Ready n x t done) (hb : Below w.heap.size w w') (hB : B ≤ w.heap.size) : Post B r bw m n L done x t w w' :=
  ⟨done, h.below hb, hrd, hb.mono hB, fun _ => hb, id⟩
set_option maxRecDepth 100000 in
set_option maxHeartbeats 8000000 in
theorem TermsR_all (B r bw m : Nat) (n : Int) (L : List Lk) (hV : Valid n L) (done : Bool) (x t : Int) (hrd : Ready n x t done) (w : World) (h : RoutesAt w B r bw m n L done) (hB : B ≤ w.heap.size) :
    Calls Tryz.prog 14 #[.pointer (some ⟨r, 0, none⟩), .int .i64 x, .int .i64 t] w fun e w' => Post B r bw m n L done x t w w' ∧ e = .returned (pairOf (tmI n L x t)) := by
  obtain ⟨i0, hi, hz0, hz1, hz2⟩ := info_parts termsInfo
  have hn1 := hV.lo
  have hLl : L.length ≤ 1000000 := by have := hV.len; omega
  obtain ⟨W0, hW0⟩ : ∃ W0, w.alloc (.cells #[.int .i64 0, .int .i64 0] 42) = W0 := ⟨_, rfl⟩
  have hb0 : Below w.heap.size w W0 := by rw [← hW0]; (repeat' (first | (with_reducible exact Below.refl _ _) | (with_reducible assumption) | (with_reducible apply Below.setCell) | (with_reducible apply Below.alloc) | (with_reducible apply Below.drew) | (with_reducible apply below_drewN) | (with_reducible refine Below.trans ?_ (Below.mono (by assumption) ?_)) | omega | (simp; done) | (simp; omega)))
  have hs0 : W0.heap.size = w.heap.size + 1 := by rw [← hW0]; simp
  have q0 : W0.cell? ⟨w.heap.size, 0, none⟩ = some (.int .i64 0) := by rw [← hW0]; simp [go_sem]
  have q1 : W0.cell? ⟨w.heap.size, 1, none⟩ = some (.int .i64 0) := by rw [← hW0]; simp [go_sem]
  have z0 : W0.frozen? ⟨w.heap.size, 0, none⟩ = false := by rw [← hW0]; simp [go_sem]
  have z1 : W0.frozen? ⟨w.heap.size, 1, none⟩ = false := by rw [← hW0]; simp [go_sem]
  have hlt : w.heap.size < W0.heap.size := by omega
  have RC := hidd (fun W (h : Below W0.heap.size W0 W) => show W.cell? ⟨w.heap.size, 0, none⟩ = some (.int .i64 0) ∧ W.cell? ⟨w.heap.size, 1, none⟩ = some (.int .i64 0) ∧ W.frozen? ⟨w.heap.size, 0, none⟩ = false ∧ W.frozen? ⟨w.heap.size, 1, none⟩ = false from ⟨(h.cell (p := ⟨w.heap.size, 0, none⟩) hlt).trans q0, (h.cell (p := ⟨w.heap.size, 1, none⟩) hlt).trans q1, (h.frozen (p := ⟨w.heap.size, 0, none⟩) hlt).trans z0, (h.frozen (p := ⟨w.heap.size, 1, none⟩) hlt).trans z1⟩)
  have c := hidd (find_all B r bw m n L hV done x t W0 (h.below hb0) (by omega))
  have hlen := lsI_len n L hV x t
  have HIN := hidd (lsI_in hV x t)
  have CK := hidd (fun (i : Nat) (hi : i < L.length) W (h : MapAt W m n L) => Terms_in m n hn1 L hLl i hi (hV.all _ (lkAt_mem hi)) W h)
  have CW := hidd (fun A (l : List (Int × Int)) c hm W (h : LiesO W A l) => Way_any A l c hm W h)
  have HB := hidd hB
  have HB0 := hidd hb0
  have HRD := hidd hrd
  have HH := hidd h
  have HW := hidd hW0
  obtain ⟨PO, hPO⟩ : ∃ PO : Ending → World → Prop, (fun (e : Ending) (w' : World) => Post B r bw m n L done x t w w' ∧ e = .returned (pairOf (tmI n L x t))) = PO := ⟨_, rfl⟩
  rw [hPO]
  have HPO := hidd hPO
  have htm : Hid (tmI n L x t = if erI n L x t = 0 then wayR ((lsI n L x t).map (tmOf L)) else (0, 0, erI n L x t)) := hidd rfl
  clear h hPO hV hB hb0 hs0 q0 q1 z0 z1 hlt hW0 hrd
  generalize lsI n L x t = l at *
  generalize erI n L x t = er at *
  go_enter Tryz.func14, Tryz.ntmps14
  go_wp2_with fail
  rw [HW.out]
  refine c.out.mono ?_
  rintro e w1 ⟨hP, _, A, k, rfl, hk, hl⟩
  have HL := hidd hl
  obtain ⟨d, hR, _, _, hkk, _⟩ := hP
  have HB1 := hidd (hkk HRD.out)
  have HR := hidd hR
  clear hl hR hkk
  obtain ⟨c0, c1, f0, f1⟩ := RC.out _ HB1.out
  by_cases he : er = 0
  · subst he
    go_wp2_with fail
    clear c0 c1 f0 f1
    go_loopg [10, 28] 20 (fun g s10 s28 wr => ∃ i : Nat, i ≤ l.length ∧ i + g = 20 ∧ s28 = .int .i64 (i : Int) ∧ OwnL tmV 2 wr w1.heap.size 42 s10 ((l.map (tmOf L)).take i) ∧ Below w1.heap.size w1 wr)
    case atStart => exact ⟨0, by omega, by omega, rfl, OwnL.nil _ _ _, Below.refl _ _⟩
    case round =>
      obtain ⟨i, hil, hg, rfl, hO, hb⟩ := hrel
      obtain ⟨A5, c5, rfl, _, _, hl5⟩ := hO.lie tmV_len
      have HG := hidd hg
      have HO := hidd hO
      have HBW := hidd hb
      have hbs := hb.size
      have hlk : ((l.map (tmOf L)).take i).length ≤ 15 := by rw [List.length_take, List.length_map]; omega
      clear hg hb hO
      by_cases hlt : i < l.length
      · have hlt2 : (i : Int) < (l.length : Int) := by omega
        have hi0 : (0 : Int) ≤ (i : Int) := by omega
        obtain ⟨ad, rfl, _, hcell⟩ := (HL.out.below HBW.out).int i hlt
        obtain ⟨j, hj, hz⟩ := HIN.out (av l i) (av_mem hlt)
        have hR := HR.out.below HBW.out
        have d3 := hR.c3
        have d0 := hR.ways.map
        have ck := hidd (CK.out j hj wr hR.ways.mapAt)
        have hN := hidd (show (l.map (tmOf L)).take (i + 1) = (l.map (tmOf L)).take i ++ [(mo (lkAt L j), upZ (mo (lkAt L j)) (rt (lkAt L j)) + 1 + fa (lkAt L j))] by
          show _ = _ ++ [tmOf L (j : Int)]
          rw [List.take_succ_eq_append_getElem (by rw [List.length_map]; exact hlt), List.getElem_map, ← hz, av_at hlt])
        rw [hz] at hcell
        generalize mo (lkAt L j) = C1 at *
        generalize upZ C1 (rt (lkAt L j)) + 1 + fa (lkAt L j) = D1 at *
        generalize (l.map (tmOf L)).take i = DD at *
        obtain ⟨K, hK⟩ : ∃ K, DD.length = K := ⟨_, rfl⟩
        have HO1 : Hid (wr.ownsRow w1.heap.size 42 2 (.slice A5 K c5) K (rowOf tmV DD)) := hidd (by rw [← hK]; exact HO.out)
        rw [hK] at hlk ⊢
        have HK := hidd hK
        clear hK hR hz hl5
        go_wp2_with fail
        refine ck.out.mono ?_
        rintro e w2 ⟨rfl, hb2⟩
        have HB2 := hidd (below_step HBW.out hb2)
        have hq2 : ((w2.alloc (.cells #[.int .i64 C1, .int .i64 D1] 42)).alloc (.cells #[.int .i64 C1, .int .i64 D1] 42)).ownsRow w1.heap.size 42 2 (.slice A5 K c5) K (rowOf tmV DD) := by
          have q := World.ownsRow.alloc (World.ownsRow.alloc (OwnL.below (L := DD) (f := tmV) (by rw [← HK.out] at HO1; exact HO1.out) hb2) (.cells #[.int .i64 C1, .int .i64 D1] 42)) (.cells #[.int .i64 C1, .int .i64 D1] 42)
          rw [HK.out] at q
          exact q
        have HO2 := hidd hq2
        have hsrc : Hid (0 < 1 → ∃ ad', some (⟨w2.heap.size + 1, 0, none⟩ : Addr) = some ad' ∧ ∀ j u, (rowOf tmV [(C1, D1)])[j]? = some u → ((w2.alloc (.cells #[.int .i64 C1, .int .i64 D1] 42)).alloc (.cells #[.int .i64 C1, .int .i64 D1] 42)).cell? (ad'.add j) = some u) := hidd (fun _ => ⟨_, rfl, fun j u hj => by
          have hj' : ([.int .i64 C1, .int .i64 D1] : List Value)[j]? = some u := hj
          match j, hj' with
          | 0, hj' => simp at hj'; subst hj'; simp [Addr.add, go_sem]
          | 1, hj' => simp at hj'; subst hj'; simp [Addr.add, go_sem]⟩)
        have HONE := hidd (rowOf_one tmV_one [(C1, D1)])
        have hmax : Hid (K + 1 ≤ maxLen) := hidd (by unfold maxLen; omega)
        have hby : Hid ((K + 1) * 16 ≤ 140737488355328) := hidd (by omega)
        have hbase : Hid (w1.heap.size ≤ ((w2.alloc (.cells #[.int .i64 C1, .int .i64 D1] 42)).alloc (.cells #[.int .i64 C1, .int .i64 D1] 42)).heap.size) := hidd (by have := HB2.out.size; simp; omega)
        clear hb2 hq2
        go_wp2_with (first | (at_builtin; refine wpList_append_some rfl _ _ 90 rfl w1.heap.size 42 i0 (.agg #[.int .i64 0, .int .i64 0]) 2 16 Tryz.underlying90 hi hz0 hz1 hz2 rfl (by decide) (.slice A5 K c5) K (rowOf tmV DD) rfl HO2.out (some ⟨w2.heap.size + 1, 0, none⟩) 1 1 (rowOf tmV [(C1, D1)]) rfl rfl hsrc.out HONE.out hmax.out hby.out hbase.out ?_; intro v' w3 hown' hgrow hor; have HO3 := hidd hown'; have HG3 := hidd hgrow; clear hown' hgrow hor) | fail)
        go_roundg (gk - 1)
        case measure => have := HG.out; omega
        case rel =>
          refine ⟨i + 1, by omega, by have := HG.out; omega, by go_num, ?_, ((below_new (below_new HB2.out _) _)).grown HG3.out hbase.out (fun k hk => (World.ownsRow.lt HO2.out k hk).1)⟩
          rw [hN.out]
          exact OwnL.snoc (f := tmV) (L := DD) (x := (C1, D1)) HO3.out (by rw [HK.out]) (by simp [rowOf])
      · have hin2 : ¬ (i : Int) < (l.length : Int) := by omega
        have he : (l.map (tmOf L)).take i = l.map (tmOf L) := List.take_of_length_le (by rw [List.length_map]; omega)
        rw [he] at hl5 hlk ⊢
        have CWW := hidd (CW.out A5 (l.map (tmOf L)) c5 (by omega) wr hl5.pairs)
        obtain ⟨R, hR⟩ : ∃ R, wayR (l.map (tmOf L)) = R := ⟨_, rfl⟩
        rw [hR] at CWW
        have HRR := hidd hR
        clear hR he hl5
        generalize l.map (tmOf L) = M at *
        obtain ⟨ML, hML⟩ : ∃ ML, M.length = ML := ⟨_, rfl⟩
        rw [hML] at CWW ⊢
        clear hML hlk
        unfold pairOf at CWW
        obtain ⟨R1, R2, R3⟩ := R
        dsimp only at CWW
        have HBX := hidd (below_step HB1.out HBW.out)
        go_wp2_with fail
        refine CWW.out.mono ?_
        rintro e w2 ⟨rfl, hb2⟩
        have HB2 := hidd (below_step HBX.out hb2)
        have HBP := hidd (below_step HBW.out hb2)
        clear hb2
        obtain ⟨c0, c1, f0, f1⟩ := RC.out _ HB2.out
        go_wp2_with fail
        refine ⟨rfl, .tuple #[.agg #[.int .i64 R1, .int .i64 R2], .int .i64 R3], ?_, ?_⟩
        · have g0 : ((w2.setCell ⟨w.heap.size, 0, none⟩ (.int .i64 R1)).setCell ⟨w.heap.size, 1, none⟩ (.int .i64 R2)).cell? ⟨w.heap.size, 0, none⟩ = some (.int .i64 R1) := (set_other _ (by omega)).trans (World.cell?_setCell_same' _ _ _ (by rw [c0]; rfl))
          have g1 : ((w2.setCell ⟨w.heap.size, 0, none⟩ (.int .i64 R1)).setCell ⟨w.heap.size, 1, none⟩ (.int .i64 R2)).cell? ⟨w.heap.size, 1, none⟩ = some (.int .i64 R2) := World.cell?_setCell_same' _ _ _ (by rw [set_other _ (by omega), c1]; rfl)
          simp [results, Tryz.results14, go_sem, g0, g1]
        · rw [← HPO.out]
          refine ⟨Post.of HH.out HRD.out (((HB0.out.trans (HB2.out.mono HB0.out.size)).setCell (p := ⟨w.heap.size, 0, none⟩) (Nat.le_refl _) (.int .i64 R1)).setCell (p := ⟨w.heap.size, 1, none⟩) (Nat.le_refl _) (.int .i64 R2)) HB.out, ?_⟩
          rw [htm.out]
          simp only [if_true]
          rw [HRR.out]
          rfl
  · have heb : (er != 0) = true := by simp [he]
    go_wp2_with fail
    refine ⟨rfl, .tuple #[.agg #[.int .i64 0, .int .i64 0], .int .i64 er], ?_, ?_⟩
    · have g0 : ((w1.setCell ⟨w.heap.size, 0, none⟩ (.int .i64 0)).setCell ⟨w.heap.size, 1, none⟩ (.int .i64 0)).cell? ⟨w.heap.size, 0, none⟩ = some (.int .i64 0) := (set_other _ (by omega)).trans (World.cell?_setCell_same' _ _ _ (by rw [c0]; rfl))
      have g1 : ((w1.setCell ⟨w.heap.size, 0, none⟩ (.int .i64 0)).setCell ⟨w.heap.size, 1, none⟩ (.int .i64 0)).cell? ⟨w.heap.size, 1, none⟩ = some (.int .i64 0) := World.cell?_setCell_same' _ _ _ (by rw [set_other _ (by omega), c1]; rfl)
      simp [results, Tryz.results14, go_sem, g0, g1]
    · rw [← HPO.out]
      refine ⟨Post.of HH.out HRD.out (((HB0.out.trans (HB1.out.mono HB0.out.size)).setCell (p := ⟨w.heap.size, 0, none⟩) (Nat.le_refl _) (.int .i64 0)).setCell (p := ⟨w.heap.size, 1, none⟩) (Nat.le_refl _) (.int .i64 0)) HB.out, ?_⟩
      rw [htm.out, if_neg he]
      rfl
end Go.Proofs.YtalhbjmhipiiiaaGreat.Tp

/- Routes: the document's terms of a way; are two lists the same. -/
namespace Go.Proofs.YtalhbjmhipiiiaaGreat.Tp
set_option linter.unusedVariables false
open Go.RowKit Go.Maps

theorem same10_yes (A A' : Option Addr) (l : List Int) (c c' : Nat) (hl : l.length ≤ 100) (w : World) (hA : Lie intV 1 w w.heap.size A l) (hA' : Lie intV 1 w w.heap.size A' l) :
    Calls Tryz.prog 16 #[.slice A l.length c, .slice A' l.length c'] w fun e w' => e = .returned (.bool true) ∧ Below w.heap.size w w' := by
  have HA := hidd hA
  have HA' := hidd hA'
  clear hA hA'
  go_enter Tryz.func16, Tryz.ntmps16
  go_wp2_with fail
  go_loopg [5] 101 (fun g s5 wr => ∃ i : Nat, i ≤ l.length ∧ i + g = 101 ∧ s5 = .int .i64 (i : Int) ∧ Below w.heap.size w wr)
  case atStart => exact ⟨0, by omega, by omega, rfl, Below.refl _ _⟩
  case round =>
    obtain ⟨i, hi, hg, rfl, hb⟩ := hrel
    have HG := hidd hg
    have HB := hidd hb
    clear hg hb
    by_cases hlt : i < l.length
    · have hlt2 : (i : Int) < (l.length : Int) := by omega
      have hi0 : (0 : Int) ≤ (i : Int) := by omega
      obtain ⟨ad, rfl, _, h1⟩ := (HA.out.below HB.out).int i hlt
      obtain ⟨ad', rfl, _, h2⟩ := (HA'.out.below HB.out).int i hlt
      generalize av l i = z at *
      go_wp2_with fail
      go_quiet (fail)
      go_wp2_with fail
      go_roundg (gk - 1)
      case measure => have := HG.out; omega
      case rel => exact ⟨i + 1, by omega, by have := HG.out; omega, by go_num, HB.out.trans (below_drewN (Below.refl _ _) _)⟩
    · have hlt2 : ¬ (i : Int) < (l.length : Int) := by omega
      go_wp2_with fail
      go_ret
      exact ⟨rfl, HB.out⟩
set_option maxRecDepth 100000 in
set_option maxHeartbeats 8000000 in
theorem refTerms_any (n : Int) (A : Option Addr) (L : List Lk) (c : Nat) (hV : Valid n L) (A2 : Option Addr) (l : List Int) (c2 : Nat) (hlen : l.length ≤ 15) (hin : ∀ z ∈ l, ∃ i, i < L.length ∧ z = (i : Int)) (w : World) (hA : Lie linkV 8 w w.heap.size A L) (hA2 : Lie intV 1 w w.heap.size A2 l) :
    Calls Tryz.prog 17 #[.agg #[.int .i64 n, .slice A L.length c], .slice A2 l.length c2] w fun e w' => e = .returned (pairOf (wayR (l.map (tmOf L)))) ∧ Below w.heap.size w w' := by
  obtain ⟨i0, hi, hz0, hz1, hz2⟩ := info_parts termsInfo
  obtain ⟨W0, hW0⟩ : ∃ W0, (w.alloc (.cells #[.int .i64 n, .slice A L.length c] 30)).alloc (.cells #[.int .i64 0, .int .i64 0] 42) = W0 := ⟨_, rfl⟩
  have hb0 : Below w.heap.size w W0 := by rw [← hW0]; (repeat' (first | (with_reducible exact Below.refl _ _) | (with_reducible assumption) | (with_reducible apply Below.setCell) | (with_reducible apply Below.alloc) | (with_reducible apply Below.drew) | (with_reducible apply below_drewN) | (with_reducible refine Below.trans ?_ (Below.mono (by assumption) ?_)) | omega | (simp; done) | (simp; omega)))
  have hs0 : W0.heap.size = w.heap.size + 2 := by rw [← hW0]; simp
  have m1 : W0.cell? ⟨w.heap.size, 1, none⟩ = some (.slice A L.length c) := by rw [← hW0]; simp [go_sem]
  have q0 : W0.cell? ⟨w.heap.size + 1, 0, none⟩ = some (.int .i64 0) := by rw [← hW0]; simp [go_sem]
  have q1 : W0.cell? ⟨w.heap.size + 1, 1, none⟩ = some (.int .i64 0) := by rw [← hW0]; simp [go_sem]
  have z0 : W0.frozen? ⟨w.heap.size + 1, 0, none⟩ = false := by rw [← hW0]; simp [go_sem]
  have z1 : W0.frozen? ⟨w.heap.size + 1, 1, none⟩ = false := by rw [← hW0]; simp [go_sem]
  have hlt : w.heap.size < W0.heap.size := by omega
  have hlt1 : w.heap.size + 1 < W0.heap.size := by omega
  have MC := hidd (fun W (h : Below W0.heap.size W0 W) => show W.cell? ⟨w.heap.size, 1, none⟩ = some (.slice A L.length c) from (h.cell (p := ⟨w.heap.size, 1, none⟩) hlt).trans m1)
  have RC := hidd (fun W (h : Below W0.heap.size W0 W) => show W.cell? ⟨w.heap.size + 1, 0, none⟩ = some (.int .i64 0) ∧ W.cell? ⟨w.heap.size + 1, 1, none⟩ = some (.int .i64 0) ∧ W.frozen? ⟨w.heap.size + 1, 0, none⟩ = false ∧ W.frozen? ⟨w.heap.size + 1, 1, none⟩ = false from ⟨(h.cell (p := ⟨w.heap.size + 1, 0, none⟩) hlt1).trans q0, (h.cell (p := ⟨w.heap.size + 1, 1, none⟩) hlt1).trans q1, (h.frozen (p := ⟨w.heap.size + 1, 0, none⟩) hlt1).trans z0, (h.frozen (p := ⟨w.heap.size + 1, 1, none⟩) hlt1).trans z1⟩)
  have HA := hidd (hA.below hb0)
  have HA2 := hidd (hA2.below hb0)
  have HB0 := hidd hb0
  have HW := hidd hW0
  have HIN := hidd hin
  have HV := hidd hV
  have CK := hidd (fun (j : Nat) (hj : j < L.length) W => refLinkC_any (rt (lkAt L j)) (mo (lkAt L j)) (fa (lkAt L j)) (right_link (hV.all _ (lkAt_mem hj))) W)
  have CW := hidd (fun A (l : List (Int × Int)) c hm W (h : LiesO W A l) => refWay_any A l c hm W h)
  obtain ⟨PO, hPO⟩ : ∃ PO : Ending → World → Prop, (fun (e : Ending) (w' : World) => e = .returned (pairOf (wayR (l.map (tmOf L)))) ∧ Below w.heap.size w w') = PO := ⟨_, rfl⟩
  rw [hPO]
  have HPO := hidd hPO
  clear hPO hV hb0 hs0 q0 q1 z0 z1 hlt hlt1 hW0 hA hA2 m1 hin
  go_enter Tryz.func17, Tryz.ntmps17
  go_wp2_with fail
  rw [HW.out]
  go_loopg [6, 7] 20 (fun g s6 s7 wr => ∃ i : Nat, i ≤ l.length ∧ i + g = 20 ∧ s7 = .int .i64 (i : Int) ∧ OwnL tmV 2 wr W0.heap.size 42 s6 ((l.map (tmOf L)).take i) ∧ Below W0.heap.size W0 wr)
  case atStart => exact ⟨0, by omega, by omega, rfl, OwnL.nil _ _ _, Below.refl _ _⟩
  case round =>
    obtain ⟨i, hil, hg, rfl, hO, hb⟩ := hrel
    obtain ⟨A5, c5, rfl, _, _, hl5⟩ := hO.lie tmV_len
    have HG := hidd hg
    have HO := hidd hO
    have HBW := hidd hb
    have hbs := hb.size
    have hlk : ((l.map (tmOf L)).take i).length ≤ 15 := by rw [List.length_take, List.length_map]; omega
    have m1 := MC.out _ HBW.out
    clear hg hb hO
    by_cases hlt : i < l.length
    · have hlt2 : (i : Int) < (l.length : Int) := by omega
      have hi0 : (0 : Int) ≤ (i : Int) := by omega
      obtain ⟨ad, rfl, _, hcell⟩ := (HA2.out.below HBW.out).int i hlt
      obtain ⟨j, hj, hz⟩ := HIN.out (av l i) (av_mem hlt)
      obtain ⟨ad2, rfl, _, x0, x1, x2, x3, x4, x5, x6, x7⟩ := (HA.out.below HBW.out).link j hj
      have hj2 : (j : Int) < (L.length : Int) := by omega
      have hj0 : (0 : Int) ≤ (j : Int) := by omega
      have ck := hidd (CK.out j hj)
      have hN := hidd (show (l.map (tmOf L)).take (i + 1) = (l.map (tmOf L)).take i ++ [(mo (lkAt L j), upZ (mo (lkAt L j)) (rt (lkAt L j)) + 1 + fa (lkAt L j))] by
        show _ = _ ++ [tmOf L (j : Int)]
        rw [List.take_succ_eq_append_getElem (by rw [List.length_map]; exact hlt), List.getElem_map, ← hz, av_at hlt])
      rw [hz] at hcell
      generalize upZ (mo (lkAt L j)) (rt (lkAt L j)) + 1 + fa (lkAt L j) = D1 at *
      generalize fr (lkAt L j) = a0 at *
      generalize tw (lkAt L j) = a1 at *
      generalize rt (lkAt L j) = a2 at *
      generalize sh (lkAt L j) = a3 at *
      generalize fa (lkAt L j) = a4 at *
      generalize mo (lkAt L j) = C1 at *
      generalize ro (lkAt L j) = a6 at *
      generalize fi (lkAt L j) = a7 at *
      generalize (l.map (tmOf L)).take i = DD at *
      obtain ⟨K, hK⟩ : ∃ K, DD.length = K := ⟨_, rfl⟩
      have HO1 : Hid (wr.ownsRow W0.heap.size 42 2 (.slice A5 K c5) K (rowOf tmV DD)) := hidd (by rw [← hK]; exact HO.out)
      rw [hK] at hlk ⊢
      have HK := hidd hK
      clear hK hz hl5
      have up : ∀ a v, wr.cell? a = some v → (wr.alloc (.cells #[.int .i64 0, .int .i64 0, .int .i64 0, .int .i64 0, .int .i64 0, .int .i64 0, .int .i64 0, .int .i64 0] 51)).cell? a = some v := fun a v h => ((below_new (Below.refl wr.heap.size wr) _).cell (p := a) (World.block_lt_of_cell? wr a h)).trans h
      have ym := up _ _ m1
      have yc := up _ _ hcell
      have y0 := up _ _ x0
      have y1 := up _ _ x1
      have y2 := up _ _ x2
      have y3 := up _ _ x3
      have y4 := up _ _ x4
      have y5 := up _ _ x5
      have y6 := up _ _ x6
      have y7 := up _ _ x7
      clear up
      go_wp2_with fail
      go_region
      go_wp2_with fail
      refine (ck.out _).mono ?_
      rintro e w2 ⟨rfl, hb2⟩
      obtain ⟨W3, hW3⟩ : ∃ W3, (wr.alloc (.cells #[.int .i64 a0, .int .i64 a1, .int .i64 a2, .int .i64 a3, .int .i64 a4, .int .i64 C1, .int .i64 a6, .int .i64 a7] 51)).drew = W3 := ⟨_, rfl⟩
      rw [hW3] at hb2
      have hb3 : Below wr.heap.size wr W3 := by rw [← hW3]; exact Below.drew (below_new (Below.refl _ _) _)
      have hb4 : Below wr.heap.size wr w2 := hb3.trans (hb2.mono hb3.size)
      have HB2 := hidd (below_step HBW.out hb4)
      have hq2 : ((w2.alloc (.cells #[.int .i64 C1, .int .i64 D1] 42)).alloc (.cells #[.int .i64 C1, .int .i64 D1] 42)).ownsRow W0.heap.size 42 2 (.slice A5 K c5) K (rowOf tmV DD) := by
        have q := World.ownsRow.alloc (World.ownsRow.alloc (OwnL.below (L := DD) (f := tmV) (by rw [← HK.out] at HO1; exact HO1.out) hb4) (.cells #[.int .i64 C1, .int .i64 D1] 42)) (.cells #[.int .i64 C1, .int .i64 D1] 42)
        rw [HK.out] at q
        exact q
      have HO2 := hidd hq2
      clear hW3 hb3 hb4 ym yc y0 y1 y2 y3 y4 y5 y6 y7 x0 x1 x2 x3 x4 x5 x6 x7 m1 hcell
      have hsrc : Hid (0 < 1 → ∃ ad', some (⟨w2.heap.size + 1, 0, none⟩ : Addr) = some ad' ∧ ∀ j u, (rowOf tmV [(C1, D1)])[j]? = some u → ((w2.alloc (.cells #[.int .i64 C1, .int .i64 D1] 42)).alloc (.cells #[.int .i64 C1, .int .i64 D1] 42)).cell? (ad'.add j) = some u) := hidd (fun _ => ⟨_, rfl, fun j u hj => by
        have hj' : ([.int .i64 C1, .int .i64 D1] : List Value)[j]? = some u := hj
        match j, hj' with
        | 0, hj' => simp at hj'; subst hj'; simp [Addr.add, go_sem]
        | 1, hj' => simp at hj'; subst hj'; simp [Addr.add, go_sem]⟩)
      have HONE := hidd (rowOf_one tmV_one [(C1, D1)])
      have hmax : Hid (K + 1 ≤ maxLen) := hidd (by unfold maxLen; omega)
      have hby : Hid ((K + 1) * 16 ≤ 140737488355328) := hidd (by omega)
      have hbase : Hid (W0.heap.size ≤ ((w2.alloc (.cells #[.int .i64 C1, .int .i64 D1] 42)).alloc (.cells #[.int .i64 C1, .int .i64 D1] 42)).heap.size) := hidd (by have := HB2.out.size; simp; omega)
      clear hb2 hq2
      go_wp2_with (first | (at_builtin; refine wpList_append_some rfl _ _ 90 rfl W0.heap.size 42 i0 (.agg #[.int .i64 0, .int .i64 0]) 2 16 Tryz.underlying90 hi hz0 hz1 hz2 rfl (by decide) (.slice A5 K c5) K (rowOf tmV DD) rfl HO2.out (some ⟨w2.heap.size + 1, 0, none⟩) 1 1 (rowOf tmV [(C1, D1)]) rfl rfl hsrc.out HONE.out hmax.out hby.out hbase.out ?_; intro v' w3 hown' hgrow hor; have HO3 := hidd hown'; have HG3 := hidd hgrow; clear hown' hgrow hor) | fail)
      go_roundg (gk - 1)
      case measure => have := HG.out; omega
      case rel =>
        refine ⟨i + 1, by omega, by have := HG.out; omega, by go_num, ?_, ((below_new (below_new HB2.out _) _)).grown HG3.out hbase.out (fun k hk => (World.ownsRow.lt HO2.out k hk).1)⟩
        rw [hN.out]
        exact OwnL.snoc (f := tmV) (L := DD) (x := (C1, D1)) HO3.out (by rw [HK.out]) (by simp [rowOf])
    · have hin2 : ¬ (i : Int) < (l.length : Int) := by omega
      have he : (l.map (tmOf L)).take i = l.map (tmOf L) := List.take_of_length_le (by rw [List.length_map]; omega)
      rw [he] at hl5 hlk ⊢
      have CWW := hidd (CW.out A5 (l.map (tmOf L)) c5 (by omega) wr hl5.pairs)
      obtain ⟨R, hR⟩ : ∃ R, wayR (l.map (tmOf L)) = R := ⟨_, rfl⟩
      rw [hR] at CWW
      have HRR := hidd hR
      clear hR he hl5 m1
      generalize l.map (tmOf L) = M at *
      obtain ⟨ML, hML⟩ : ∃ ML, M.length = ML := ⟨_, rfl⟩
      rw [hML] at CWW ⊢
      clear hML hlk
      unfold pairOf at CWW
      obtain ⟨R1, R2, R3⟩ := R
      dsimp only at CWW
      go_wp2_with fail
      refine CWW.out.mono ?_
      rintro e w2 ⟨rfl, hb2⟩
      have HB2 := hidd (below_step HBW.out hb2)
      clear hb2
      obtain ⟨c0, c1, f0, f1⟩ := RC.out _ HB2.out
      go_wp2_with fail
      refine ⟨rfl, .tuple #[.agg #[.int .i64 R1, .int .i64 R2], .int .i64 R3], ?_, ?_⟩
      · have g0 : ((w2.setCell ⟨w.heap.size + 1, 0, none⟩ (.int .i64 R1)).setCell ⟨w.heap.size + 1, 1, none⟩ (.int .i64 R2)).cell? ⟨w.heap.size + 1, 0, none⟩ = some (.int .i64 R1) := (set_other _ (by omega)).trans (World.cell?_setCell_same' _ _ _ (by rw [c0]; rfl))
        have g1 : ((w2.setCell ⟨w.heap.size + 1, 0, none⟩ (.int .i64 R1)).setCell ⟨w.heap.size + 1, 1, none⟩ (.int .i64 R2)).cell? ⟨w.heap.size + 1, 1, none⟩ = some (.int .i64 R2) := World.cell?_setCell_same' _ _ _ (by rw [set_other _ (by omega), c1]; rfl)
        simp [results, Tryz.results17, go_sem, g0, g1]
      · rw [← HPO.out]
        refine ⟨by rw [HRR.out]; rfl, ((HB0.out.trans (HB2.out.mono HB0.out.size)).setCell (p := ⟨w.heap.size + 1, 0, none⟩) (Nat.le_add_right _ _) (.int .i64 R1)).setCell (p := ⟨w.heap.size + 1, 1, none⟩) (Nat.le_add_right _ _) (.int .i64 R2)⟩
end Go.Proofs.YtalhbjmhipiiiaaGreat.Tp

/- Routes: the document's way to how far it is. -/
namespace Go.Proofs.YtalhbjmhipiiiaaGreat.Tp
set_option linter.unusedVariables false
open Go.RowKit Go.Maps

/-- a row of truths in block b. -/
def boolV (x : Bool) : List Value := [.bool x]
theorem boolV_len (x : Bool) : (boolV x).length = 1 := rfl
theorem boolV_one (x : Bool) : ∀ u ∈ boolV x, u.oneCell' = true := fun u hu => by
  simp [boolV] at hu; subst hu; rfl
theorem boolInfo : (Tryz.prog.info? 4).map (fun i => (i.zero, i.size, i.bytes)) = some (some (.bool false), 1, 1) := by kernel_rfl
def BoolsAt (W : World) (b N : Nat) (f : Nat → Bool) : Prop := ∃ cs, W.heap[b]? = some (.cells cs 4 (0, 0)) ∧ ∀ y, y < N → cs[y]? = some (.bool (f y))
theorem BoolsAt.cell {W : World} {b N : Nat} {f : Nat → Bool} (h : BoolsAt W b N f) {y : Nat} (hy : y < N) : W.cell? ⟨b, y, none⟩ = some (.bool (f y)) := by
  obtain ⟨cs, h1, h2⟩ := h
  simp [World.cell?, h1, h2 y hy]
theorem BoolsAt.frozen {W : World} {b N : Nat} {f : Nat → Bool} (h : BoolsAt W b N f) (y : Nat) : W.frozen? ⟨b, y, none⟩ = false := by
  obtain ⟨cs, h1, h2⟩ := h
  simp [World.frozen?, h1]
theorem BoolsAt.lt {W : World} {b N : Nat} {f : Nat → Bool} (h : BoolsAt W b N f) : b < W.heap.size := by
  obtain ⟨cs, h1, _⟩ := h
  exact (Array.getElem?_eq_some_iff.1 h1).1
theorem BoolsAt.below {W W' : World} {b N : Nat} {f : Nat → Bool} (h : BoolsAt W b N f) (hb : Below W.heap.size W W') : BoolsAt W' b N f := by
  have hl := h.lt
  obtain ⟨cs, h1, h2⟩ := h
  exact ⟨cs, (hb.block _ hl).trans h1, h2⟩
theorem BoolsAt.other {W : World} {b b' N o : Nat} {f : Nat → Bool} (h : BoolsAt W b N f) (hne : b ≠ b') (v : Value) : BoolsAt (W.setCell ⟨b', o, none⟩ v) b N f := by
  obtain ⟨cs, h1, h2⟩ := h
  exact ⟨cs, (Below.heap_setCell _ _ _ _ hne).trans h1, h2⟩
theorem BoolsAt.set {W : World} {b N : Nat} {f : Nat → Bool} (h : BoolsAt W b N f) (z : Nat) (v : Bool) : BoolsAt (W.setCell ⟨b, z, none⟩ (.bool v)) b N (fun y => if y = z then v else f y) := by
  obtain ⟨cs, h1, h2⟩ := h
  obtain ⟨hlt, hk⟩ := Array.getElem?_eq_some_iff.1 h1
  refine ⟨cs.setIfInBounds z (.bool v), ?_, fun y hy => ?_⟩
  · show (W.heap.modify b _)[b]? = _
    rw [Array.getElem?_eq_getElem (by rw [Array.size_modify]; exact hlt), Array.getElem_modify_self, hk]
    rfl
  · have hy2 := h2 y hy
    have hlt2 := (Array.getElem?_eq_some_iff.1 hy2).1
    by_cases e : y = z
    · subst e
      rw [Array.getElem?_setIfInBounds_self_of_lt hlt2]
      simp
    · rw [Array.getElem?_setIfInBounds_ne (fun q => e q.symm), hy2]
      simp [e]
theorem BoolsAt.congr {W : World} {b N : Nat} {f f' : Nat → Bool} (h : BoolsAt W b N f) (he : ∀ y, y < N → f' y = f y) : BoolsAt W b N f' := by
  obtain ⟨cs, h1, h2⟩ := h
  exact ⟨cs, h1, fun y hy => by rw [he y hy]; exact h2 y hy⟩
theorem bools_of {W : World} {base N : Nat} {v : Value} {H : List Bool} (h : OwnL boolV 1 W base 4 v H) (hN : H.length = N) (h0 : 0 < N) : ∃ g cap, v = .slice (some ⟨g, 0, none⟩) N cap ∧ base ≤ g ∧ N ≤ cap ∧ BoolsAt W g N (fun y => H.getD y false) := by
  unfold OwnL at h
  rw [hN] at h
  obtain ⟨_, ⟨_, hn, _⟩ | ⟨g, cap, cur, rfl, hb, hh, hc, hm, hs, ht⟩⟩ := h
  · omega
  · refine ⟨g, cap, rfl, hb, hc, cur, hh, fun y hy => ?_⟩
    subst hN
    have h1 : (rowOf boolV H)[y]? = some (.bool (H.getD y false)) := by
      have := row_at boolV_len H y H[y] (List.getElem?_eq_getElem hy) 0 _ rfl
      simp only [Nat.mul_one, Nat.add_zero] at this
      rw [this, List.getD_eq_getElem?_getD, List.getElem?_eq_getElem hy]
      rfl
    rw [← ht] at h1
    rw [List.getElem?_take] at h1
    split at h1
    · simpa using h1
    · cases h1
/-- is node y reached by at most k links? -/
def hereB (L : List Lk) (x : Int) : Nat → Int → Bool
  | 0, y => decide (y = x)
  | k + 1, y => hereB L x k y || L.any (fun l => hereB L x k (fr l) && decide (tw l = y))
theorem hereB_iff (L : List Lk) (x : Int) : ∀ k y, hereB L x k y = true ↔ ∃ j, j ≤ k ∧ Wk L j x y
  | 0, y => by
    simp only [hereB, decide_eq_true_eq]
    constructor
    · rintro rfl; exact ⟨0, Nat.le_refl _, rfl⟩
    · rintro ⟨j, hj, h⟩
      have : j = 0 := by omega
      subst this
      exact (show x = y from h).symm
  | k + 1, y => by
    have ih := hereB_iff L x k
    simp only [hereB, Bool.or_eq_true, List.any_eq_true, Bool.and_eq_true, decide_eq_true_eq]
    constructor
    · rintro (h | ⟨l, hl, h1, h2⟩)
      · obtain ⟨j, hj, hw⟩ := (ih y).1 h
        exact ⟨j, by omega, hw⟩
      · obtain ⟨j, hj, hw⟩ := (ih _).1 h1
        obtain ⟨i, hi, e⟩ := List.getElem_of_mem hl
        have e2 : lkAt L i = l := by rw [lkAt_get hi]; exact e
        have := Wk.snoc hi (by rw [e2]) hw
        rw [e2, h2] at this
        exact ⟨j + 1, by omega, this⟩
    · rintro ⟨j, hj, hw⟩
      by_cases e : j ≤ k
      · exact .inl ((ih y).2 ⟨j, e, hw⟩)
      · have : j = k + 1 := by omega
        subst this
        obtain ⟨i, hi, ht, hk⟩ := Wk.last hw
        exact .inr ⟨lkAt L i, lkAt_mem hi, (ih _).2 ⟨k, Nat.le_refl _, hk⟩, ht⟩
/-- how far, as the document tells it. -/
def farZ (n : Int) (L : List Lk) (x t : Int) : Int := if dist n L t x = 16 then -1 else (dist n L t x : Int)
theorem farZ_hit {n : Int} {L : List Lk} (hV : Valid n L) {x t : Int} (h0 : 0 ≤ x) (h1 : x < n) {k : Nat} (hk : (k : Int) ≤ n) (hn : ∀ j, j < k → hereB L x j t = false) (h : hereB L x k t = true) : farZ n L x t = k := by
  obtain ⟨j, hj, hw⟩ := (hereB_iff L x k t).1 h
  have hjk : j = k := by
    by_cases e : j < k
    · have := (hereB_iff L x j t).2 ⟨j, Nat.le_refl _, hw⟩
      rw [hn j e] at this
      cases this
    · omega
  subst hjk
  have hl : Lw L j x t := ⟨hw, fun i hi hwi => by
    have := (hereB_iff L x i t).2 ⟨i, Nat.le_refl _, hwi⟩
    rw [hn i hi] at this
    cases this⟩
  have hlt := hl.lt hV h0 h1
  have hn16 := hV.hi
  have hd := (dist_iff hV h0 h1 t j (by omega)).2 hl
  unfold farZ
  rw [hd, if_neg (by omega)]
theorem farZ_none {n : Int} {L : List Lk} (hV : Valid n L) {x t : Int} (h0 : 0 ≤ x) (h1 : x < n) {k : Nat} (hk : n < (k : Int)) (hn : ∀ j, j < k → hereB L x j t = false) : farZ n L x t = -1 := by
  unfold farZ
  by_cases e : dist n L t x = 16
  · rw [if_pos e]
  · exfalso
    have hl := dist_lw hV h0 h1 t e
    have hd := dist_le hV x t
    have := (hereB_iff L x (dist n L t x) t).2 ⟨_, Nat.le_refl _, hl.1⟩
    rw [hn _ (by omega)] at this
    cases this
theorem bools_cells (f : Nat → Bool) (N : Nat) : rowOf boolV ((List.range N).map f) = (List.range N).map (fun y => Value.bool (f y)) := by
  unfold rowOf
  induction List.range N with
  | nil => rfl
  | cons a l ih => simp only [List.map_cons, List.flatMap_cons, ih, boolV]; rfl
theorem getD_range (f : Nat → Bool) {N y : Nat} (h : y < N) : ((List.range N).map f).getD y false = f y := by
  rw [List.getD_eq_getElem?_getD, List.getElem?_map, List.getElem?_range h]; rfl
theorem bools_made {W : World} {B N : Nat} (h : W.ownsRow B 4 1 (.slice (some ⟨B, 0, none⟩) N N) N (madeCells (Value.bool false).cells (N * 1)).toList) (h0 : 0 < N) : BoolsAt W B N (fun _ => false) := by
  have e : rowOf boolV (List.replicate N false) = (madeCells (Value.bool false).cells (N * 1)).toList := by
    rw [Nat.mul_one]
    have q : ∀ m, rowOf boolV (List.replicate m false) = List.replicate m (Value.bool false) := fun m => by
      unfold rowOf
      induction m with
      | zero => rfl
      | succ k ih => simp only [List.replicate_succ, List.flatMap_cons, ih, boolV]; rfl
    rw [q]
    exact (toList_madeCells_one (.bool false) N).symm
  obtain ⟨g, cap, hv, _, _, hB⟩ := bools_of (H := List.replicate N false) (N := N) (base := B) (v := .slice (some ⟨B, 0, none⟩) N N) (W := W) (by unfold OwnL; rw [e, List.length_replicate]; exact h) (List.length_replicate ..) h0
  injection hv with h1 h2 h3
  injection h1 with h1
  injection h1 with h1
  subst h1
  exact hB.congr fun y hy => by rw [List.getD_eq_getElem?_getD, List.getElem?_replicate_of_lt hy]; rfl
set_option maxRecDepth 100000 in
set_option maxHeartbeats 4000000 in
theorem refFar_any (n : Int) (A : Option Addr) (L : List Lk) (c : Nat) (hV : Valid n L) (x t : Int) (hx0 : 0 ≤ x) (hx1 : x < n) (ht0 : 0 ≤ t) (ht1 : t < n) (w : World) (hA : Lie linkV 8 w w.heap.size A L) :
    Calls Tryz.prog 32 #[.agg #[.int .i64 n, .slice A L.length c], .int .i64 x, .int .i64 t] w fun e w' => e = .returned (.int .i64 (farZ n L x t)) ∧ Below w.heap.size w w' := by
  obtain ⟨i0, hi, hz0, hz1, hz2⟩ := info_parts boolInfo
  obtain ⟨N, rfl⟩ : ∃ N : Nat, n = (N : Int) := ⟨n.toNat, by have := hV.lo; omega⟩
  obtain ⟨X, rfl⟩ : ∃ X : Nat, x = (X : Int) := ⟨x.toNat, by omega⟩
  obtain ⟨T, rfl⟩ : ∃ T : Nat, t = (T : Int) := ⟨t.toNat, by omega⟩
  have hX : X < N := by omega
  have hT : T < N := by omega
  have hN16 : N ≤ 16 := by have := hV.hi; omega
  have hN1 : 0 < N := by omega
  clear hx0 hx1 ht0 ht1
  have HV := hidd hV
  have FZ := hidd (fun (k : Nat) (hk : (k : Int) ≤ (N : Int)) (hn : ∀ j, j < k → hereB L X j T = false) (h : hereB L X k T = true) => farZ_hit hV (t := (T : Int)) (Int.natCast_nonneg X) (by omega : (X : Int) < (N : Int)) hk hn h)
  have FN := hidd (fun (k : Nat) (hk : (N : Int) < (k : Int)) (hn : ∀ j, j < k → hereB L X j T = false) => farZ_none hV (t := (T : Int)) (Int.natCast_nonneg X) (by omega : (X : Int) < (N : Int)) hk hn)
  have hL48 : L.length ≤ 48 := hV.len
  obtain ⟨W0, hW0⟩ : ∃ W0, (w.alloc (.cells #[.int .i64 (N : Int), .slice A L.length c] 30)) = W0 := ⟨_, rfl⟩
  have hb0 : Below w.heap.size w W0 := by rw [← hW0]; (repeat' (first | (with_reducible exact Below.refl _ _) | (with_reducible assumption) | (with_reducible apply Below.setCell) | (with_reducible apply Below.alloc) | (with_reducible apply Below.drew) | (with_reducible apply below_drewN) | (with_reducible refine Below.trans ?_ (Below.mono (by assumption) ?_)) | omega | (simp; done) | (simp; omega)))
  have hs0 : W0.heap.size = w.heap.size + 1 := by rw [← hW0]; simp
  have m0 : W0.cell? ⟨w.heap.size, 0, none⟩ = some (.int .i64 (N : Int)) := by rw [← hW0]; simp [go_sem]
  have m1 : W0.cell? ⟨w.heap.size, 1, none⟩ = some (.slice A L.length c) := by rw [← hW0]; simp [go_sem]
  have hlt : w.heap.size < W0.heap.size := by omega
  have MC := hidd (fun W (h : Below W0.heap.size W0 W) => show W.cell? ⟨w.heap.size, 0, none⟩ = some (.int .i64 (N : Int)) ∧ W.cell? ⟨w.heap.size, 1, none⟩ = some (.slice A L.length c) from ⟨(h.cell (p := ⟨w.heap.size, 0, none⟩) hlt).trans m0, (h.cell (p := ⟨w.heap.size, 1, none⟩) hlt).trans m1⟩)
  have HA := hidd (hA.below hb0)
  have HB0 := hidd hb0
  have HW := hidd hW0
  generalize hF : farZ (N : Int) L (X : Int) (T : Int) = F at *
  clear hF hV hb0 hs0 hlt hW0 hA
  go_enter Tryz.func32, Tryz.ntmps32
  obtain ⟨m0, m1⟩ := MC.out W0 (Below.refl _ _)
  go_wp2_with (at_make; rw [HW.out]; refine wpList_make_full _ rfl (.tmp 12) (.tmp 12) _ rfl W0.heap.size 4 i0 (.bool false) 1 Tryz.underlying117 hi hz0 hz1 .i64 .i64 (N : Int) (N : Int) N rfl rfl rfl rfl (by rw [hz2]; omega) (by simp only [maxLen]; omega) (Nat.le_refl _) ?_; intro w0 hown0 hgrow0; have HBA := hidd (bools_made hown0 hN1); have HB1 := hidd (Below.grown (Below.refl W0.heap.size W0) hgrow0 (Nat.le_refl _) (by intro k hk; cases hk)); have hcel := HBA.out.cell hX; have hfro := HBA.out.frozen X; clear hown0 hgrow0; try dsimp only at hcel)
  clear hcel hfro m0 m1
  have HBX := hidd ((HBA.out.set X true).congr (f' := fun y => hereB L X 0 (y : Int)) (fun y _ => by simp only [hereB]; by_cases e : y = X <;> simp [e]; omega))
  go_loopg [7, 8] 18 (fun g s7 s8 wr => ∃ k b cap : Nat, k ≤ N + 1 ∧ k + g = 18 ∧ s7 = .slice (some ⟨b, 0, none⟩) N cap ∧ s8 = .int .i64 (k : Int) ∧ W0.heap.size ≤ b ∧ BoolsAt wr b N (fun y => hereB L X k (y : Int)) ∧ (∀ j, j < k → hereB L X j (T : Int) = false) ∧ Below W0.heap.size W0 wr)
  case atStart => exact ⟨0, W0.heap.size, N, by omega, by omega, rfl, rfl, Nat.le_refl _, HBX.out, fun j hj => by omega, HB1.out.setCell (p := ⟨W0.heap.size, X, none⟩) (Nat.le_refl _) _⟩
  case round =>
    obtain ⟨k, b, cap, hk, hg, rfl, rfl, hbb, hBA, hno, hb⟩ := hrel
    have HG := hidd hg
    have HH := hidd hBA
    have HNO := hidd hno
    have HBW := hidd hb
    have HBB := hidd hbb
    obtain ⟨m0, m1⟩ := MC.out _ hb
    clear hg hBA hno hb hbb HBX HBA HB1
    by_cases hkN : (k : Int) ≤ (N : Int)
    · have hcell := HH.out.cell hT
      cases hh : hereB L X k (T : Int) with
      | true =>
        rw [hh] at hcell
        go_wp2_with fail
        go_ret
        exact ⟨by rw [FZ.out k hkN HNO.out hh]; rfl, HB0.out.trans (HBW.out.mono HB0.out.size)⟩
      | false =>
        rw [hh] at hcell
        have hsrc : Hid (0 < N → ∃ ad', some (⟨b, 0, none⟩ : Addr) = some ad' ∧ ∀ j u, (rowOf boolV ((List.range N).map (fun y : Nat => hereB L X k (y : Int))))[j]? = some u → wr.cell? (ad'.add j) = some u) := hidd (fun _ => ⟨_, rfl, fun j u hj => by
          rw [bools_cells] at hj
          by_cases e : j < N
          · rw [List.getElem?_map, List.getElem?_range e] at hj
            simp at hj
            subst hj
            have q := HH.out.cell e
            by_cases j0 : j = 0
            · subst j0; exact q
            · simpa [Addr.add, j0] using q
          · rw [List.getElem?_eq_none (by simpa using Nat.le_of_not_lt e)] at hj; cases hj⟩)
        have HONE := hidd (rowOf_one boolV_one ((List.range N).map (fun y : Nat => hereB L X k (y : Int))))
        have HLEN : Hid ((rowOf boolV ((List.range N).map (fun y : Nat => hereB L X k (y : Int)))).length = N * 1) := hidd (by rw [bools_cells]; simp)
        obtain ⟨ROW, hROW⟩ : ∃ ROW, rowOf boolV ((List.range N).map (fun y : Nat => hereB L X k (y : Int))) = ROW := ⟨_, rfl⟩
        rw [hROW] at hsrc HONE HLEN
        have HROW := hidd hROW
        clear hROW
        have hmax : Hid (0 + N ≤ maxLen) := hidd (by unfold maxLen; omega)
        have hby : Hid ((0 + N) * 1 ≤ 140737488355328) := hidd (by omega)
        go_wp2_with (at_builtin; refine wpList_append_some rfl _ _ 117 rfl wr.heap.size 4 i0 (.bool false) 1 1 Tryz.underlying117 hi hz0 hz1 hz2 rfl (by decide) (.slice none 0 0) 0 [] rfl (World.ownsRow_nil wr wr.heap.size 4 1) (some ⟨b, 0, none⟩) N cap ROW rfl HLEN.out hsrc.out HONE.out hmax.out hby.out (Nat.le_refl _) ?_; intro v' w3 hown' hgrow hor; have HO3 := hidd hown'; have HG3 := hidd (Below.grown (Below.refl wr.heap.size wr) hgrow (Nat.le_refl _) (by intro k hk; cases hk)); clear hown' hgrow hor)
        have HO4 : OwnL boolV 1 w3 wr.heap.size 4 v' ((List.range N).map (fun y : Nat => hereB L X k (y : Int))) := by
          have q := HO3.out
          unfold OwnL
          rw [HROW.out, List.length_map, List.length_range]
          rw [Nat.zero_add, List.nil_append] at q
          exact q
        obtain ⟨g2, cap2, rfl, hg2, _, hN2⟩ := bools_of HO4 (by simp) hN1
        have HG2 := hidd hg2
        have HN2 := hidd (hN2.congr (f' := fun y => hereB L X k (y : Int)) fun y hy => (getD_range (fun y : Nat => hereB L X k (y : Int)) hy).symm)
        clear HO4 hN2 hg2 hsrc HONE HLEN hmax hby HROW HO3 hcell m0 m1
        have HHO := hidd (HH.out.below HG3.out)
        have HBW3 := hidd (below_step HBW.out HG3.out)
        have hbk : b < wr.heap.size := HH.out.lt
        have HBK := hidd hbk
        clear hbk
        generalize gk = G at *
        go_loopg [10] (L.length + 1) (fun g s10 wz => ∃ i : Nat, i ≤ L.length ∧ i + g = L.length + 1 ∧ s10 = .int .i64 (i : Int) ∧ BoolsAt wz g2 N (fun y => hereB L X k (y : Int) || (L.take i).any (fun l => hereB L X k (fr l) && decide (tw l = (y : Int)))) ∧ Below wr.heap.size wr wz)
        case atStart => exact ⟨0, by omega, by omega, rfl, HN2.out.congr fun y _ => by simp, HG3.out⟩
        case round =>
          obtain ⟨i, hil, hgi, rfl, hN, hbz⟩ := hrel
          have HGI := hidd hgi
          have HNN := hidd hN
          have HBZ := hidd hbz
          have HBWZ := hidd (below_step HBW.out hbz)
          obtain ⟨m0, m1⟩ := MC.out _ HBWZ.out
          clear hgi hN hbz
          by_cases hlt : i < L.length
          · have hlt2 : (i : Int) < (L.length : Int) := by omega
            have hi0 : (0 : Int) ≤ (i : Int) := by omega
            have hends := HV.out.ends hlt
            obtain ⟨ad, rfl, _, x0, x1, _, _, _, _, _, _⟩ := (HA.out.below HBWZ.out).link i hlt
            have htk : L.take (i + 1) = L.take i ++ [lkAt L i] := by rw [List.take_succ_eq_append_getElem hlt, lkAt_get hlt]
            have HTK := hidd htk
            clear htk
            obtain ⟨a, ha⟩ : ∃ a : Nat, fr (lkAt L i) = (a : Int) := ⟨(fr (lkAt L i)).toNat, by omega⟩
            obtain ⟨z, hz⟩ : ∃ z : Nat, tw (lkAt L i) = (z : Int) := ⟨(tw (lkAt L i)).toNat, by omega⟩
            rw [ha] at x0 hends
            rw [hz] at x1 hends
            have haN : a < N := by omega
            have hzN : z < N := by omega
            have ca := (HH.out.below HBZ.out).cell haN
            have cz := HNN.out.cell hzN
            have fz := HNN.out.frozen z
            have HAF := hidd ha
            have HZF := hidd hz
            clear ha hz hends
            obtain ⟨V0, hV0⟩ : ∃ V0 : Bool, (hereB L (↑X) k ↑z || (List.take i L).any fun l => hereB L (↑X) k (fr l) && decide (tw l = ↑z)) = V0 := ⟨_, rfl⟩
            rw [hV0] at cz
            clear hV0
            cases hh2 : hereB L X k (a : Int) with
            | true =>
              rw [hh2] at ca
              have HH2 := hidd hh2
              clear hh2
              go_wp2_with fail
              go_roundg (gk - 1)
              case measure => have := HGI.out; omega
              case rel =>
                refine ⟨i + 1, by omega, by have := HGI.out; omega, by go_num, (HNN.out.set z true).congr fun y hy => ?_, HBZ.out.setCell (p := ⟨g2, z, none⟩) HG2.out _⟩
                rw [HTK.out, List.any_append]
                simp only [List.any_cons, List.any_nil, Bool.or_false, HAF.out, HZF.out, HH2.out, Bool.true_and]
                by_cases e : y = z
                · subst e; simp
                · have e2 : ¬ (z : Int) = (y : Int) := by omega
                  simp [e, e2]
            | false =>
              rw [hh2] at ca
              have HH2 := hidd hh2
              clear hh2
              go_wp2_with fail
              go_roundg (gk - 1)
              case measure => have := HGI.out; omega
              case rel =>
                refine ⟨i + 1, by omega, by have := HGI.out; omega, by go_num, HNN.out.congr fun y hy => ?_, HBZ.out⟩
                rw [HTK.out, List.any_append]
                simp [HAF.out, HH2.out]
          · have hlt2 : ¬ (i : Int) < (L.length : Int) := by omega
            have he : i = L.length := by omega
            subst he
            have HNE := hidd (HNN.out.congr (f' := fun y => hereB L X (k + 1) (y : Int)) fun y _ => by rw [List.take_length]; rfl)
            go_wp2_with fail
            go_roundg (G - 1)
            case measure => have := HG.out; omega
            case rel =>
              have h1 := HBB.out
              have h2 := HBK.out
              have h3 := HG2.out
              refine ⟨k + 1, g2, cap2, by omega, by have := HG.out; omega, rfl, by go_num, by omega, HNE.out, fun j hj => ?_, HBWZ.out⟩
              by_cases e : j = k
              · rw [e]; exact hh
              · exact HNO.out j (by omega)
    · go_wp2_with fail
      go_ret
      exact ⟨by rw [FN.out k (by omega) HNO.out]; rfl, HB0.out.trans (HBW.out.mono HB0.out.size)⟩
end Go.Proofs.YtalhbjmhipiiiaaGreat.Tp

/- Routes: the document's way. -/
namespace Go.Proofs.YtalhbjmhipiiiaaGreat.Tp
set_option linter.unusedVariables false
open Go.RowKit Go.Maps

def RefWayEnd (n : Int) (L : List Lk) (x t : Int) (w : World) (e : Ending) (w' : World) : Prop := ∃ A c, e = .returned (.tuple #[.slice A (lsI n L x t).length c, .int .i64 (erI n L x t)]) ∧ Lie intV 1 w' w'.heap.size A (lsI n L x t) ∧ Below w.heap.size w w'
theorem first_at {n : Int} {L : List Lk} {t y : Int} {k i : Nat} (hi : i < (outs L y).length) (hn : ∀ j, j < i → dist n L t (toF L (av (outs L y) j)) ≠ k) (h : dist n L t (toF L (av (outs L y) i)) = k) : firstL n L t y k = av (outs L y) i := by
  have : (outs L y).find? (fun z => decide (dist n L t (toF L z) = k)) = some (av (outs L y) i) := by
    rw [List.find?_eq_some_iff_getElem]
    refine ⟨by simp [h], i, hi, (av_at hi).symm, fun j hj => ?_⟩
    have := hn j hj
    rw [av_at (by omega)] at this
    simp [this]
  unfold firstL
  rw [this]
  rfl
theorem farZ_is {n : Int} {L : List Lk} (hV : Valid n L) {x t : Int} {k : Nat} (hk : k < 16) : farZ n L x t = (k : Int) ↔ dist n L t x = k := by
  unfold farZ
  split <;> omega
theorem outs_le {n : Int} {L : List Lk} (hV : Valid n L) (y : Int) : (outs L y).length ≤ 100 := by
  have h1 := fromK_len L y L.length
  have h2 := hV.len
  rw [outs_len]
  omega
theorem lsI_no {n : Int} {L : List Lk} {x t : Int} (h : okB n x t = false) : lsI n L x t = [] ∧ erI n L x t = 4 := by simp [lsI, erI, h]
theorem ref10Way_no (n : Int) (A : Option Addr) (L : List Lk) (c : Nat) (x t : Int) (ho : okB n x t = false) (w : World) :
    Calls Tryz.prog 15 #[.agg #[.int .i64 n, .slice A L.length c], .int .i64 x, .int .i64 t] w (RefWayEnd n L x t w) := by
  obtain ⟨W0, hW0⟩ : ∃ W0, (w.alloc (.cells #[.int .i64 n, .slice A L.length c] 30)) = W0 := ⟨_, rfl⟩
  have hb0 : Below w.heap.size w W0 := by rw [← hW0]; (repeat' (first | (with_reducible exact Below.refl _ _) | (with_reducible assumption) | (with_reducible apply Below.setCell) | (with_reducible apply Below.alloc) | (with_reducible apply Below.drew) | (with_reducible apply below_drewN) | (with_reducible refine Below.trans ?_ (Below.mono (by assumption) ?_)) | omega | (simp; done) | (simp; omega)))
  have m0 : W0.cell? ⟨w.heap.size, 0, none⟩ = some (.int .i64 n) := by rw [← hW0]; simp [go_sem]
  obtain ⟨PO, hPO⟩ : ∃ PO, RefWayEnd n L x t w = PO := ⟨_, rfl⟩
  have HEND : Hid (PO (.returned (.tuple #[.slice none 0 0, .int .i64 4])) W0) := hidd (by
    rw [← hPO]
    unfold RefWayEnd
    rw [(lsI_no ho).1, (lsI_no ho).2]
    exact ⟨none, 0, rfl, fun h => absurd h (by simp), hb0⟩)
  rw [hPO]
  have HW := hidd hW0
  clear hPO hb0 hW0
  have hno : ¬ ((0 ≤ x ∧ x < n) ∧ (0 ≤ t ∧ t < n)) := fun h => by
    rw [okB_iff.2 h] at ho; cases ho
  clear ho
  go_enter Tryz.func15, Tryz.ntmps15
  by_cases h0 : x < 0
  · go_wp2_with fail
    rw [HW.out]
    exact HEND.out
  · by_cases h1 : x < n
    · by_cases h2 : t < 0
      · go_wp2_with fail
        all_goals (rw [HW.out]; exact HEND.out)
      · have h3 : ¬ t < n := by omega
        go_wp2_with fail
        all_goals (rw [HW.out]; exact HEND.out)
    · go_wp2_with fail
      all_goals (rw [HW.out]; exact HEND.out)
set_option maxRecDepth 100000 in
set_option maxHeartbeats 8000000 in
theorem ref10Way_yes (n : Int) (A : Option Addr) (L : List Lk) (c : Nat) (hV : Valid n L) (x t : Int) (ho : okB n x t = true) (w : World) (hA : Lie linkV 8 w w.heap.size A L) :
    Calls Tryz.prog 15 #[.agg #[.int .i64 n, .slice A L.length c], .int .i64 x, .int .i64 t] w (RefWayEnd n L x t w) := by
  obtain ⟨i0, hi, hz0, hz1, hz2⟩ := info_parts intInfo
  obtain ⟨W0, hW0⟩ : ∃ W0, (w.alloc (.cells #[.int .i64 n, .slice A L.length c] 30)) = W0 := ⟨_, rfl⟩
  have hb0 : Below w.heap.size w W0 := by rw [← hW0]; (repeat' (first | (with_reducible exact Below.refl _ _) | (with_reducible assumption) | (with_reducible apply Below.setCell) | (with_reducible apply Below.alloc) | (with_reducible apply Below.drew) | (with_reducible apply below_drewN) | (with_reducible refine Below.trans ?_ (Below.mono (by assumption) ?_)) | omega | (simp; done) | (simp; omega)))
  have hs0 : W0.heap.size = w.heap.size + 1 := by rw [← hW0]; simp
  have m0 : W0.cell? ⟨w.heap.size, 0, none⟩ = some (.int .i64 n) := by rw [← hW0]; simp [go_sem]
  have m1 : W0.cell? ⟨w.heap.size, 1, none⟩ = some (.slice A L.length c) := by rw [← hW0]; simp [go_sem]
  have hlt : w.heap.size < W0.heap.size := by omega
  have MC := hidd (fun W (h : Below W0.heap.size W0 W) => show W.cell? ⟨w.heap.size, 0, none⟩ = some (.int .i64 n) ∧ W.cell? ⟨w.heap.size, 1, none⟩ = some (.slice A L.length c) from ⟨(h.cell (p := ⟨w.heap.size, 0, none⟩) hlt).trans m0, (h.cell (p := ⟨w.heap.size, 1, none⟩) hlt).trans m1⟩)
  obtain ⟨⟨hx0, hx1⟩, ht0, ht1⟩ := okB_iff.1 ho
  have HA := hidd (hA.below hb0)
  have HV := hidd hV
  have CF := hidd (fun (y : Int) (h0 : 0 ≤ y) (h1 : y < n) W (h : Below W0.heap.size W0 W) => refFar_any n A L c hV y t h0 h1 ht0 ht1 W ((hA.below hb0).below h))
  have CO := hidd (fun (y : Int) W (h : Below W0.heap.size W0 W) => refOut_any n (by have := hV.lo; omega) hV.hi A L c (by have := hV.len; omega) y W ((hA.below hb0).below h))
  have HLS := hidd (show lsI n L x t = if dist n L t x = 16 then [] else wayL n L t (dist n L t x) x by unfold lsI; rw [if_pos ho])
  have HER := hidd (show erI n L x t = if dist n L t x = 16 then 200 else 0 by unfold erI; rw [if_pos ho])
  have hdle : dist n L t x ≤ 15 ∨ dist n L t x = 16 := by
    have := hV.hi
    rcases dist_le hV x t with h | h <;> omega
  obtain ⟨PO, hPO⟩ : ∃ PO, RefWayEnd n L x t w = PO := ⟨_, rfl⟩
  have HEND := hidd (fun (A : Option Addr) (c : Nat) (w' : World) (h1 : Lie intV 1 w' w'.heap.size A (lsI n L x t)) (h2 : Below w.heap.size w w') => show PO (.returned (.tuple #[.slice A (lsI n L x t).length c, .int .i64 (erI n L x t)])) w' from by rw [← hPO]; exact ⟨A, c, rfl, h1, h2⟩)
  have HX := hidd (And.intro hx0 hx1)
  have HB0 := hidd hb0
  have HW := hidd hW0
  rw [hPO]
  clear hPO hb0 hW0 hA hV ho hlt hs0
  go_enter Tryz.func15, Tryz.ntmps15
  go_wp2_with fail
  rw [HW.out]
  refine (CF.out x hx0 hx1 W0 (Below.refl _ _)).mono ?_
  rintro e w1 ⟨rfl, hb1⟩
  have HB1 := hidd hb1
  clear hb1 m0 m1
  by_cases hd : dist n L t x = 16
  · have e1 : farZ n L x t = -1 := by unfold farZ; rw [if_pos hd]
    rw [e1]
    have hE := HEND.out none 0 w1 (by rw [HLS.out, if_pos hd]; exact fun h => absurd h (by simp)) (HB0.out.trans (HB1.out.mono HB0.out.size))
    rw [HLS.out, HER.out, if_pos hd, if_pos hd] at hE
    have HE := hidd hE
    clear hE
    go_wp2_with fail
    exact HE.out
  · obtain ⟨d, hd2⟩ : ∃ d, dist n L t x = d := ⟨_, rfl⟩
    have e1 : farZ n L x t = (d : Int) := by unfold farZ; rw [if_neg hd, hd2]
    have hd15 : d ≤ 15 := by omega
    rw [HLS.out, HER.out, if_neg hd, if_neg hd, hd2] at HEND
    rw [e1]
    have hd0 : ¬ (d : Int) < 0 := by omega
    have HD2 := hidd hd2
    clear hdle hd hd2 e1 HLS HER
    go_wp2_with fail
    go_loopg [1, 8, 9] 17 (fun g s1 s8 s9 wr => ∃ (k : Nat) (y : Int) (pre : List Int), k ≤ 15 ∧ k < g ∧ s1 = .int .i64 y ∧ s8 = .int .i64 (k : Int) ∧ 0 ≤ y ∧ y < n ∧ dist n L t y = k ∧ wayL n L t d x = pre ++ wayL n L t k y ∧ pre.length ≤ 15 ∧ OwnL intV 1 wr W0.heap.size 3 s9 pre ∧ Below W0.heap.size W0 wr)
    case atStart => exact ⟨d, x, [], hd15, by omega, rfl, rfl, HX.out.1, HX.out.2, HD2.out, rfl, by simp, OwnL.nil _ _ _, HB1.out⟩
    case round =>
      obtain ⟨k, y, pre, hk, hg, rfl, rfl, hy0, hy1, hdy, hway, hpl, hO, hb⟩ := hrel
      obtain ⟨m0, m1⟩ := MC.out wr hb
      obtain ⟨A9, c9, rfl, _, _, hl9⟩ := hO.lie intV_len
      by_cases hk0 : k = 0
      · subst hk0
        have e2 : wayL n L t d x = pre := by rw [hway]; exact List.append_nil _
        have hE := HEND.out A9 c9 wr (by rw [e2]; exact hl9) (HB0.out.trans (hb.mono HB0.out.size))
        rw [e2] at hE
        have HE := hidd hE
        clear hE e2 hO hl9 hway hb m0 m1
        generalize pre.length = PL at *
        go_wp2_with fail
        exact HE.out
      · obtain ⟨q, rfl⟩ : ∃ q, k = q + 1 := ⟨k - 1, by omega⟩
        have hpos : (0 : Int) < (q : Int) + 1 := by omega
        have ecast : ((q + 1 : Nat) : Int) = (q : Int) + 1 := by omega
        rw [ecast]
        have HG := hidd hg
        have HO := hidd hO
        have HBW := hidd hb
        have HWAY := hidd hway
        have HYY := hidd (And.intro hy0 hy1)
        have hq16 : q < 16 := by omega
        have HPL := hidd (show pre.length ≤ 14 by
          have := congrArg List.length hway
          rw [wayL_len, List.length_append, wayL_len] at this
          omega)
        obtain ⟨O, hOe⟩ : ∃ O, outs L y = O := ⟨_, rfl⟩
        have HFA := hidd (fun i (hi : i < O.length) (hn : ∀ j, j < i → dist n L t (toF L (av O j)) ≠ q) (h : dist n L t (toF L (av O i)) = q) => show firstL n L t y q = av O i from by
          subst hOe; exact first_at hi hn h)
        have HOS := hidd (near_some HV.out hy0 hy1 (k := q) (by omega) hdy)
        have HOM := hidd (fun z (hz : z ∈ O) => show ∃ i, i < L.length ∧ z = (i : Int) by
          obtain ⟨i, h1, _, h2⟩ := (outs_mem L y z).1 (by rw [hOe]; exact hz)
          exact ⟨i, h1, h2⟩)
        have hOL : O.length ≤ 100 := by
          rw [← hOe]
          exact outs_le HV.out y
        have HOE := hidd hOe
        rw [hOe] at HOS
        clear hg hO hb hway hy0 hy1 hpl hOe hk hdy hl9
        go_wp2_with fail
        refine (CO.out y wr HBW.out).mono ?_
        rintro e w2 ⟨A2, c2, rfl, hl2, hb2⟩
        rw [outs_eq HV.out y, HOE.out] at hl2
        rw [outs_eq HV.out y, HOE.out]
        have HL2 := hidd hl2
        have HB2 := hidd hb2
        have HBW2 := hidd (below_step HBW.out hb2)
        have HOW := hidd (fun W (h : Below w2.heap.size w2 W) => show OwnL intV 1 W W0.heap.size 3 (.slice A9 pre.length c9) pre from HO.out.below (hb2.trans (h.mono hb2.size)))
        have HOLT := hidd (fun k (h : (Value.slice A9 pre.length c9).ownBlock = some k) => show k < w2.heap.size from Nat.lt_of_lt_of_le (HO.out.lt k h).2 hb2.size)
        clear hl2 hb2 m0 m1 HO
        generalize gk = G at *
        go_wp2_with fail
        go_loopg [1, 9, 11] (O.length + 1) (fun g s1 s9 s11 wz => ∃ i : Nat, i ≤ O.length ∧ i + g = O.length + 1 ∧ s1 = .int .i64 y ∧ s9 = .slice A9 pre.length c9 ∧ s11 = .int .i64 (i : Int) ∧ (∀ j, j < i → dist n L t (toF L (av O j)) ≠ q) ∧ Below w2.heap.size w2 wz)
        case atStart => exact ⟨0, by omega, by omega, rfl, rfl, rfl, fun j hj => by omega, Below.refl _ _⟩
        case round =>
          obtain ⟨i, hil, hgi, rfl, rfl, rfl, hne, hbz⟩ := hrel
          have HGI := hidd hgi
          have HNE := hidd hne
          have HBZ := hidd hbz
          have HBWZ := hidd (HBW2.out.trans (hbz.mono HBW2.out.size))
          obtain ⟨m0, m1⟩ := MC.out _ HBWZ.out
          clear hgi hne hbz
          by_cases hlt : i < O.length
          · have hlt2 : (i : Int) < (O.length : Int) := by omega
            have hi0 : (0 : Int) ≤ (i : Int) := by omega
            obtain ⟨ad, rfl, _, hcell⟩ := (HL2.out.below HBZ.out).int i hlt
            obtain ⟨j, hj, hz⟩ := HOM.out (av O i) (av_mem hlt)
            obtain ⟨ad2, rfl, _, x0, x1, x2, x3, x4, x5, x6, x7⟩ := (HA.out.below HBWZ.out).link j hj
            have hj2 : (j : Int) < (L.length : Int) := by omega
            have hj0 : (0 : Int) ≤ (j : Int) := by omega
            have hends := (HV.out.ends hj).2
            have HCF := hidd (CF.out (tw (lkAt L j)) hends.1 hends.2)
            have HFI := hidd (farZ_is HV.out (x := tw (lkAt L j)) (t := t) (k := q) (by omega))
            have HTO := hidd (toF_nat hj)
            have HZ := hidd hz
            have HEN := hidd hends
            rw [hz] at hcell
            obtain ⟨a1, ha1⟩ : ∃ a1, tw (lkAt L j) = a1 := ⟨_, rfl⟩
            rw [ha1] at HCF HFI HTO x1 HEN
            obtain ⟨Z, hZ⟩ : ∃ Z, farZ n L a1 t = Z := ⟨_, rfl⟩
            rw [hZ] at HCF HFI
            clear hz hends ha1 hZ
            generalize fr (lkAt L j) = a0 at *
            generalize rt (lkAt L j) = a2 at *
            generalize sh (lkAt L j) = a3 at *
            generalize fa (lkAt L j) = a4 at *
            generalize mo (lkAt L j) = C1 at *
            generalize ro (lkAt L j) = a6 at *
            generalize fi (lkAt L j) = a7 at *
            have up : ∀ a v, wr.cell? a = some v → (wr.alloc (.cells #[.int .i64 0, .int .i64 0, .int .i64 0, .int .i64 0, .int .i64 0, .int .i64 0, .int .i64 0, .int .i64 0] 51)).cell? a = some v := fun a v h => ((below_new (Below.refl wr.heap.size wr) _).cell (p := a) (World.block_lt_of_cell? wr a h)).trans h
            have ym := up _ _ m1
            have yn := up _ _ m0
            have yc := up _ _ hcell
            have y0 := up _ _ x0
            have y1 := up _ _ x1
            have y2 := up _ _ x2
            have y3 := up _ _ x3
            have y4 := up _ _ x4
            have y5 := up _ _ x5
            have y6 := up _ _ x6
            have y7 := up _ _ x7
            clear up
            have up2 : ∀ a v, wr.cell? a = some v → ((wr.alloc (.cells #[.int .i64 a0, .int .i64 a1, .int .i64 a2, .int .i64 a3, .int .i64 a4, .int .i64 C1, .int .i64 a6, .int .i64 a7] 51)).drew).cell? a = some v := fun a v h => ((Below.drew (below_new (Below.refl wr.heap.size wr) _)).cell (p := a) (World.block_lt_of_cell? wr a h)).trans h
            have vm := up2 _ _ m1
            have vn := up2 _ _ m0
            clear up2
            go_wp2_with fail
            go_region
            go_wp2_with fail
            obtain ⟨W3, hW3⟩ : ∃ W3, (wr.alloc (.cells #[.int .i64 a0, .int .i64 a1, .int .i64 a2, .int .i64 a3, .int .i64 a4, .int .i64 C1, .int .i64 a6, .int .i64 a7] 51)).drew = W3 := ⟨_, rfl⟩
            have hb3 : Below wr.heap.size wr W3 := by rw [← hW3]; exact Below.drew (below_new (Below.refl _ _) _)
            have ct : W3.cell? ⟨wr.heap.size, 1, none⟩ = some (.int .i64 a1) := by rw [← hW3]; simp [go_sem]
            have hs3 : wr.heap.size < W3.heap.size := by rw [← hW3]; simp
            rw [hW3]
            refine (HCF.out W3 (below_step HBWZ.out hb3)).mono ?_
            rintro e w3 ⟨rfl, hb4⟩
            have ct3 : w3.cell? ⟨wr.heap.size, 1, none⟩ = some (.int .i64 a1) := (hb4.cell (p := ⟨wr.heap.size, 1, none⟩) hs3).trans ct
            have hb5 : Below wr.heap.size wr w3 := hb3.trans (hb4.mono hb3.size)
            have hs5 : wr.heap.size < w3.heap.size := Nat.lt_of_lt_of_le hs3 hb4.size
            have hb6 : Below w2.heap.size w2 w3 := HBZ.out.trans (hb5.mono HBZ.out.size)
            have c3 := (hb5.cell (p := _) (World.block_lt_of_cell? wr _ hcell)).trans hcell
            have HB6 := hidd hb6
            have HS := hidd (And.intro hs5 HBZ.out.size)
            have HB7 := hidd (HBW2.out.trans (hb6.mono HBW2.out.size))
            clear hb3 hb4 hb5 hb6 hs3 hW3 ct ym yn yc y0 y1 y2 y3 y4 y5 y6 y7 vm vn x0 x1 x2 x3 x4 x5 x6 x7 m0 m1 hcell hs5
            by_cases hq : Z = (q : Int)
            · subst hq
              have HQ := hidd (HFI.out.1 rfl)
              have HO3 := hidd (World.ownsRow.alloc (HOW.out w3 HB6.out) (.cells #[.int .i64 (j : Int)] 3))
              have hsrc : Hid (0 < 1 → ∃ ad', some (⟨w3.heap.size, 0, none⟩ : Addr) = some ad' ∧ ∀ k u, ([.int .i64 (j : Int)] : List Value)[k]? = some u → (w3.alloc (.cells #[.int .i64 (j : Int)] 3)).cell? (ad'.add k) = some u) := hidd (fun _ => ⟨_, rfl, fun k u hk => by
                match k, hk with
                | 0, hk => simp at hk; subst hk; simp [Addr.add, go_sem]⟩)
              have HONE : Hid (∀ u ∈ [Value.int .i64 (j : Int)], u.oneCell' = true) := hidd (fun u hu => by simp at hu; subst hu; rfl)
              have hmax : Hid (pre.length + 1 ≤ maxLen) := hidd (by have := HPL.out; unfold maxLen; omega)
              have hby : Hid ((pre.length + 1) * 8 ≤ 140737488355328) := hidd (by have := HPL.out; omega)
              have hbase : Hid (W0.heap.size ≤ (w3.alloc (.cells #[.int .i64 (j : Int)] 3)).heap.size) := hidd (by have := HB7.out.size; simp; omega)
              have CT4 := hidd (fun w4 (hg : (w3.alloc (.cells #[.int .i64 (j : Int)] 3)).grownBy w4 (Value.slice A9 pre.length c9).ownBlock) => show w4.cell? ⟨wr.heap.size, 1, none⟩ = some (.int .i64 a1) by
                have h1 := HS.out
                have hgb := hg.block wr.heap.size (by simp; omega) (fun e => by
                  have := HOLT.out _ e.symm
                  omega)
                have e1 : w4.cell? ⟨wr.heap.size, 1, none⟩ = (w3.alloc (.cells #[.int .i64 (j : Int)] 3)).cell? ⟨wr.heap.size, 1, none⟩ := by unfold World.cell?; rw [hgb]
                rw [e1]
                exact ((below_new (Below.refl w3.heap.size w3) _).cell (p := ⟨wr.heap.size, 1, none⟩) h1.1).trans ct3)
              go_wp2_with (first | (at_builtin; refine wpList_append_some rfl _ _ 36 rfl W0.heap.size 3 i0 (.int .i64 0) 1 8 Tryz.underlying36 hi hz0 hz1 hz2 rfl (by decide) (.slice A9 pre.length c9) pre.length (rowOf intV pre) rfl HO3.out (some ⟨w3.heap.size, 0, none⟩) 1 1 [.int .i64 (j : Int)] rfl rfl hsrc.out HONE.out hmax.out hby.out hbase.out ?_; intro v' w4 hown' hgrow hor; have HO4 := hidd hown'; have HG3 := hidd hgrow; have ct4 := CT4.out w4 hgrow; clear hown' hgrow hor) | fail)
              go_roundg (G - 1)
              case measure => have := HG.out; omega
              case rel =>
                refine ⟨q, a1, pre ++ [(j : Int)], by omega, by have := HG.out; omega, rfl, rfl, HEN.out.1, HEN.out.2, HQ.out, ?_, by have := HPL.out; simp; omega, OwnL.snoc (L := pre) (x := (j : Int)) HO4.out rfl rfl, (below_new HB7.out _).grown HG3.out hbase.out (fun k' e => (World.ownsRow.lt HO3.out k' e).1)⟩
                have hf := HFA.out i hlt HNE.out (by rw [HZ.out, HTO.out]; exact HQ.out)
                rw [HZ.out] at hf
                rw [HWAY.out]
                show pre ++ (firstL n L t y q :: wayL n L t q (toF L (firstL n L t y q))) = _
                rw [hf, HTO.out, List.append_assoc]
                rfl
            · go_wp2_with fail
              go_roundg (gk - 1)
              case measure => have := HGI.out; omega
              case rel =>
                refine ⟨i + 1, by omega, by have := HGI.out; omega, rfl, rfl, by go_num, fun j' hj' => ?_, HB6.out⟩
                by_cases e : j' = i
                · rw [e, HZ.out, HTO.out]
                  exact fun h => hq (HFI.out.2 h)
                · exact HNE.out j' (by omega)
          · exfalso
            obtain ⟨z, hz, hdz⟩ := HOS.out
            obtain ⟨i2, hi2, e2⟩ := List.getElem_of_mem hz
            refine HNE.out i2 (by omega) ?_
            rw [av_at hi2, e2]
            exact hdz
theorem ref10Way_any (n : Int) (A : Option Addr) (L : List Lk) (c : Nat) (hV : Valid n L) (x t : Int) (w : World) (hA : Lie linkV 8 w w.heap.size A L) :
    Calls Tryz.prog 15 #[.agg #[.int .i64 n, .slice A L.length c], .int .i64 x, .int .i64 t] w (RefWayEnd n L x t w) := by
  cases h : okB n x t with
  | true => exact ref10Way_yes n A L c hV x t h w hA
  | false => exact ref10Way_no n A L c x t h w
end Go.Proofs.YtalhbjmhipiiiaaGreat.Tp

/- Routes: RouteWays. -/
namespace Go.Proofs.YtalhbjmhipiiiaaGreat.Tp
set_option linter.unusedVariables false
open Go.RowKit Go.Maps

theorem fk_ls {n : Int} {L : List Lk} {x t : Int} (h : erI n L x t = 0) : fkI n L x t = ((lsI n L x t).length : Int) := by
  obtain ⟨h1, h2⟩ := er_iff.1 h
  unfold fkI lsI
  rw [if_pos h, if_pos h1, if_neg h2, wayL_len]
theorem ls_nil {n : Int} {L : List Lk} {x t : Int} (h : erI n L x t ≠ 0) : lsI n L x t = [] := by
  unfold lsI
  by_cases h1 : okB n x t = true
  · rw [if_pos h1]
    by_cases h2 : dist n L t x = 16
    · rw [if_pos h2]
    · exact absurd (er_iff.2 ⟨h1, h2⟩) h
  · rw [if_neg h1]
set_option maxRecDepth 100000 in
set_option maxHeartbeats 16000000 in
theorem routeWays_walk (n : Int) (A : Option Addr) (L : List Lk) (c : Nat) (p0 p1 : Int) (hn : I64 n) (hc : L.length ≤ c) (hc2 : c ≤ maxLen) (hI : WideL L) (hp0 : I64 p0) (hp1 : I64 p1) (w : World) (hA : Lie linkV 8 w w.heap.size A L) :
    Calls Tryz.prog 3 #[.int .i64 n, .slice A L.length c, .agg #[.int .i64 p0, .int .i64 p1]] w fun e w' => e = .returned (.bool true) ∧ Below w.heap.size w w' := by
  have cK := hidd (fun W => known10_any W)
  obtain ⟨PO, hPO⟩ : ∃ PO : Ending → World → Prop, (fun (e : Ending) (w' : World) => e = .returned (.bool true) ∧ Below w.heap.size w w') = PO := ⟨_, rfl⟩
  have hfin0 : ∀ W, Below w.heap.size w W → PO (.returned (.bool true)) W := fun W h => by rw [← hPO]; exact ⟨rfl, h⟩
  rw [hPO]
  clear hPO
  by_cases hlen : 60 < L.length
  · have hl2 : (60 : Int) < (L.length : Int) := by omega
    have hl3 : (L.length : Int) ≤ 9223372036854775807 := by unfold maxLen at hc2; omega
    have HF := hidd hfin0
    clear hlen hc hc2 hI hA hn hfin0
    go_enter Tryz.func3, Tryz.ntmps3
    go_wp2_with fail
    refine (cK.out _).mono ?_
    rintro e w1 ⟨rfl, hb⟩
    go_wp2_with fail
    exact HF.out _ (by (repeat' (first | (with_reducible exact Below.refl _ _) | (with_reducible assumption) | (with_reducible apply Below.setCell) | (with_reducible apply Below.alloc) | (with_reducible apply Below.drew) | (with_reducible apply below_drewN) | (with_reducible refine Below.trans ?_ (Below.mono (by assumption) ?_)) | omega | (simp; done) | (simp; omega))))
  have hl2 : ¬ (60 : Int) < (L.length : Int) := by omega
  obtain ⟨W0, hW0⟩ : ∃ W0, w.alloc (.cells #[.int .i64 p0, .int .i64 p1] 23) = W0 := ⟨_, rfl⟩
  have hz : W0.heap.size = w.heap.size + 1 := by rw [← hW0]; simp
  have hb0 : Below w.heap.size w W0 := by rw [← hW0]; (repeat' (first | (with_reducible exact Below.refl _ _) | (with_reducible assumption) | (with_reducible apply Below.setCell) | (with_reducible apply Below.alloc) | (with_reducible apply Below.drew) | (with_reducible apply below_drewN) | (with_reducible refine Below.trans ?_ (Below.mono (by assumption) ?_)) | omega | (simp; done) | (simp; omega)))
  have q0 : W0.cell? ⟨w.heap.size, 0, none⟩ = some (.int .i64 p0) := by rw [← hW0]; simp [go_sem]
  have q1 : W0.cell? ⟨w.heap.size, 1, none⟩ = some (.int .i64 p1) := by rw [← hW0]; simp [go_sem]
  have hlt : w.heap.size < W0.heap.size := by omega
  have AT := hidd (fun W (h : Below W0.heap.size W0 W) => show W.cell? ⟨w.heap.size, 0, none⟩ = some (.int .i64 p0) ∧ W.cell? ⟨w.heap.size, 1, none⟩ = some (.int .i64 p1) from ⟨(h.cell (p := ⟨w.heap.size, 0, none⟩) hlt).trans q0, (h.cell (p := ⟨w.heap.size, 1, none⟩) hlt).trans q1⟩)
  have HFIN := hidd (fun W (h : Below W0.heap.size W0 W) => hfin0 W (hb0.trans (h.mono hb0.size)))
  have HLA := hidd (fun W (h : Below W0.heap.size W0 W) => show Lie linkV 8 W W.heap.size A L from (hA.below hb0).below h)
  have HW := hidd hW0
  have HI := hidd hI
  have CN := hidd (New_any n A L c (by omega) hI W0 (hA.below hb0))
  have CRN := hidd (fun W (h : Below W0.heap.size W0 W) => refNew_any n A L c (by omega) W ((hA.below hb0).below h))
  clear hz hb0 q0 q1 hW0 hA hc hc2 hlen hI hn hlt hfin0
  go_enter Tryz.func3, Tryz.ntmps3
  go_wp2_with fail
  rw [HW.out]
  refine CN.out.mono ?_
  rintro e w1 (⟨hE, rfl, hb1⟩ | ⟨hE, m, rfl, hm1, hmz, hb1⟩)
  · have HB1 := hidd hb1
    have CR := hidd (CRN.out w1 hb1)
    clear hb1 CRN
    unfold RefNewEnd at CR
    generalize errN n L = R at *
    have hR2 : (R != 0) = true := by simp [hE]
    have hR3 : (R == 0) = false := by simp [hE]
    go_wp2_with fail
    refine CR.out.mono ?_
    rintro e w2 ⟨hb2, ⟨_, rfl⟩ | ⟨hE2, rfl⟩⟩
    · have HB2 := hidd (below_step HB1.out hb2)
      clear hb2
      go_wp2_with fail
      refine (NewR_no _ _ (.inl rfl)).mono ?_
      rintro e w3 ⟨rfl, rfl⟩
      go_wp2_with fail
      refine (cK.out _).mono ?_
      rintro e w4 ⟨rfl, hb4⟩
      have HB4 := hidd (below_step (below_new HB2.out _) hb4)
      clear hb4
      go_wp2_with fail
      exact HFIN.out _ HB4.out
    · exact absurd hE2 hE
  · have HV := hidd (valid_of hE)
    have HB1 := hidd hb1
    have HM1 := hidd hm1
    have CR := hidd (CRN.out w1 hb1)
    clear hb1 CRN hm1
    unfold RefNewEnd at CR
    rw [hE] at CR
    clear hE
    go_wp2_with fail
    refine CR.out.mono ?_
    rintro e w2 ⟨hb2, ⟨hno, rfl⟩ | ⟨_, rfl⟩⟩
    · exact absurd rfl hno
    · have hMA := HM1.out.below hb2
      have HB2 := hidd (below_step HB1.out hb2)
      obtain ⟨W3, hW3⟩ : ∃ W3, w2.alloc (.cells #[.int .i64 n, .slice A L.length c] 30) = W3 := ⟨_, rfl⟩
      have hb3 : Below w2.heap.size w2 W3 := by rw [← hW3]; (repeat' (first | (with_reducible exact Below.refl _ _) | (with_reducible assumption) | (with_reducible apply Below.setCell) | (with_reducible apply Below.alloc) | (with_reducible apply Below.drew) | (with_reducible apply below_drewN) | (with_reducible refine Below.trans ?_ (Below.mono (by assumption) ?_)) | omega | (simp; done) | (simp; omega)))
      have hs3 : w2.heap.size < W3.heap.size := by rw [← hW3]; simp
      have n0 : W3.cell? ⟨w2.heap.size, 0, none⟩ = some (.int .i64 n) := by rw [← hW3]; simp [go_sem]
      have n1 : W3.cell? ⟨w2.heap.size, 1, none⟩ = some (.slice A L.length c) := by rw [← hW3]; simp [go_sem]
      have HB3 := hidd (HB2.out.trans (hb3.mono HB2.out.size))
      have MM := hidd (fun W (h : Below W3.heap.size W3 W) => show W.cell? ⟨w2.heap.size, 0, none⟩ = some (.int .i64 n) ∧ W.cell? ⟨w2.heap.size, 1, none⟩ = some (.slice A L.length c) ∧ W.cell? ⟨w.heap.size, 0, none⟩ = some (.int .i64 p0) ∧ W.cell? ⟨w.heap.size, 1, none⟩ = some (.int .i64 p1) from ⟨(h.cell (p := ⟨w2.heap.size, 0, none⟩) hs3).trans n0, (h.cell (p := ⟨w2.heap.size, 1, none⟩) hs3).trans n1, AT.out W (HB3.out.trans (h.mono HB3.out.size))⟩)
      have HM3 := hidd (hMA.below hb3)
      have HW3 := hidd hW3
      have CNR := hidd (NewR_yes m n L HV.out HI.out W3 HM3.out)
      clear hb2 hb3 hs3 n0 n1 hW3 CR AT HM1 hMA
      go_wp2_with fail
      rw [HW3.out]
      refine CNR.out.mono ?_
      rintro e w4 ⟨r, bw, m', rfl, hr4, hb4⟩
      have HR4 := hidd hr4
      have HB4 := hidd hb4
      obtain ⟨n0, n1, c0, c1⟩ := MM.out _ hb4
      clear hr4 hb4
      go_wp2_with fail
      go_quiet (fail)
      go_wp2_with fail
      have hd4 : Below w4.heap.size w4 (w4.drewN nq) := below_drewN (Below.refl _ _) _
      obtain ⟨v4, hv4⟩ : ∃ v4, w4.drewN nq = v4 := ⟨_, rfl⟩
      rw [hv4] at hd4 ⊢
      replace HR4 := hidd (HR4.out.below hd4)
      replace HB4 := hidd (below_step HB4.out hd4)
      clear hd4 hv4
      refine (Way_all W3.heap.size r bw m' n L HV.out false p0 p1 v4 HR4.out HB4.out.size).mono ?_
      rintro e w5 ⟨⟨d5, hr5, hrd5, hb5, _, _⟩, A5, c5, rfl, hl5⟩
      have HR5 := hidd hr5
      have HB5 := hidd (HB4.out.trans hb5)
      clear hr5 hb5 n0 n1 c0 c1
      go_wp2_with fail
      refine (Next_all W3.heap.size r bw m' n L HV.out d5 p0 p1 w5 HR5.out HB5.out.size).mono ?_
      rintro e w6 ⟨⟨d6, hr6, hrd6, _, hb6, _⟩, rfl⟩
      have HR6 := hidd hr6
      have HU6 := hidd (hb6 hrd5)
      have HB6 := hidd (HB5.out.trans (HU6.out.mono HB5.out.size))
      clear hr6 hb6
      go_wp2_with fail
      refine (Far_all W3.heap.size r bw m' n L HV.out d6 p0 p1 w6 HR6.out HB6.out.size).mono ?_
      rintro e w7 ⟨⟨d7, hr7, hrd7, _, hb7, _⟩, rfl⟩
      have HR7 := hidd hr7
      have HU7 := hidd (HU6.out.trans ((hb7 hrd6).mono HU6.out.size))
      have HB7 := hidd (HB5.out.trans (HU7.out.mono HB5.out.size))
      clear hr7 hb7
      go_wp2_with fail
      refine (TermsR_all W3.heap.size r bw m' n L HV.out d7 p0 p1 hrd7 w7 HR7.out HB7.out.size).mono ?_
      rintro e w8 ⟨⟨d8, hr8, hrd8, _, hb8, _⟩, rfl⟩
      have HU8 := hidd (HU7.out.trans ((hb8 hrd7).mono HU7.out.size))
      have HB8 := hidd (HB5.out.trans (HU8.out.mono HB5.out.size))
      have HR8 := hidd hr8
      have HL5 := hidd (hl5.below HU8.out)
      have HRD := hidd hrd8
      clear hr8 hb8 HR4 HR5 HR6 HR7 hrd5 hrd6 hrd7 hrd8 HB4 HB6 HB7 HU6 HU7 hl5
      have CW := hidd (fun W (h : Below W0.heap.size W0 W) => ref10Way_any n A L c HV.out p0 p1 W (HLA.out W h))
      unfold RefWayEnd at CW
      have hlen := lsI_len n L HV.out p0 p1
      have HIN := hidd (lsI_in HV.out p0 p1)
      have CT := hidd (fun A2 c2 W (h : Below W0.heap.size W0 W) h2 => refTerms_any n A L c HV.out A2 (lsI n L p0 p1) c2 hlen HIN.out W (HLA.out W h) h2)
      have CA := hidd (fun W (h : Below w8.heap.size w8 W) => Ahead_all W3.heap.size r bw m' n L HV.out d8 p0 p1 W (HR8.out.below h) (Nat.le_trans HB8.out.size h.size))
      have HBW0 := hidd (HB3.out.trans (HB8.out.mono HB3.out.size))
      have MM8 := hidd (fun W (h : Below w8.heap.size w8 W) => show W.cell? ⟨w2.heap.size, 0, none⟩ = some (.int .i64 n) ∧ W.cell? ⟨w2.heap.size, 1, none⟩ = some (.slice A L.length c) from ⟨(MM.out W (below_step HB8.out h)).1, (MM.out W (below_step HB8.out h)).2.1⟩)
      by_cases hE0 : erI n L p0 p1 = 0
      · have e1 := fk_ls hE0
        have e2 : nxI n L p0 p1 = (lsI n L p0 p1).headD 0 := by unfold nxI; rw [if_pos hE0]
        have e3 : neI n L p0 p1 = if (lsI n L p0 p1).length = 0 then 200 else 0 := by unfold neI; rw [if_pos hE0]
        have e4 : tmI n L p0 p1 = wayR ((lsI n L p0 p1).map (tmOf L)) := by unfold tmI; rw [if_pos hE0]
        rw [e1, e2, e3, e4, hE0]
        rw [hE0] at CW
        clear e1 e2 e3 e4 hE0
        generalize lsI n L p0 p1 = S at *
        obtain ⟨N1, hN1⟩ : ∃ N1, S.headD 0 = N1 := ⟨_, rfl⟩
        obtain ⟨N2, hN2⟩ : ∃ N2 : Int, (if S.length = 0 then 200 else 0) = N2 := ⟨_, rfl⟩
        rw [hN1, hN2]
        have HN1 := hidd hN1
        have HN2 := hidd hN2
        clear hN1 hN2
        obtain ⟨T1, T2, TE, hT⟩ : ∃ T1 T2 TE, wayR (S.map (tmOf L)) = (T1, T2, TE) := ⟨_, _, _, rfl⟩
        rw [hT] at CT ⊢
        unfold pairOf at CT ⊢
        dsimp only at CT
        obtain ⟨W9, hW9⟩ : ∃ W9, w8.alloc (.cells #[.int .i64 T1, .int .i64 T2] 42) = W9 := ⟨_, rfl⟩
        have hb9 : Below w8.heap.size w8 W9 := by rw [← hW9]; (repeat' (first | (with_reducible exact Below.refl _ _) | (with_reducible assumption) | (with_reducible apply Below.setCell) | (with_reducible apply Below.alloc) | (with_reducible apply Below.drew) | (with_reducible apply below_drewN) | (with_reducible refine Below.trans ?_ (Below.mono (by assumption) ?_)) | omega | (simp; done) | (simp; omega)))
        have hs9 : w8.heap.size < W9.heap.size := by rw [← hW9]; simp
        have t0 : W9.cell? ⟨w8.heap.size, 0, none⟩ = some (.int .i64 T1) := by rw [← hW9]; simp [go_sem]
        have t1 : W9.cell? ⟨w8.heap.size, 1, none⟩ = some (.int .i64 T2) := by rw [← hW9]; simp [go_sem]
        have M9 := hidd (fun W (h : Below W9.heap.size W9 W) => show (W.cell? ⟨w2.heap.size, 0, none⟩ = some (.int .i64 n) ∧ W.cell? ⟨w2.heap.size, 1, none⟩ = some (.slice A L.length c)) ∧ W.cell? ⟨w8.heap.size, 0, none⟩ = some (.int .i64 T1) ∧ W.cell? ⟨w8.heap.size, 1, none⟩ = some (.int .i64 T2) from ⟨MM8.out W (hb9.trans (h.mono hb9.size)), (h.cell (p := ⟨w8.heap.size, 0, none⟩) hs9).trans t0, (h.cell (p := ⟨w8.heap.size, 1, none⟩) hs9).trans t1⟩)
        have H89 := hidd hb9
        have HW9 := hidd hW9
        have HT := hidd hT
        have n0 : (w8.alloc (.cells #[.int .i64 T1, .int .i64 T2] 42)).cell? ⟨w2.heap.size, 0, none⟩ = some (.int .i64 n) := by rw [hW9]; exact (M9.out W9 (Below.refl _ _)).1.1
        have n1 : (w8.alloc (.cells #[.int .i64 T1, .int .i64 T2] 42)).cell? ⟨w2.heap.size, 1, none⟩ = some (.slice A L.length c) := by rw [hW9]; exact (M9.out W9 (Below.refl _ _)).1.2
        clear hb9 hs9 t0 t1 hW9 hT MM8
        go_wp2_with fail
        rw [HW9.out]
        refine (CW.out W9 (below_step HBW0.out H89.out)).mono ?_
        rintro e w10 ⟨A6, c6, rfl, hl6, hb10⟩
        have H10 := hidd hb10
        have HL6 := hidd hl6
        have HL5b := hidd ((HL5.out.below H89.out).below hb10)
        clear hl6 hb10 n0 n1 HL5
        go_wp2_with fail
        refine (same10_yes A5 A6 S c5 c6 (by omega) w10 HL5b.out HL6.out).mono ?_
        rintro e w11 ⟨rfl, hb11⟩
        obtain ⟨W12, hW12⟩ : ∃ W12, w11.alloc (.cells #[.int .i64 0, .int .i64 0] 42) = W12 := ⟨_, rfl⟩
        have hb12 : Below w11.heap.size w11 W12 := by rw [← hW12]; (repeat' (first | (with_reducible exact Below.refl _ _) | (with_reducible assumption) | (with_reducible apply Below.setCell) | (with_reducible apply Below.alloc) | (with_reducible apply Below.drew) | (with_reducible apply below_drewN) | (with_reducible refine Below.trans ?_ (Below.mono (by assumption) ?_)) | omega | (simp; done) | (simp; omega)))
        have hs12 : w11.heap.size < W12.heap.size := by rw [← hW12]; simp
        have t0 : W12.cell? ⟨w11.heap.size, 0, none⟩ = some (.int .i64 0) := by rw [← hW12]; simp [go_sem]
        have t1 : W12.cell? ⟨w11.heap.size, 1, none⟩ = some (.int .i64 0) := by rw [← hW12]; simp [go_sem]
        have g0 : W12.frozen? ⟨w11.heap.size, 0, none⟩ = false := by rw [← hW12]; simp [go_sem]
        have g1 : W12.frozen? ⟨w11.heap.size, 1, none⟩ = false := by rw [← hW12]; simp [go_sem]
        have H12 := hidd ((H10.out.trans (hb11.mono H10.out.size)).trans (hb12.mono (H10.out.trans (hb11.mono H10.out.size)).size))
        have M12 := hidd (fun W (h : Below W12.heap.size W12 W) => show ((W.cell? ⟨w2.heap.size, 0, none⟩ = some (.int .i64 n) ∧ W.cell? ⟨w2.heap.size, 1, none⟩ = some (.slice A L.length c)) ∧ W.cell? ⟨w8.heap.size, 0, none⟩ = some (.int .i64 T1) ∧ W.cell? ⟨w8.heap.size, 1, none⟩ = some (.int .i64 T2)) ∧ W.cell? ⟨w11.heap.size, 0, none⟩ = some (.int .i64 0) ∧ W.cell? ⟨w11.heap.size, 1, none⟩ = some (.int .i64 0) ∧ W.frozen? ⟨w11.heap.size, 0, none⟩ = false ∧ W.frozen? ⟨w11.heap.size, 1, none⟩ = false from ⟨M9.out W (H12.out.trans (h.mono H12.out.size)), (h.cell (p := ⟨w11.heap.size, 0, none⟩) hs12).trans t0, (h.cell (p := ⟨w11.heap.size, 1, none⟩) hs12).trans t1, (h.frozen (p := ⟨w11.heap.size, 0, none⟩) hs12).trans g0, (h.frozen (p := ⟨w11.heap.size, 1, none⟩) hs12).trans g1⟩)
        have HL6b := hidd ((HL6.out.below hb11).below hb12)
        have HW12 := hidd hW12
        have n0 : (w11.alloc (.cells #[.int .i64 0, .int .i64 0] 42)).cell? ⟨w2.heap.size, 0, none⟩ = some (.int .i64 n) := by rw [hW12]; exact (M12.out W12 (Below.refl _ _)).1.1.1
        have n1 : (w11.alloc (.cells #[.int .i64 0, .int .i64 0] 42)).cell? ⟨w2.heap.size, 1, none⟩ = some (.slice A L.length c) := by rw [hW12]; exact (M12.out W12 (Below.refl _ _)).1.1.2
        have hs811 : w8.heap.size ≠ w11.heap.size := by
          have h1 := H89.out.size
          have h2 := H10.out.size
          have h3 := hb11.size
          have h4 : W9.heap.size = w8.heap.size + 1 := by rw [← HW9.out]; simp
          omega
        have hs211 : w2.heap.size ≠ w11.heap.size := by
          have h1 := H89.out.size
          have h2 := H10.out.size
          have h3 := hb11.size
          have h4 : W3.heap.size = w2.heap.size + 1 := by rw [← HW3.out]; simp
          have h5 := HB8.out.size
          omega
        have HNE := hidd (And.intro hs811 hs211)
        have H0_12 := hidd (HBW0.out.trans ((H89.out.trans (H12.out.mono H89.out.size)).mono HBW0.out.size))
        have H8_12 := hidd (H89.out.trans (H12.out.mono H89.out.size))
        have HL11 := hidd (HL6.out.below hb11)
        have H11_12 := hidd hb12
        have H8_11 := hidd (H89.out.trans ((H10.out.trans (hb11.mono H10.out.size)).mono H89.out.size))
        have HLT := hidd (show W0.heap.size ≤ w11.heap.size by have := H0_12.out.size; have h1 := HBW0.out.size; have h2 := H89.out.size; have h3 := H10.out.size; have h4 := hb11.size; omega)
        have HLT8 := hidd (show w8.heap.size ≤ w11.heap.size by have h2 := H89.out.size; have h3 := H10.out.size; have h4 := hb11.size; omega)
        clear hb11 hb12 hs12 t0 t1 g0 g1 hW12 hs811 hs211 M9 HL6
        go_wp2_with fail
        rw [HW12.out]
        refine (CT.out A6 c6 W12 H0_12.out HL6b.out).mono ?_
        rintro e w13 ⟨rfl, hb13⟩
        have H13 := hidd hb13
        obtain ⟨_, c0, c1, f0, f1⟩ := M12.out w13 hb13
        clear hb13 n0 n1
        go_wp2_with fail
        obtain ⟨W14, hW14⟩ : ∃ W14, (w13.setCell ⟨w11.heap.size, 0, none⟩ (.int .i64 T1)).setCell ⟨w11.heap.size, 1, none⟩ (.int .i64 T2) = W14 := ⟨_, rfl⟩
        have H11_14 := hidd (show Below w11.heap.size w11 W14 by rw [← hW14]; exact ((H11_12.out.trans (H13.out.mono H11_12.out.size)).setCell (p := ⟨w11.heap.size, 0, none⟩) (Nat.le_refl _) _).setCell (p := ⟨w11.heap.size, 1, none⟩) (Nat.le_refl _) _)
        have hz14 : w11.heap.size < W14.heap.size := by
          have h1 := H13.out.size
          have h2 : W12.heap.size = w11.heap.size + 1 := by rw [← HW12.out]; simp
          have h3 : W14.heap.size = w13.heap.size := by rw [← hW14]; simp
          omega
        have t25a : W14.cell? ⟨w11.heap.size, 0, none⟩ = some (.int .i64 T1) := by
          rw [← hW14]
          exact (set_other _ (by simp)).trans (World.cell?_setCell_same' _ _ _ (by rw [c0]; rfl))
        have t25b : W14.cell? ⟨w11.heap.size, 1, none⟩ = some (.int .i64 T2) := by
          rw [← hW14]
          exact World.cell?_setCell_same' _ _ _ (by rw [set_other _ (by simp), c1]; rfl)
        have H8_14 := hidd (H8_11.out.trans (H11_14.out.mono H8_11.out.size))
        have H0_14 := hidd (HBW0.out.trans (H8_14.out.mono HBW0.out.size))
        have HNX := hidd (And.intro (show w2.heap.size < w8.heap.size by
          have h1 : W3.heap.size = w2.heap.size + 1 := by rw [← HW3.out]; simp
          have h2 := HB8.out.size
          omega) (show w8.heap.size < w11.heap.size by
          have h1 : W9.heap.size = w8.heap.size + 1 := by rw [← HW9.out]; simp
          have h2 := HNE.out
          have h3 := HLT8.out
          omega))
        have mc := M12.out w13 H13.out
        have hq : Below w11.heap.size w13 W14 := by rw [← hW14]; exact ((Below.refl w11.heap.size w13).setCell (p := ⟨w11.heap.size, 0, none⟩) (Nat.le_refl _) _).setCell (p := ⟨w11.heap.size, 1, none⟩) (Nat.le_refl _) _
        have d21a : W14.cell? ⟨w8.heap.size, 0, none⟩ = some (.int .i64 T1) := by
          exact (hq.cell (p := ⟨w8.heap.size, 0, none⟩) HNX.out.2).trans mc.1.2.1
        have d21b : W14.cell? ⟨w8.heap.size, 1, none⟩ = some (.int .i64 T2) := by
          exact (hq.cell (p := ⟨w8.heap.size, 1, none⟩) HNX.out.2).trans mc.1.2.2
        have dm : W14.cell? ⟨w2.heap.size, 1, none⟩ = some (.slice A L.length c) := by
          exact (hq.cell (p := ⟨w2.heap.size, 1, none⟩) (Nat.lt_trans HNX.out.1 HNX.out.2)).trans mc.1.1.2
        have M14 := hidd (fun W (h : Below W14.heap.size W14 W) => show W.cell? ⟨w2.heap.size, 1, none⟩ = some (.slice A L.length c) ∧ W.cell? ⟨w8.heap.size, 0, none⟩ = some (.int .i64 T1) ∧ W.cell? ⟨w8.heap.size, 1, none⟩ = some (.int .i64 T2) ∧ W.cell? ⟨w11.heap.size, 0, none⟩ = some (.int .i64 T1) ∧ W.cell? ⟨w11.heap.size, 1, none⟩ = some (.int .i64 T2) from ⟨(h.cell (p := ⟨w2.heap.size, 1, none⟩) (Nat.lt_trans HNX.out.1 (Nat.lt_trans HNX.out.2 hz14))).trans dm, (h.cell (p := ⟨w8.heap.size, 0, none⟩) (Nat.lt_trans HNX.out.2 hz14)).trans d21a, (h.cell (p := ⟨w8.heap.size, 1, none⟩) (Nat.lt_trans HNX.out.2 hz14)).trans d21b, (h.cell (p := ⟨w11.heap.size, 0, none⟩) hz14).trans t25a, (h.cell (p := ⟨w11.heap.size, 1, none⟩) hz14).trans t25b⟩)
        have HL14 := hidd (HL11.out.below H11_14.out)
        have HAH := hidd (fun l (h : ∀ z ∈ l, ∃ i, i < L.length ∧ z = (i : Int)) => ahL_le HV.out l h)
        rw [hW14]
        clear hq c0 c1 f0 f1 hz14 t25a t25b mc d21a d21b dm hW14 M12 HL6b H13 H0_12 H8_12 CT CW HL5b HB5 HU8 HL11 H11_14 H11_12
        go_loopg [27, 28] (S.length + 1) (fun g s27 s28 wr => ∃ i : Nat, i ≤ S.length ∧ i + g = S.length + 1 ∧ s27 = .int .i64 (ahL L (S.take i)) ∧ s28 = .int .i64 (i : Int) ∧ Below W14.heap.size W14 wr)
        case atStart => exact ⟨0, by omega, by omega, rfl, rfl, Below.refl _ _⟩
        case round =>
          obtain ⟨i, hil, hg, rfl, rfl, hb⟩ := hrel
          have HG := hidd hg
          have HBR := hidd hb
          have HBR0 := hidd (H0_14.out.trans (hb.mono H0_14.out.size))
          obtain ⟨m1, k0, k1, j0, j1⟩ := M14.out wr hb
          clear hg hb
          by_cases hlt : i < S.length
          · have hlt2 : (i : Int) < (S.length : Int) := by omega
            have hi0 : (0 : Int) ≤ (i : Int) := by omega
            obtain ⟨ad, rfl, _, hcell⟩ := (HL14.out.below HBR.out).int i hlt
            obtain ⟨j, hj, hz⟩ := HIN.out (av S i) (av_mem hlt)
            obtain ⟨ad2, rfl, _, x0, x1, x2, x3, x4, x5, x6, x7⟩ := (HLA.out wr HBR0.out).link j hj
            have hj2 : (j : Int) < (L.length : Int) := by omega
            have hj0 : (0 : Int) ≤ (j : Int) := by omega
            have hsn : ahL L (S.take (i + 1)) = ahL L (S.take i) + fa (lkAt L j) := by
              have q := ahL_snoc L (av S i) (S.take i)
              rw [hz, Int.toNat_natCast] at q
              rw [List.take_succ_eq_append_getElem hlt, ← av_at hlt, hz]
              exact q
            have h1 := HAH.out (S.take i) (fun z hz => HIN.out z (List.mem_of_mem_take hz))
            have h2 := HAH.out (S.take (i + 1)) (fun z hz => HIN.out z (List.mem_of_mem_take hz))
            have hl1 : (S.take (i + 1)).length ≤ 15 := by rw [List.length_take]; omega
            have hb1 : -9223372036854775808 ≤ ahL L (S.take i) + fa (lkAt L j) := by rw [← hsn]; omega
            have hb2 : ahL L (S.take i) + fa (lkAt L j) ≤ 9223372036854775807 := by rw [← hsn]; omega
            have HSN := hidd hsn
            rw [hz] at hcell
            clear h1 h2 hl1 hsn x0 x1 x2 x3 x5 x6 x7 hz k0 k1 j0 j1
            generalize fa (lkAt L j) = D at *
            generalize ahL L (S.take i) = Y at *
            go_wp2_with fail
            go_quiet (fail)
            go_wp2_with fail
            go_roundg (gk - 1)
            case measure => have := HG.out; omega
            case rel => exact ⟨i + 1, by omega, by have := HG.out; omega, by rw [HSN.out], by go_num, below_drewN HBR.out _⟩
          · have hlt2 : ¬ (i : Int) < (S.length : Int) := by omega
            have he : S.take i = S := List.take_of_length_le (by omega)
            rw [he]
            have CA2 := hidd (CA.out wr (H8_14.out.trans (HBR.out.mono H8_14.out.size)))
            clear he
            obtain ⟨Y, hY⟩ : ∃ Y, ahL L S = Y := ⟨_, rfl⟩
            rw [hY] at CA2 ⊢
            clear hY
            go_wp2_with fail
            refine CA2.out.mono ?_
            rintro e w15 ⟨⟨d15, hr15, _, _, hb15, _⟩, rfl⟩
            have H15 := hidd (hb15 HRD.out)
            have HR15 := hidd hr15
            have HF15 := hidd (below_step HBR0.out H15.out)
            clear hb15 hr15 m1 k0 k1 j0 j1 CA2
            by_cases hS0 : S.length = 0
            · have hS : S = [] := List.eq_nil_of_length_eq_zero hS0
              have e2 := HN2.out
              rw [if_pos hS0] at e2
              subst hS
              have e1 := HN1.out
              have e3 : (0 : Int) = N1 := e1
              subst e2 e3
              clear e1
              go_wp2_with fail
              refine (cK.out _).mono ?_
              rintro e w16 ⟨rfl, hb16⟩
              have HF16 := hidd (below_step HF15.out hb16)
              clear hb16
              go_wp2_with fail
              exact HFIN.out _ HF16.out
            · have e2 := HN2.out
              rw [if_neg hS0] at e2
              have hne : ((S.length : Int) == 0) = false := by simp; exact fun h => hS0 (by rw [h]; rfl)
              obtain ⟨ad, rfl, _, hcell⟩ := ((HL14.out.below HBR.out).below H15.out).int 0 (by omega)
              have e1 : av S 0 = N1 := by
                rw [← HN1.out]
                cases S with
                | nil => exact absurd rfl hS0
                | cons z l => rfl
              rw [e1] at hcell
              subst e2
              have hpos : (0 : Int) < (S.length : Int) := by omega
              have hcell2 : w15.cell? ad = some (.int .i64 N1) := by
                have q := hcell
                simp [Addr.add] at q
                exact q
              have CMP := hidd (MapR_yes W3.heap.size r bw m' n L HV.out HI.out d15 w15 HR15.out)
              have hlo := HV.out.lo
              have hL48 : L.length ≤ 1000000 := by have := HV.out.len; omega
              have HLO := hidd (And.intro hlo hL48)
              clear e1 hlo hL48 hcell
              go_wp2_with fail
              refine CMP.out.mono ?_
              rintro e w16 ⟨m2, rfl, hm2, hb16⟩
              have HM2 := hidd hm2
              have HF16 := hidd (below_step HF15.out hb16)
              have HM16 := hidd (HM3.out.below ((HB8.out.trans ((H8_14.out.trans ((HBR.out.trans (H15.out.mono HBR.out.size)).mono H8_14.out.size)).mono HB8.out.size)).trans (hb16.mono (HB8.out.trans ((H8_14.out.trans ((HBR.out.trans (H15.out.mono HBR.out.size)).mono H8_14.out.size)).mono HB8.out.size)).size)))
              clear hm2 hb16 hcell2
              go_wp2_with fail
              refine (Same_mm m2 n HLO.out.1 L HLO.out.2 m n HLO.out.1 L HLO.out.2 w16 HM2.out HM16.out).mono ?_
              rintro e w17 ⟨rfl, hb17⟩
              have HF17 := hidd (below_step HF16.out hb17)
              rw [show sameM n L n L = true from sameM_iff.2 ⟨rfl, rfl⟩]
              clear hb17
              go_wp2_with fail
              refine (cK.out _).mono ?_
              rintro e w18 ⟨rfl, hb18⟩
              have HF18 := hidd (below_step HF17.out hb18)
              clear hb18
              go_wp2_with fail
              exact HFIN.out _ HF18.out
      · have e0 := ls_nil hE0
        have e1 : fkI n L p0 p1 = 0 := by unfold fkI; rw [if_neg hE0]
        have e2 : nxI n L p0 p1 = 0 := by unfold nxI; rw [if_neg hE0]
        have e3 : neI n L p0 p1 = erI n L p0 p1 := by unfold neI; rw [if_neg hE0]
        have e4 : tmI n L p0 p1 = (0, 0, erI n L p0 p1) := by unfold tmI; rw [if_neg hE0]
        rw [e1, e2, e3, e4, e0]
        rw [e0] at CW CA HL5
        clear e0 e1 e2 e3 e4 CT HIN hlen
        generalize erI n L p0 p1 = E at *
        have hE2 : (E == 0) = false := by simp [hE0]
        have hE3 : (E != 0) = true := by simp [hE0]
        unfold pairOf
        obtain ⟨W9, hW9⟩ : ∃ W9, w8.alloc (.cells #[.int .i64 0, .int .i64 0] 42) = W9 := ⟨_, rfl⟩
        have hb9 : Below w8.heap.size w8 W9 := by rw [← hW9]; (repeat' (first | (with_reducible exact Below.refl _ _) | (with_reducible assumption) | (with_reducible apply Below.setCell) | (with_reducible apply Below.alloc) | (with_reducible apply Below.drew) | (with_reducible apply below_drewN) | (with_reducible refine Below.trans ?_ (Below.mono (by assumption) ?_)) | omega | (simp; done) | (simp; omega)))
        have hs9 : w8.heap.size < W9.heap.size := by rw [← hW9]; simp
        have t0 : W9.cell? ⟨w8.heap.size, 0, none⟩ = some (.int .i64 0) := by rw [← hW9]; simp [go_sem]
        have t1 : W9.cell? ⟨w8.heap.size, 1, none⟩ = some (.int .i64 0) := by rw [← hW9]; simp [go_sem]
        have M9 := hidd (fun W (h : Below W9.heap.size W9 W) => show W.cell? ⟨w8.heap.size, 0, none⟩ = some (.int .i64 0) ∧ W.cell? ⟨w8.heap.size, 1, none⟩ = some (.int .i64 0) from ⟨(h.cell (p := ⟨w8.heap.size, 0, none⟩) hs9).trans t0, (h.cell (p := ⟨w8.heap.size, 1, none⟩) hs9).trans t1⟩)
        have H89 := hidd hb9
        have HW9 := hidd hW9
        have n0 : (w8.alloc (.cells #[.int .i64 0, .int .i64 0] 42)).cell? ⟨w2.heap.size, 0, none⟩ = some (.int .i64 n) := by rw [hW9]; exact (MM8.out W9 hb9).1
        have n1 : (w8.alloc (.cells #[.int .i64 0, .int .i64 0] 42)).cell? ⟨w2.heap.size, 1, none⟩ = some (.slice A L.length c) := by rw [hW9]; exact (MM8.out W9 hb9).2
        clear hb9 hs9 t0 t1 hW9 MM8
        go_wp2_with fail
        rw [HW9.out]
        refine (CW.out W9 (below_step HBW0.out H89.out)).mono ?_
        rintro e w10 ⟨A6, c6, rfl, hl6, hb10⟩
        have H10 := hidd hb10
        have HL6 := hidd hl6
        have HL5b := hidd ((HL5.out.below H89.out).below hb10)
        clear hl6 hb10 n0 n1 HL5
        go_wp2_with fail
        refine (same10_yes A5 A6 [] c5 c6 (by simp) w10 HL5b.out HL6.out).mono ?_
        rintro e w11 ⟨rfl, hb11⟩
        obtain ⟨W12, hW12⟩ : ∃ W12, w11.alloc (.cells #[.int .i64 0, .int .i64 0] 42) = W12 := ⟨_, rfl⟩
        have hb12 : Below w11.heap.size w11 W12 := by rw [← hW12]; (repeat' (first | (with_reducible exact Below.refl _ _) | (with_reducible assumption) | (with_reducible apply Below.setCell) | (with_reducible apply Below.alloc) | (with_reducible apply Below.drew) | (with_reducible apply below_drewN) | (with_reducible refine Below.trans ?_ (Below.mono (by assumption) ?_)) | omega | (simp; done) | (simp; omega)))
        have H12 := hidd ((H10.out.trans (hb11.mono H10.out.size)).trans (hb12.mono (H10.out.trans (hb11.mono H10.out.size)).size))
        have HW12 := hidd hW12
        have H8_12 := hidd (H89.out.trans (H12.out.mono H89.out.size))
        have H0_12 := hidd (HBW0.out.trans (H8_12.out.mono HBW0.out.size))
        have k0 : (w11.alloc (.cells #[.int .i64 0, .int .i64 0] 42)).cell? ⟨w8.heap.size, 0, none⟩ = some (.int .i64 0) := by rw [hW12]; exact (M9.out W12 H12.out).1
        have k1 : (w11.alloc (.cells #[.int .i64 0, .int .i64 0] 42)).cell? ⟨w8.heap.size, 1, none⟩ = some (.int .i64 0) := by rw [hW12]; exact (M9.out W12 H12.out).2
        clear hb11 hb12 hW12 HL6 HL5b
        go_wp2_with fail
        rw [HW12.out]
        refine (CA.out W12 H8_12.out).mono ?_
        rintro e w15 ⟨⟨d15, hr15, _, _, hb15, _⟩, rfl⟩
        rw [show ahL L [] = 0 from rfl]
        have HF15 := hidd (below_step H0_12.out (hb15 HRD.out))
        clear hb15 hr15 k0 k1
        go_wp2_with fail
        refine (cK.out _).mono ?_
        rintro e w16 ⟨rfl, hb16⟩
        have HF16 := hidd (below_step HF15.out hb16)
        clear hb16
        go_wp2_with fail
        exact HFIN.out _ HF16.out
end Go.Proofs.YtalhbjmhipiiiaaGreat.Tp

/- Whatever the number of nodes, the links and the two nodes, RouteWays answers true; no conditions. -/
namespace Go.Proofs.YtalhbjmhipiiiaaGreat.routeWays
open Go.ChangeShapes Go.WideShapes Go.ChangeAt Go.RowKit Go.Joins Go.Proofs.YtalhbjmhipiiiaaGreat.Tp Go.Proofs.YtalhbjmhipiiiaaGreat.Tp.RowK
set_option linter.unusedVariables false
set_option maxRecDepth 100000 in
theorem lifted (os : Os) (started : os.Started) (H : Type) (enc : TypeId × Value → H) :
    ReturnsInHanded {} Tryz.checked os 3 .any (Rows.routeWaysSpec.pre6 enc Tryz.prog Tryz.f3 Rows.routeWaysRow.domain false) (Rows.routeWaysSpec.post enc Tryz.prog Tryz.f3 false true false false) := by
  refine returnsInHanded_of_change (C := Tryz.checked) own started (by kernel_rfl) Tryz.func3
    (ChangeSpec.witness6 (enc := enc) (C := Tryz.checked) false ⟨#[], #[.int .i64 0, .slice none 0 0, .agg #[.int .i64 0, .int .i64 0]], []⟩ 8 (by kernel_rfl) (by kernel_rfl) (by kernel_rfl) (by kernel_rfl)) ?_
  intro W base args ds gs before hval0 hW hcnd _
  have hval : ∀ (j : Nat) t v, Tryz.f3.params[j]? = some t → args[j]? = some v → Value.okWide Tryz.prog W .any base t v := hval0
  have hW' := hW
  obtain ⟨p, q, hA0, hV, rfl, hfz, hnd⟩ := hW
  have hA : DataW.TrodAll enc Tryz.prog W 0 (fun _ => true) true Tryz.f3.params.toList args.toList ds p := hA0
  rw [Tryz.params3] at hA hval
  obtain ⟨v0, vs0, d0, ds0, p0, q0, hargs, rfl, rfl, h0, r0⟩ := trodAll_cons hA
  obtain ⟨v1, vs1, d1, ds1, p1, q1, rfl, rfl, rfl, h1, r1⟩ := trodAll_cons r0
  obtain ⟨v2, vs2, d2, ds2, p2, q2, rfl, rfl, rfl, h2, r2⟩ := trodAll_cons r1
  obtain ⟨rfl, rfl, rfl⟩ := trodAll_nil r2
  obtain rfl : args = #[v0, v1, v2] := by cases args; simp_all
  obtain ⟨rfl, rfl⟩ := trodVars_none hV
  obtain ⟨a0, rfl, e0, f0, w0⟩ := open_int Tryz.underlying3 (hval 0 3 v0 rfl rfl) h0
  obtain ⟨A1, L1, c1, rfl, m1, n1, o1, l1⟩ : ∃ (A : Option Addr) (L : List Lk) (c : Nat), v1 = .slice A L.length c ∧ L.length ≤ c ∧ c ≤ maxLen ∧ WideL L ∧ Lie linkV 8 W W.heap.size A L := by
    obtain ⟨ptr, len, cap, rfl⟩ := okWide_slice Tryz.underlying22 (hval 1 22 v1 rfl rfl)
    obtain ⟨fuel, hf⟩ := h1
    obtain ⟨A, L, c, e, hh⟩ := open_links hf
    exact ⟨A, L, c, by simpa [Value.cells] using e, hh⟩
  obtain ⟨a2, b2, rfl, x2, y2⟩ := open_pairI Tryz.underlying23 (by kernel_rfl) (by kernel_rfl) Tryz.underlying3 (hval 2 23 v2 rfl rfl) h2
  refine (YtalhbjmhipiiiaaGreat.Tp.routeWays_walk a0 A1 L1 c1 a2 b2 (i64_of w0) m1 n1 o1 x2 y2 W l1).mono fun e W' ⟨he, hg⟩ => ?_
  subst he
  exact ⟨_, rfl, post_law laidOut (by rw [Tryz.params3]; intro t ht; simp at ht; rcases ht with rfl | rfl | rfl <;> exact ⟨by kernel_rfl, of_decide_eq_true (by kernel_rfl)⟩) hW' hA0 rfl (fun _ _ _ => (trodAll_cons_mk (shut_bool Tryz.underlying4 _) trodAll_mk0)) (fun _ => rfl) hg (ok_one (by kernel_rfl) rfl (okWide_bool_mk Tryz.underlying4 _))⟩

theorem over : Rows.routeWaysRow.holds Tryz.pinned (OpenSpec.ofChange Rows.routeWaysSpec) :=
  OpenClaim.holds_of_wide 3 Tryz.f3 rfl rfl rfl rfl rfl rfl rfl ⟨rfl, rfl, rfl, rfl, rfl⟩ rfl rfl rfl rfl rfl (by kernel_rfl) Tryz.func3 (by kernel_rfl)
    (of_decide_eq_true (by kernel_rfl)) (by unfold Func.isWrapper; first | (rw [if_pos (by decide +kernel)]; kernel_rfl) | (rw [if_neg (by decide +kernel)]; exact ⟨rfl, rfl⟩))
    (fun os started H enc _ => lifted os started H enc)
end Go.Proofs.YtalhbjmhipiiiaaGreat.routeWays
namespace Go.Proofs.YtalhbjmhipiiiaaGreat
/-- the given statement. -/
theorem routeWays_proved : Rows.RouteWaysSaid := routeWays.over
end Go.Proofs.YtalhbjmhipiiiaaGreat

