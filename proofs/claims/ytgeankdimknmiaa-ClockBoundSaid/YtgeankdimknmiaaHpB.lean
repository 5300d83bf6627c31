/- Heaps in memory: items in a slice of the heap's own, places in a map, what a call may change. -/
import Derived.Test.YtgeankdimknmiaaTpA
import Derived.Test.YtgeankdimknmiaaHpA
import Derived.Test.YtgeankdimknmiaaBgH
import Derived.Test.YtgeankdimknmiaaRatPr
import Derived.Maps.OwnSet
import Derived.Maps.OwnOps
import Derived.Maps.Views
import Derived.Laws.IdiomCopy
import Derived.Deep.MidRow
namespace Go.Proofs.Ytgeankdimknmiaa.Hp
set_option linter.unusedVariables false
open Go.RowKit Go.Maps Go.Proofs.Ytgeankdimknmiaa.Tp

/-- an item's cells. -/
def itV (x : It) : List Value := [.int .i64 (iD x), .int .i64 (kN x), .int .i64 (kD x), .int .i64 (tN x)]
theorem itV_len (x : It) : (itV x).length = 4 := rfl
theorem itV_one (x : It) : ∀ u ∈ itV x, u.oneCell' = true := fun u hu => by
  simp [itV] at hu
  rcases hu with rfl | rfl | rfl | rfl <;> rfl
theorem it_eta (x : It) : x = (iD x, kN x, kD x, tN x) := rfl
theorem row_get (L : List It) (k : Nat) : (rowOf itV L)[k]? = if k < L.length * 4 then (itV (gI L (k / 4)))[k % 4]? else none := by
  by_cases h : k < L.length * 4
  · rw [if_pos h]
    have h1 : k / 4 < L.length := by omega
    have e := row_at itV_len L (k / 4) (gI L (k / 4)) (by rw [gI_at h1]; simp [h1]) (k % 4)
    have h2 : k % 4 < (itV (gI L (k / 4))).length := by rw [itV_len]; omega
    have e2 := e _ (List.getElem?_eq_getElem h2)
    rw [show k / 4 * 4 + k % 4 = k by omega] at e2
    rw [e2, List.getElem?_eq_getElem h2]
  · rw [if_neg h, List.getElem?_eq_none (by rw [row_len itV_len]; omega)]
theorem heap_setCells (g : Nat) (t : TypeId) : ∀ (vs : List Value) (o : Nat) (w : World) (cur : Array Value), w.heap[g]? = some (.cells cur t (0, 0)) →
    ∃ cur', (w.setCells g o vs).heap[g]? = some (.cells cur' t (0, 0)) ∧ cur'.size = cur.size ∧ ∀ k, cur'[k]? = if o ≤ k ∧ k < o + vs.length ∧ k < cur.size then vs[k - o]? else cur[k]?
  | [], o, w, cur, h => ⟨cur, h, rfl, fun k => by rw [if_neg]; simp; omega⟩
  | v :: r, o, w, cur, h => by
    have h1 := heap_setCell_same w g o cur t v h
    obtain ⟨cur', h2, h3, h4⟩ := heap_setCells g t r (o + 1) _ _ h1
    refine ⟨cur', h2, by rw [h3]; simp, fun k => ?_⟩
    rw [h4, Array.getElem?_setIfInBounds]
    simp only [Array.size_setIfInBounds, List.length_cons]
    by_cases e : o = k
    · subst e
      rw [if_neg (by omega)]
      by_cases hk : o < cur.size
      · simp [hk]
      · simp [hk]
    · rw [if_neg e]
      by_cases c : o + 1 ≤ k ∧ k < o + 1 + r.length ∧ k < cur.size
      · rw [if_pos c, if_pos (by omega)]
        rw [show k - o = (k - (o + 1)) + 1 by omega]
        rfl
      · rw [if_neg c, if_neg (by omega)]
/-- stores into the row. -/
theorem OwnL.put {w : World} {base g : Nat} {e : TypeId} {v : Value} {L L' : List It} (h : OwnL itV 4 w base e v L) (hv : v.ownBlock = some g) (o : Nat) (vs : List Value) (hl : L'.length = L.length) (ho : o + vs.length ≤ L.length * 4)
    (hr : ∀ k, (rowOf itV L')[k]? = if o ≤ k ∧ k < o + vs.length then vs[k - o]? else (rowOf itV L)[k]?) : OwnL itV 4 (w.setCells g o vs) base e v L' := by
  obtain ⟨h0, h1⟩ := h
  rcases h1 with ⟨rfl, _⟩ | ⟨g', cap, cur, rfl, hb, hh, hn, hm, hc, ht⟩
  · cases hv
  have hg : g' = g := by simpa [Value.ownBlock] using hv
  subst hg
  obtain ⟨cur', h2, h3, h4⟩ := heap_setCells g' e vs o w cur hh
  refine ⟨by rw [row_len itV_len], .inr ⟨g', cap, cur', by rw [hl], hb, h2, by omega, hm, by rw [h3, hc], ?_⟩⟩
  apply List.ext_getElem?
  intro k
  by_cases hk : k < L.length * 4
  · rw [List.getElem?_take_of_lt (by omega), Array.getElem?_toList, h4, hr]
    have hk2 : k < cur.size := by rw [hc]; have := Nat.mul_le_mul_right 4 hn; omega
    by_cases c : o ≤ k ∧ k < o + vs.length
    · rw [if_pos c, if_pos ⟨c.1, c.2, hk2⟩]
    · rw [if_neg c, if_neg (fun q => c ⟨q.1, q.2.1⟩)]
      rw [← ht, List.getElem?_take_of_lt hk, Array.getElem?_toList]
  · rw [List.getElem?_eq_none (by simp; omega), List.getElem?_eq_none (by rw [row_len itV_len]; omega)]
theorem row_set {L : List It} {i : Nat} (hi : i < L.length) (x : It) (k : Nat) : (rowOf itV (L.set i x))[k]? = if i * 4 ≤ k ∧ k < i * 4 + 4 then (itV x)[k - i * 4]? else (rowOf itV L)[k]? := by
  rw [row_get, row_get, List.length_set, gI_set hi]
  by_cases c : i * 4 ≤ k ∧ k < i * 4 + 4
  · rw [if_pos c, if_pos (by omega), if_pos (by omega), show k % 4 = k - i * 4 by omega]
  · rw [if_neg c, if_neg (show ¬ k / 4 = i by omega)]
theorem OwnL.set {w : World} {base g : Nat} {e : TypeId} {v : Value} {L : List It} (h : OwnL itV 4 w base e v L) (hv : v.ownBlock = some g) {i : Nat} (hi : i < L.length) (x : It) : OwnL itV 4 (w.setCells g (i * 4) (itV x)) base e v (L.set i x) :=
  OwnL.put h hv _ _ (by simp) (by rw [itV_len]; omega) (fun k => by rw [row_set hi, itV_len])
/-- another key alone. -/
def keyed (x : It) (n d : Int) : It := (iD x, n, d, tN x)
theorem OwnL.setKey {w : World} {base g : Nat} {e : TypeId} {v : Value} {L : List It} (h : OwnL itV 4 w base e v L) (hv : v.ownBlock = some g) {i : Nat} (hi : i < L.length) (n d : Int) :
    OwnL itV 4 (w.setCells g (i * 4 + 1) [.int .i64 n, .int .i64 d]) base e v (L.set i (keyed (gI L i) n d)) :=
  OwnL.put h hv _ _ (by simp) (by simp; omega) (fun k => by
    rw [row_set hi]
    by_cases c : i * 4 ≤ k ∧ k < i * 4 + 4
    · have e0 : (rowOf itV L)[k]? = (itV (gI L i))[k - i * 4]? := by
        rw [row_get, if_pos (by omega), show k / 4 = i by omega, show k % 4 = k - i * 4 by omega]
      rw [if_pos c, e0]
      obtain ⟨r, hr⟩ : ∃ r, k = i * 4 + r := ⟨k - i * 4, by omega⟩
      subst hr
      have hr4 : r < 4 := by omega
      rw [show i * 4 + r - i * 4 = r by omega]
      by_cases c2 : i * 4 + 1 ≤ i * 4 + r ∧ i * 4 + r < i * 4 + 1 + [Value.int IntKind.i64 n, Value.int IntKind.i64 d].length
      · rw [if_pos c2, show i * 4 + r - (i * 4 + 1) = r - 1 by omega]
        have c3 : r = 1 ∨ r = 2 := by simp at c2; omega
        rcases c3 with rfl | rfl <;> rfl
      · rw [if_neg c2]
        have c3 : r = 0 ∨ r = 3 := by simp at c2; omega
        rcases c3 with rfl | rfl <;> rfl
    · rw [if_neg c, if_neg (by simp; omega)])
theorem OwnL.cut {w : World} {base g c : Nat} {e : TypeId} {L : List It} (h : OwnL itV 4 w base e (.slice (some ⟨g, 0, none⟩) L.length c) L) (m : Nat) (hm : m ≤ L.length) : OwnL itV 4 w base e (.slice (some ⟨g, 0, none⟩) m c) (L.take m) := by
  obtain ⟨h0, h1⟩ := h
  rcases h1 with ⟨hv, _⟩ | ⟨g', cap, cur, hv, hb, hh, hn, hmx, hc, ht⟩
  · cases hv
  cases hv
  have hl : (L.take m).length = m := by simp; omega
  refine ⟨by rw [row_len itV_len], .inr ⟨g, c, cur, by rw [hl], hb, hh, by omega, hmx, hc, ?_⟩⟩
  rw [hl]
  apply List.ext_getElem?
  intro k
  by_cases hk : k < m * 4
  · rw [List.getElem?_take_of_lt hk]
    have e1 : cur.toList[k]? = (rowOf itV L)[k]? := by rw [← ht, List.getElem?_take_of_lt (by omega)]
    rw [e1, row_get, row_get, if_pos (by omega), if_pos (by omega), gI_take (by omega)]
  · rw [List.getElem?_eq_none (by simp; omega), List.getElem?_eq_none (by rw [row_len itV_len]; omega)]
/-- an item's cells in a slice of the heap's own. -/
theorem OwnL.item {w : World} {base g c : Nat} {e : TypeId} {L : List It} (h : OwnL itV 4 w base e (.slice (some ⟨g, 0, none⟩) L.length c) L) {i : Nat} (hi : i < L.length) :
    w.cell? ⟨g, i * 4, none⟩ = some (.int .i64 (iD (gI L i))) ∧ w.cell? ⟨g, i * 4 + 1, none⟩ = some (.int .i64 (kN (gI L i))) ∧ w.cell? ⟨g, i * 4 + 2, none⟩ = some (.int .i64 (kD (gI L i))) ∧ w.cell? ⟨g, i * 4 + 3, none⟩ = some (.int .i64 (tN (gI L i))) := by
  have hc := World.ownsRow.cells h (g := g) rfl
  have hx : L[i]? = some (gI L i) := by rw [gI_at hi]; simp [hi]
  have q := fun j v hv => hc (i * 4 + j) v (row_at itV_len L i _ hx j v hv)
  have ad : ∀ j, (⟨g, 0, none⟩ : Addr).add j = ⟨g, j, none⟩ := fun j => by unfold Addr.add; split <;> simp_all
  have q0 := q 0 _ rfl
  have q1 := q 1 _ rfl
  have q2 := q 2 _ rfl
  have q3 := q 3 _ rfl
  rw [ad] at q0 q1 q2 q3
  exact ⟨q0, q1, q2, q3⟩
theorem OwnL.form {w : World} {base : Nat} {e : TypeId} {v : Value} {L : List It} (h : OwnL itV 4 w base e v L) (hl : 0 < L.length) : ∃ g c, v = .slice (some ⟨g, 0, none⟩) L.length c ∧ base ≤ g ∧ g < w.heap.size ∧ L.length ≤ c ∧ c ≤ maxLen ∧ (∀ o, w.frozen? ⟨g, o, none⟩ = false) ∧ ∃ cur, w.heap[g]? = some (.cells cur e (0, 0)) := by
  rcases h.2 with ⟨rfl, h0⟩ | ⟨g, cap, cur, rfl, hb, hh, hn, hm, hsz, ht⟩
  · omega
  · exact ⟨g, cap, rfl, hb, (Array.getElem?_eq_some_iff.1 hh).1, hn, hm, fun o => by simp [World.frozen?, hh], cur, hh⟩

/-! ### what a call may change -/
structure Sav (S : Nat → Prop) (W W' : World) : Prop where
  os : W'.os = W.os
  tape : W'.tape = W.tape
  output : W'.output = W.output
  size : W.heap.size ≤ W'.heap.size
  block : ∀ k, k < W.heap.size → ¬ S k → W'.heap[k]? = W.heap[k]?
section
variable {S S' : Nat → Prop} {A B C : World}
theorem Sav.refl (S : Nat → Prop) (A : World) : Sav S A A := ⟨rfl, rfl, rfl, Nat.le_refl _, fun _ _ _ => rfl⟩
theorem Sav.trans (h : Sav S A B) (k : Sav S' B C) (hs : ∀ j, j < A.heap.size → S' j → S j) : Sav S A C :=
  ⟨k.os.trans h.os, k.tape.trans h.tape, k.output.trans h.output, Nat.le_trans h.size k.size, fun j hj hn => (k.block j (Nat.lt_of_lt_of_le hj h.size) (fun q => hn (hs j hj q))).trans (h.block j hj hn)⟩
theorem Sav.tr (h : Sav S A B) (k : Sav S B C) : Sav S A C := h.trans k (fun _ _ q => q)
theorem Sav.mono (h : Sav S A B) (hs : ∀ j, j < A.heap.size → S j → S' j) : Sav S' A B := ⟨h.os, h.tape, h.output, h.size, fun j hj hn => h.block j hj (fun q => hn (hs j hj q))⟩
theorem Sav.of (h : Below A.heap.size A B) : Sav S A B := ⟨h.os, h.tape, h.output, h.size, fun j hj _ => h.block j hj⟩
theorem Sav.below (h : Sav S A B) {b : Nat} (hb : b ≤ A.heap.size) (hs : ∀ j, S j → b ≤ j) : Below b A B := ⟨h.os, h.tape, h.output, h.size, fun j hj => h.block j (by omega) (fun q => by have := hs j q; omega)⟩
theorem Sav.setCell {p : Addr} (hp : S p.block) (A : World) (v : Value) : Sav S A (A.setCell p v) := ⟨rfl, rfl, rfl, by simp [World.setCell], fun k _ hn => Below.heap_setCell _ _ _ _ (fun e => hn (e ▸ hp))⟩
theorem Sav.setCells {g : Nat} (hp : S g) : ∀ (vs : List Value) (o : Nat) (A : World), Sav S A (A.setCells g o vs)
  | [], _, A => Sav.refl S A
  | v :: r, o, A => (Sav.setCell (p := ⟨g, o, none⟩) hp A v).tr (Sav.setCells hp r (o + 1) _)
theorem Sav.turned {b : Nat} (h : A.mapTurned B b) (hb : S b) : Sav S A B := by
  have g := h.grown
  exact ⟨g.os, g.tape, g.output, g.size, fun k hk hn => g.block k hk (fun e => by cases e; exact hn hb)⟩
theorem Sav.grown {r : Option Nat} (g : A.grownBy B r) (hr : ∀ k, r = some k → S k) : Sav S A B := ⟨g.os, g.tape, g.output, g.size, fun k hk hn => g.block k hk (fun e => hn (hr k e.symm))⟩
theorem Sav.cell (h : Sav S A B) {p : Addr} (hp : p.block < A.heap.size) (hn : ¬ S p.block) : B.cell? p = A.cell? p := World.cell?_of_block (h.block _ hp hn)
end

/-! ### places -/
def key (x : Int) : Lit := .int .i64 x
def look (D : DataW Unit) (x : Int) : Int := match D.atKey (key x) (.lit (.int .i64 0)) with | .lit (.int .i64 c) => c | _ => 0
def In (D : DataW Unit) (x : Int) : Bool := has D (key x)
theorem isKey (x : Int) : WideAt.IsKeyLit (key x) := trivial
theorem key_inj {x y : Int} (h : key x = key y) : x = y := by cases h; rfl
theorem look_put_same {D : DataW Unit} (hD : IsMap D) (x c : Int) : look (D.put (key x) (.lit (.int .i64 c))) x = c := by
  unfold look; rw [atKey_put_same hD (isKey x)]
theorem look_put_other {D : DataW Unit} {x y : Int} (h : y ≠ x) (c : Int) : look (D.put (key x) (.lit (.int .i64 c))) y = look D y := by
  unfold look; rw [atKey_put_other (fun e => h (key_inj e))]
theorem in_put_same {D : DataW Unit} (hD : IsMap D) (x c : Int) : In (D.put (key x) (.lit (.int .i64 c))) x = true := has_put_same hD (isKey x) _
theorem in_put_other {D : DataW Unit} {x y : Int} (h : y ≠ x) (c : Int) : In (D.put (key x) (.lit (.int .i64 c))) y = In D y := has_put_other (fun e => h (key_inj e)) _
theorem in_del_same {D : DataW Unit} (x : Int) : In (D.del (key x)) x = false := has_del_same
theorem in_del_other {D : DataW Unit} {x y : Int} (h : y ≠ x) : In (D.del (key x)) y = In D y := has_del_other (fun e => h (key_inj e))
theorem look_del_other {D : DataW Unit} {x y : Int} (h : y ≠ x) : look (D.del (key x)) y = look D y := by
  unfold look; rw [atKey_del_other (fun e => h (key_inj e))]
/-- where each item stands, but that at n. -/
def Pl (D : DataW Unit) (L : List It) (n : Nat) : Prop := (∀ i, i < L.length → i ≠ n → In D (iD (gI L i)) = true ∧ look D (iD (gI L i)) = i) ∧ ∀ x : Int, (∀ i, i < L.length → iD (gI L i) ≠ x) → In D x = false
def PlAll (D : DataW Unit) (L : List It) : Prop := Pl D L L.length
def Ids (L : List It) : Prop := ∀ i j, i < L.length → j < L.length → iD (gI L i) = iD (gI L j) → i = j
theorem gI_swp2 {L : List It} {a b j : Nat} (ha : a < L.length) (hb : b < L.length) : gI (swp L a b) j = gI L (if j = b then a else if j = a then b else j) := by
  rw [gI_swp ha hb]
  by_cases i1 : j = b
  · rw [if_pos i1, if_pos i1]
  · rw [if_neg i1, if_neg i1]
    by_cases i2 : j = a
    · rw [if_pos i2, if_pos i2]
    · rw [if_neg i2, if_neg i2]
theorem Ids.swp {L : List It} (h : Ids L) {a b : Nat} (ha : a < L.length) (hb : b < L.length) : Ids (swp L a b) := fun i j hi hj e => by
  rw [swp_len] at hi hj
  rw [gI_swp2 ha hb, gI_swp2 ha hb] at e
  have q := h _ _ (by split <;> (try split) <;> omega) (by split <;> (try split) <;> omega) e
  repeat' (first | omega | split at q)
theorem Pl.move {D : DataW Unit} {L : List It} {a b : Nat} (hD : IsMap D) (h : Pl D L a) (hI : Ids L) (ha : a < L.length) (hb : b < L.length) (hab : a ≠ b) : Pl (D.put (key (iD (gI L b))) (.lit (.int .i64 (a : Int)))) (swp L a b) b := by
  constructor
  · intro i hi hib
    rw [swp_len] at hi
    rw [gI_swp ha hb, if_neg hib]
    by_cases e : i = a
    · subst e
      rw [if_pos rfl]
      exact ⟨in_put_same hD _ _, look_put_same hD _ _⟩
    · rw [if_neg e]
      have hne : iD (gI L i) ≠ iD (gI L b) := fun q => hib (hI i b hi hb q)
      rw [in_put_other hne, look_put_other hne]
      exact h.1 i hi e
  · intro x hx
    have hx' : ∀ i, i < L.length → iD (gI L i) ≠ x := fun i hi q => by
      by_cases e1 : i = a
      · subst e1
        exact hx b (by rw [swp_len]; exact hb) (by rw [gI_swp ha hb, if_pos rfl]; exact q)
      · by_cases e2 : i = b
        · subst e2
          exact hx a (by rw [swp_len]; exact ha) (by rw [gI_swp ha hb, if_neg hab, if_pos rfl]; exact q)
        · exact hx i (by rw [swp_len]; exact hi) (by rw [gI_swp ha hb, if_neg e2, if_neg e1]; exact q)
    rw [in_put_other (fun q => hx' b hb q.symm)]
    exact h.2 x hx'
theorem Pl.note {D : DataW Unit} {L : List It} {n : Nat} (hD : IsMap D) (h : Pl D L n) (hI : Ids L) (hn : n < L.length) : PlAll (D.put (key (iD (gI L n))) (.lit (.int .i64 (n : Int)))) L := by
  constructor
  · intro i hi _
    by_cases e : i = n
    · subst e
      exact ⟨in_put_same hD _ _, look_put_same hD _ _⟩
    · have hne : iD (gI L i) ≠ iD (gI L n) := fun q => e (hI i n hi hn q)
      rw [in_put_other hne, look_put_other hne]
      exact h.1 i hi e
  · intro x hx
    rw [in_put_other (fun q => hx n hn q.symm)]
    exact h.2 x hx
theorem PlAll.off {D : DataW Unit} {L : List It} (h : PlAll D L) (n : Nat) : Pl D L n := ⟨fun i hi _ => h.1 i hi (by omega), h.2⟩
theorem PlAll.at_ {D : DataW Unit} {L : List It} (h : PlAll D L) {i : Nat} (hi : i < L.length) : In D (iD (gI L i)) = true ∧ look D (iD (gI L i)) = i := h.1 i hi (by omega)
theorem PlAll.inn {D : DataW Unit} {L : List It} (h : PlAll D L) {x : Int} (hx : In D x = true) : ∃ i, i < L.length ∧ iD (gI L i) = x ∧ look D x = i := by
  by_cases e : ∃ i, i < L.length ∧ iD (gI L i) = x
  · obtain ⟨i, hi, q⟩ := e
    exact ⟨i, hi, q, q ▸ (h.at_ hi).2⟩
  · have := h.2 x (fun i hi q => e ⟨i, hi, q⟩)
    rw [this] at hx; cases hx
theorem PlAll.snoc {D : DataW Unit} {L : List It} (h : PlAll D L) (x : It) (hx : In D (iD x) = false) : Pl D (L ++ [x]) L.length := by
  constructor
  · intro i hi hn
    simp at hi
    rw [gI_snoc, if_pos (by omega)]
    exact h.at_ (by omega)
  · intro y hy
    refine h.2 y (fun i hi q => hy i (by simp; omega) ?_)
    rw [gI_snoc, if_pos hi]; exact q
theorem Ids.snoc {D : DataW Unit} {L : List It} (h : Ids L) (hp : PlAll D L) (x : It) (hx : In D (iD x) = false) : Ids (L ++ [x]) := fun i j hi hj e => by
  have no : ∀ k, k < L.length → iD (gI L k) ≠ iD x := fun k hk q => by have := (hp.at_ hk).1; rw [q, hx] at this; cases this
  simp at hi hj
  rw [gI_snoc, gI_snoc] at e
  by_cases i1 : i < L.length <;> by_cases j1 : j < L.length
  · rw [if_pos i1, if_pos j1] at e; exact h i j i1 j1 e
  · rw [if_pos i1, if_neg j1, if_pos (by omega)] at e; exact absurd e (no i i1)
  · rw [if_neg i1, if_pos (by omega), if_pos j1] at e; exact absurd e.symm (no j j1)
  · omega
theorem Ids.keyed {L : List It} (h : Ids L) {n : Nat} (hn : n < L.length) (a d : Int) : Ids (L.set n (keyed (gI L n) a d)) := fun i j hi hj e => by
  rw [List.length_set] at hi hj
  rw [gI_set hn, gI_set hn] at e
  refine h i j hi hj ?_
  by_cases i1 : i = n <;> by_cases j1 : j = n <;> simp_all [Hp.keyed, iD]
theorem PlAll.keyed {D : DataW Unit} {L : List It} (h : PlAll D L) {n : Nat} (hn : n < L.length) (a d : Int) : PlAll D (L.set n (Hp.keyed (gI L n) a d)) := by
  have e : ∀ i, iD (gI (L.set n (Hp.keyed (gI L n) a d)) i) = iD (gI L i) := fun i => by
    rw [gI_set hn]
    by_cases q : i = n
    · subst q; rw [if_pos rfl]; rfl
    · rw [if_neg q]
  constructor
  · intro i hi _
    rw [List.length_set] at hi
    rw [e]; exact h.at_ hi
  · intro x hx
    refine h.2 x (fun i hi q => hx i (by rw [List.length_set]; exact hi) ?_)
    rw [e]; exact q
theorem Ids.gone {L : List It} (h : Ids L) {n : Nat} (hn : n < L.length) : Ids (gone L n) := fun i j hi hj e => by
  rw [gone_len] at hi hj
  rw [gI_gone hn hi, gI_gone hn hj] at e
  by_cases i1 : i = n <;> by_cases j1 : j = n
  · omega
  · rw [if_pos i1, if_neg j1] at e; have := h _ _ (by omega) (by omega) e; omega
  · rw [if_neg i1, if_pos j1] at e; have := h _ _ (by omega) (by omega) e; omega
  · rw [if_neg i1, if_neg j1] at e; exact h _ _ (by omega) (by omega) e
theorem PlAll.gone {D : DataW Unit} {L : List It} (h : PlAll D L) (hI : Ids L) {n : Nat} (hn : n < L.length) : Pl (D.del (key (iD (gI L n)))) (Hp.gone L n) n := by
  constructor
  · intro i hi hin
    rw [gone_len] at hi
    rw [gI_gone hn hi, if_neg hin]
    have hne : iD (gI L i) ≠ iD (gI L n) := fun q => hin (hI i n (by omega) hn q)
    rw [in_del_other hne, look_del_other hne]
    exact h.at_ (by omega)
  · intro x hx
    by_cases e : x = iD (gI L n)
    · rw [e]; exact in_del_same _
    · rw [in_del_other e]
      refine h.2 x (fun i hi q => ?_)
      by_cases i1 : i = n
      · subst i1; exact e q.symm
      · by_cases i2 : i = L.length - 1
        · subst i2
          exact hx n (by rw [gone_len]; omega) (by rw [gI_gone hn (by omega), if_pos rfl]; exact q)
        · exact hx i (by rw [gone_len]; omega) (by rw [gI_gone hn (by omega), if_neg i1]; exact q)

/-! ### the heap in memory -/
def MapK (W : World) (mb : Nat) (D : DataW Unit) : Prop := ∃ N, W.ownsMap Try.prog 2 (plainElem Try.prog 3) mb N D
theorem keysK : Keyed Try.prog 2 := int_keyed Try.underlying2
theorem MapK.own {W : World} {mb : Nat} {D : DataW Unit} (h : MapK W mb D) : W.ownsMap Try.prog 2 (plainElem Try.prog 3) mb (Maps.size D) D := by
  obtain ⟨N, es, clock, hb, F, hs, rfl⟩ := h
  refine ⟨es, clock, hb, F, ?_, rfl⟩
  simp [Maps.size, length_sorted]
theorem MapK.tidy {W : World} {mb : Nat} {D : DataW Unit} (h : MapK W mb D) : Tidy D := h.own.tidy keysK
theorem MapK.isMap {W : World} {mb : Nat} {D : DataW Unit} (h : MapK W mb D) : IsMap D := h.own.isMap
theorem MapK.to {W W' : World} {mb : Nat} {D : DataW Unit} (h : MapK W mb D) (hb : W'.heap[mb]? = W.heap[mb]?) : MapK W' mb D := by
  obtain ⟨N, es, clock, h1, F, hs, hD⟩ := h
  exact ⟨N, es, clock, hb.trans h1, F, hs, hD⟩
theorem MapK.blk {W : World} {mb : Nat} {D : DataW Unit} (h : MapK W mb D) : ∃ es clock, W.heap[mb]? = some (.map es clock) := by
  obtain ⟨N, es, clock, h1, _⟩ := h
  exact ⟨es, clock, h1⟩
theorem OwnL.to {W W' : World} {base : Nat} {e : TypeId} {v : Value} {L : List It} (h : OwnL itV 4 W base e v L) (hb : ∀ g, v.ownBlock = some g → W'.heap[g]? = W.heap[g]?) : OwnL itV 4 W' base e v L := by
  refine ⟨h.1, ?_⟩
  rcases h.2 with h0 | ⟨g, cap, cur, rfl, hbs, hh, hr⟩
  · exact .inl h0
  · exact .inr ⟨g, cap, cur, rfl, hbs, (hb g rfl).trans hh, hr⟩
structure HpAt (W : World) (h mb : Nat) (v : Value) (L : List It) (T : Int) (D : DataW Unit) : Prop where
  blk : ∃ cs, W.heap[h]? = some (.cells cs 87 (0, 0))
  c0 : W.cell? ⟨h, 0, none⟩ = some (.map (some mb))
  c1 : W.cell? ⟨h, 1, none⟩ = some v
  c2 : W.cell? ⟨h, 2, none⟩ = some (.func (.func 30) #[] #[])
  c3 : W.cell? ⟨h, 3, none⟩ = some (.int .i64 T)
  own : OwnL itV 4 W 0 71 v L
  map : MapK W mb D
  ne : v.ownBlock ≠ some h
section
variable {W W' : World} {h mb : Nat} {v : Value} {L : List It} {T : Int} {D : DataW Unit}
theorem HpAt.lt (H : HpAt W h mb v L T D) : h < W.heap.size := by obtain ⟨cs, hc⟩ := H.blk; exact (Array.getElem?_eq_some_iff.1 hc).1
theorem HpAt.mlt (H : HpAt W h mb v L T D) : mb < W.heap.size := by obtain ⟨es, cl, hc⟩ := H.map.blk; exact (Array.getElem?_eq_some_iff.1 hc).1
theorem HpAt.hm (H : HpAt W h mb v L T D) : h ≠ mb := fun e => by
  obtain ⟨cs, hc⟩ := H.blk
  obtain ⟨es, cl, hd⟩ := H.map.blk
  rw [e, hd] at hc; cases hc
theorem HpAt.vm (H : HpAt W h mb v L T D) : v.ownBlock ≠ some mb := fun e => by
  obtain ⟨es, cl, hd⟩ := H.map.blk
  rcases H.own.2 with ⟨rfl, _⟩ | ⟨g, cap, cur, rfl, _, hh, _⟩
  · cases e
  · have : g = mb := by simpa [Value.ownBlock] using e
    rw [this, hd] at hh; cases hh
theorem HpAt.vlt (H : HpAt W h mb v L T D) : ∀ g, v.ownBlock = some g → g < W.heap.size := fun g e => (OwnL.lt H.own g e).2
theorem HpAt.fz (H : HpAt W h mb v L T D) (o : Nat) : W.frozen? ⟨h, o, none⟩ = false := by obtain ⟨cs, hc⟩ := H.blk; simp [World.frozen?, hc]
/-- the blocks that are the heap's. -/
def Blk (h mb : Nat) (v : Value) (k : Nat) : Prop := k = h ∨ k = mb ∨ v.ownBlock = some k
theorem HpAt.keep (H : HpAt W h mb v L T D) (hb : ∀ k, k < W.heap.size → Blk h mb v k → W'.heap[k]? = W.heap[k]?) : HpAt W' h mb v L T D := by
  have hh := hb h H.lt (.inl rfl)
  have hc := fun o => World.cell?_of_block (w := W) (w' := W') (a := ⟨h, o, none⟩) hh
  obtain ⟨cs, hcs⟩ := H.blk
  exact ⟨⟨cs, hh.trans hcs⟩, (hc 0).trans H.c0, (hc 1).trans H.c1, (hc 2).trans H.c2, (hc 3).trans H.c3, OwnL.to H.own (fun g e => hb g (H.vlt g e) (.inr (.inr e))), H.map.to (hb mb H.mlt (.inr (.inl rfl))), H.ne⟩
theorem HpAt.sav (H : HpAt W h mb v L T D) {S : Nat → Prop} (hs : Sav S W W') (hn : ∀ k, k < W.heap.size → Blk h mb v k → ¬ S k) : HpAt W' h mb v L T D := H.keep (fun k hk hb => hs.block k hk (hn k hk hb))
theorem HpAt.below (H : HpAt W h mb v L T D) (hb : Below W.heap.size W W') : HpAt W' h mb v L T D := H.keep (fun k hk _ => hb.block k hk)
end
end Go.Proofs.Ytgeankdimknmiaa.Hp
