/- Lists in memory: read, owned, appended to; numbers by their digits in memory. -/
import Derived.Test.YtgeankdimknmiaaRatPa
import Derived.Test.YtgeankdimknmiaaBgM
import Derived.Deep.AppendLies
import Derived.Deep.RegionHeld3
import Derived.Deep.LoopGhost
import Derived.Deep.DeepCutAuto
import Derived.IntWalk
import Derived.WalkMore
namespace Go.Proofs.Ytgeankdimknmiaa
set_option linter.unusedVariables false
open Go.RowKit

theorem below_step {w a b : World} (t : Below w.heap.size w a) (h : Below a.heap.size a b) : Below w.heap.size w b := t.trans (h.mono t.size)
theorem below_new {w a : World} (t : Below w.heap.size w a) (o : Obj) : Below w.heap.size w (a.alloc o) := t.alloc t.size o
theorem ret_bool {a b : Bool} (h : a = b) : Ending.returned (.bool a) = .returned (.bool b) := by rw [h]
theorem block_of_add (a : Addr) (n : Nat) : (a.add n).block = a.block := by unfold Addr.add; split <;> rfl
theorem add_of_add (a : Addr) (i j : Nat) : (a.add i).add j = a.add (i + j) := by
  unfold Addr.add
  by_cases hi : i = 0 <;> by_cases hj : j = 0 <;> simp [hi, hj, Nat.add_assoc]
/-- a list lies in memory below block B, each of it in 'sz' cells. -/
def Lie {α : Type} (f : α → List Value) (sz : Nat) (w : World) (B : Nat) (A : Option Addr) (l : List α) : Prop :=
  0 < l.length → ∃ ad, A = some ad ∧ ad.block < B ∧ ∀ i x, l[i]? = some x → ∀ j v, (f x)[j]? = some v → w.cell? (ad.add (i * sz + j)) = some v
theorem Lie.keep {α : Type} {f : α → List Value} {sz : Nat} {w w' : World} {B : Nat} {A : Option Addr} {l : List α} (h : Lie f sz w B A l) (hb : Below B w w') : Lie f sz w' B A l := fun hl => by
  obtain ⟨ad, e, hB, hc⟩ := h hl
  exact ⟨ad, e, hB, fun i x hx j v hv => (hb.cell (by rw [block_of_add]; exact hB)).trans (hc i x hx j v hv)⟩
theorem Lie.more {α : Type} {f : α → List Value} {sz : Nat} {w : World} {B B' : Nat} {A : Option Addr} {l : List α} (h : Lie f sz w B A l) (hb : B ≤ B') : Lie f sz w B' A l := fun hl => by
  obtain ⟨ad, e, hB, hc⟩ := h hl
  exact ⟨ad, e, Nat.lt_of_lt_of_le hB hb, hc⟩
theorem Lie.below {α : Type} {f : α → List Value} {sz : Nat} {w w' : World} {A : Option Addr} {l : List α} (h : Lie f sz w w.heap.size A l) (hb : Below w.heap.size w w') : Lie f sz w' w'.heap.size A l :=
  (h.keep hb).more hb.size
theorem Lie.nil {α : Type} {f : α → List Value} {sz : Nat} {w : World} {B : Nat} {A : Option Addr} : Lie f sz w B A [] := fun h => absurd h (by simp)
section
variable {α : Type} {f : α → List Value} {sz : Nat}
def rowOf (f : α → List Value) (L : List α) : List Value := L.flatMap f
theorem row_len (hf : ∀ x, (f x).length = sz) : ∀ L : List α, (rowOf f L).length = L.length * sz
  | [] => by simp [rowOf]
  | x :: L => by
    have := row_len hf L
    simp only [rowOf, List.flatMap_cons, List.length_append, List.length_cons] at *
    rw [this, hf, Nat.add_mul]
    omega
theorem row_at (hf : ∀ x, (f x).length = sz) : ∀ (L : List α) (i : Nat) (x : α), L[i]? = some x → ∀ (j : Nat) (v : Value), (f x)[j]? = some v → (rowOf f L)[i * sz + j]? = some v
  | [], i, x, h, _, _, _ => by simp at h
  | y :: L, 0, x, h, j, v, hv => by
    have : y = x := by simpa using h
    subst this
    have hj : j < (f y).length := (List.getElem?_eq_some_iff.1 hv).1
    simp only [rowOf, List.flatMap_cons]
    rw [List.getElem?_append_left (by omega)]
    simpa using hv
  | y :: L, i + 1, x, h, j, v, hv => by
    have h' : L[i]? = some x := by simpa using h
    have ih := row_at hf L i x h' j v hv
    simp only [rowOf, List.flatMap_cons] at *
    have e : (i + 1) * sz = sz + i * sz := by rw [Nat.add_mul]; omega
    rw [e, List.getElem?_append_right (by rw [hf]; omega), hf]
    have e2 : sz + i * sz + j - sz = i * sz + j := by omega
    rw [e2]
    exact ih
theorem row_snoc (f : α → List Value) (L : List α) (x : α) : rowOf f (L ++ [x]) = rowOf f L ++ f x := by
  simp [rowOf]
/-- a slice that the call owns holds a list. -/
def OwnL (f : α → List Value) (sz : Nat) (w : World) (base : Nat) (e : TypeId) (v : Value) (L : List α) : Prop := w.ownsRow base e sz v L.length (rowOf f L)
theorem OwnL.lie {w : World} {base : Nat} {e : TypeId} {v : Value} {L : List α} (h : OwnL f sz w base e v L) (hf : ∀ x, (f x).length = sz) : ∃ A c, v = .slice A L.length c ∧ L.length ≤ c ∧ c ≤ maxLen ∧ Lie f sz w w.heap.size A L := by
  rcases h.2 with ⟨rfl, h0⟩ | ⟨g, cap, cur, rfl, hb, hh, hn, hm, hsz, ht⟩
  · have : L = [] := List.eq_nil_of_length_eq_zero h0
    subst this
    exact ⟨none, 0, rfl, by simp, by simp [maxLen], Lie.nil⟩
  · refine ⟨_, cap, rfl, hn, hm, fun hl => ⟨_, rfl, ?_, fun i x hx j v hv => ?_⟩⟩
    · rcases Nat.lt_or_ge g w.heap.size with hlt | hge
      · exact hlt
      · rw [Array.getElem?_eq_none hge] at hh; cases hh
    · exact World.ownsRow.cells h (g := g) rfl _ _ (row_at hf L i x hx j v hv)
theorem OwnL.below {w w' : World} {base : Nat} {e : TypeId} {v : Value} {L : List α} (h : OwnL f sz w base e v L) (hb : Below w.heap.size w w') : OwnL f sz w' base e v L := by
  refine ⟨h.1, ?_⟩
  rcases h.2 with h0 | ⟨g, cap, cur, rfl, hbs, hh, hr⟩
  · exact .inl h0
  · refine .inr ⟨g, cap, cur, rfl, hbs, ?_, hr⟩
    rw [hb.block g]
    · exact hh
    · rcases Nat.lt_or_ge g w.heap.size with hlt | hge
      · exact hlt
      · rw [Array.getElem?_eq_none hge] at hh; cases hh
theorem OwnL.kept {w w' : World} {base : Nat} {e : TypeId} {v : Value} {L : List α} {row : Option Nat} (h : OwnL f sz w base e v L) (hg : w.grownBy w' row) (hne : v.ownBlock = none ∨ v.ownBlock ≠ row) : OwnL f sz w' base e v L :=
  World.ownsRow.kept h hg hne
theorem OwnL.alloc {w : World} {base : Nat} {e : TypeId} {v : Value} {L : List α} (h : OwnL f sz w base e v L) (o : Obj) : OwnL f sz (w.alloc o) base e v L := World.ownsRow.alloc h o
theorem OwnL.drew {w : World} {base : Nat} {e : TypeId} {v : Value} {L : List α} (h : OwnL f sz w base e v L) : OwnL f sz w.drew base e v L := h
theorem OwnL.src {w : World} {base : Nat} {e : TypeId} {A : Option Addr} {c : Nat} {L : List α} (h : OwnL f sz w base e (.slice A L.length c) L) : 0 < L.length → ∃ ad, A = some ad ∧ ∀ j u, (rowOf f L)[j]? = some u → w.cell? (ad.add j) = some u := fun hl => by
  obtain ⟨g, cap, hv, _, hlt⟩ := World.ownsRow.form h hl
  have hA : A = some ⟨g, 0, none⟩ := by injection hv
  subst hA
  exact ⟨_, rfl, World.ownsRow.cells h (g := g) rfl⟩
theorem OwnL.snoc {w : World} {base : Nat} {e : TypeId} {v : Value} {L : List α} {x : α} {n : Nat} {xs : List Value} (h : w.ownsRow base e sz v n xs) (hn : n = L.length + 1) (hx : xs = rowOf f L ++ f x) : OwnL f sz w base e v (L ++ [x]) := by
  subst hn hx
  unfold OwnL
  rw [row_snoc]
  simpa using h
theorem OwnL.nil (w : World) (base : Nat) (e : TypeId) : OwnL f sz w base e (.slice none 0 0) [] := World.ownsRow_nil w base e sz
theorem OwnL.lt {w : World} {base : Nat} {e : TypeId} {v : Value} {L : List α} (h : OwnL f sz w base e v L) : ∀ k, v.ownBlock = some k → base ≤ k ∧ k < w.heap.size := World.ownsRow.lt h
end

theorem append_empty {P : Program} (w : World) (base : Nat) (t ty e : TypeId) (i : TypeInfo) (size : Nat) (ht : P.underlying t = some (.slice e)) (hi : P.info? e = some i)
    (v : Value) (n : Nat) (xs : List Value) (hown : w.ownsRow base e size v n xs) (c : Nat) : (Builtin.append_ #[t, t] ty #[v, .slice none 0 c]).run P w = .ok v w := by
  obtain ⟨_, h⟩ := hown
  rcases h with ⟨rfl, _⟩ | ⟨g, cap, cur, rfl, _, _, hnc, _⟩
  · simp [Builtin.append_, run_underlying ht, sizeOf, typeInfo, hi, Builtin.lenOf, Builtin.firstCells]
  · simp [Builtin.append_, run_underlying ht, sizeOf, typeInfo, hi, Builtin.lenOf, Builtin.firstCells, storeCells, hnc]
/-- append of whatever lies there, nothing let in. -/
theorem run_append_some {P : Program} (w : World) (t ty : TypeId) (base : Nat) (e : TypeId) (i : TypeInfo) (z : Value) (size bytes : Nat) (ht : P.underlying t = some (.slice e)) (hi : P.info? e = some i) (hz : i.zero = some z)
    (hsize : i.size = size) (hby : i.bytes = bytes) (hzs : z.cells.size = size) (hsz : 0 < size)
    (v : Value) (n : Nat) (xs : List Value) (hown : w.ownsRow base e size v n xs)
    (A : Option Addr) (m c : Nat) (news : List Value) (hl : news.length = m * size) (hsrc : 0 < m → ∃ ad, A = some ad ∧ ∀ j u, news[j]? = some u → w.cell? (ad.add j) = some u) (h1 : ∀ u ∈ news, u.oneCell' = true)
    (h63 : n + m ≤ maxLen) (hbytes : (n + m) * bytes ≤ 140737488355328) (hbase : base ≤ w.heap.size) :
    ∃ v' w', (Builtin.append_ #[t, t] ty #[v, .slice A m c]).run P w = .ok v' w' ∧ w'.ownsRow base e size v' (n + m) (xs ++ news) ∧ w.grownBy w' v.ownBlock ∧ (v'.ownBlock = v.ownBlock ∨ v'.ownBlock = some w.heap.size) := by
  have hnil : m = 0 → news = [] := fun h => List.eq_nil_of_length_eq_zero (by rw [hl, h, Nat.zero_mul])
  cases A with
  | none =>
    have h0 : m = 0 := by
      rcases Nat.eq_zero_or_pos m with h0 | h0
      · exact h0
      · obtain ⟨ad, e, _⟩ := hsrc h0; cases e
    obtain rfl := hnil h0
    subst h0
    exact ⟨v, w, append_empty w base t ty e i size ht hi v n xs hown c, by simpa using hown, World.grownBy.refl w _, .inl rfl⟩
  | some ad =>
    have hnews : ∀ j u, news[j]? = some u → w.cell? (ad.add j) = some u := by
      intro j u hu
      rcases Nat.eq_zero_or_pos m with h0 | h0
      · rw [hnil h0] at hu; simp at hu
      · obtain ⟨ad', e, hc⟩ := hsrc h0
        obtain rfl : ad = ad' := by injection e
        exact hc j u hu
    obtain ⟨v', w', hr, h2, h3, _, h5⟩ := run_append_own_at (P := P) w base t ty e i z size bytes ht hi hz hsize hby hzs hsz v n xs hown ad m c news hl hnews h1 h63 hbytes hbase
    exact ⟨v', w', hr, h2, h3, h5⟩
theorem wp_append_some {P : Program} {w : World} {o : Oper} {a : Act} {K : Act → World → Prop} {Q : Exit → Act → World → Prop} (s x : Operand) (t : TypeId)
    (ho : o.op = .call { callee := .builtin .append, args := #[s, x], argTypes := #[t, t] })
    (base : Nat) (e : TypeId) (i : TypeInfo) (z : Value) (size bytes : Nat) (ht : P.underlying t = some (.slice e)) (hi : P.info? e = some i) (hz : i.zero = some z)
    (hsize : i.size = size) (hby : i.bytes = bytes) (hzs : z.cells.size = size) (hsz : 0 < size)
    (v : Value) (n : Nat) (xs : List Value) (hs : a.eval s = v) (hown : w.ownsRow base e size v n xs)
    (A : Option Addr) (m c : Nat) (news : List Value) (hx : a.eval x = .slice A m c) (hl : news.length = m * size) (hsrc : 0 < m → ∃ ad, A = some ad ∧ ∀ j u, news[j]? = some u → w.cell? (ad.add j) = some u) (h1 : ∀ u ∈ news, u.oneCell' = true)
    (h63 : n + m ≤ maxLen) (hbytes : (n + m) * bytes ≤ 140737488355328) (hbase : base ≤ w.heap.size)
    (h : ∀ v' w', w'.ownsRow base e size v' (n + m) (xs ++ news) → w.grownBy w' v.ownBlock → (v'.ownBlock = v.ownBlock ∨ v'.ownBlock = some w.heap.size) → K (a.put o.dst v') w') : o.wp P a w K Q := by
  obtain ⟨v', w', hr, h2, h3, h4⟩ := run_append_some (P := P) w t o.type base e i z size bytes ht hi hz hsize hby hzs hsz v n xs hown A m c news hl hsrc h1 h63 hbytes hbase
  unfold Oper.wp execOp
  simp only [ho, resolve, invoke, builtin, Sem.run_bind, Sem.run_pure, Result.andThen_ok, List.map_toArray, List.map_cons, List.map_nil, hs, hx, hr]
  exact h v' w' h2 h3 h4
theorem step_append_some {P : Program} {w : World} {ops : Array Oper} {o : Oper} {a : Act} {K : Act → World → Prop} {Q : Exit → Act → World → Prop} {E : Prop} (hgd : o.guard = none) (s x : Operand) (t : TypeId)
    (ho : o.op = .call { callee := .builtin .append, args := #[s, x], argTypes := #[t, t] })
    (base : Nat) (e : TypeId) (i : TypeInfo) (z : Value) (size bytes : Nat) (ht : P.underlying t = some (.slice e)) (hi : P.info? e = some i) (hz : i.zero = some z)
    (hsize : i.size = size) (hby : i.bytes = bytes) (hzs : z.cells.size = size) (hsz : 0 < size)
    (v : Value) (n : Nat) (xs : List Value) (hs : a.eval s = v) (hown : w.ownsRow base e size v n xs)
    (A : Option Addr) (m c : Nat) (news : List Value) (hx : a.eval x = .slice A m c) (hl : news.length = m * size) (hsrc : 0 < m → ∃ ad, A = some ad ∧ ∀ j u, news[j]? = some u → w.cell? (ad.add j) = some u) (h1 : ∀ u ∈ news, u.oneCell' = true)
    (h63 : n + m ≤ maxLen) (hbytes : (n + m) * bytes ≤ 140737488355328) (hbase : base ≤ w.heap.size)
    (h : ∀ v' w', w'.ownsRow base e size v' (n + m) (xs ++ news) → w.grownBy w' v.ownBlock → (v'.ownBlock = v.ownBlock ∨ v'.ownBlock = some w.heap.size) → K (a.put o.dst v') w') :
    if Region.wanted o (yielded ops a.tmps) = true then Oper.wp P o a w K Q else E := by
  have hw : Region.wanted o (yielded ops a.tmps) = true := by simp [Region.wanted, hgd]
  rw [if_pos hw]
  exact wp_append_some s x t ho base e i z size bytes ht hi hz hsize hby hzs hsz v n xs hs hown A m c news hx hl hsrc h1 h63 hbytes hbase h
theorem wpList_append_some {P : Program} {w : World} {ops : Array Oper} {rest : List Oper} {o : Oper} {a : Act} {Q : Exit → Act → World → Prop} (hgd : o.guard = none) (s x : Operand) (t : TypeId)
    (ho : o.op = .call { callee := .builtin .append, args := #[s, x], argTypes := #[t, t] })
    (base : Nat) (e : TypeId) (i : TypeInfo) (z : Value) (size bytes : Nat) (ht : P.underlying t = some (.slice e)) (hi : P.info? e = some i) (hz : i.zero = some z)
    (hsize : i.size = size) (hby : i.bytes = bytes) (hzs : z.cells.size = size) (hsz : 0 < size)
    (v : Value) (n : Nat) (xs : List Value) (hs : a.eval s = v) (hown : w.ownsRow base e size v n xs)
    (A : Option Addr) (m c : Nat) (news : List Value) (hx : a.eval x = .slice A m c) (hl : news.length = m * size) (hsrc : 0 < m → ∃ ad, A = some ad ∧ ∀ j u, news[j]? = some u → w.cell? (ad.add j) = some u) (h1 : ∀ u ∈ news, u.oneCell' = true)
    (h63 : n + m ≤ maxLen) (hbytes : (n + m) * bytes ≤ 140737488355328) (hbase : base ≤ w.heap.size)
    (h : ∀ v' w', w'.ownsRow base e size v' (n + m) (xs ++ news) → w.grownBy w' v.ownBlock → (v'.ownBlock = v.ownBlock ∨ v'.ownBlock = some w.heap.size) → wpList P ops Q rest (a.put o.dst v') w') : wpList P ops Q (o :: rest) a w :=
  wpList_plain hgd fun _ hK => wp_append_some s x t ho base e i z size bytes ht hi hz hsize hby hzs hsz v n xs hs hown A m c news hx hl hsrc h1 h63 hbytes hbase fun v' w' h2 h3 h4 => hK _ _ (h v' w' h2 h3 h4)
theorem rowOf_one {α : Type} {f : α → List Value} (hf : ∀ x, ∀ u ∈ f x, u.oneCell' = true) (L : List α) : ∀ u ∈ rowOf f L, u.oneCell' = true := fun u hu => by
  obtain ⟨x, _, hx⟩ := List.mem_flatMap.1 hu
  exact hf x u hx
/-- a digit in memory. -/
def dV (d : Nat) : List Value := [.int .u32 d]
theorem OwnL.from_ {α : Type} {f : α → List Value} {sz : Nat} {w : World} {base : Nat} {e : TypeId} {A : Option Addr} {n c : Nat} {L : List α} (h : OwnL f sz w base e (.slice A n c) L) : ∀ ad, A = some ad → base ≤ ad.block := fun ad e => by
  subst e
  exact (OwnL.lt h ad.block rfl).1
theorem Lie.far {α : Type} {f : α → List Value} {sz : Nat} {w : World} {B : Nat} {A : Option Addr} {l : List α} (h : Lie f sz w B A l) {p : Addr} (u : Value) (hne : ∀ ad, A = some ad → ad.block ≠ p.block) : Lie f sz (w.setCell p u) B A l := fun hl => by
  obtain ⟨ad, e, hB, hc⟩ := h hl
  refine ⟨ad, e, hB, fun i x hx j v hv => ?_⟩
  have h1 := hc i x hx j v hv
  rw [← h1]
  refine World.cell?_setCell_other w p _ u (fun e2 => ?_)
  have := hne ad e
  rw [e2, block_of_add] at this
  exact this rfl
theorem dV_len (d : Nat) : (dV d).length = 1 := rfl
theorem dV_one (d : Nat) : ∀ u ∈ dV d, u.oneCell' = true := fun u hu => by
  simp [dV] at hu; subst hu; rfl
theorem Lie.digit {w : World} {B : Nat} {A : Option Addr} {l : List Nat} (h : Lie dV 1 w B A l) (i : Nat) (hi : i < l.length) :
    ∃ ad, A = some ad ∧ ad.block < B ∧ w.cell? (ad.add i) = some (.int .u32 (BM.D l i : Nat)) := by
  obtain ⟨ad, e, hB, hc⟩ := h (by omega)
  refine ⟨ad, e, hB, ?_⟩
  have := hc i _ (BM.D_get hi) 0 _ rfl
  simpa using this
theorem Lie.take {w : World} {B : Nat} {A : Option Addr} {l : List Nat} (h : Lie dV 1 w B A l) (k : Nat) : Lie dV 1 w B A (l.take k) := fun hl => by
  obtain ⟨ad, e, hB, hc⟩ := h (by simp at hl; omega)
  refine ⟨ad, e, hB, fun i x hx j v hv => hc i x ?_ j v hv⟩
  rw [List.getElem?_take] at hx
  split at hx
  · exact hx
  · cases hx
theorem digInfo : (Try.prog.info? 99).map (fun i => (i.zero, i.size, i.bytes)) = some (some (.int .u32 0), 1, 4) := by kernel_rfl
/-- what a call answers that tells a number: its digits, in memory that nothing else reads. -/
def BigEnd (x : Nat) (w : World) (e : Ending) (w' : World) : Prop :=
  ∃ A c, e = .returned (.slice A (BM.digs x).length c) ∧ (BM.digs x).length ≤ c ∧ c ≤ maxLen ∧ (∀ ad, A = some ad → w.heap.size ≤ ad.block) ∧ Lie dV 1 w' w'.heap.size A (BM.digs x) ∧ Below w.heap.size w w'
end Go.Proofs.Ytgeankdimknmiaa
