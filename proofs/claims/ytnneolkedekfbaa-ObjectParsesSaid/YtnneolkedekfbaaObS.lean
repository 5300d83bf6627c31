/- Objects: the objects of any bytes, or that there are none. -/
import Derived.Test.YtnneolkedekfbaaObR
namespace Go.Proofs.Ytnneolkedekfbaa
set_option linter.unusedVariables false
open Go.RowKit Go.Shelf
attribute [local go_sem] Oper.semAt_some

theorem wpListIn_append_some {F : Fence} {n0 : Nat} {P : Program} {w : World} {ops : Array Oper} {rest : List Oper} {o : Oper} {a : Act} {Q : Exit → Act → World → Prop} (hgd : o.guard = none) (s x : Operand) (t : TypeId)
    (ho : o.op = .call { callee := .builtin .append, args := #[s, x], argTypes := #[t, t] })
    (base : Nat) (e : TypeId) (i : TypeInfo) (z : Value) (size bytes : Nat) (ht : P.underlying t = some (.slice e)) (hi : P.info? e = some i) (hz : i.zero = some z)
    (hsize : i.size = size) (hby : i.bytes = bytes) (hzs : z.cells.size = size) (hsz : 0 < size)
    (v : Value) (n : Nat) (xs : List Value) (hs : a.eval s = v) (hown : w.ownsRow base e size v n xs)
    (A : Option Addr) (m c : Nat) (news : List Value) (hx : a.eval x = .slice A m c) (hl : news.length = m * size) (hsrc : 0 < m → ∃ ad, A = some ad ∧ ∀ j u, news[j]? = some u → w.cell? (ad.add j) = some u) (h1 : ∀ u ∈ news, u.oneCell' = true)
    (h63 : n + m ≤ maxLen) (hbytes : (n + m) * bytes ≤ 140737488355328) (hbase : base ≤ w.heap.size)
    (h : ∀ v' w', w'.ownsRow base e size v' (n + m) (xs ++ news) → w.grownBy w' v.ownBlock → (v'.ownBlock = v.ownBlock ∨ v'.ownBlock = some w.heap.size) → wpListIn F n0 P ops Q rest (a.put o.dst v') w') : wpListIn F n0 P ops Q (o :: rest) a w := by
  refine wpListIn_plain hgd fun K hK' => ?_
  obtain ⟨v', w', hrun, h2, h3, h4⟩ := run_append_some (P := P) w t o.type base e i z size bytes ht hi hz hsize hby hzs hsz v n xs hown A m c news hl hsrc h1 h63 hbytes hbase
  unfold Oper.wpIn
  refine ⟨?_, ?_⟩
  · simp [Oper.about, ho, resolve, Target.leads, Sem.run_pure]
  · rw [Oper.semAt_plain F _ _ (by rw [ho]; intro c hc'; cases hc')]
    simp [execOp, ho, resolve, invoke, builtin, hs, hx, hrun, Result.andThen]
    exact hK' _ _ (h v' w' h2 h3 h4)
theorem OwnL.butG {α : Type} {f : α → List Value} {sz : Nat} {w w' : World} {base b : Nat} {e : TypeId} {v : Value} {l : List α} (h : OwnL f sz w base e v l) (hb : But b w w') (hg : v.ownBlock ≠ some b) : OwnL f sz w' base e v l := by
  obtain ⟨h0, h1⟩ := h
  refine ⟨h0, ?_⟩
  rcases h1 with h1 | ⟨g', cap', cur, rfl, hbs, hh, hr⟩
  · exact .inl h1
  · exact .inr ⟨g', cap', cur, rfl, hbs, (hb.block g' (Array.getElem?_eq_some_iff.1 hh).1 (fun q => hg (by simp [Value.ownBlock, q]))).trans hh, hr⟩
theorem cell_cells {w : World} {a : Addr} {v : Value} (h : w.cell? a = some v) : ∃ o : Obj, w.heap[a.block]? = some o ∧ o.isCells = true := by
  unfold World.cell? at h
  cases hq : w.heap[a.block]? with
  | none => simp [hq] at h
  | some o => cases o <;> simp_all [Obj.isCells]
/-- what lies in cells lies there behind the turn of a block that is none. -/
theorem LieQ.own {W W' : World} {p : Nat → Prop} {A : Option Addr} {l : List Int} {row : Option Nat} (h : LieQ wdV 1 W p A l) (hg : W.grownBy W' row) (hr : ∀ r, row = some r → ∃ o : Obj, W.heap[r]? = some o ∧ o.isCells = false) : LieQ wdV 1 W' p A l := fun hl => by
  obtain ⟨ad, e, hp, hc⟩ := h hl
  obtain ⟨o, ho, hn⟩ := cell_cells (hc 0 l[0] (by simp [hl]) 0 (.int .i64 l[0]) rfl)
  rw [block_of_add] at ho
  have hb : W'.heap[ad.block]? = W.heap[ad.block]? := by
    refine hg.block _ (Array.getElem?_eq_some_iff.1 ho).1 (fun q => ?_)
    obtain ⟨o', ho', hn'⟩ := hr _ q.symm
    rw [ho] at ho'
    cases ho'
    rw [hn] at hn'
    cases hn'
  exact ⟨ad, e, hp, fun i x hx j v hv => (World.cell?_of_block (by rw [block_of_add]; exact hb)).trans (hc i x hx j v hv)⟩
def TkOut (st : Option (Nat × Nat)) (q : Nat) : Prop := ∀ pb lo, st = some (pb, lo) → q ≠ pb ∧ q ≠ pb + 1 ∧ q < lo
/-- what was told so far lies in a row of the call's own, each one's words elsewhere. -/
def RowAt (po : Nat) (st : Option (Nat × Nat)) (pre : List Ob) (W : World) : Prop :=
  ∃ v, Boxed W po 22 v ∧ TkOut st po ∧ OwnL obV 3 W po 32 v pre ∧ (∀ r, v.ownBlock = some r → TkOut st r) ∧
    ∀ o ∈ pre, HeldO W (fun q => po < q ∧ q < W.heap.size ∧ v.ownBlock ≠ some q ∧ TkOut st q) o
theorem RowAt.new {po pb : Nat} {pre : List Ob} {W W' : World} (h : RowAt po none pre W) (hb : Below W.heap.size W W') (h1 : W.heap.size ≤ pb) (h2 : pb + 1 < W'.heap.size) : RowAt po (some (pb, W'.heap.size)) pre W' := by
  obtain ⟨v, hv, _, ho, _, hw⟩ := h
  have hlt := hv.lt
  refine ⟨v, (hb.block po hlt).trans hv, fun q l e => by cases e; omega, ho.below hb, fun r hr q l e => ?_, fun o ho' => (hw o ho').to (fun k hk => ⟨⟨hk.1, by have := hb.size; omega, hk.2.2.1, fun q l e => ?_⟩, hb.block k hk.2.1⟩)⟩
  · have := (OwnL.lt ho r hr).2
    cases e; omega
  · have := hk.2.1
    cases e; omega
theorem RowAt.but {po pb lo : Nat} {pre : List Ob} {W W' : World} (h : RowAt po (some (pb, lo)) pre W) (hb : But (pb + 1) W W') : RowAt po (some (pb, lo)) pre W' := by
  obtain ⟨v, hv, hp, ho, hr, hw⟩ := h
  exact ⟨v, (hb.block po hv.lt (hp pb lo rfl).2.1).trans hv, hp, ho.butG hb (fun q => (hr _ q pb lo rfl).2.1 rfl), hr, fun o ho' => (hw o ho').to (fun k hk => ⟨⟨hk.1, Nat.lt_of_lt_of_le hk.2.1 hb.size, hk.2.2⟩, hb.block k hk.2.1 (hk.2.2.2 pb lo rfl).2.1⟩)⟩
theorem OwnL.turn {α : Type} {f : α → List Value} {sz : Nat} {w w' : World} {base : Nat} {e : TypeId} {v : Value} {l : List α} {row : Option Nat} (h : OwnL f sz w base e v l) (hg : w.grownBy w' row) (hr : ∀ r, row = some r → ∃ o : Obj, w.heap[r]? = some o ∧ o.isCells = false) : OwnL f sz w' base e v l := by
  refine h.kept hg ?_
  rcases h.2 with ⟨rfl, _⟩ | ⟨g, cap, cur, rfl, _, hgb, _⟩
  · exact .inl rfl
  · refine .inr fun e' => ?_
    obtain ⟨o, ho, hc⟩ := hr g (by simpa [Value.ownBlock] using e'.symm)
    rw [hgb] at ho; cases ho; cases hc
theorem Boxed.turn {W W' : World} {B : Nat} {t : TypeId} {v : Value} {row : Option Nat} (h : Boxed W B t v) (hg : W.grownBy W' row) (hr : ∀ r, row = some r → ∃ o : Obj, W.heap[r]? = some o ∧ o.isCells = false) : Boxed W' B t v :=
  h.kept hg (fun e' => by
    obtain ⟨o, ho, hc⟩ := hr B e'.symm
    rw [show W.heap[B]? = _ from h] at ho; cases ho; cases hc)
theorem RowAt.own {po : Nat} {st : Option (Nat × Nat)} {pre : List Ob} {W W' : World} {row : Option Nat} (h : RowAt po st pre W) (hg : W.grownBy W' row) (hr : ∀ r, row = some r → ∃ o : Obj, W.heap[r]? = some o ∧ o.isCells = false) : RowAt po st pre W' := by
  obtain ⟨v, hv, hp, ho, hrr, hw⟩ := h
  refine ⟨v, Boxed.turn hv hg hr, hp, ho.turn hg hr, hrr, fun o ho' => ?_⟩
  obtain ⟨A, k, e, hl⟩ := hw o ho'
  refine ⟨A, k, e, ?_⟩
  exact (LieQ.own hl hg hr).to (fun q hq => ⟨⟨hq.1, Nat.lt_of_lt_of_le hq.2.1 hg.size, hq.2.2⟩, rfl⟩)
theorem RowAt.append {po pb lo : Nat} {pre : List Ob} {V wa : World} {v v' : Value} {x : Ob} {tmp : Obj} (hv : Boxed V po 22 v) (hp : TkOut (some (pb, lo)) po) (hO : OwnL obV 3 V po 32 v pre) (hr : ∀ r, v.ownBlock = some r → TkOut (some (pb, lo)) r)
    (hw : ∀ o ∈ pre, HeldO V (fun q => po < q ∧ q < V.heap.size ∧ v.ownBlock ≠ some q ∧ TkOut (some (pb, lo)) q) o) (hlo : lo ≤ V.heap.size) (hpo : po ≤ pb) (hpl : pb + 1 < lo) (hx : HeldO V (fun q => lo ≤ q ∧ q < V.heap.size) x)
    (hown : wa.ownsRow po 32 3 v' (pre.length + 1) (rowOf obV pre ++ obV x)) (hgrow : (V.alloc tmp).grownBy wa v.ownBlock) (hat : v'.ownBlock = v.ownBlock ∨ v'.ownBlock = some (V.alloc tmp).heap.size) :
    RowAt po (some (pb, (wa.setCell ⟨po, 0, none⟩ v').heap.size)) (pre ++ [x]) (wa.setCell ⟨po, 0, none⟩ v') ∧ Keeps2 pb V (wa.setCell ⟨po, 0, none⟩ v') ∧ KeepsOthers V (wa.setCell ⟨po, 0, none⟩ v') ∧ Below po V (wa.setCell ⟨po, 0, none⟩ v') ∧ lo ≤ (wa.setCell ⟨po, 0, none⟩ v').heap.size ∧
      (∀ k t u, Boxed V k t u → t ≠ 32 → k ≠ po → Boxed (wa.setCell ⟨po, 0, none⟩ v') k t u) ∧ Boxed wa po 22 v ∧ ∃ g cap, v' = .slice (some ⟨g, 0, none⟩) (pre.length + 1) cap := by
  obtain ⟨b1, b2, b3, b4, b5⟩ := Boxed.appended (n₀ := po) hv (by decide) hO (by have := hv.lt; omega) (Nat.le_refl _) hown hgrow
  have hsz : V.heap.size + 1 ≤ (wa.setCell ⟨po, 0, none⟩ v').heap.size := by
    have := hgrow.size
    simp at this ⊢
    omega
  have hsv : (V.alloc tmp).heap.size = V.heap.size + 1 := by simp
  rw [hsv] at hat
  have KEEP : ∀ k, k < V.heap.size → k ≠ po → v.ownBlock ≠ some k → (wa.setCell ⟨po, 0, none⟩ v').heap[k]? = V.heap[k]? := fun k hk hn hb =>
    (Below.heap_setCell _ _ _ _ hn).trans ((hgrow.block k (by omega) (fun q => hb q.symm)).trans (Below.heap_alloc _ _ _ hk))
  have hp1 := hp pb lo rfl
  generalize hV3 : wa.setCell ⟨po, 0, none⟩ v' = V3 at *
  have hfr : ∀ k, k < V.heap.size → v.ownBlock ≠ some k → v'.ownBlock ≠ some k := fun k hk hb => by
    rcases hat with h | h
    · rw [h]; exact hb
    · rw [h]; intro q; injection q with q; omega
  have hrow3 : OwnL obV 3 V3 po 32 v' (pre ++ [x]) := OwnL.snoc (f := obV) (L := pre) (x := x) b3 rfl rfl
  refine ⟨⟨v', b2, fun q l e => ?_, hrow3, fun r hr' q l e => ?_, fun o ho => ?_⟩, ⟨by omega, ?_, ?_⟩, b4, b5, by omega, fun k t u hk ht hn => ?_, b1, ownsRow_succ hown⟩
  · cases e; omega
  · have h3 := (OwnL.lt hrow3 r hr').2
    cases e
    rcases hat with h | h
    · rw [h] at hr'
      have := hr r hr' pb lo rfl
      omega
    · rw [h] at hr'
      injection hr' with hr'
      omega
  · rcases List.mem_append.1 ho with h | h
    · exact (hw o h).to (fun k hk => ⟨⟨hk.1, by omega, hfr k hk.2.1 hk.2.2.1, fun q l e => by have := hk.2.2.2 pb lo rfl; cases e; omega⟩, KEEP k hk.2.1 (by omega) hk.2.2.1⟩)
    · obtain rfl : o = x := by simpa using h
      have hnb : ∀ k, lo ≤ k → v.ownBlock ≠ some k := fun k hk q => by have := hr k q pb lo rfl; omega
      exact hx.to (fun k hk => ⟨⟨by omega, by omega, hfr k hk.2 (hnb k hk.1), fun q l e => by cases e; omega⟩, KEEP k hk.2 (by omega) (hnb k hk.1)⟩)
  · exact KEEP pb (by omega) (by omega) (fun q => by have := hr pb q pb lo rfl; omega)
  · exact KEEP (pb + 1) (by omega) (by omega) (fun q => by have := hr (pb + 1) q pb lo rfl; omega)
  · exact (KEEP k (Boxed.lt hk) hn (fun q => (Boxed.not_row hk ht hO) q.symm)).trans hk
theorem objects_any (A : Option Addr) (n c : Nat) (w : World) :
    Calls Try.prog 26 #[.slice A n c] w fun e w' => e = .returned (.func (.func 40) #[] #[.pointer (some ⟨w.heap.size, 0, none⟩)]) ∧ w.alloc (.cells #[.slice A n c] 25) = w' := by
  have hmf : ∀ (fn : Fn) (first cap : Array Value) (w : World), (Instr.makeFunc fn first cap).run Try.prog w = .ok (.func fn first cap) w := fun _ _ _ _ => rfl
  go_enter Try.func26, Try.ntmps26
  go_wp2_with fail
  go_ret
  exact ⟨rfl, rfl⟩
theorem obInfo : (Try.prog.info? 32).map (fun i => (i.zero, i.size, i.bytes)) = some (some (.agg #[.int .i64 0, .int .i64 0, .slice none 0 0]), 3, 40) := by kernel_rfl
/-- what the step of Parse tells. -/
def ParseEnd (L : List Int) (n0 : Nat) (w : World) (e : Ending) (w' : World) : Prop :=
  Below w.heap.size w w' ∧ ((∃ k os A c, Good L k ∧ os.map keyO = keysTo L k ∧ e = .returned (.slice A os.length c) ∧ Obs w' (fun q => n0 ≤ q ∧ q < w'.heap.size) A os) ∨ ((∀ k, ¬ Good L k) ∧ e = errPanic 170))
set_option maxRecDepth 100000 in
set_option maxHeartbeats 8000000 in
theorem Parse1_any (A : Option Addr) (L : List Int) (c pb0 : Nat) (hL : L.length ≤ 65536) (hc : L.length ≤ c) (hc2 : c ≤ maxLen) (hb : Bytes L) (w : World) (hcell : w.cell? ⟨pb0, 0, none⟩ = some (.slice A L.length c)) (hpb : pb0 < w.heap.size) (hl : LieQ byV 1 w (· < w.heap.size) A L) :
    Calls Try.prog 25 #[.pointer (some ⟨pb0, 0, none⟩)] w (ParseEnd L w.heap.size w) := by
  have HLB := hidd (show ∀ W, Below w.heap.size w W → LieQ byV 1 W (· < W.heap.size) A L from fun W h => hl.below h)
  have HSQ := hidd (fun bb => objects1_in (6 - 1) (by omega) bb A L c (by omega) hc hc2 hb)
  clear hl hb hc hc2
  have hL2 : ((L.length : Nat) : Int) ≤ 65536 := by omega
  refine (callsIn_wide (n := 6)).1 ?_
  refine callsIn_of_wp_marks Try.func25 rfl trivial ?_ rfl
  simp only [Try.ntmps25, List.size_toArray, List.length_cons, List.length_nil, Nat.reduceAdd, Nat.reduceSub, Array.replicate_succ, Array.replicate_zero, List.push_toArray, List.append_toArray, List.nil_append, List.cons_append]
  gi_wp2_with fail
  refine wpIn_wide.2 (wp_scope_straight ((wpIn_wide (n := 6)).1 ?_))
  gi_wp2_with (first | (refine ⟨trivial, ?_⟩; gi_at_call 19; refine (callsIn_wide.2 (need_yes _ _)).mono ?_; rintro e w1 ⟨rfl, rfl⟩) | (refine ⟨trivial, ?_⟩; gi_at_call 26; refine (callsIn_wide.2 (objects_any _ _ _ _)).mono ?_; rintro e w1 ⟨rfl, rfl⟩))
  refine wpIn_label ?_
  simp only [Exit.then]
  go_at_K
  gi_wp2_with (first | (refine ⟨trivial, ?_⟩; gi_at_call 26; refine (callsIn_wide.2 (objects_any _ _ _ _)).mono ?_; rintro e w1 ⟨rfl, rfl⟩))
  obtain ⟨W1, hW1⟩ : ∃ W1 : World, (w.alloc (.cells #[.slice none 0 0] 22)).alloc (.cells #[.slice A L.length c] 25) = W1 := ⟨_, rfl⟩
  have hs1 : W1.heap.size = w.heap.size + 2 := by rw [← hW1]; simp
  have hB1 : Below w.heap.size w W1 := by rw [← hW1]; (repeat' (first | (with_reducible exact Below.refl _ _) | (with_reducible assumption) | (with_reducible apply Below.setCell) | (with_reducible apply Below.alloc) | (with_reducible apply Below.drew) | (with_reducible apply below_drewN) | (with_reducible refine Below.trans ?_ (Below.mono (by assumption) ?_)) | omega | (simp; done) | (simp; omega)))
  have hx0 : Boxed W1 w.heap.size 22 (.slice none 0 0) := by rw [← hW1]; exact (Boxed.new w _ _).alloc _
  have hx1 : Boxed W1 (w.heap.size + 1) 25 (.slice A L.length c) := by
    rw [← hW1]
    have q := Boxed.new (w.alloc (.cells #[.slice none 0 0] 22)) 25 (.slice A L.length c)
    simpa using q
  rw [hW1]
  clear hW1
  refine wpIn_rangeFunc_taker (L := L) rfl (by omega) (gf := 40) (lb := #[.pointer (some ⟨w.heap.size + 1, 0, none⟩)]) rfl trivial (enters_of Try.func40 (by kernel_rfl) rfl) (encs := encO) (HSQ.out (w.heap.size + 1)) (fun _ => rfl)
    (I := fun st pre W => okTo L pre.length ∧ pre.map keyO = keysTo L pre.length ∧ pre.length ≤ 40 ∧ Below w.heap.size w W ∧ Boxed W (w.heap.size + 1) 25 (.slice A L.length c) ∧ TkOut st (w.heap.size + 1) ∧ RowAt w.heap.size st pre W ∧ ∀ pb lo, st = some (pb, lo) → w.heap.size ≤ pb)
    (X := fun c xs W => c = .exit 0 ∧ okTo L xs.length ∧ xs.length = 41 ∧ Below w.heap.size w W ∧ ∃ st, RowAt w.heap.size st xs W)
    ?new ?but ?read ?own ?ownx ?start (ob := fun x => .cells #[.int .i64 x.c, .int .i64 x.t, x.v] 32)
    (fun x q => { tmps := #[.pointer (some ⟨pb0, 0, none⟩), .slice none 0 0, .pointer (some ⟨w.heap.size, 0, none⟩), .pointer (some ⟨q, 0, none⟩), .slice A L.length c, .int .i64 (L.length : Int), .bool true, .tuple #[], .slice A L.length c,
      .func (.func 40) #[] #[.pointer (some ⟨w.heap.size + 1, 0, none⟩)], .agg #[.int .i64 x.c, .int .i64 x.t, x.v], undef, undef, undef, undef, undef, undef, undef, undef, undef, undef, undef, undef], defers := [] })
    ?assign ?body ?done ?stop ?bad
  case new =>
    rintro pre V V' pb ⟨h1, h2, h3, h4, h5, _, h6, _⟩ hb hp1 hp2
    have := h5.lt
    exact ⟨h1, h2, h3, below_step h4 hb, (hb.block _ h5.lt).trans h5, fun q l e => by cases e; omega, h6.new hb hp1 hp2, fun q l e => by cases e; have := h4.size; omega⟩
  case but =>
    rintro pb lo pre V V' ⟨h1, h2, h3, h4, h5, h6, h7, h8⟩ hb
    have hpb := h8 pb lo rfl
    exact ⟨h1, h2, h3, h4.trans (hb.below (by omega) h4.size), (hb.block _ h5.lt (h6 pb lo rfl).2.1).trans h5, h6, h7.but hb, h8⟩
  case read =>
    rintro st pre V ⟨h1, h2, h3, h4, h5, h6, h7, h8⟩
    exact ⟨h5.cell, HLB.out _ h4⟩
  case own =>
    rintro st pre V V' row ⟨h1, h2, h3, h4, h5, h6, h7, h8⟩ hg hr
    exact ⟨h1, h2, h3, h4.grown hg h4.size (fun k e => by have := (hr k e).1; omega), Boxed.turn h5 hg (fun r e => (hr r e).2), h6, h7.own hg (fun r e => (hr r e).2), h8⟩
  case ownx =>
    rintro c xs V V' row ⟨h0, h1, h2, h3, st, h4⟩ hg hr
    exact ⟨h0, h1, h2, h3.grown hg h3.size (fun k e => by have := (hr k e).1; omega), st, h4.own hg (fun r e => (hr r e).2)⟩
  case start =>
    exact ⟨okTo_zero L, by simp [keysTo], by simp, hB1, hx1, fun _ _ h => (by cases h), ⟨_, hx0, fun _ _ h => (by cases h), OwnL.nil _ _ _, fun r h => by simp [Value.ownBlock] at h, fun o ho => by simp at ho⟩, fun _ _ h => (by cases h)⟩
  case assign =>
    rintro l x V K ⟨A2, k2, hv⟩ hK
    obtain ⟨xc, xt, xv, xw⟩ := x
    dsimp only at hv
    subst hv
    simp only [encO]
    gi_wp2
    exact hK
  case body =>
    rintro l pb lo q pre x V hpb hpl hlq hxq ⟨g1, g2, g3, A2, k2, g4, g5⟩ ⟨h1, h2, h3, h4, h5, h6, ⟨v, hv, hp, hO, hr, hw⟩, h8⟩
    obtain ⟨i0, hi0, hz0, hz1, hz2⟩ := info_parts obInfo
    obtain ⟨xc, xt, xv, xw⟩ := x
    dsimp only at g4 hxq
    subst g4
    obtain ⟨A3, c3, rfl, _, _, _⟩ := OwnL.lie hO obV_len
    have y0 := hv.cell
    have x0 : V.cell? ⟨q, 0, none⟩ = some (.int .i64 xc) := by simp [World.cell?, hxq]
    have x1 : V.cell? ⟨q, 1, none⟩ = some (.int .i64 xt) := by simp [World.cell?, hxq]
    have x2 : V.cell? ⟨q, 2, none⟩ = some (.slice A2 xw.length k2) := by simp [World.cell?, hxq]
    have HV := hidd hv
    have HO := hidd hO
    have hzc : (Value.agg #[.int .i64 0, .int .i64 0, .slice none 0 0]).cells.size = 3 := by rfl
    have hmp : pre.length ≤ 40 := h3
    have HRA := hidd (fun wa v' => RowAt.append (po := w.heap.size) (pb := pb) (lo := lo) (pre := pre) (V := V) (wa := wa) (v' := v') (x := ⟨xc, xt, .slice A2 xw.length k2, xw⟩) (tmp := .cells #[.int .i64 xc, .int .i64 xt, .slice A2 xw.length k2] 32) hv hp hO hr hw (by have := (Array.getElem?_eq_some_iff.1 hxq).1; omega) (h8 pb lo rfl) hpl ⟨A2, k2, rfl, g5⟩)
    have HI := hidd (And.intro g1 (And.intro g2 (And.intro g3 (And.intro h2 (And.intro h4 (And.intro h5 h6))))))
    have hsV : w.heap.size ≤ V.heap.size := h4.size
    clear hv hp hO hr hw h8 h1 h2 h3 h4 h5 h6 g1 g2 g3 g5
    by_cases h41 : pre.length < 40
    · have hgt : ¬ (40 : Int) < (pre.length : Int) + 1 := by omega
      gi_wp2_with (gi_at_builtin; refine wpListIn_append_some rfl (.tmp 11) (.tmp 13) _ rfl w.heap.size 32 i0 _ 3 40 Try.underlying22 hi0 hz0 hz1 hz2 rfl (by decide) (.slice A3 pre.length c3) pre.length (rowOf obV pre) rfl (World.ownsRow.alloc HO.out _) (some ⟨V.heap.size, 0, none⟩) 1 1 [.int .i64 xc, .int .i64 xt, .slice A2 xw.length k2] rfl rfl (fun _ => ⟨_, rfl, World.news_of_block (cs := #[.int .i64 xc, .int .i64 xt, .slice A2 xw.length k2]) (t := 32) (fr := (0, 0)) (heap_alloc_new _ _)⟩) (by simp [Value.oneCell']) (by simp only [maxLen]; omega) (by omega) (by simp; omega) ?_; intro v' wa hown hgrow hat; have HRB := HRA.out wa v' hown hgrow hat; obtain ⟨hbx, g', cap', rfl⟩ := HRB.2.2.2.2.2.2; have HRC := hidd HRB; have z0 := hbx.cell; have z1 := hbx.frozen; clear HRB hbx hown hgrow hat)
      obtain ⟨r1, r2, r3, r4, r5, r6, _⟩ := HRC.out
      obtain ⟨g1, g2, g3, m2, m4, m5, m6⟩ := HI.out
      have hle := r4.size
      refine ⟨r3.from _, r2, _, r5, Nat.le_refl _, ?_, ?_, ?_, m4.trans r4, r6 _ _ _ m5 (by decide) (by omega), fun a b e => ?_, r1, fun a b e => ?_⟩
      · rw [List.length_append]; exact g1.one g2
      · rw [List.length_append, List.map_append, m2]; exact (by rw [List.map_cons, g3]; exact (keysTo_one L pre.length).symm)
      · rw [List.length_append]; show pre.length + 1 ≤ 40; omega
      · have := m6 pb lo rfl
        cases e; omega
      · cases e; omega
    · have hgt : (40 : Int) < (pre.length : Int) + 1 := by omega
      gi_wp2_with (gi_at_builtin; refine wpListIn_append_some rfl (.tmp 11) (.tmp 13) _ rfl w.heap.size 32 i0 _ 3 40 Try.underlying22 hi0 hz0 hz1 hz2 rfl (by decide) (.slice A3 pre.length c3) pre.length (rowOf obV pre) rfl (World.ownsRow.alloc HO.out _) (some ⟨V.heap.size, 0, none⟩) 1 1 [.int .i64 xc, .int .i64 xt, .slice A2 xw.length k2] rfl rfl (fun _ => ⟨_, rfl, World.news_of_block (cs := #[.int .i64 xc, .int .i64 xt, .slice A2 xw.length k2]) (t := 32) (fr := (0, 0)) (heap_alloc_new _ _)⟩) (by simp [Value.oneCell']) (by simp only [maxLen]; omega) (by omega) (by simp; omega) ?_; intro v' wa hown hgrow hat; have HRB := HRA.out wa v' hown hgrow hat; obtain ⟨hbx, g', cap', rfl⟩ := HRB.2.2.2.2.2.2; have HRC := hidd HRB; have z0 := hbx.cell; have z1 := hbx.frozen; clear HRB hbx hown hgrow hat)
      obtain ⟨r1, r2, r3, r4, r5, r6, _⟩ := HRC.out
      obtain ⟨g1, g2, g3, m2, m4, m5, m6⟩ := HI.out
      refine ⟨r3.from _, rfl, ?_, ?_, m4.trans r4, _, r1⟩
      · rw [List.length_append]; exact g1.one g2
      · rw [List.length_append]; show pre.length + 1 = 41; omega
  case done =>
    rintro D pl xs V hD hok hend ⟨h1, h2, h3, h4, h5, h6, ⟨v, hv, hp, hO, hr, hw⟩, h8⟩ hK
    obtain ⟨A3, c3, rfl, _, _, hlie⟩ := OwnL.lie hO obV_len
    have y0 := hv.cell
    have hle : (xs.length : Int) ≤ 40 := by omega
    have hp0 := OwnL.lt hO
    have HH := hidd (And.intro hok (And.intro hend (And.intro h2 (And.intro h3 (And.intro h4 (And.intro hlie (And.intro hO (And.intro hw hK))))))))
    clear hok hend h1 h2 h3 h4 h5 h6 hv hp hO hr hw h8 hlie hp0
    gi_wp2_with (refine ⟨trivial, ?_⟩; gi_at_call 19; refine (callsIn_wide.2 (need_yes _ _)).mono ?_; rintro e w1 ⟨rfl, rfl⟩)
    obtain ⟨hok, hend, h2, h3, h4, hlie, hO, hw, hK⟩ := HH.out
    refine ⟨by simp, .inl ⟨_, _, rfl, run_takeDeferred hK, ?_⟩⟩
    refine ⟨_, results_tmp rfl _ _ _, ?_⟩
    have hgb := grownBy_putObj' V D (.deferred none)
    have hrr : ∀ r, some D = some r → ∃ o : Obj, V.heap[r]? = some o ∧ o.isCells = false := fun r e => by cases e; exact ⟨_, hK, rfl⟩
    refine ⟨h4.grown hgb h4.size (fun k e => by cases e; omega), .inl ⟨xs.length, xs, A3, c3, ⟨hok, h3, hend⟩, h2, rfl, ?_, fun o ho => ?_⟩⟩
    · have hO2 := hO.turn hgb hrr
      obtain ⟨A4, c4, e4, _, _, hl4⟩ := OwnL.lie hO2 obV_len
      cases e4
      intro h0
      obtain ⟨ad, e, hb, hc⟩ := hl4 h0
      subst e
      exact ⟨ad, rfl, ⟨OwnL.from_ hO2 ad rfl, hb⟩, hc⟩
    · obtain ⟨A5, k5, e5, l5⟩ := hw o ho
      exact ⟨A5, k5, e5, (LieQ.own l5 hgb hrr).to (fun q hq => ⟨⟨by omega, Nat.lt_of_lt_of_le hq.2.1 hgb.size⟩, rfl⟩)⟩
  case stop =>
    rintro D c xs V hD ⟨rfl, hok, h41, hB, st, v, hv, hp, hO, hr, hw⟩ hK
    obtain ⟨A3, c3, rfl, _, _, hlie⟩ := OwnL.lie hO obV_len
    have y0 := hv.cell
    have hle : ¬ (xs.length : Int) ≤ 40 := by omega
    have HH := hidd (And.intro hok (And.intro h41 (And.intro hB hK)))
    clear hok hB hv hp hO hr hw hlie
    gi_wp2_with (refine ⟨trivial, ?_⟩; gi_at_call 19; refine (callsIn_wide.2 (need_no _ _)).mono ?_; rintro e w1 ⟨rfl, rfl⟩)
    obtain ⟨hok, h41, hB, hK⟩ := HH.out
    refine ⟨by simp, .inl ⟨_, _, rfl, run_takeDeferred hK, ?_⟩⟩
    have hgb := grownBy_putObj' V D (.deferred none)
    exact ⟨hB.grown hgb hB.size (fun k e => by cases e; omega), .inr ⟨fun k => no_good_many (k := 40) (fun j hj => hok j (by omega)) (hok 40 (by omega)).ne (Nat.le_refl _) k, rfl⟩⟩
  case bad =>
    rintro D pl xs V hD hok hne hnf ⟨h1, h2, h3, h4, h5, h6, h7, h8⟩ hK
    have HH := hidd (And.intro hok (And.intro hne (And.intro hnf (And.intro h4 hK))))
    clear hok hne hnf h1 h2 h3 h4 h5 h6 h7 h8
    obtain ⟨hok, hne, hnf, hB, hK⟩ := HH.out
    refine ⟨by simp, .inl ⟨_, _, rfl, run_takeDeferred hK, ?_⟩⟩
    have hgb := grownBy_putObj' V D (.deferred none)
    exact ⟨hB.grown hgb hB.size (fun k e => by cases e; omega), .inr ⟨fun k => no_good_stop hok hne hnf k, rfl⟩⟩
end Go.Proofs.Ytnneolkedekfbaa
