/- Objects: the kind styles: the words' map. -/
import Derived.Test.YtappmacnoopmkaaGreatObI
import Derived.Test.YtappmacnoopmkaaGreatObHY
import Derived.Maps.RangeWalk
import Derived.Maps.OwnOps
namespace Go.Proofs.YtappmacnoopmkaaGreat
set_option linter.unusedVariables false
open Go.RowKit Go.Maps

attribute [local go_sem] run_store_func
/-- the word that says a style; nought of none. -/
def styleW (x : Int) : Int := if x = 1 then 10 else if x = 2 then 18 else if x = 3 then 17 else 0
/-- the style that a word says. -/
def styleOf (n : Int) : Int := if n = 10 then 1 else if n = 18 then 2 else if n = 17 then 3 else 0
theorem styleW_ne (x : Int) : styleW x ≠ 0 ↔ inB 1 x 3 = true := by
  rw [inB_iff]
  unfold styleW
  split
  · subst x; simp
  · split
    · subst x; simp
    · split
      · subst x; simp
      · simp; omega
theorem styleOf_in (n : Int) : 0 ≤ styleOf n ∧ styleOf n ≤ 3 := by
  unfold styleOf
  split <;> (try split) <;> (try split) <;> omega
theorem styleOf_hit (x n : Int) (h : styleW x = n) (hx : inB 1 x 3 = true) : styleOf n = x := by
  rw [inB_iff] at hx
  have : x = 1 ∨ x = 2 ∨ x = 3 := by omega
  rcases this with rfl | rfl | rfl <;> subst h <;> rfl
theorem styleOf_none (n : Int) (h1 : styleW 1 ≠ n) (h2 : styleW 2 ≠ n) (h3 : styleW 3 ≠ n) : styleOf n = 0 := by
  have e1 : styleW 1 = 10 := rfl
  have e2 : styleW 2 = 18 := rfl
  have e3 : styleW 3 = 17 := rfl
  rw [e1] at h1; rw [e2] at h2; rw [e3] at h3
  unfold styleOf
  rw [if_neg (by omega), if_neg (by omega), if_neg (by omega)]
theorem keyStyle : Keyed Tryz.prog 28 := int_keyed Tryz.underlying28
theorem zeroWord (w : World) : (zeroValue 2).run Tryz.prog w = .ok (.int .i64 0) w := by kernel_rfl
def styleD : DataW Unit := (((DataW.map []).put (.int .i64 1) (.lit (.int .i64 10))).put (.int .i64 2) (.lit (.int .i64 18))).put (.int .i64 3) (.lit (.int .i64 17))
theorem lit_ne {a b : Int} (h : a ≠ b) : (Lit.int .i64 a) ≠ (Lit.int .i64 b) := fun e => h (by cases e; rfl)
theorem isKeyI (a : Int) : WideAt.IsKeyLit (Lit.int .i64 a) := trivial
theorem style_at (x : Int) (z : DataW Unit) : styleD.atKey (.int .i64 x) z = if inB 1 x 3 = true then .lit (.int .i64 (styleW x)) else z := by
  unfold styleD
  by_cases h3 : x = 3
  · subst h3
    rw [atKey_put_same ((isMap_empty.put _ _).put _ _) (isKeyI 3)]; rfl
  · rw [atKey_put_other (lit_ne h3)]
    by_cases h2 : x = 2
    · subst h2
      rw [atKey_put_same (isMap_empty.put _ _) (isKeyI 2)]; rfl
    · rw [atKey_put_other (lit_ne h2)]
      by_cases h1 : x = 1
      · subst h1
        rw [atKey_put_same isMap_empty (isKeyI 1)]; rfl
      · rw [atKey_put_other (lit_ne h1), if_neg (by rw [inB_iff]; omega)]
        rfl
theorem style_has (x : Int) : has styleD (.int .i64 x) = inB 1 x 3 := by
  unfold styleD
  by_cases h3 : x = 3
  · subst h3
    rw [has_put_same ((isMap_empty.put _ _).put _ _) (isKeyI 3)]; rfl
  · rw [has_put_other (lit_ne h3)]
    by_cases h2 : x = 2
    · subst h2
      rw [has_put_same (isMap_empty.put _ _) (isKeyI 2)]; rfl
    · rw [has_put_other (lit_ne h2)]
      by_cases h1 : x = 1
      · subst h1
        rw [has_put_same isMap_empty (isKeyI 1)]; rfl
      · rw [has_put_other (lit_ne h1)]
        have : inB 1 x 3 = false := by cases h : inB 1 x 3; rfl; rw [inB_iff] at h; omega
        rw [this]
        rfl
/-- a literal's entry. -/
theorem wpList_insert_own {P : Program} (w : World) {ops : Array Oper} {rest : List Oper} {o : Oper} {a : Act} {Q : Exit → Act → World → Prop}
    (hg : o.guard = none) (m x v : Operand) (t : TypeId) (hop : o.op = Op.insert t m x v) (k e : TypeId) (K : Keyed P k) (ht : P.underlying t = some (.map k e)) (b n : Nat) (D : DataW Unit)
    (hm : a.eval m = .map (some b)) (hown : w.ownsMap P k (plainElem P e) b n D) (hn : n < maxLen) (key val : Value) (kl : Lit) (hx : a.eval x = key) (hv : a.eval v = val) (hkey : keyOf P k key = some kl)
    (d : DataW Unit) (hval : plainElem P e val = some (d, []))
    (hK : ∀ w', w'.ownsMap P k (plainElem P e) b (n + 1) (D.put kl d) → w.grownBy w' (some b) → wpList P ops Q rest (a.put o.dst undef) w') : wpList P ops Q (o :: rest) a w := by
  refine wpList_plain hg fun K' hK' => ?_
  obtain ⟨w', hrun, r1, r2⟩ := hown.update K ht hn hkey hval
  unfold Oper.wp
  simp [execOp, hop, hm, hx, hv, hrun, Result.andThen]
  exact hK' _ _ (hK w' r1 r2)
/-- the words' map, new. -/
def StyleMap (b : Nat) (w : World) : Prop := w.ownsMap Tryz.prog 28 (plainElem Tryz.prog 2) b 3 styleD
theorem StyleMap.below {b : Nat} {w w' : World} (h : StyleMap b w) (hb : Below w.heap.size w w') : StyleMap b w' := h.kept (row := none) ⟨hb.os, hb.tape, hb.output, hb.size, fun k hk _ => hb.block k hk⟩ (by simp)
set_option maxRecDepth 100000 in
set_option maxHeartbeats 2000000 in
theorem styleWords_any (w : World) : Calls Tryz.prog 119 #[] w fun e w' => ∃ b, e = .returned (.map (some b)) ∧ StyleMap b w' ∧ w.heap.size ≤ b ∧ Below w.heap.size w w' := by
  have hmm := @run_makeMap Tryz.prog
  have L2 := hidd (show 2 < maxLen by decide)
  have L1 := hidd (show 1 < maxLen by decide)
  have L0 := hidd (show 0 < maxLen by decide)
  have hown0 : (w.alloc (.map #[] 0)).ownsMap Tryz.prog 28 (plainElem (H := Unit) Tryz.prog 2) w.heap.size 0 (.map []) := World.ownsMap_made w _ _ _
  have wf1 : (Lit.int .i64 1).wf = true := by decide
  have wf2 : (Lit.int .i64 2).wf = true := by decide
  have wf3 : (Lit.int .i64 3).wf = true := by decide
  have v1 : (Lit.int .i64 10).wf = true := by decide
  have v2 : (Lit.int .i64 18).wf = true := by decide
  have v3 : (Lit.int .i64 17).wf = true := by decide
  have HO0 := hidd hown0
  have hb0 := hidd (below_new (Below.refl w.heap.size w) (.map #[] 0))
  clear hown0
  go_enter Tryz.func119, Tryz.ntmps119
  go_wp2_with (first
    | (refine wpList_insert_own _ rfl _ _ _ 153 rfl 28 2 keyStyle Tryz.underlying153 w.heap.size 2 _ rfl HO2.out L2.out _ _ _ rfl rfl (keyOf_int_mk Tryz.underlying28 wf3) _ (plainElem_int Tryz.underlying2 v3) ?_; intro w3 hown3 hg3)
    | (refine wpList_insert_own _ rfl _ _ _ 153 rfl 28 2 keyStyle Tryz.underlying153 w.heap.size 1 _ rfl HO1.out L1.out _ _ _ rfl rfl (keyOf_int_mk Tryz.underlying28 wf2) _ (plainElem_int Tryz.underlying2 v2) ?_; intro w2 hown2 hg2; have HO2 := hidd hown2; clear hown2)
    | (refine wpList_insert_own _ rfl _ _ _ 153 rfl 28 2 keyStyle Tryz.underlying153 w.heap.size 0 _ rfl HO0.out L0.out _ _ _ rfl rfl (keyOf_int_mk Tryz.underlying28 wf1) _ (plainElem_int Tryz.underlying2 v1) ?_; intro w1 hown1 hg1; have HO1 := hidd hown1; clear hown1))
  go_ret
  have z0 : (w.alloc (.map #[] 0)).heap.size = w.heap.size + 1 := by simp
  have s1 := hg1.size
  have s2 := hg2.size
  have b1 := hb0.out.grown hg1 (by omega) (fun k hk => by cases hk; exact Nat.le_refl _)
  have b2 := b1.grown hg2 (by omega) (fun k hk => by cases hk; exact Nat.le_refl _)
  have b3 := b2.grown hg3 (by omega) (fun k hk => by cases hk; exact Nat.le_refl _)
  exact ⟨_, rfl, hown3, Nat.le_refl _, b3⟩
/-- looked up. -/
theorem style_look (b : Nat) (w : World) (h : StyleMap b w) (x : Int) (hx : -9223372036854775808 ≤ x ∧ x ≤ 9223372036854775807) : (Instr.lookup 153 (.map (some b)) (.int .i64 x) false).run Tryz.prog w = .ok (.int .i64 (styleW x)) w := by
  have wf : (Lit.int .i64 x).wf = true := by
    simp only [Lit.wf, Bool.and_eq_true, decide_eq_true_eq]
    exact ⟨by have : IntKind.i64.min = -9223372036854775808 := by decide
              omega, by have : IntKind.i64.max = 9223372036854775807 := by decide
                        omega⟩
  obtain ⟨c, hrun, hat, _⟩ := World.ownsMap.lookup_int h keyStyle Tryz.underlying153 Tryz.underlying2 (zeroWord w) (keyOf_int_mk Tryz.underlying28 wf)
  rw [style_at] at hat
  have : c = styleW x := by
    split at hat
    · cases hat; rfl
    · rename_i hn
      cases hat
      by_cases h0 : styleW x = 0
      · exact h0.symm
      · exact absurd ((styleW_ne x).1 h0) hn
  rw [hrun, this]
/-- may it be said? -/
def mayY (x : Int) : Bool := inB 1 x 3
set_option maxHeartbeats 2000000 in
theorem mayY_any (x : Int) (hx : -9223372036854775808 ≤ x ∧ x ≤ 9223372036854775807) (w : World) : Calls Tryz.prog 118 #[.int .i64 x] w fun e w' => e = .returned (.bool (mayY x)) ∧ Below w.heap.size w w' := by
  have CW := hidd (fun W => styleWords_any W)
  have CL := hidd (fun b W h => style_look b W h x hx)
  have HY := hidd (styleW_ne x)
  unfold mayY
  generalize styleW x = c at *
  generalize inB 1 x 3 = M at *
  clear hx
  by_cases h0 : c = 0
  · have hM : M = false := by cases M; rfl; exact absurd h0 (HY.out.2 rfl)
    subst h0 hM
    go_enter Tryz.func118, Tryz.ntmps118
    go_wp2_with fail
    refine (CW.out _).mono ?_
    rintro e w1 ⟨b, rfl, hm, hb, hB⟩
    have hl := CL.out _ _ hm
    have HB := hidd hB
    clear hm hb hB
    go_wp2_with fail
    go_ret
    exact ⟨by first | rfl | simp, by have q := HB.out; (repeat' (first | (with_reducible exact Below.refl _ _) | (with_reducible assumption) | (with_reducible apply Below.setCell) | (with_reducible apply Below.alloc) | (with_reducible apply Below.drew) | (with_reducible apply below_drewN) | (with_reducible refine Below.trans ?_ (Below.mono (by assumption) ?_)) | omega | (simp; done) | (simp; omega)))⟩
  · have hM : M = true := HY.out.1 h0
    subst hM
    go_enter Tryz.func118, Tryz.ntmps118
    go_wp2_with fail
    refine (CW.out _).mono ?_
    rintro e w1 ⟨b, rfl, hm, hb, hB⟩
    have hl := CL.out _ _ hm
    have HB := hidd hB
    clear hm hb hB
    go_wp2_with fail
    go_ret
    exact ⟨by first | rfl | simp [h0], by have q := HB.out; (repeat' (first | (with_reducible exact Below.refl _ _) | (with_reducible assumption) | (with_reducible apply Below.setCell) | (with_reducible apply Below.alloc) | (with_reducible apply Below.drew) | (with_reducible apply below_drewN) | (with_reducible refine Below.trans ?_ (Below.mono (by assumption) ?_)) | omega | (simp; done) | (simp; omega)))⟩
set_option maxHeartbeats 2000000 in
theorem objY_any (x : Int) (hx : -9223372036854775808 ≤ x ∧ x ≤ 9223372036854775807) (w : World) : Calls Tryz.prog 120 #[.int .i64 x] w (ObjEnd 8 1 [styleW x] w) := by
  have CL := hidd (fun b W h => style_look b W h x hx)
  generalize styleW x = c at *
  obtain ⟨W1, hW1⟩ : ∃ W1, (w.alloc (.cells #[.int .i64 0, .int .i64 0, .slice none 0 0] 42)) = W1 := ⟨_, rfl⟩
  have hz1 : W1.heap.size = w.heap.size + 1 := by rw [← hW1]; simp
  have hb1 : Below w.heap.size w W1 := by rw [← hW1]; (repeat' (first | (with_reducible exact Below.refl _ _) | (with_reducible assumption) | (with_reducible apply Below.setCell) | (with_reducible apply Below.alloc) | (with_reducible apply Below.drew) | (with_reducible apply below_drewN) | (with_reducible refine Below.trans ?_ (Below.mono (by assumption) ?_)) | omega | (simp; done) | (simp; omega)))
  have g0 : W1.cell? ⟨w.heap.size, 0, none⟩ = some (.int .i64 0) := by rw [← hW1]; simp [go_sem]
  have h0 : W1.frozen? ⟨w.heap.size, 0, none⟩ = false := by rw [← hW1]; simp [go_sem]
  have g1 : W1.cell? ⟨w.heap.size, 1, none⟩ = some (.int .i64 0) := by rw [← hW1]; simp [go_sem]
  have h1 : W1.frozen? ⟨w.heap.size, 1, none⟩ = false := by rw [← hW1]; simp [go_sem]
  have g2 : W1.cell? ⟨w.heap.size, 2, none⟩ = some (.slice none 0 0) := by rw [← hW1]; simp [go_sem]
  have h2 : W1.frozen? ⟨w.heap.size, 2, none⟩ = false := by rw [← hW1]; simp [go_sem]
  have CW := hidd (styleWords_any W1)
  have HB1 := hidd hb1
  have HW1 := hidd hW1
  clear hW1 hb1 hx
  unfold ObjEnd
  go_enter Tryz.func120, Tryz.ntmps120
  go_wp2_with fail
  rw [HW1.out]
  refine CW.out.mono ?_
  rintro e w2 ⟨b, rfl, hm, hb, hB⟩
  have hl := CL.out _ _ hm
  have HB2 := hidd (below_step HB1.out hB)
  have HL := hidd (lie_new w2 [c] 2 _ rfl (fun q => w.heap.size + 1 ≤ q ∧ q < w2.heap.size + 1) ⟨by have := hB.size; omega, by omega⟩)
  have hz2 := hB.size
  obtain ⟨bc, bf⟩ := bcell hB
  have zz : w.heap.size < W1.heap.size := by omega
  have p0 : w2.cell? ⟨w.heap.size, 0, none⟩ = some (.int .i64 0) := (bc _ _ zz).trans g0
  have q0 : w2.frozen? ⟨w.heap.size, 0, none⟩ = false := (bf _ _ zz).trans h0
  have p1 : w2.cell? ⟨w.heap.size, 1, none⟩ = some (.int .i64 0) := (bc _ _ zz).trans g1
  have q1 : w2.frozen? ⟨w.heap.size, 1, none⟩ = false := (bf _ _ zz).trans h1
  have p2 : w2.cell? ⟨w.heap.size, 2, none⟩ = some (.slice none 0 0) := (bc _ _ zz).trans g2
  have q2 : w2.frozen? ⟨w.heap.size, 2, none⟩ = false := (bf _ _ zz).trans h2
  clear hm hb hB bc bf g0 h0 g1 h1 g2 h2
  go_wp2_with fail
  refine (object_any _ _ _ _ _ _).mono ?_
  rintro e w3 ⟨rfl, hb3⟩
  have HB3 := hidd (below_step (below_new HB2.out (.cells #[.int .i64 c] 2)) hb3)
  have hz3 : w2.heap.size < w3.heap.size := by have := hb3.size; simp at this; omega
  have HL3 := hidd (HL.out.to (w' := w3) (p' := fun q => w.heap.size + 1 ≤ q ∧ q < w3.heap.size) (fun q hq => ⟨⟨hq.1, by omega⟩, hb3.block q (by simpa using hq.2)⟩))
  obtain ⟨bc, bf⟩ := bcell hb3
  have zz2 : w.heap.size < w2.heap.size := by omega
  have nc := fun (v : Nat) => (below_new (Below.refl w2.heap.size w2) (.cells #[.int .i64 c] 2)).cell (p := ⟨w.heap.size, v, none⟩) zz2
  have nf := fun (v : Nat) => (below_new (Below.refl w2.heap.size w2) (.cells #[.int .i64 c] 2)).frozen (p := ⟨w.heap.size, v, none⟩) zz2
  have r0 : w3.cell? ⟨w.heap.size, 0, none⟩ = some (.int .i64 0) := ((bc _ _ (by simp; omega)).trans (nc 0)).trans p0
  have s0 : w3.frozen? ⟨w.heap.size, 0, none⟩ = false := ((bf _ _ (by simp; omega)).trans (nf 0)).trans q0
  have r1 : w3.cell? ⟨w.heap.size, 1, none⟩ = some (.int .i64 0) := ((bc _ _ (by simp; omega)).trans (nc 1)).trans p1
  have s1 : w3.frozen? ⟨w.heap.size, 1, none⟩ = false := ((bf _ _ (by simp; omega)).trans (nf 1)).trans q1
  have r2 : w3.cell? ⟨w.heap.size, 2, none⟩ = some (.slice none 0 0) := ((bc _ _ (by simp; omega)).trans (nc 2)).trans p2
  have s2 : w3.frozen? ⟨w.heap.size, 2, none⟩ = false := ((bf _ _ (by simp; omega)).trans (nf 2)).trans q2
  clear hb3 bc bf nc nf p0 q0 p1 q1 p2 q2 hl
  go_wp2_with fail
  refine bodyPost_ret (v := .agg #[.int .i64 8, .int .i64 1, .slice (some ⟨w2.heap.size, 0, none⟩) 1 1]) (by simp [results, Tryz.results120, go_sem, *]) rfl ⟨by have q := HB3.out; (repeat' (first | (with_reducible exact Below.refl _ _) | (with_reducible assumption) | (with_reducible apply Below.setCell) | (with_reducible apply Below.alloc) | (with_reducible apply Below.drew) | (with_reducible apply below_drewN) | (with_reducible refine Below.trans ?_ (Below.mono (by assumption) ?_)) | omega | (simp; done) | (simp; omega))), some ⟨w2.heap.size, 0, none⟩, 1, rfl, ?_⟩
  exact (((HL3.out.low (p := ⟨w.heap.size, 0, none⟩) (by simp) _).low (p := ⟨w.heap.size, 1, none⟩) (by simp) _).low (p := ⟨w.heap.size, 2, none⟩) (by simp) _).to (fun q hq => ⟨⟨by omega, hq.2⟩, rfl⟩)
set_option maxHeartbeats 2000000 in
theorem styleOf_any (n : Int) (w : World) : Calls Tryz.prog 122 #[.int .i64 n] w fun e w' => e = .returned (.int .i64 (styleOf n)) ∧ Below w.heap.size w w' := by
  have CW := hidd (fun W => styleWords_any W)
  have HIT := hidd (fun x h1 h2 => styleOf_hit x n h1 h2)
  have MISS := hidd (fun h1 h2 h3 => styleOf_none n h1 h2 h3)
  generalize styleOf n = y at *
  go_enter Tryz.func122, Tryz.ntmps122
  go_wp2_with fail
  refine (CW.out _).mono ?_
  rintro e w1 ⟨b, rfl, hm, hb, hB⟩
  have HB := hidd hB
  have HM := hidd hm
  clear hm hB
  go_wp2_with (first
    | (at_range; refine wpList_range_own _ rfl _ 153 rfl 28 2 keyStyle Tryz.underlying153 _ b 3 styleD rfl HM.out ?_; intro w0 hrg0 hg0 hs0)
    | fail)
  go_frame
  have HBB := hidd hb
  have hz1 := HB.out.size
  have HG0 := hidd (show Below w.heap.size w w0 from HB.out.grown hg0 (by omega) (fun k hk => by cases hk))
  go_loopw [2] (fun s2 wr => s2 = .int .i64 0 ∧ ∃ (left : Lit → Bool) (cnt : Nat), wr.ranges Tryz.prog 28 (plainElem Tryz.prog 2) b w1.heap.size 3 styleD left cnt ∧ Below w.heap.size w wr ∧ ∀ x, inB 1 x 3 = true → left (.int .i64 x) = false → styleW x ≠ n)
    (fun _ wr => wr.rangeLeft b w1.heap.size)
  case atStart => exact ⟨by first | rfl | simp, _, _, hrg0, HG0.out, fun x hx h => by rw [style_has, hx] at h; cases h⟩
  case round =>
    obtain ⟨hs2, left, cnt, hrg, hgw, hno⟩ := hrel
    (try subst hs2)
    have HNO := hidd hno
    have HGW := hidd hgw
    have HRG := hidd hrg
    clear hno hgw hrg hrg0 hg0 hs0 hb
    go_wp2_with (first
      | (at_next; refine wpList_next_ranges_ii _ rfl _ rfl 28 2 .i64 .i64 keyStyle Tryz.underlying28 Tryz.underlying2 b w1.heap.size 3 styleD _ _ rfl HRG.out ?_ ?_)
      | fail)
    · intro _ hl0
      have hy : y = 0 := MISS.out (HNO.out 1 rfl (hl0 _)) (HNO.out 2 rfl (hl0 _)) (HNO.out 3 rfl (hl0 _))
      subst hy
      go_wp2_with fail
      go_ret
      exact ⟨by first | rfl | simp, HGW.out⟩
    · intro x c w2 cnt1 hwx hwc hlx hat hrg1 hlt hg1 hs1 hen
      have hin : inB 1 x 3 = true := by
        have := hat (.lit (.int .i64 99))
        rw [style_at] at this
        by_cases h : inB 1 x 3 = true
        · exact h
        · rw [if_neg h] at this
          have h2 := hat (.lit (.int .i64 98))
          rw [style_at, if_neg h] at h2
          rw [← this] at h2
          cases h2
      have hc : c = styleW x := by
        have := hat (.lit (.int .i64 0))
        rw [style_at, if_pos hin] at this
        cases this; rfl
      have hz : w.heap.size ≤ w1.heap.size := hz1
      have HG2 := hidd (show Below w.heap.size w w2 from HGW.out.grown hg1 (by have := HGW.out.size; omega) (fun k hk => by cases hk; exact hz))
      have HC := hidd hc
      have HIN := hidd hin
      have HR1 := hidd hrg1
      have HLT := hidd hlt
      clear hwx hwc hlx hat hrg1 hlt hg1 hs1 hin hc
      by_cases hcn : c = n
      · have hy : y = x := HIT.out x (by rw [← HC.out]; exact hcn) HIN.out
        subst hy
        go_wp2_with fail
        go_ret
        exact ⟨by first | rfl | simp, HG2.out⟩
      · go_wp2_with fail
        go_roundw
        case rel => exact ⟨by first | rfl | simp, _, cnt1, HR1.out, HG2.out, fun x' h1 h2 => by
          by_cases e : x' = x
          · subst e; rw [← HC.out]; exact hcn
          · refine HNO.out x' h1 ?_
            have h3 : (Lit.int .i64 x').sameKey (Lit.int .i64 x) = false := sameKey_ne (lit_ne e)
            rw [h3] at h2
            simpa using h2⟩
        case measure => rw [HR1.out.left_eq, HRG.out.left_eq]; exact HLT.out
set_option maxHeartbeats 2000000 in
theorem thingY_any (y0 y1 y2 y3 y4 y5 y6 : Int) (hy : ∀ y ∈ [y0, y1, y2, y3, y4, y5, y6], -9223372036854775808 ≤ y ∧ y ≤ 9223372036854775807) (w : World) : Calls Tryz.prog 121 #[.agg #[.int .i64 y0, .int .i64 y1, .int .i64 y2, .int .i64 y3, .int .i64 y4, .int .i64 y5, .int .i64 y6]] w fun e w' => e = .returned (.int .i64 (styleOf y0)) ∧ Below w.heap.size w w' := by
  clear hy
  have CS := hidd (fun W => styleOf_any y0 W)
  generalize styleOf y0 = s at *
  go_enter Tryz.func121, Tryz.ntmps121
  go_wp2_with fail
  refine (CS.out _).mono ?_
  rintro e w1 ⟨rfl, hB⟩
  have HB := hidd hB
  clear hB
  go_wp2_with fail
  go_ret
  exact ⟨by first | rfl | simp, by have q := HB.out; (repeat' (first | (with_reducible exact Below.refl _ _) | (with_reducible assumption) | (with_reducible apply Below.setCell) | (with_reducible apply Below.alloc) | (with_reducible apply Below.drew) | (with_reducible apply below_drewN) | (with_reducible refine Below.trans ?_ (Below.mono (by assumption) ?_)) | omega | (simp; done) | (simp; omega)))⟩
end Go.Proofs.YtappmacnoopmkaaGreat
