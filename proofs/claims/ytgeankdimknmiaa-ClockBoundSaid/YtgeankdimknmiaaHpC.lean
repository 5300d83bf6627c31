/- Heaps: small functions: which of two goes ahead; places found, noted, forgotten; is it there. -/
import Derived.Test.YtgeankdimknmiaaHpB
import Derived.Test.YtgeankdimknmiaaShelf
import Derived.Deep.LoopGhost
namespace Go.Proofs.Ytgeankdimknmiaa.Hp
set_option linter.unusedVariables false
open Go.RowKit Go.Maps Go.Proofs.Ytgeankdimknmiaa.Tp

set_option maxHeartbeats 1000000 in
theorem or2_any (b c : Nat) (x y r : Int) (hr : r = if x = 0 then y else x) (w : World) (hx : w.cell? ⟨b, 0, none⟩ = some (.int .i64 x)) (hy : w.cell? ⟨b, 1, none⟩ = some (.int .i64 y)) :
    Calls Try.prog 45 #[.slice (some ⟨b, 0, none⟩) 2 c] w fun e w' => e = .returned (.int .i64 r) ∧ w = w' := by
  subst hr
  by_cases h : x = 0
  · subst h
    by_cases h2 : y = 0
    · subst h2
      rw [if_pos rfl]
      go_enter Try.func45, Try.ntmps45
      go_wp2_with fail
      refine wp_loop_rounds 3 ?_
      iterate 3 (rw [rounds_succ]; go_wp2_with fail)
      go_ret
      exact ⟨rfl, rfl⟩
    · rw [if_pos rfl]
      go_enter Try.func45, Try.ntmps45
      go_wp2_with fail
      refine wp_loop_rounds 2 ?_
      iterate 2 (rw [rounds_succ]; go_wp2_with fail)
      go_ret
      exact ⟨rfl, rfl⟩
  · rw [if_neg h]
    go_enter Try.func45, Try.ntmps45
    go_wp2_with fail
    refine wp_loop_rounds 1 ?_
    rw [rounds_succ]; go_wp2_with fail
    go_ret
    exact ⟨rfl, rfl⟩
/-- what tells which goes ahead. -/
def turnZ (x y : It) : Int := if ordZ (kN x * kD y) (kN y * kD x) = 0 then Lib.compareInt (tN x) (tN y) else ordZ (kN x * kD y) (kN y * kD x)
theorem turnZ_lt (x y : It) : turnZ x y < 0 ↔ Lt x y := by
  unfold turnZ ordZ Lt Lib.compareInt
  by_cases h1 : kN x * kD y < kN y * kD x
  · simp [h1]
  · by_cases h2 : kN x * kD y = kN y * kD x
    · rw [h2]
      by_cases h3 : tN x < tN y
      · simp [h3]
      · by_cases h4 : tN y < tN x <;> simp [h3, h4]
    · simp [h1, h2]
/-- an item that may be: its key is a fraction of words. -/
structure OkI (x : It) : Prop where
  n0 : -9223372036854775808 ≤ kN x
  n1 : kN x ≤ 9223372036854775807
  d0 : -9223372036854775808 ≤ kD x
  d1 : kD x ≤ 9223372036854775807
  r : rightB (kN x) (kD x) = true
  i0 : 0 ≤ iD x
  i1 : iD x ≤ 4611686018427387904
  t0 : 0 ≤ tN x
  t1 : tN x ≤ 1000000
theorem OkI.pos {x : It} (h : OkI x) : 0 < kD x := by
  have := h.r
  simp [rightB] at this
  omega
set_option maxHeartbeats 1000000 in
theorem inTurn_any (x y : It) (hx : OkI x) (hy : OkI y) (w : World) :
    Calls Try.prog 30 #[.agg #[.int .i64 (iD x), .int .i64 (kN x), .int .i64 (kD x), .int .i64 (tN x)], .agg #[.int .i64 (iD y), .int .i64 (kN y), .int .i64 (kD y), .int .i64 (tN y)]] w fun e w' => e = .returned (.int .i64 (turnZ x y)) ∧ Below w.heap.size w w' := by
  have c1 := hidd (fun W => cmp_any (kN x) (kD x) (kN y) (kD y) hx.n0 hx.n1 hx.d0 hx.d1 hy.n0 hy.n1 hy.d0 hy.d1 W)
  have e1 : cmpR (kN x) (kD x) (kN y) (kD y) = (ordZ (kN x * kD y) (kN y * kD x), 0) := by simp [cmpR, hx.r, hy.r]
  rw [e1] at c1
  have c2 := hidd (fun a b W => Try.cmp_Compare_int a b W)
  have c3 := hidd (fun b c a d r hr W => or2_any b c a d r hr W)
  have hR : Hid (turnZ x y = if ordZ (kN x * kD y) (kN y * kD x) = 0 then Lib.compareInt (tN x) (tN y) else ordZ (kN x * kD y) (kN y * kD x)) := rfl
  clear e1 hx hy
  generalize turnZ x y = R at *
  generalize ordZ (kN x * kD y) (kN y * kD x) = z at *
  generalize iD x = a0 at *
  generalize kN x = a1 at *
  generalize kD x = a2 at *
  generalize tN x = a3 at *
  generalize iD y = b0 at *
  generalize kN y = b1 at *
  generalize kD y = b2 at *
  generalize tN y = b3 at *
  go_enter Try.func30, Try.ntmps30
  go_wp2_with fail
  refine (c1.out _).mono ?_
  rintro E w1 ⟨rfl, hb⟩
  obtain ⟨bc, bf⟩ := bcell hb
  have z2 : w.heap.size + 1 < w1.heap.size := by have := hb.size; simp at this; omega
  go_wp2_with fail
  refine (c2.out _ _ _).mono ?_
  rintro E w2 ⟨rfl, rfl⟩
  go_wp2_with fail
  refine (c3.out _ 2 z (Lib.compareInt a3 b3) R hR.out _ (by simp [go_sem]) (by simp [go_sem])).mono ?_
  rintro E w3 ⟨rfl, rfl⟩
  go_wp2_with fail
  go_ret
  exact ⟨rfl, by (repeat' (first | (with_reducible exact Below.refl _ _) | (with_reducible assumption) | (with_reducible apply Below.setCell) | (with_reducible apply Below.alloc) | (with_reducible apply Below.drew) | (with_reducible apply below_drewN) | (with_reducible refine Below.trans ?_ (Below.mono (by assumption) ?_)) | omega | (simp; done) | (simp; omega)))⟩

set_option maxHeartbeats 1000000 in
theorem isNone_no (w : World) : Calls Try.prog 43 #[.pointer none] w fun e w' => e = .returned (.bool true) ∧ w = w' := by
  go_enter Try.func43, Try.ntmps43
  go_wp2_with fail
  go_ret
  exact ⟨rfl, rfl⟩
theorem run_eqmapIn (w : World) (d : Nat) (p : Option Nat) : (Op.equalIn (d + 1) 83 (.map p) (.map none)).run Try.prog w = .ok p.isNone w := by
  cases p <;> simp [Op.equalIn, run_underlying Try.underlying83]
theorem run_eqmap (w : World) (p : Option Nat) : (binOp .eql 83 (.map p) (.map none)).run Try.prog w = .ok (.bool p.isNone) w := by
  simp only [binOp]
  simp [show Op.equal 83 (.map p) (.map none) = Op.equalIn (9999 + 1) 83 (.map p) (.map none) from rfl, run_eqmapIn w 9999 p]
set_option maxHeartbeats 1000000 in
theorem isNone_at (b : Nat) (p : Option Nat) (w : World) (hc : w.cell? ⟨b, 0, none⟩ = some (.map p)) : Calls Try.prog 43 #[.pointer (some ⟨b, 0, none⟩)] w fun e w' => e = .returned (.bool p.isNone) ∧ w = w' := by
  have hq := run_eqmap
  go_enter Try.func43, Try.ntmps43
  go_wp2_with fail
  go_ret
  exact ⟨rfl, rfl⟩

theorem wfK {x : Int} (h0 : -9223372036854775808 ≤ x) (h1 : x ≤ 9223372036854775807) : (Lit.int .i64 x).wf = true := by
  simp only [Lit.wf, Bool.and_eq_true, decide_eq_true_eq]
  have a : IntKind.i64.min = -9223372036854775808 := rfl
  have b : IntKind.i64.max = 9223372036854775807 := rfl
  omega
theorem keyOfK {x : Int} (h0 : -9223372036854775808 ≤ x) (h1 : x ≤ 9223372036854775807) : keyOf Try.prog 2 (.int .i64 x) = some (key x) := keyOf_int_mk Try.underlying2 (wfK h0 h1)
theorem zeroIntK (w : World) : (zeroValue 3).run Try.prog w = .ok (.int .i64 0) w := by kernel_rfl
theorem MapK.look2 {w : World} {mb : Nat} {D : DataW Unit} (h : MapK w mb D) {x : Int} (h0 : -9223372036854775808 ≤ x) (h1 : x ≤ 9223372036854775807) :
    (Instr.lookup 83 (.map (some mb)) (.int .i64 x) true).run Try.prog w = .ok (.tuple #[.int .i64 (look D x), .bool (In D x)]) w := by
  obtain ⟨v, ps, hr, hv⟩ := World.ownsMap.look_ok h.own keysK Try.underlying83 (zeroIntK w) (plainElem_int Try.underlying3 (by decide)) (keyOfK h0 h1)
  obtain ⟨c, rfl, hc, hw⟩ := plainElem_int_inv Try.underlying3 hv
  have h2 := congrArg Prod.fst hc
  simp only at h2
  have h3 : look D x = c := by unfold look; rw [h2]
  rw [h3]
  exact hr
set_option maxHeartbeats 1000000 in
theorem find_any (mb : Nat) (D : DataW Unit) (x : Int) (h0 : -9223372036854775808 ≤ x) (h1 : x ≤ 9223372036854775807) (w : World) (hm : MapK w mb D) :
    Calls Try.prog 35 #[.map (some mb), .int .i64 x] w fun e w' => e = .returned (.tuple #[.int .i64 (look D x), .bool (In D x)]) ∧ w = w' := by
  have hl := hm.look2 h0 h1
  clear hm
  generalize look D x = c at *
  generalize In D x = B at *
  go_enter Try.func35, Try.ntmps35
  go_wp2_with fail
  go_ret2
  exact ⟨rfl, rfl⟩
set_option maxHeartbeats 1000000 in
theorem note_any (mb : Nat) (D : DataW Unit) (x n : Int) (h0 : -9223372036854775808 ≤ x) (h1 : x ≤ 9223372036854775807) (h2 : 0 ≤ n) (h3 : n ≤ 1000000) (hs : Maps.size D < 1000000) (w : World) (hm : MapK w mb D) :
    Calls Try.prog 59 #[.map (some mb), .int .i64 x, .int .i64 n] w fun e w' => e = .returned (.tuple #[]) ∧ MapK w' mb (D.put (key x) (.lit (.int .i64 n))) ∧ w.mapTurned w' mb := by
  have WF := hidd (wfK (x := n) (by omega) (by omega))
  have KO := hidd (keyOfK h0 h1)
  have HO := hidd hm.own
  have hmax : Hid (Maps.size D < maxLen) := hidd (by unfold maxLen; omega)
  clear hm hs
  go_enter Try.func59, Try.ntmps59
  go_wp2_with (first | (at_mapUpdate; refine wpList_mapUpdate_in _ rfl _ _ _ 83 rfl 2 3 keysK Try.underlying83 _ mb (Maps.size D) _ rfl HO.out hmax.out _ _ _ rfl rfl KO.out _ [] (plainElem_int Try.underlying3 WF.out) ?_; intro w3 hown3 hg3; have HO3 := hidd hown3; have HG3 := hidd hg3; clear hown3 hg3) | fail)
  go_end0
  exact ⟨rfl, ⟨_, HO3.out⟩, HG3.out⟩
set_option maxHeartbeats 1000000 in
theorem forget_any (mb : Nat) (D : DataW Unit) (x : Int) (h0 : -9223372036854775808 ≤ x) (h1 : x ≤ 9223372036854775807) (w : World) (hm : MapK w mb D) :
    Calls Try.prog 60 #[.map (some mb), .int .i64 x] w fun e w' => e = .returned (.tuple #[]) ∧ MapK w' mb (D.del (key x)) ∧ w.mapTurned w' mb := by
  have KO := hidd (keyOfK h0 h1)
  have HO := hidd hm.own
  clear hm
  go_enter Try.func60, Try.ntmps60
  go_wp2_with (first | (at_delete; refine wpList_delete_own _ rfl _ _ 83 2 rfl 3 keysK Try.underlying83 _ mb (Maps.size D) _ rfl HO.out _ _ rfl KO.out ?_; intro w3 hown3 hg3; have HO3 := hidd hown3; have HG3 := hidd hg3; clear hown3 hg3) | fail)
  go_end0
  exact ⟨rfl, ⟨_, HO3.out⟩, HG3.out⟩
end Go.Proofs.Ytgeankdimknmiaa.Hp
