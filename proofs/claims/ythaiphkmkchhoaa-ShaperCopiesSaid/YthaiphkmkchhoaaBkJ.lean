/- Buckets: When. -/
import Derived.Test.YthaiphkmkchhoaaBkI
namespace Go.Proofs.Ythaiphkmkchhoaa
open Go.RowKit Go.Shelf
open Go.Proofs.Ythaiphkmkchhoaa.Tp (wpIn_held_round)
set_option linter.unusedVariables false
attribute [local go_sem] Oper.semAt_some
theorem bwhen_ask {b : Nat} {p r u m l : Int} {s : BM.St} {w : World} (hB : BktAt w b p r u m l s) (hr : rightB p r u m l = true) (hs : BM.Ok u m s) (n z : Int) (hn : BM.askB s n = false) :
    Calls Try.prog 37 #[.pointer (some ⟨b, 0, none⟩), .int .i64 n, .int .i64 z] w fun e w' => e = .returned (.tuple #[.int .i64 0, .int .i64 2]) ∧ Below w.heap.size w w' := by
  have hb := rightB_iff hr
  have cc := hidd (fun W (h : BktAt W b p r u m l s) => bcheck_any h (by omega) hs.2.1 n)
  rw [hn] at cc
  have HB := hidd hB
  have hlt := hB.lt
  clear hr hs hn hb hB
  go_enter Try.func37, Try.ntmps37
  go_wp2_with fail
  refine wp_scope_fwd 0 (fun a' w' => Below w.heap.size w w' ∧ ∃ v0 v1 v2 v3 v4 v5 v6 v7 v8 v9 v10 v11 v12 v13 v14 v15 v16 v17 v18 v19 v20 v21 v22 v23 v24 v25 v26 v27 v28 v29 v30 v31 v32 v33 v34 v35 v36 : Value, a' = { tmps := #[v0, v1, v2, v3, v4, v5, v6, v7, v8, .int .i64 2, v9, v10, v11, v12, v13, v14, v15, v16, v17, v18, v19, v20, v21, v22, v23, v24, v25, v26, v27, v28, v29, v30, v31, v32, v33, v34, v35, v36], defers := [] }) rfl ?_ ?_
  case refine_2 =>
    rintro a' w' ⟨hb, v0, v1, v2, v3, v4, v5, v6, v7, v8, v9, v10, v11, v12, v13, v14, v15, v16, v17, v18, v19, v20, v21, v22, v23, v24, v25, v26, v27, v28, v29, v30, v31, v32, v33, v34, v35, v36, rfl⟩
    go_wp2_with fail
    (try rw [Exit.noGoto_ret])
    go_ret2
    exact ⟨rfl, hb⟩
  go_wp2_with fail
  refine (cc.out _ (HB.out.below (by (repeat' (first | (with_reducible exact Below.refl _ _) | (with_reducible assumption) | (with_reducible apply Below.setCell) | (with_reducible apply Below.alloc) | (with_reducible apply Below.drew) | (with_reducible apply below_drewN) | (with_reducible refine Below.trans ?_ (Below.mono (by assumption) ?_)) | omega | (simp; done) | (simp; omega)))))).mono ?_
  rintro e w1 ⟨rfl, rfl⟩
  go_wp2_with fail
  go_step3
  exact ⟨rfl, by (repeat' (first | (with_reducible exact Below.refl _ _) | (with_reducible assumption) | (with_reducible apply Below.setCell) | (with_reducible apply Below.alloc) | (with_reducible apply Below.drew) | (with_reducible apply below_drewN) | (with_reducible refine Below.trans ?_ (Below.mono (by assumption) ?_)) | omega | (simp; done) | (simp; omega))), _, _, _, _, _, _, _, _, _, _, _, _, _, _, _, _, _, _, _, _, _, _, _, _, _, _, _, _, _, _, _, _, _, _, _, _, _, rfl⟩
theorem bwhen_not {b : Nat} {p r u m l : Int} {s : BM.St} {w : World} (hB : BktAt w b p r u m l s) (hr : rightB p r u m l = true) (hs : BM.Ok u m s) (n z : Int) (hn : BM.askB s n = true) (hz : BM.sizeB m l z = false) :
    Calls Try.prog 37 #[.pointer (some ⟨b, 0, none⟩), .int .i64 n, .int .i64 z] w fun e w' => e = .returned (.tuple #[.int .i64 0, .int .i64 220]) ∧ Below w.heap.size w w' := by
  have hb := rightB_iff hr
  have cc := hidd (fun W (h : BktAt W b p r u m l s) => bcheck_any h (by omega) hs.2.1 n)
  rw [hn] at cc
  have cs := hidd (fun W (h : BktAt W b p r u m l s) => isSize_any h (by omega) z)
  rw [hz] at cs
  have HB := hidd hB
  have hlt := hB.lt
  clear hr hs hn hb hB hz
  go_enter Try.func37, Try.ntmps37
  go_wp2_with fail
  refine wp_scope_fwd 0 (fun a' w' => Below w.heap.size w w' ∧ ∃ v0 v1 v2 v3 v4 v5 v6 v7 v8 v9 v10 v11 v12 v13 v14 v15 v16 v17 v18 v19 v20 v21 v22 v23 v24 v25 v26 v27 v28 v29 v30 v31 v32 v33 v34 v35 v36 : Value, a' = { tmps := #[v0, v1, v2, v3, v4, v5, v6, v7, v8, .int .i64 220, v9, v10, v11, v12, v13, v14, v15, v16, v17, v18, v19, v20, v21, v22, v23, v24, v25, v26, v27, v28, v29, v30, v31, v32, v33, v34, v35, v36], defers := [] }) rfl ?_ ?_
  case refine_2 =>
    rintro a' w' ⟨hb, v0, v1, v2, v3, v4, v5, v6, v7, v8, v9, v10, v11, v12, v13, v14, v15, v16, v17, v18, v19, v20, v21, v22, v23, v24, v25, v26, v27, v28, v29, v30, v31, v32, v33, v34, v35, v36, rfl⟩
    go_wp2_with fail
    (try rw [Exit.noGoto_ret])
    go_ret2
    exact ⟨rfl, hb⟩
  go_wp2_with fail
  refine (cc.out _ (HB.out.below (by (repeat' (first | (with_reducible exact Below.refl _ _) | (with_reducible assumption) | (with_reducible apply Below.setCell) | (with_reducible apply Below.alloc) | (with_reducible apply Below.drew) | (with_reducible apply below_drewN) | (with_reducible refine Below.trans ?_ (Below.mono (by assumption) ?_)) | omega | (simp; done) | (simp; omega)))))).mono ?_
  rintro e w1 ⟨rfl, rfl⟩
  go_wp2_with fail
  refine (cs.out _ (HB.out.below (by (repeat' (first | (with_reducible exact Below.refl _ _) | (with_reducible assumption) | (with_reducible apply Below.setCell) | (with_reducible apply Below.alloc) | (with_reducible apply Below.drew) | (with_reducible apply below_drewN) | (with_reducible refine Below.trans ?_ (Below.mono (by assumption) ?_)) | omega | (simp; done) | (simp; omega)))))).mono ?_
  rintro e w1 ⟨rfl, q, rfl⟩
  go_wp2_with fail
  go_step3
  exact ⟨rfl, by (repeat' (first | (with_reducible exact Below.refl _ _) | (with_reducible assumption) | (with_reducible apply Below.setCell) | (with_reducible apply Below.alloc) | (with_reducible apply Below.drew) | (with_reducible apply below_drewN) | (with_reducible refine Below.trans ?_ (Below.mono (by assumption) ?_)) | omega | (simp; done) | (simp; omega))), _, _, _, _, _, _, _, _, _, _, _, _, _, _, _, _, _, _, _, _, _, _, _, _, _, _, _, _, _, _, _, _, _, _, _, _, _, rfl⟩
namespace BM
/-- from that tick on the first at which a packet of that size keeps to it. -/
def IsWhen (p r u m : Int) (s : St) (n z t : Int) : Prop := n ≤ t ∧ t ≤ n + 2000 ∧ (z ≤ lev0 r u s t ∧ z ≤ lev1 p m s t) ∧ ∀ k, n ≤ k → k < t → ¬ (z ≤ lev0 r u s k ∧ z ≤ lev1 p m s k)
def TillOf (p r u m : Int) (s : St) (z : Int) (i : Nat) (t : Int) : Prop := if i = 0 then IsTill z s.2.1 u r t else IsTill z s.2.2 m p t
theorem when_of {p r u m : Int} {s : St} {n z f : Int} (hr : 0 ≤ r) (hp : 0 ≤ p) (hz : z ≤ 2000) (hn : s.1 ≤ n) (h0 : n ≤ f) (h1 : ∀ i, i < 2 → ∃ t, TillOf p r u m s z i t ∧ s.1 + t ≤ f) (h2 : f = n ∨ ∃ i, i < 2 ∧ ∃ t, TillOf p r u m s z i t ∧ f = s.1 + t) : IsWhen p r u m s n z f := by
  obtain ⟨t0, e0, l0⟩ := h1 0 (by omega)
  obtain ⟨t1, e1, l1⟩ := h1 1 (by omega)
  simp only [TillOf, if_true, Nat.one_ne_zero, if_false] at e0 e1
  obtain ⟨a0, a1, a2, a3⟩ := e0
  obtain ⟨b0, b1, b2, b3⟩ := e1
  have c0 : later s.2.1 u r t0 ≤ later s.2.1 u r (f - s.1) := later_mono hr (by omega)
  have c1 : later s.2.2 m p t1 ≤ later s.2.2 m p (f - s.1) := later_mono hp (by omega)
  refine ⟨h0, ?_, ⟨by unfold lev0; omega, by unfold lev1; omega⟩, ?_⟩
  · rcases h2 with h2 | ⟨i, hi, t, ht, h2⟩
    · omega
    · rcases (show i = 0 ∨ i = 1 by omega) with rfl | rfl
      · simp only [TillOf, if_true] at ht
        have := ht.2.1
        omega
      · simp only [TillOf, Nat.one_ne_zero, if_false] at ht
        have := ht.2.1
        omega
  · intro k hk0 hk1 hk
    rcases h2 with h2 | ⟨i, hi, t, ht, h2⟩
    · omega
    · rcases (show i = 0 ∨ i = 1 by omega) with rfl | rfl
      · simp only [TillOf, if_true] at ht
        have := ht.2.2.1 (k - s.1) (by omega) (by omega)
        unfold lev0 at hk
        omega
      · simp only [TillOf, Nat.one_ne_zero, if_false] at ht
        have := ht.2.2.1 (k - s.1) (by omega) (by omega)
        unfold lev1 at hk
        omega
end BM
/-- between rounds of When. -/
structure WhI (W0 : World) (B : Nat) (p r u m : Int) (s : BM.St) (n z : Int) (pre : List Nat) (f : Int) (X : World) : Prop where
  but : But B W0 X
  lt : B < W0.heap.size
  cell : X.cell? ⟨B, 0, none⟩ = some (.int .i64 f)
  fz : X.frozen? ⟨B, 0, none⟩ = false
  ge : n ≤ f
  le : f ≤ 2147487647
  all_ : ∀ i ∈ pre, ∃ t, BM.TillOf p r u m s z i t ∧ s.1 + t ≤ f
  one : f = n ∨ ∃ i, i < 2 ∧ ∃ t, BM.TillOf p r u m s z i t ∧ f = s.1 + t
section
variable {W0 X Y : World} {B : Nat} {p r u m : Int} {s : BM.St} {n z f : Int} {pre : List Nat}
theorem WhI.below (h : WhI W0 B p r u m s n z pre f X) (hb : Below W0.heap.size X Y) : WhI W0 B p r u m s n z pre f Y := by
  obtain ⟨hbut, hlt, hc, hf, h0, h1, h2, h3⟩ := h
  exact ⟨⟨hb.os.trans hbut.os, hb.tape.trans hbut.tape, hb.output.trans hbut.output, Nat.le_trans hbut.size hb.size, fun k hk hn => (hb.block k hk).trans (hbut.block k hk hn)⟩, hlt, (hb.cell (p := ⟨B, 0, none⟩) hlt).trans hc, (hb.frozen (p := ⟨B, 0, none⟩) hlt).trans hf, h0, h1, h2, h3⟩
theorem WhI.put (h : WhI W0 B p r u m s n z pre f X) {i : Nat} (hi : i < 2) {t : Int} (ht : BM.TillOf p r u m s z i t) (hb : s.1 + t ≤ 2147487647) : WhI W0 B p r u m s n z (pre ++ [i]) (max f (s.1 + t)) (X.setCell ⟨B, 0, none⟩ (.int .i64 (max f (s.1 + t)))) := by
  obtain ⟨hbut, hlt, hc, hf, h0, h1, h2, h3⟩ := h
  refine ⟨hbut.trans (But.set _ _ _), hlt, World.cell?_setCell_same' _ _ _ (by rw [hc]; rfl), (World.frozen?_setCell _ _ _ _).trans hf, by omega, by omega, fun j hj => ?_, ?_⟩
  · rcases List.mem_append.1 hj with hj | hj
    · obtain ⟨t', a, b⟩ := h2 j hj
      exact ⟨t', a, by omega⟩
    · have e : j = i := by simpa using hj
      subst e
      exact ⟨t, ht, by omega⟩
  · by_cases hc : f ≤ s.1 + t
    · exact .inr ⟨i, hi, t, ht, by omega⟩
    · rcases h3 with h3 | ⟨j, hj, t', a, b⟩
      · exact .inl (by omega)
      · exact .inr ⟨j, hj, t', a, by omega⟩
end
end Go.Proofs.Ythaiphkmkchhoaa
