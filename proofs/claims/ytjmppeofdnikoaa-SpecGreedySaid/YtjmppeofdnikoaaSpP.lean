/- Sum and Within: what they answer. -/
import Derived.Test.YtjmppeofdnikoaaSpO
namespace Go.Proofs.Ytjmppeofdnikoaa
open Go.RowKit RowK

set_option maxHeartbeats 4000000 in
theorem Sum_any (A : Option Addr) (L : List Spc) (n c : Nat) (hn : L.length = n) (hm : n ≤ 1000000) (hc : n ≤ c) (hx : c ≤ maxLen) (w : World) (hl : Lie specV 5 w w.heap.size A L) :
    Calls Try.prog 14 #[.slice A n c] w fun e w' => e = .returned (pairS (sumR L)) ∧ Below w.heap.size w w' := by
  have hr : sumR L = if noneB L = true then (z5, 2) else if (acc sumV L (L.length - 1)).1 > 1000000 ∨ (acc sumV L (L.length - 1)).2.2.1 > 10000000 then (z5, 3) else (acc sumV L (L.length - 1), 0) := rfl
  have hnb : noneB L = false → 1 ≤ n := fun h => by
    unfold noneB at h
    simp at h
    have := h.1
    cases L
    · simp at this
    · simp at hn; omega
  have ca := hidd (fun W hl => areNone_any A L n c hn hm W hl)
  have HL := hidd hl
  have HR := hidd hr
  have HN := hidd hn
  unfold pairS specA z5 at *
  clear hl hr hn
  cases hN : noneB L
  · obtain ⟨k, rfl⟩ : ∃ k, n = k + 1 := ⟨n - 1, by have := hnb hN; omega⟩
    have ct := hidd (fun W hl => together_any 44 sumV enters_sum (fun a b W => sum1_any a b W) A L k c HN.out (by omega) hc hx W hl)
    have hr := HR.out
    rw [hN] at hr ca
    rw [if_neg (by decide), HN.out, Nat.add_sub_cancel] at hr
    have HR2 := hidd hr
    unfold specA at ct
    clear hr HR hN hnb hc hx
    generalize acc sumV L k = a at *
    by_cases h1 : 1000000 < a.1
    · have hr := HR2.out
      rw [if_pos (.inl h1)] at hr
      rw [hr]
      clear hr HR2
      go_enter Try.func14, Try.ntmps14
      go_wp2_with fail
      refine wp_scope_fwd 0 (fun a' w' => False) rfl ?_ ?_
      case refine_2 => exact fun _ _ h => h.elim
      have hZ := (Box.new' rfl 23 (0, 0, 0, 0, 0) (w := w)).past (.cells #[.int .i64 0, .int .i64 0, .int .i64 0, .int .i64 0, .int .i64 0] 23)
      have hY := Box.new' (by simp) 23 (0, 0, 0, 0, 0) (w := w.alloc (.cells #[.int .i64 0, .int .i64 0, .int .i64 0, .int .i64 0, .int .i64 0] 23)) (b := w.heap.size + 1)
      have hb0 := below_new (below_new (Below.refl w.heap.size w) (.cells #[.int .i64 0, .int .i64 0, .int .i64 0, .int .i64 0, .int .i64 0] 23)) (.cells #[.int .i64 0, .int .i64 0, .int .i64 0, .int .i64 0, .int .i64 0] 23)
      have HZ := hidd hZ
      have HY := hidd hY
      have HB0 := hidd hb0
      clear hZ hb0 hY
      go_wp2_with fail
      refine (ca.out _ (HL.out.below HB0.out)).mono ?_
      rintro e w1 ⟨rfl, hb1⟩
      have HZ1 := hidd (HZ.out.step hb1)
      have HY1 := hidd (HY.out.step hb1)
      have HB1 := hidd (below_step HB0.out hb1)
      clear hb1
      go_wp2_with fail
      refine (ct.out _ (HL.out.below HB1.out)).mono ?_
      rintro e w2 ⟨rfl, hb2⟩
      obtain ⟨⟨uz, u0, u1, u2, u3, u4⟩, v0, v1, v2, v3, v4⟩ := HZ1.out.step hb2
      obtain ⟨⟨xz, x0, x1, x2, x3, x4⟩, y0, y1, y2, y3, y4⟩ := HY1.out.step hb2
      have HB2 := hidd (below_step HB1.out hb2)
      clear hb2
      go_wp2_with fail
      simp only [Exit.jump]
      exact bodyPost_ret (v := .tuple #[.agg #[.int .i64 0, .int .i64 0, .int .i64 0, .int .i64 0, .int .i64 0], .int .i64 3]) (by simp [results, Try.results14, go_sem, *]) rfl ⟨rfl, by have := HB2.out; (repeat' (first | (with_reducible exact Below.refl _ _) | (with_reducible assumption) | (with_reducible apply Below.setCell) | (with_reducible apply Below.alloc) | (with_reducible apply Below.drew) | (with_reducible apply below_drewN) | (with_reducible refine Below.trans ?_ (Below.mono (by assumption) ?_)) | omega | (simp; done) | (simp; omega)))⟩
    · by_cases h2 : 10000000 < a.2.2.1
      · have hr := HR2.out
        rw [if_pos (.inr h2)] at hr
        rw [hr]
        clear hr HR2
        go_enter Try.func14, Try.ntmps14
        go_wp2_with fail
        refine wp_scope_fwd 0 (fun a' w' => False) rfl ?_ ?_
        case refine_2 => exact fun _ _ h => h.elim
        have hZ := (Box.new' rfl 23 (0, 0, 0, 0, 0) (w := w)).past (.cells #[.int .i64 0, .int .i64 0, .int .i64 0, .int .i64 0, .int .i64 0] 23)
        have hY := Box.new' (by simp) 23 (0, 0, 0, 0, 0) (w := w.alloc (.cells #[.int .i64 0, .int .i64 0, .int .i64 0, .int .i64 0, .int .i64 0] 23)) (b := w.heap.size + 1)
        have hb0 := below_new (below_new (Below.refl w.heap.size w) (.cells #[.int .i64 0, .int .i64 0, .int .i64 0, .int .i64 0, .int .i64 0] 23)) (.cells #[.int .i64 0, .int .i64 0, .int .i64 0, .int .i64 0, .int .i64 0] 23)
        have HZ := hidd hZ
        have HY := hidd hY
        have HB0 := hidd hb0
        clear hZ hb0 hY
        go_wp2_with fail
        refine (ca.out _ (HL.out.below HB0.out)).mono ?_
        rintro e w1 ⟨rfl, hb1⟩
        have HZ1 := hidd (HZ.out.step hb1)
        have HY1 := hidd (HY.out.step hb1)
        have HB1 := hidd (below_step HB0.out hb1)
        clear hb1
        go_wp2_with fail
        refine (ct.out _ (HL.out.below HB1.out)).mono ?_
        rintro e w2 ⟨rfl, hb2⟩
        obtain ⟨⟨uz, u0, u1, u2, u3, u4⟩, v0, v1, v2, v3, v4⟩ := HZ1.out.step hb2
        obtain ⟨⟨xz, x0, x1, x2, x3, x4⟩, y0, y1, y2, y3, y4⟩ := HY1.out.step hb2
        have HB2 := hidd (below_step HB1.out hb2)
        clear hb2
        go_wp2_with fail
        simp only [Exit.jump]
        exact bodyPost_ret (v := .tuple #[.agg #[.int .i64 0, .int .i64 0, .int .i64 0, .int .i64 0, .int .i64 0], .int .i64 3]) (by simp [results, Try.results14, go_sem, *]) rfl ⟨rfl, by have := HB2.out; (repeat' (first | (with_reducible exact Below.refl _ _) | (with_reducible assumption) | (with_reducible apply Below.setCell) | (with_reducible apply Below.alloc) | (with_reducible apply Below.drew) | (with_reducible apply below_drewN) | (with_reducible refine Below.trans ?_ (Below.mono (by assumption) ?_)) | omega | (simp; done) | (simp; omega)))⟩
      · have hr := HR2.out
        rw [if_neg (by omega)] at hr
        rw [hr]
        clear hr HR2
        go_enter Try.func14, Try.ntmps14
        go_wp2_with fail
        refine wp_scope_fwd 0 (fun a' w' => False) rfl ?_ ?_
        case refine_2 => exact fun _ _ h => h.elim
        have hZ := (Box.new' rfl 23 (0, 0, 0, 0, 0) (w := w)).past (.cells #[.int .i64 0, .int .i64 0, .int .i64 0, .int .i64 0, .int .i64 0] 23)
        have hY := Box.new' (by simp) 23 (0, 0, 0, 0, 0) (w := w.alloc (.cells #[.int .i64 0, .int .i64 0, .int .i64 0, .int .i64 0, .int .i64 0] 23)) (b := w.heap.size + 1)
        have hb0 := below_new (below_new (Below.refl w.heap.size w) (.cells #[.int .i64 0, .int .i64 0, .int .i64 0, .int .i64 0, .int .i64 0] 23)) (.cells #[.int .i64 0, .int .i64 0, .int .i64 0, .int .i64 0, .int .i64 0] 23)
        have HZ := hidd hZ
        have HY := hidd hY
        have HB0 := hidd hb0
        clear hZ hb0 hY
        go_wp2_with fail
        refine (ca.out _ (HL.out.below HB0.out)).mono ?_
        rintro e w1 ⟨rfl, hb1⟩
        have HZ1 := hidd (HZ.out.step hb1)
        have HY1 := hidd (HY.out.step hb1)
        have HB1 := hidd (below_step HB0.out hb1)
        clear hb1
        go_wp2_with fail
        refine (ct.out _ (HL.out.below HB1.out)).mono ?_
        rintro e w2 ⟨rfl, hb2⟩
        obtain ⟨⟨uz, u0, u1, u2, u3, u4⟩, v0, v1, v2, v3, v4⟩ := HZ1.out.step hb2
        obtain ⟨⟨xz, x0, x1, x2, x3, x4⟩, y0, y1, y2, y3, y4⟩ := HY1.out.step hb2
        have HB2 := hidd (below_step HB1.out hb2)
        clear hb2
        go_wp2_with fail
        simp only [Exit.jump]
        exact bodyPost_ret (v := .tuple #[.agg #[.int .i64 a.1, .int .i64 a.2.1, .int .i64 a.2.2.1, .int .i64 a.2.2.2.1, .int .i64 a.2.2.2.2], .int .i64 0]) (by simp [results, Try.results14, go_sem, *]) rfl ⟨rfl, by have := HB2.out; (repeat' (first | (with_reducible exact Below.refl _ _) | (with_reducible assumption) | (with_reducible apply Below.setCell) | (with_reducible apply Below.alloc) | (with_reducible apply Below.drew) | (with_reducible apply below_drewN) | (with_reducible refine Below.trans ?_ (Below.mono (by assumption) ?_)) | omega | (simp; done) | (simp; omega)))⟩
  · have hr := HR.out
    rw [hN] at hr ca
    rw [if_pos rfl] at hr
    rw [hr]
    clear hr HR hN hnb hc hx
    go_enter Try.func14, Try.ntmps14
    go_wp2_with fail
    refine wp_scope_fwd 0 (fun a' w' => (Below w.heap.size w w' ∧ Box w' w.heap.size (0, 0, 0, 0, 0)) ∧ ∃ v0 v1 v2 v3 v4 v5 v6 v7 v8 v9 v10 v11 v12 v13 v14 v15 v16 v17 v18 v19 : Value, a' = { tmps := #[v0, v1, .pointer (some ⟨w.heap.size, 0, none⟩), v3, v4, v5, v6, v7, v8, v9, v10, v11, v12, v13, v14, v15, v16, v17, v18, v19], defers := [] }) rfl ?_ ?_
    case refine_2 =>
      rintro a' w' ⟨⟨hb, ⟨uz, u0, u1, u2, u3, u4⟩, q0, q1, q2, q3, q4⟩, v0, v1, v2, v3, v4, v5, v6, v7, v8, v9, v10, v11, v12, v13, v14, v15, v16, v17, v18, v19, rfl⟩
      go_wp2_with fail
      (try rw [Exit.noGoto_ret])
      exact bodyPost_ret (v := .tuple #[.agg #[.int .i64 0, .int .i64 0, .int .i64 0, .int .i64 0, .int .i64 0], .int .i64 2]) (by simp [results, Try.results14, go_sem, *]) rfl ⟨rfl, by (repeat' (first | (with_reducible exact Below.refl _ _) | (with_reducible assumption) | (with_reducible apply Below.setCell) | (with_reducible apply Below.alloc) | (with_reducible apply Below.drew) | (with_reducible apply below_drewN) | (with_reducible refine Below.trans ?_ (Below.mono (by assumption) ?_)) | omega | (simp; done) | (simp; omega)))⟩
    have hZ := (Box.new' rfl 23 (0, 0, 0, 0, 0) (w := w)).past (.cells #[.int .i64 0, .int .i64 0, .int .i64 0, .int .i64 0, .int .i64 0] 23)
    have hY := Box.new' (by simp) 23 (0, 0, 0, 0, 0) (w := w.alloc (.cells #[.int .i64 0, .int .i64 0, .int .i64 0, .int .i64 0, .int .i64 0] 23)) (b := w.heap.size + 1)
    have hb0 := below_new (below_new (Below.refl w.heap.size w) (.cells #[.int .i64 0, .int .i64 0, .int .i64 0, .int .i64 0, .int .i64 0] 23)) (.cells #[.int .i64 0, .int .i64 0, .int .i64 0, .int .i64 0, .int .i64 0] 23)
    have HZ := hidd hZ
    have HY := hidd hY
    have HB0 := hidd hb0
    clear hZ hb0 hY
    go_wp2_with fail
    refine (ca.out _ (HL.out.below HB0.out)).mono ?_
    rintro e w1 ⟨rfl, hb1⟩
    have HZ1 := hidd (HZ.out.step hb1)
    have HY1 := hidd (HY.out.step hb1)
    have HB1 := hidd (below_step HB0.out hb1)
    clear hb1
    go_wp2_with fail
    go_step3
    exact ⟨rfl, ⟨HB1.out, HZ1.out⟩, _, _, undef, _, _, _, _, _, _, _, _, _, _, _, _, _, _, _, _, _, rfl⟩
theorem HasSpec.new' {w : World} {b : Nat} (hb : w.heap.size = b) (t : TypeId) (p r u m l : Int) : HasSpec (w.alloc (.cells #[.int .i64 p, .int .i64 r, .int .i64 u, .int .i64 m, .int .i64 l] t)) b p r u m l := by
  subst hb; exact HasSpec.new w t p r u m l
/-- are two specs the same. -/
def sameB (a b : Spc) : Bool := a.1 == b.1 && a.2.1 == b.2.1 && a.2.2.1 == b.2.2.1 && a.2.2.2.1 == b.2.2.2.1 && a.2.2.2.2 == b.2.2.2.2
theorem same_run (a0 a1 a2 a3 a4 b0 b1 b2 b3 b4 : Int) (w : World) :
    (Op.equalIn 10000 23 (.agg #[.int .i64 a0, .int .i64 a1, .int .i64 a2, .int .i64 a3, .int .i64 a4]) (.agg #[.int .i64 b0, .int .i64 b1, .int .i64 b2, .int .i64 b3, .int .i64 b4])).run Try.prog w = .ok (sameB (a0, a1, a2, a3, a4) (b0, b1, b2, b3, b4)) w := by
  unfold sameB
  by_cases h0 : a0 = b0 <;> by_cases h1 : a1 = b1 <;> by_cases h2 : a2 = b2 <;> by_cases h3 : a3 = b3 <;> by_cases h4 : a4 = b4 <;> simp [go_sem, Op.eqFields, *]
theorem same_bin (a0 a1 a2 a3 a4 b0 b1 b2 b3 b4 : Int) (w : World) :
    (binOp .eql 23 (.agg #[.int .i64 a0, .int .i64 a1, .int .i64 a2, .int .i64 a3, .int .i64 a4]) (.agg #[.int .i64 b0, .int .i64 b1, .int .i64 b2, .int .i64 b3, .int .i64 b4])).run Try.prog w = .ok (.bool (sameB (a0, a1, a2, a3, a4) (b0, b1, b2, b3, b4))) w := by
  rw [run_eql_struct, same_run]; rfl
/-- what Within answers. -/
def withinR (a b : Spc) : Bool × Int := if rightS a = true ∧ rightS b = true then (sameB (jointV a b) b, 0) else (false, 2)
end Go.Proofs.Ytjmppeofdnikoaa
