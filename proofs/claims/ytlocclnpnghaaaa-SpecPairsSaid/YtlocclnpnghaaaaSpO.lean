/- Joint, Sum and Within: what they answer. -/
import Derived.Test.YtlocclnpnghaaaaSpL
namespace Go.Proofs.Ytlocclnpnghaaaa
open Go.RowKit RowK

theorem enters_joint : ∀ args w, (callFunc 33 args).run Try.prog w = .ok (.enter 33 args) w := fun args w => by simp [callFunc, Try.func33, Try.f33, mark]
theorem enters_sum : ∀ args w, (callFunc 36 args).run Try.prog w = .ok (.enter 36 args) w := fun args w => by simp [callFunc, Try.func36, Try.f36, mark]
def z5 : Spc := (0, 0, 0, 0, 0)
def pairS (r : Spc × Int) : Value := .tuple #[specA r.1, .int .i64 r.2]
def jointR (L : List Spc) : Spc × Int := if noneB L = true then (z5, 2) else (acc jointV L (L.length - 1), 0)
def sumR (L : List Spc) : Spc × Int :=
  if noneB L = true then (z5, 2) else if (acc sumV L (L.length - 1)).1 > 1000000 ∨ (acc sumV L (L.length - 1)).2.2.1 > 10000000 then (z5, 3) else (acc sumV L (L.length - 1), 0)
set_option maxHeartbeats 4000000 in
theorem Joint_any (A : Option Addr) (L : List Spc) (n c : Nat) (hn : L.length = n) (hm : n ≤ 1000000) (hc : n ≤ c) (hx : c ≤ maxLen) (w : World) (hl : Lie specV 5 w w.heap.size A L) :
    Calls Try.prog 21 #[.slice A n c] w fun e w' => e = .returned (pairS (jointR L)) ∧ Below w.heap.size w w' := by
  have hr : jointR L = if noneB L = true then (z5, 2) else (acc jointV L (L.length - 1), 0) := rfl
  have hnb : noneB L = false → 1 ≤ n := fun h => by
    unfold noneB at h
    simp at h
    have := h.1
    cases L
    · simp at this
    · simp at hn; omega
  have ca := hidd (fun W hl => areNone_any A L n c hn hm W hl)
  have HL := hidd hl
  have HR := hidd hr
  have HN := hidd hn
  unfold pairS specA z5 at *
  clear hl hr hn
  cases hN : noneB L
  · obtain ⟨k, rfl⟩ : ∃ k, n = k + 1 := ⟨n - 1, by have := hnb hN; omega⟩
    have ct := hidd (fun W hl => together_any 33 jointV enters_joint (fun a b W => joint_any a b W) A L k c HN.out (by omega) hc hx W hl)
    have hr := HR.out
    rw [hN] at hr ca
    rw [if_neg (by decide), HN.out, Nat.add_sub_cancel] at hr
    rw [hr]
    unfold specA at ct
    clear hr HR hN hnb hc hx
    generalize acc jointV L k = a at *
    go_enter Try.func21, Try.ntmps21
    go_wp2_with fail
    refine wp_scope_fwd 0 (fun a' w' => False) rfl ?_ ?_
    case refine_2 => exact fun _ _ h => h.elim
    have hZ := Box.new' rfl 23 (0, 0, 0, 0, 0) (w := w)
    have hb0 := below_new (Below.refl w.heap.size w) (.cells #[.int .i64 0, .int .i64 0, .int .i64 0, .int .i64 0, .int .i64 0] 23)
    have HZ := hidd hZ
    have HB0 := hidd hb0
    clear hZ hb0
    go_wp2_with fail
    refine (ca.out _ (HL.out.below HB0.out)).mono ?_
    rintro e w1 ⟨rfl, hb1⟩
    have HZ1 := hidd (HZ.out.step hb1)
    have HB1 := hidd (below_step HB0.out hb1)
    clear hb1
    go_wp2_with fail
    refine (ct.out _ (HL.out.below HB1.out)).mono ?_
    rintro e w2 ⟨rfl, hb2⟩
    obtain ⟨⟨uz, u0, u1, u2, u3, u4⟩, v0, v1, v2, v3, v4⟩ := HZ1.out.step hb2
    have HB2 := hidd (below_step HB1.out hb2)
    clear hb2
    go_wp2_with fail
    simp only [Exit.jump]
    exact bodyPost_ret (v := .tuple #[.agg #[.int .i64 a.1, .int .i64 a.2.1, .int .i64 a.2.2.1, .int .i64 a.2.2.2.1, .int .i64 a.2.2.2.2], .int .i64 0]) (by simp [results, Try.results21, go_sem, *]) rfl ⟨rfl, by have := HB2.out; (repeat' (first | (with_reducible exact Below.refl _ _) | (with_reducible assumption) | (with_reducible apply Below.setCell) | (with_reducible apply Below.alloc) | (with_reducible apply Below.drew) | (with_reducible apply below_drewN) | (with_reducible refine Below.trans ?_ (Below.mono (by assumption) ?_)) | omega | (simp; done) | (simp; omega)))⟩
  · have hr := HR.out
    rw [hN] at hr ca
    rw [if_pos rfl] at hr
    rw [hr]
    clear hr HR hN hnb hc hx
    go_enter Try.func21, Try.ntmps21
    go_wp2_with fail
    refine wp_scope_fwd 0 (fun a' w' => (Below w.heap.size w w' ∧ Box w' w.heap.size (0, 0, 0, 0, 0)) ∧ ∃ v0 v1 v2 v3 v4 v5 v6 v7 v8 : Value, a' = { tmps := #[v0, v1, .pointer (some ⟨w.heap.size, 0, none⟩), v3, v4, v5, v6, v7, v8], defers := [] }) rfl ?_ ?_
    case refine_2 =>
      rintro a' w' ⟨⟨hb, ⟨uz, u0, u1, u2, u3, u4⟩, q0, q1, q2, q3, q4⟩, v0, v1, v2, v3, v4, v5, v6, v7, v8, rfl⟩
      go_wp2_with fail
      (try rw [Exit.noGoto_ret])
      exact bodyPost_ret (v := .tuple #[.agg #[.int .i64 0, .int .i64 0, .int .i64 0, .int .i64 0, .int .i64 0], .int .i64 2]) (by simp [results, Try.results21, go_sem, *]) rfl ⟨rfl, by (repeat' (first | (with_reducible exact Below.refl _ _) | (with_reducible assumption) | (with_reducible apply Below.setCell) | (with_reducible apply Below.alloc) | (with_reducible apply Below.drew) | (with_reducible apply below_drewN) | (with_reducible refine Below.trans ?_ (Below.mono (by assumption) ?_)) | omega | (simp; done) | (simp; omega)))⟩
    have hZ := Box.new' rfl 23 (0, 0, 0, 0, 0) (w := w)
    have hb0 := below_new (Below.refl w.heap.size w) (.cells #[.int .i64 0, .int .i64 0, .int .i64 0, .int .i64 0, .int .i64 0] 23)
    have HZ := hidd hZ
    have HB0 := hidd hb0
    clear hZ hb0
    go_wp2_with fail
    refine (ca.out _ (HL.out.below HB0.out)).mono ?_
    rintro e w1 ⟨rfl, hb1⟩
    have HZ1 := hidd (HZ.out.step hb1)
    have HB1 := hidd (below_step HB0.out hb1)
    clear hb1
    go_wp2_with fail
    go_step3
    exact ⟨rfl, ⟨HB1.out, HZ1.out⟩, _, _, undef, _, _, _, _, _, _, rfl⟩
end Go.Proofs.Ytlocclnpnghaaaa
