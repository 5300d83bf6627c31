/- Ways: the program's and the document's; the document's link. -/
import Derived.Test.YtianceglbkcmpaaBdH
namespace Go.Proofs.Ytianceglbkcmpaa
set_option linter.unusedVariables false
open Go.RowKit

theorem entersWay1 : ∀ args w, (callFunc 37 args).run Try.prog w = .ok (.enter 37 args) w := fun args w => by simp [callFunc, Try.func37, Try.f37, mark]
def wayE (C D : Int) : Ending := if termsB C D then .returned (.agg #[.int .i64 C, .int .i64 D]) else errPanic 3
set_option maxRecDepth 100000 in
set_option maxHeartbeats 4000000 in
theorem wayStep (A : Option Addr) (l : List (Int × Int)) (c : Nat) (hm : l.length ≤ 1000) (ha : allT l = true) (p : Nat) (w : World) (hl : LiesO w A l) (hp : p < w.heap.size) (hc : w.cell? ⟨p, 0, none⟩ = some (.slice A l.length c)) :
    StepsTo 37 #[.pointer (some ⟨p, 0, none⟩)] (wayE (sumC l) (sumD l)) w := by
  intro W hW
  have c1 : W.cell? ⟨p, 0, none⟩ = some (.slice A l.length c) := (hW.cell (p := ⟨p, 0, none⟩) hp).trans hc
  have hp' : p < W.heap.size := Nat.lt_of_lt_of_le hp hW.size
  have hp1 : p < W.heap.size + 1 := by omega
  have hp2 : ¬ p = W.heap.size := by omega
  have ct := hidd (fun V (hV : Below W.heap.size W V) => togetherT_any A l c hm ha V ((hl.below hW).below hV))
  have ci := hidd (fun V => isTerms_any (sumC l) (sumD l) V)
  unfold wayE
  generalize sumC l = C at *
  generalize sumD l = D at *
  generalize termsB C D = P at *
  generalize l.length = n at *
  clear hW hc hp hl ha hm
  cases P
  · simp only [Bool.false_eq_true, if_false]
    go_enter Try.func37, Try.ntmps37
    go_wp2_with fail
    refine (ct.out _ (by (repeat' (first | (with_reducible exact Below.refl _ _) | (with_reducible assumption) | (with_reducible apply Below.setCell) | (with_reducible apply Below.alloc) | (with_reducible apply Below.drew) | (with_reducible apply below_drewN) | (with_reducible refine Below.trans ?_ (Below.mono (by assumption) ?_)) | omega | (simp; done) | (simp; omega))))).mono ?_
    rintro E1 w1 ⟨rfl, hb1⟩
    have HB1 := hidd (below_step (below_new (Below.refl W.heap.size W) _) hb1)
    clear hb1
    go_wp2_with fail
    refine (ci.out _).mono ?_
    rintro E2 w2 ⟨rfl, hb2⟩
    have HB2 := hidd (below_step (below_new HB1.out _) hb2)
    clear hb2
    go_wp2_with fail
    refine (need_no _ _).mono ?_
    rintro E3 w3 ⟨rfl, rfl⟩
    go_wp2_with fail
    exact ⟨rfl, rfl, HB2.out⟩
  · simp only [if_true]
    go_enter Try.func37, Try.ntmps37
    go_wp2_with fail
    refine (ct.out _ (by (repeat' (first | (with_reducible exact Below.refl _ _) | (with_reducible assumption) | (with_reducible apply Below.setCell) | (with_reducible apply Below.alloc) | (with_reducible apply Below.drew) | (with_reducible apply below_drewN) | (with_reducible refine Below.trans ?_ (Below.mono (by assumption) ?_)) | omega | (simp; done) | (simp; omega))))).mono ?_
    rintro E1 w1 ⟨rfl, hb1⟩
    have HB1 := hidd (below_step (below_new (Below.refl W.heap.size W) _) hb1)
    have HR1 := hidd ((GBox.new (rfl : W.heap.size = W.heap.size) 25 0 0).step hb1)
    clear hb1
    go_wp2_with fail
    refine (ci.out _).mono ?_
    rintro E2 w2 ⟨rfl, hb2⟩
    have HB2 := hidd (below_step (below_new HB1.out _) hb2)
    obtain ⟨r0, r1, r2, r3, r4⟩ := (HR1.out.past _).step hb2
    obtain ⟨s0, s1, s2, _, _⟩ := (GBox.new (rfl : w1.heap.size = w1.heap.size) 25 C D).step hb2
    clear hb2
    go_wp2_with fail
    refine (need_yes _ _).mono ?_
    rintro E3 w3 ⟨rfl, rfl⟩
    go_wp2_with fail
    exact bodyPost_ret (v := .agg #[.int .i64 C, .int .i64 D]) (by simp [results, Try.results37, go_sem, *]) rfl ⟨rfl, by have := HB2.out; (repeat' (first | (with_reducible exact Below.refl _ _) | (with_reducible assumption) | (with_reducible apply Below.setCell) | (with_reducible apply Below.alloc) | (with_reducible apply Below.drew) | (with_reducible apply below_drewN) | (with_reducible refine Below.trans ?_ (Below.mono (by assumption) ?_)) | omega | (simp; done) | (simp; omega)))⟩
/-- what a way's terms are: two numbers, an error. -/
def wayR (l : List (Int × Int)) : Int × Int × Int := if allT l then (if termsB (sumC l) (sumD l) then (sumC l, sumD l, 0) else (0, 0, 3)) else (0, 0, 2)
set_option maxRecDepth 100000 in
set_option maxHeartbeats 4000000 in
theorem Way_any (A : Option Addr) (l : List (Int × Int)) (c : Nat) (hm : l.length ≤ 1000) (w : World) (hl : LiesO w A l) :
    Calls Try.prog 16 #[.slice A l.length c] w fun e w' => e = .returned (pairOf (wayR l)) ∧ Below w.heap.size w w' := by
  have hmf : ∀ (fn : Fn) (first cap : Array Value) (w : World), (Instr.makeFunc fn first cap).run Try.prog w = .ok (.func fn first cap) w := fun _ _ _ _ => rfl
  have cc := hidd (fun V (hV : Below w.heap.size w V) => containsT_any A l c V (hl.below hV) (by omega))
  obtain ⟨B, hB⟩ : ∃ B, allT l = B := ⟨_, rfl⟩
  rw [hB] at cc
  have st := hidd (fun (h : B = true) p V (hV : Below w.heap.size w V) => wayStep A l c hm (hB.trans h) p V (hl.below hV))
  have hr : wayR l = if B then (if termsB (sumC l) (sumD l) then (sumC l, sumD l, 0) else (0, 0, 3)) else (0, 0, 2) := by unfold wayR; rw [hB]
  rw [hr]
  unfold wayE at st
  generalize sumC l = C at *
  generalize sumD l = D at *
  generalize termsB C D = P at *
  generalize l.length = n at *
  unfold pairOf
  clear hB hr hl hm
  go_enter Try.func16, Try.ntmps16
  go_wp2_with fail
  have HG := hidd (GBox.new (by simp : (w.alloc (.cells #[.slice A n c] 60)).heap.size = w.heap.size + 1) 25 0 0)
  refine Zp.wp_scope_fwd 0 (fun a' w' => B = false ∧ Below w.heap.size w w' ∧ GBox w' (w.heap.size + 1) 0 0 ∧ ∃ v0 v1 v3 v4 v5 v6 v7 v8 v9 v10 : Value, a' = { tmps := #[v0, v1, .pointer (some ⟨w.heap.size + 1, 0, none⟩), v3, v4, v5, v6, v7, v8, v9, v10], defers := [] }) rfl ?_ ?_
  case refine_2 =>
    rintro a' w' ⟨rfl, hb, ⟨g0, g1, g2, g3, g4⟩, v0, v1, v3, v4, v5, v6, v7, v8, v9, v10, rfl⟩
    go_wp2_with fail
    (try rw [Exit.noGoto_ret])
    exact bodyPost_ret (v := .tuple #[.agg #[.int .i64 0, .int .i64 0], .int .i64 2]) (by simp [results, Try.results16, go_sem, *]) rfl ⟨by simp, by (repeat' (first | (with_reducible exact Below.refl _ _) | (with_reducible assumption) | (with_reducible apply Below.setCell) | (with_reducible apply Below.alloc) | (with_reducible apply Below.drew) | (with_reducible apply below_drewN) | (with_reducible refine Below.trans ?_ (Below.mono (by assumption) ?_)) | omega | (simp; done) | (simp; omega)))⟩
  go_wp2_with fail
  refine (cc.out _ (by (repeat' (first | (with_reducible exact Below.refl _ _) | (with_reducible assumption) | (with_reducible apply Below.setCell) | (with_reducible apply Below.alloc) | (with_reducible apply Below.drew) | (with_reducible apply below_drewN) | (with_reducible refine Below.trans ?_ (Below.mono (by assumption) ?_)) | omega | (simp; done) | (simp; omega))))).mono ?_
  rintro e w1 ⟨rfl, hb1⟩
  have hx : w1.cell? ⟨w.heap.size, 0, none⟩ = some (.slice A n c) := by rw [hb1.cell (by simp; omega)]; simp [go_sem]
  have HG1 := hidd (HG.out.step hb1)
  have HB1 := hidd (below_step (below_new (below_new (Below.refl w.heap.size w) _) _) hb1)
  have hz : w.heap.size < w1.heap.size := by have := hb1.size; simp at this; omega
  clear hb1 HG
  cases B
  · go_wp2_with fail
    go_step3
    exact ⟨rfl, rfl, HB1.out, HG1.out, _, _, _, _, _, _, _, _, _, _, rfl⟩
  · cases P
    · have stt := hidd (st.out rfl w.heap.size w1 HB1.out hz hx)
      go_wp2_with fail
      refine (toldBT_no _ entersWay1 _ _ 3 stt.out).mono ?_
      rintro e w2 ⟨rfl, hb2⟩
      obtain ⟨g0, g1, g2, g3, g4⟩ := HG1.out.step hb2
      have HB2 := hidd (below_step HB1.out hb2)
      clear hb2
      go_wp2_with fail
      (try simp only [Exit.jump])
      exact bodyPost_ret (v := .tuple #[.agg #[.int .i64 0, .int .i64 0], .int .i64 3]) (by simp [results, Try.results16, go_sem, *]) rfl ⟨by simp, by have := HB2.out; (repeat' (first | (with_reducible exact Below.refl _ _) | (with_reducible assumption) | (with_reducible apply Below.setCell) | (with_reducible apply Below.alloc) | (with_reducible apply Below.drew) | (with_reducible apply below_drewN) | (with_reducible refine Below.trans ?_ (Below.mono (by assumption) ?_)) | omega | (simp; done) | (simp; omega)))⟩
    · have stt := hidd (st.out rfl w.heap.size w1 HB1.out hz hx)
      go_wp2_with fail
      refine (toldBT_ok _ entersWay1 _ _ C D stt.out).mono ?_
      rintro e w2 ⟨rfl, hb2⟩
      obtain ⟨g0, g1, g2, g3, g4⟩ := HG1.out.step hb2
      have HB2 := hidd (below_step HB1.out hb2)
      clear hb2
      go_wp2_with fail
      (try simp only [Exit.jump])
      exact bodyPost_ret (v := .tuple #[.agg #[.int .i64 C, .int .i64 D], .int .i64 0]) (by simp [results, Try.results16, go_sem, *]) rfl ⟨by simp, by have := HB2.out; (repeat' (first | (with_reducible exact Below.refl _ _) | (with_reducible assumption) | (with_reducible apply Below.setCell) | (with_reducible apply Below.alloc) | (with_reducible apply Below.drew) | (with_reducible apply below_drewN) | (with_reducible refine Below.trans ?_ (Below.mono (by assumption) ?_)) | omega | (simp; done) | (simp; omega)))⟩
theorem linkB_no {rate most far : Int} (h : ¬ linkB rate most far = true) : rate < 1 ∨ (¬ rate < 1 ∧ 1000000 < rate) ∨ ((¬ rate < 1 ∧ ¬ 1000000 < rate) ∧ most < 1) ∨ ((¬ rate < 1 ∧ ¬ 1000000 < rate) ∧ ¬ most < 1 ∧ 2000 < most) ∨ ((¬ rate < 1 ∧ ¬ 1000000 < rate) ∧ (¬ most < 1 ∧ ¬ 2000 < most) ∧ far < 0) ∨ ((¬ rate < 1 ∧ ¬ 1000000 < rate) ∧ (¬ most < 1 ∧ ¬ 2000 < most) ∧ ¬ far < 0 ∧ 100000 < far) := by
  unfold linkB fromB at h
  simp only [Bool.and_eq_true, decide_eq_true_eq] at h
  omega
theorem linkB_yes {rate most far : Int} (h : linkB rate most far = true) : (1 ≤ rate ∧ rate ≤ 1000000) ∧ (1 ≤ most ∧ most ≤ 2000) ∧ 0 ≤ far ∧ far ≤ 100000 := by
  unfold linkB at h
  rw [Bool.and_eq_true, Bool.and_eq_true] at h
  exact ⟨fromB_iff.1 h.1.1, fromB_iff.1 h.1.2, fromB_iff.1 h.2⟩
end Go.Proofs.Ytianceglbkcmpaa
