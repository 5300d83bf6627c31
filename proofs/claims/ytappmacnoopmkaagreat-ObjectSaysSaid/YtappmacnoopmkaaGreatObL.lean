/- Objects: the document's Same, Right, Raw; what a law compares. -/
import Derived.Test.YtappmacnoopmkaaGreatObF
namespace Go.Proofs.YtappmacnoopmkaaGreat
set_option linter.unusedVariables false
open Go.RowKit

theorem box_keep (W : World) (c t : Int) (v : Value) (ty : TypeId) {W' : World} (hb : Below (W.alloc (.cells #[.int .i64 c, .int .i64 t, v] ty)).heap.size (W.alloc (.cells #[.int .i64 c, .int .i64 t, v] ty)) W') :
    W'.cell? ⟨W.heap.size, 0, none⟩ = some (.int .i64 c) ∧ W'.cell? ⟨W.heap.size, 1, none⟩ = some (.int .i64 t) ∧ W'.cell? ⟨W.heap.size, 2, none⟩ = some v :=
  ⟨(hb.cell (p := ⟨W.heap.size, 0, none⟩) (by simp)).trans (by simp [go_sem]), (hb.cell (p := ⟨W.heap.size, 1, none⟩) (by simp)).trans (by simp [go_sem]), (hb.cell (p := ⟨W.heap.size, 2, none⟩) (by simp)).trans (by simp [go_sem])⟩
set_option maxRecDepth 100000 in
set_option maxHeartbeats 8000000 in
theorem refSame7 (a b : Int) (A : Option Addr) (L : List Int) (k : Nat) (c d : Int) (B : Option Addr) (M : List Int) (m : Nat) (hL : L.length ≤ 9223372036854775807) (hM : M.length ≤ 9223372036854775807) (w : World) (hA : LieQ wdV 1 w (· < w.heap.size) A L) (hB : LieQ wdV 1 w (· < w.heap.size) B M) :
    Calls Tryz.prog 10 #[.agg #[.int .i64 a, .int .i64 b, .slice A L.length k], .agg #[.int .i64 c, .int .i64 d, .slice B M.length m]] w fun e w' => e = .returned (.bool (sameB a b L c d M)) ∧ Below w.heap.size w w' := by
  have HA := hidd hA
  have HB := hidd hB
  unfold sameB
  clear hA hB
  by_cases h1 : a = c
  rotate_left
  · have h1b : (a != c) = true := by simpa using h1
    have h1c : decide (a = c) = false := decide_eq_false h1
    rw [h1c]
    clear h1c
    go_enter Tryz.func10, Tryz.ntmps10
    go_wp2_with fail
    go_ret
    exact ⟨ret_bool (by simp), by (repeat' (first | (with_reducible exact Below.refl _ _) | (with_reducible assumption) | (with_reducible apply Below.setCell) | (with_reducible apply Below.alloc) | (with_reducible apply Below.drew) | (with_reducible apply below_drewN) | (with_reducible refine Below.trans ?_ (Below.mono (by assumption) ?_)) | omega | (simp; done) | (simp; omega)))⟩
  subst h1
  by_cases h2 : b = d
  rotate_left
  · have h1b : (b != d) = true := by simpa using h2
    have h1c : decide (b = d) = false := decide_eq_false h2
    rw [h1c]
    clear h1c
    go_enter Tryz.func10, Tryz.ntmps10
    go_wp2_with fail
    go_ret
    exact ⟨ret_bool (by simp), by (repeat' (first | (with_reducible exact Below.refl _ _) | (with_reducible assumption) | (with_reducible apply Below.setCell) | (with_reducible apply Below.alloc) | (with_reducible apply Below.drew) | (with_reducible apply below_drewN) | (with_reducible refine Below.trans ?_ (Below.mono (by assumption) ?_)) | omega | (simp; done) | (simp; omega)))⟩
  subst h2
  by_cases hn : L.length = M.length
  rotate_left
  · have hne : ((L.length : Int) != (M.length : Int)) = true := by simp; omega
    have h1c : decide (L = M) = false := decide_eq_false (fun e => hn (by rw [e]))
    rw [h1c]
    clear h1c hn
    go_enter Tryz.func10, Tryz.ntmps10
    go_wp2_with fail
    go_ret
    exact ⟨ret_bool (by simp), by (repeat' (first | (with_reducible exact Below.refl _ _) | (with_reducible assumption) | (with_reducible apply Below.setCell) | (with_reducible apply Below.alloc) | (with_reducible apply Below.drew) | (with_reducible apply below_drewN) | (with_reducible refine Below.trans ?_ (Below.mono (by assumption) ?_)) | omega | (simp; done) | (simp; omega)))⟩
  obtain ⟨R, hR⟩ : ∃ R, decide (L = M) = R := ⟨_, rfl⟩
  rw [hR]
  have HR := hidd hR
  have HN := hidd hn
  obtain ⟨n, hln⟩ : ∃ n, L.length = n := ⟨_, rfl⟩
  have HLN := hidd hln
  rw [← hn, hln]
  rw [hln] at hL
  have hn0 : ((n : Int) != (n : Int)) = false := by simp
  have hB0 : Below w.heap.size w ((w.alloc (.cells #[.int .i64 a, .int .i64 b, .slice A n k] 42)).alloc (.cells #[.int .i64 a, .int .i64 b, .slice B n m] 42)) := by (repeat' (first | (with_reducible exact Below.refl _ _) | (with_reducible assumption) | (with_reducible apply Below.setCell) | (with_reducible apply Below.alloc) | (with_reducible apply Below.drew) | (with_reducible apply below_drewN) | (with_reducible refine Below.trans ?_ (Below.mono (by assumption) ?_)) | omega | (simp; done) | (simp; omega)))
  have HX := hidd (fun (W : World) (hb : Below (w.heap.size + 2) ((w.alloc (.cells #[.int .i64 a, .int .i64 b, .slice A n k] 42)).alloc (.cells #[.int .i64 a, .int .i64 b, .slice B n m] 42)) W) =>
    (show W.cell? ⟨w.heap.size, 2, none⟩ = some (.slice A n k) ∧ W.cell? ⟨w.heap.size + 1, 2, none⟩ = some (.slice B n m) ∧ Below w.heap.size w W from
      ⟨(hb.cell (p := ⟨w.heap.size, 2, none⟩) (by simp)).trans (by simp [go_sem]), (hb.cell (p := ⟨w.heap.size + 1, 2, none⟩) (by simp)).trans (by simp [go_sem]), hB0.trans (hb.mono (by omega))⟩))
  clear hR hn hln hM hB0
  go_enter Tryz.func10, Tryz.ntmps10
  go_wp2_with fail
  go_loopg [5] (n + 1) (fun g s wr => ∃ (i : Nat), i ≤ n ∧ i + g = n + 1 ∧ s = .int .i64 (i : Int) ∧ (∀ j, j < i → av L j = av M j) ∧ Below (w.heap.size + 2) ((w.alloc (.cells #[.int .i64 a, .int .i64 b, .slice A n k] 42)).alloc (.cells #[.int .i64 a, .int .i64 b, .slice B n m] 42)) wr)
  case atStart => exact ⟨0, by omega, by omega, by first | rfl | simp, fun j hj => absurd hj (by omega), Below.refl _ _⟩
  case round =>
    obtain ⟨i, hi, hg, rfl, hs, hB⟩ := hrel
    have HG := hidd hg
    have HS := hidd hs
    have HBw := hidd hB
    obtain ⟨b0, b1, hBB⟩ := HX.out _ hB
    have HBB := hidd hBB
    clear hg hs hB
    by_cases hin : i < n
    · obtain ⟨ad, rfl, ha, x0⟩ := (HA.out.below hBB).word i (by rw [HLN.out]; exact hin)
      obtain ⟨bd, rfl, hb, y0⟩ := (HB.out.below hBB).word i (by rw [← HN.out, HLN.out]; exact hin)
      have hin2 : (i : Int) < (n : Int) := by omega
      have hi0 : (0 : Int) ≤ (i : Int) := by omega
      have e1 : IntKind.i64.wrap ((i : Int) + 1) = (i : Int) + 1 := IntWalk.i64_in _ (by omega)
      have HNO := hidd (fun (h : av L i ≠ av M i) => (show R = false by
        rw [← HR.out]
        refine decide_eq_false (fun e => ?_)
        subst e
        exact h rfl))
      have HST := hidd (fun (h : av L i = av M i) j (hj : j < i + 1) => (show av L j = av M j by
        by_cases e : j = i
        · subst e; exact h
        · exact HS.out j (by omega)))
      clear hBB
      generalize av L i = a0 at *
      generalize av M i = c0 at *
      by_cases h0 : a0 = c0
      · subst h0
        have HN1 := hidd (HST.out rfl)
        go_wp2_with fail
        go_quiet (fail)
        go_wp2_with fail
        have hg := HG.out
        go_roundg (gk - 1)
        case measure => omega
        case rel => exact ⟨i + 1, by omega, by omega, by go_num, HN1.out, by have := HBw.out; (repeat' (first | (with_reducible exact Below.refl _ _) | (with_reducible assumption) | (with_reducible apply Below.setCell) | (with_reducible apply Below.alloc) | (with_reducible apply Below.drew) | (with_reducible apply below_drewN) | (with_reducible refine Below.trans ?_ (Below.mono (by assumption) ?_)) | omega | (simp; done) | (simp; omega)))⟩
      · have hr := HNO.out h0
        subst hr
        go_wp2_with fail
        go_quiet (fail)
        go_wp2_with fail
        go_ret
        exact ⟨by simp, by have := HBB.out; (repeat' (first | (with_reducible exact Below.refl _ _) | (with_reducible assumption) | (with_reducible apply Below.setCell) | (with_reducible apply Below.alloc) | (with_reducible apply Below.drew) | (with_reducible apply below_drewN) | (with_reducible refine Below.trans ?_ (Below.mono (by assumption) ?_)) | omega | (simp; done) | (simp; omega)))⟩
    · have hin2 : ¬ (i : Int) < (n : Int) := by omega
      have hr : R = true := by
        rw [← HR.out]
        exact decide_eq_true (list_eq_av HN.out (fun j hj => HS.out j (by rw [HLN.out] at hj; omega)))
      subst hr
      clear hBB
      go_wp2_with fail
      go_ret
      exact ⟨by simp, by have := HBB.out; (repeat' (first | (with_reducible exact Below.refl _ _) | (with_reducible assumption) | (with_reducible apply Below.setCell) | (with_reducible apply Below.alloc) | (with_reducible apply Below.drew) | (with_reducible apply below_drewN) | (with_reducible refine Below.trans ?_ (Below.mono (by assumption) ?_)) | omega | (simp; done) | (simp; omega)))⟩
/-- what three of an object's four say. -/
def keyO (o : Ob) : Int × Int × List Int := (o.c, o.t, o.ws)
theorem sameB_self (a b : Int) (L : List Int) : sameB a b L a b L = true := by simp [sameB]
theorem key_at {l m : List Ob} (h : l.map keyO = m.map keyO) {i : Nat} (hi : i < l.length) (hj : i < m.length) : l[i].c = m[i].c ∧ l[i].t = m[i].t ∧ l[i].ws = m[i].ws := by
  have e : (l.map keyO)[i]? = (m.map keyO)[i]? := by rw [h]
  simp only [List.getElem?_map, List.getElem?_eq_getElem hi, List.getElem?_eq_getElem hj, Option.map_some, Option.some.injEq, keyO, Prod.mk.injEq] at e
  exact e
theorem key_len {l m : List Ob} (h : l.map keyO = m.map keyO) : l.length = m.length := by
  have := congrArg List.length h
  simpa using this
end Go.Proofs.YtappmacnoopmkaaGreat
