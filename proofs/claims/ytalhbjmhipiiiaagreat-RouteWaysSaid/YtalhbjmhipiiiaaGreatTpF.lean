/- Maps: what may be wrong with links together. -/
import Derived.Test.YtalhbjmhipiiiaaGreatTpE
namespace Go.Proofs.YtalhbjmhipiiiaaGreat.Tp
set_option linter.unusedVariables false
open Go.RowKit Go.Maps

def linkA (x : Lk) : Value := .agg #[.int .i64 (fr x), .int .i64 (tw x), .int .i64 (rt x), .int .i64 (sh x), .int .i64 (fa x), .int .i64 (mo x), .int .i64 (ro x), .int .i64 (fi x)]
def IdxEnd (B : Bool) (w : World) (e : Ending) (w' : World) : Prop := ∃ n : Int, e = .returned (.int .i64 n) ∧ (-1 ≤ n ∧ n ≤ 1000000) ∧ decide (0 ≤ n) = B ∧ Below w.heap.size w w'
theorem idxEnd_of {B : Bool} {w : World} (n : Int) (w' : World) (h1 : -1 ≤ n) (h2 : n ≤ 1000000) (h3 : decide (0 ≤ n) = B) (hb : Below w.heap.size w w') : IdxEnd B w (.returned (.int .i64 n)) w' := ⟨n, rfl, ⟨h1, h2⟩, h3, hb⟩
/-- a closure that has caught one box tells P of each of L, in each later world. -/
def Tells (g q : Nat) (Pf : Lk → Bool) (L : List Lk) (w : World) : Prop := ∀ x ∈ L, ∀ W, Below w.heap.size w W → Calls Tryz.prog g #[linkA x, .pointer (some ⟨q, 0, none⟩)] W fun e W' => e = .returned (.bool (Pf x)) ∧ Below W.heap.size W W'
set_option maxRecDepth 100000 in
set_option maxHeartbeats 4000000 in
theorem idx_any (g q : Nat) (he : ∀ args w, (callFunc g args).run Tryz.prog w = .ok (.enter g args) w) (Pf : Lk → Bool) (A : Option Addr) (L : List Lk) (c : Nat) (hL : L.length ≤ 1000000) (w : World) (hA : Lie linkV 8 w w.heap.size A L) (hf : Tells g q Pf L w) :
    Calls Tryz.prog 79 #[.slice A L.length c, .func (.func g) #[] #[.pointer (some ⟨q, 0, none⟩)]] w (IdxEnd (L.any Pf) w) := by
  have HA := hidd hA
  have HF := hidd hf
  have HID := hidd (idxEnd_of (B := L.any Pf) (w := w))
  have hyes := hidd (fun i (hi : i < L.length) (h : Pf (lkAt L i) = true) => show L.any Pf = true from List.any_eq_true.2 ⟨_, lkAt_mem hi, h⟩)
  have hno : Hid ((∀ i, i < L.length → Pf (lkAt L i) = false) → L.any Pf = false) := hidd (fun h => by
    rw [List.any_eq_false]
    intro x hx
    obtain ⟨i, hi, rfl⟩ := List.getElem_of_mem hx
    rw [← lkAt_get hi, h i hi]
    decide)
  generalize L.any Pf = B at *
  clear hA hf
  go_enter Tryz.func79, Tryz.ntmps79
  go_wp2_with fail
  go_loopg [8] (L.length + 2) (fun gh s8 wr => ∃ i : Nat, i ≤ L.length ∧ i + gh = L.length + 2 ∧ s8 = .int .i64 (i : Int) ∧ (∀ j, j < i → Pf (lkAt L j) = false) ∧ Below w.heap.size w wr)
  case atStart => exact ⟨0, by omega, by omega, rfl, fun j h => absurd h (by omega), Below.refl _ _⟩
  case round =>
    obtain ⟨i, hi1, hg, rfl, hs, hB⟩ := hrel
    have HG := hidd hg
    have HS := hidd hs
    have HB := hidd hB
    clear hg hs hB
    by_cases hin : i < L.length
    · have hin2 : (i : Int) < (L.length : Int) := by omega
      have hi0 : (0 : Int) ≤ (i : Int) := by omega
      obtain ⟨ad, rfl, ha, x0, x1, x2, x3, x4, x5, x6, x7⟩ := (HA.out.below HB.out).link i hin
      have hBB := HB.out
      have hBs := hBB.size
      have ci := hidd (HF.out _ (lkAt_mem hin) wr hBB)
      have HY := hidd (hyes.out i hin)
      have HST : Hid (Pf (lkAt L i) = false → ∀ k, k < i + 1 → Pf (lkAt L k) = false) := hidd (fun h k k1 => by
        by_cases hk : k = i
        · subst hk; exact h
        · exact HS.out k (by omega))
      obtain ⟨M, hM⟩ : ∃ M, Pf (lkAt L i) = M := ⟨_, rfl⟩
      rw [hM] at ci HY HST
      unfold linkA at ci
      clear hM
      generalize fr (lkAt L i) = a0 at *
      generalize tw (lkAt L i) = a1 at *
      generalize rt (lkAt L i) = a2 at *
      generalize sh (lkAt L i) = a3 at *
      generalize fa (lkAt L i) = a4 at *
      generalize mo (lkAt L i) = a5 at *
      generalize ro (lkAt L i) = a6 at *
      generalize fi (lkAt L i) = a7 at *
      cases M
      · go_wp2_with fail
        refine ci.out.mono ?_
        rintro e w2 ⟨rfl, hb2⟩
        go_wp2_with fail
        have hg := HG.out
        go_roundg (gk - 1)
        case measure => omega
        case rel => exact ⟨i + 1, by omega, by omega, by go_num, HST.out (by simp), by (repeat' (first | (with_reducible exact Below.refl _ _) | (with_reducible assumption) | (with_reducible apply Below.setCell) | (with_reducible apply Below.alloc) | (with_reducible apply Below.drew) | (with_reducible apply below_drewN) | (with_reducible refine Below.trans ?_ (Below.mono (by assumption) ?_)) | omega | (simp; done) | (simp; omega)))⟩
      · go_wp2_with fail
        refine ci.out.mono ?_
        rintro e w2 ⟨rfl, hb2⟩
        go_wp2_with fail
        go_ret
        exact HID.out _ _ (by omega) (by omega) (by rw [HY.out (by simp)]; exact decide_eq_true hi0) (by (repeat' (first | (with_reducible exact Below.refl _ _) | (with_reducible assumption) | (with_reducible apply Below.setCell) | (with_reducible apply Below.alloc) | (with_reducible apply Below.drew) | (with_reducible apply below_drewN) | (with_reducible refine Below.trans ?_ (Below.mono (by assumption) ?_)) | omega | (simp; done) | (simp; omega))))
    · have HALL := hidd (hno.out (fun j h2 => HS.out j (by omega)))
      have hin2 : ¬ (i : Int) < (L.length : Int) := by omega
      go_wp2_with fail
      go_ret
      exact HID.out _ _ (by omega) (by omega) (by rw [HALL.out]; decide) HB.out
theorem con_any (g q : Nat) (he : ∀ args w, (callFunc g args).run Tryz.prog w = .ok (.enter g args) w) (Pf : Lk → Bool) (A : Option Addr) (L : List Lk) (c : Nat) (hL : L.length ≤ 1000000) (w : World) (hA : Lie linkV 8 w w.heap.size A L) (hf : Tells g q Pf L w) :
    Calls Tryz.prog 63 #[.slice A L.length c, .func (.func g) #[] #[.pointer (some ⟨q, 0, none⟩)]] w fun e w' => e = .returned (.bool (L.any Pf)) ∧ Below w.heap.size w w' := by
  have ci := hidd (idx_any g q he Pf A L c hL w hA hf)
  clear hA hf
  generalize L.any Pf = B at *
  go_enter Tryz.func63, Tryz.ntmps63
  go_wp2_with fail
  refine ci.out.mono ?_
  rintro e w1 ⟨n, rfl, h1, h2, hb⟩
  have H2 := hidd h2
  have HB := hidd hb
  clear h2 hb
  go_wp2_with fail
  go_ret
  exact ⟨ret_bool H2.out, HB.out⟩
/-- is it no link of a map of n nodes. -/
def wrongP (n : Int) (x : Lk) : Bool := !rightB n x
theorem enters_wrong : ∀ args w, (callFunc 59 args).run Tryz.prog w = .ok (.enter 59 args) w := fun args w => by simp [callFunc, Tryz.func59, Tryz.f59, mark]
theorem enters_oneWay : ∀ args w, (callFunc 64 args).run Tryz.prog w = .ok (.enter 64 args) w := fun args w => by simp [callFunc, Tryz.func64, Tryz.f64, mark]
theorem wrong1_any (q : Nat) (n : Int) (a0 a1 a2 a3 a4 a5 a6 a7 : Int) (w : World) (hq : q < w.heap.size) (hc : w.cell? ⟨q, 0, none⟩ = some (.int .i64 n)) :
    Calls Tryz.prog 59 #[.agg #[.int .i64 a0, .int .i64 a1, .int .i64 a2, .int .i64 a3, .int .i64 a4, .int .i64 a5, .int .i64 a6, .int .i64 a7], .pointer (some ⟨q, 0, none⟩)] w fun e w' => e = .returned (.bool (wrongP n (a0, a1, a2, a3, a4, a5, a6, a7))) ∧ Below w.heap.size w w' := by
  have c := hidd (fun W => Check_any a0 a1 a2 a3 a4 a5 a6 a7 n W)
  unfold wrongP
  generalize rightB n (a0, a1, a2, a3, a4, a5, a6, a7) = B at *
  cases B
  all_goals
    go_enter Tryz.func59, Tryz.ntmps59
    go_wp2_with fail
    refine (c.out _).mono ?_
    rintro e w' ⟨rfl, hb⟩
    go_wp2_with fail
    go_ret
    exact ⟨by first | rfl | simp, by (repeat' (first | (with_reducible exact Below.refl _ _) | (with_reducible assumption) | (with_reducible apply Below.setCell) | (with_reducible apply Below.alloc) | (with_reducible apply Below.drew) | (with_reducible apply below_drewN) | (with_reducible refine Below.trans ?_ (Below.mono (by assumption) ?_)) | omega | (simp; done) | (simp; omega)))⟩

/-- has it no way back among these. -/
def noBack (E : List (Int × Int)) (x : Lk) : Bool := !decide ((tw x, fr x) ∈ E)
set_option maxHeartbeats 2000000 in
theorem oneWay1_any (q : Nat) (b : Nat) (E : List (Int × Int)) (hE : ∀ p ∈ E, I64P p) (a0 a1 a2 a3 a4 a5 a6 a7 : Int) (h0 : I64 a0) (h1 : I64 a1) (w : World) (hq : q < w.heap.size) (hc : w.cell? ⟨q, 0, none⟩ = some (.map (some b))) (hb : NumsAt w b E) :
    Calls Tryz.prog 64 #[.agg #[.int .i64 a0, .int .i64 a1, .int .i64 a2, .int .i64 a3, .int .i64 a4, .int .i64 a5, .int .i64 a6, .int .i64 a7], .pointer (some ⟨q, 0, none⟩)] w fun e w' => e = .returned (.bool (noBack E (a0, a1, a2, a3, a4, a5, a6, a7))) ∧ Below w.heap.size w w' := by
  have HN := hidd hb
  have LK := hidd (fun (W : World) (h : NumsAt W b E) => h.look2 hE a1 a0 h1 h0)
  have cE := hidd (fun W => endsOf_any a0 a1 a2 a3 a4 a5 a6 a7 W)
  have cT := hidd (fun W => turned_any a0 a1 W)
  unfold noBack
  have ee : (tw (a0, a1, a2, a3, a4, a5, a6, a7), fr (a0, a1, a2, a3, a4, a5, a6, a7)) = (a1, a0) := rfl
  rw [ee]
  clear ee
  generalize decide ((a1, a0) ∈ E) = M at *
  generalize lastAt E (a1, a0) E.length = V at *
  obtain ⟨W1, hW1⟩ : ∃ W1, w.alloc (.cells #[.int .i64 a0, .int .i64 a1, .int .i64 a2, .int .i64 a3, .int .i64 a4, .int .i64 a5, .int .i64 a6, .int .i64 a7] 51) = W1 := ⟨_, rfl⟩
  have hB1 : Below w.heap.size w W1 := by rw [← hW1]; (repeat' (first | (with_reducible exact Below.refl _ _) | (with_reducible assumption) | (with_reducible apply Below.setCell) | (with_reducible apply Below.alloc) | (with_reducible apply Below.drew) | (with_reducible apply below_drewN) | (with_reducible refine Below.trans ?_ (Below.mono (by assumption) ?_)) | omega | (simp; done) | (simp; omega)))
  have hz1 : W1.heap.size = w.heap.size + 1 := by rw [← hW1]; simp
  have g0 : W1.cell? ⟨q, 0, none⟩ = some (.map (some b)) := (hB1.cell (p := ⟨q, 0, none⟩) hq).trans hc
  have y0 : W1.cell? ⟨w.heap.size, 0, none⟩ = some (.int .i64 a0) := by rw [← hW1]; simp [go_sem]
  have y1 : W1.cell? ⟨w.heap.size, 1, none⟩ = some (.int .i64 a1) := by rw [← hW1]; simp [go_sem]
  have y2 : W1.cell? ⟨w.heap.size, 2, none⟩ = some (.int .i64 a2) := by rw [← hW1]; simp [go_sem]
  have y3 : W1.cell? ⟨w.heap.size, 3, none⟩ = some (.int .i64 a3) := by rw [← hW1]; simp [go_sem]
  have y4 : W1.cell? ⟨w.heap.size, 4, none⟩ = some (.int .i64 a4) := by rw [← hW1]; simp [go_sem]
  have y5 : W1.cell? ⟨w.heap.size, 5, none⟩ = some (.int .i64 a5) := by rw [← hW1]; simp [go_sem]
  have y6 : W1.cell? ⟨w.heap.size, 6, none⟩ = some (.int .i64 a6) := by rw [← hW1]; simp [go_sem]
  have y7 : W1.cell? ⟨w.heap.size, 7, none⟩ = some (.int .i64 a7) := by rw [← hW1]; simp [go_sem]
  have zz : w.heap.size < W1.heap.size := by omega
  have HB1 := hidd hB1
  have HN1 := hidd (HN.out.below hB1)
  have HZ := hidd hz1
  have HW := hidd hW1
  have k0 : (W1.cell? ⟨q, 0, none⟩ = some (.map (some b)) ∧ W1.cell? ⟨w.heap.size, 0, none⟩ = some (.int .i64 a0) ∧ W1.cell? ⟨w.heap.size, 1, none⟩ = some (.int .i64 a1) ∧ W1.cell? ⟨w.heap.size, 2, none⟩ = some (.int .i64 a2) ∧ W1.cell? ⟨w.heap.size, 3, none⟩ = some (.int .i64 a3) ∧ W1.cell? ⟨w.heap.size, 4, none⟩ = some (.int .i64 a4) ∧ W1.cell? ⟨w.heap.size, 5, none⟩ = some (.int .i64 a5) ∧ W1.cell? ⟨w.heap.size, 6, none⟩ = some (.int .i64 a6) ∧ W1.cell? ⟨w.heap.size, 7, none⟩ = some (.int .i64 a7)) := ⟨g0, y0, y1, y2, y3, y4, y5, y6, y7⟩
  have KEEP := hidd (fun W' (hb : Below W1.heap.size W1 W') => (show (W'.cell? ⟨q, 0, none⟩ = some (.map (some b)) ∧ W'.cell? ⟨w.heap.size, 0, none⟩ = some (.int .i64 a0) ∧ W'.cell? ⟨w.heap.size, 1, none⟩ = some (.int .i64 a1) ∧ W'.cell? ⟨w.heap.size, 2, none⟩ = some (.int .i64 a2) ∧ W'.cell? ⟨w.heap.size, 3, none⟩ = some (.int .i64 a3) ∧ W'.cell? ⟨w.heap.size, 4, none⟩ = some (.int .i64 a4) ∧ W'.cell? ⟨w.heap.size, 5, none⟩ = some (.int .i64 a5) ∧ W'.cell? ⟨w.heap.size, 6, none⟩ = some (.int .i64 a6) ∧ W'.cell? ⟨w.heap.size, 7, none⟩ = some (.int .i64 a7)) from ⟨(hb.cell (p := ⟨q, 0, none⟩) (show q < W1.heap.size by omega)).trans g0, (hb.cell (p := ⟨w.heap.size, 0, none⟩) zz).trans y0, (hb.cell (p := ⟨w.heap.size, 1, none⟩) zz).trans y1, (hb.cell (p := ⟨w.heap.size, 2, none⟩) zz).trans y2, (hb.cell (p := ⟨w.heap.size, 3, none⟩) zz).trans y3, (hb.cell (p := ⟨w.heap.size, 4, none⟩) zz).trans y4, (hb.cell (p := ⟨w.heap.size, 5, none⟩) zz).trans y5, (hb.cell (p := ⟨w.heap.size, 6, none⟩) zz).trans y6, (hb.cell (p := ⟨w.heap.size, 7, none⟩) zz).trans y7⟩))
  have K0 := hidd k0
  clear hB1 hz1 hW1 hc hb hq k0
  go_enter Tryz.func64, Tryz.ntmps64
  go_wp2_with fail
  rw [HW.out]
  go_region_held3 (fun w' => w'.cell? ⟨q, 0, none⟩ = some (.map (some b)) ∧ w'.cell? ⟨w.heap.size, 0, none⟩ = some (.int .i64 a0) ∧ w'.cell? ⟨w.heap.size, 1, none⟩ = some (.int .i64 a1) ∧ w'.cell? ⟨w.heap.size, 2, none⟩ = some (.int .i64 a2) ∧ w'.cell? ⟨w.heap.size, 3, none⟩ = some (.int .i64 a3) ∧ w'.cell? ⟨w.heap.size, 4, none⟩ = some (.int .i64 a4) ∧ w'.cell? ⟨w.heap.size, 5, none⟩ = some (.int .i64 a5) ∧ w'.cell? ⟨w.heap.size, 6, none⟩ = some (.int .i64 a6) ∧ w'.cell? ⟨w.heap.size, 7, none⟩ = some (.int .i64 a7))
    ((first | exact KEEP.out _ cum2 | exact KEEP.out _ cum1 | exact K0.out | go_keep))
    ((first
      | (go_at_call 65; refine (cE.out _).mono ?_; rintro E1 v1 ⟨rfl, l1⟩; have cum1 : Below W1.heap.size W1 v1 := (by first | exact below_step (Below.drew (Below.refl _ _)) l1 | exact below_step (Below.refl _ _) l1))
      | (go_at_call 66; refine (cT.out _).mono ?_; rintro E2 v2 ⟨rfl, l2⟩; have cum2 : Below W1.heap.size W1 v2 := (by first | exact below_step cum1 l2); have hl := LK.out _ (HN1.out.below cum2))))
  all_goals go_wp2_with fail
  all_goals go_ret
  all_goals exact ⟨by first | rfl | simp, by have q1 := HB1.out; have q2 := q1.trans (Below.mono cum2 q1.size); (repeat' (first | (with_reducible exact Below.refl _ _) | (with_reducible assumption) | (with_reducible apply Below.setCell) | (with_reducible apply Below.alloc) | (with_reducible apply Below.drew) | (with_reducible apply below_drewN) | (with_reducible refine Below.trans ?_ (Below.mono (by assumption) ?_)) | omega | (simp; done) | (simp; omega)))⟩
end Go.Proofs.YtalhbjmhipiiiaaGreat.Tp
