/- Objects: the object that says a thing. -/
import Derived.Test.YtnneolkedekfbaaObF
namespace Go.Proofs.Ytnneolkedekfbaa
set_option linter.unusedVariables false
open Go.RowKit

/-- an object of words that a call made itself. -/
def ObjEnd (a b : Int) (ws : List Int) (w : World) (e : Ending) (w' : World) : Prop := Below w.heap.size w w' ∧ ∃ A k, e = .returned (.agg #[.int .i64 a, .int .i64 b, .slice A ws.length k]) ∧ LieQ wdV 1 w' (fun q => w.heap.size ≤ q ∧ q < w'.heap.size) A ws
def Said1 (M : Bool) (a b : Int) (ws : List Int) (w : World) (e : Ending) (w' : World) : Prop :=
  Below w.heap.size w w' ∧ ((M = true ∧ ∃ a' b' A n k, a' = a ∧ b' = b ∧ n = ws.length ∧ e = .returned (.agg #[.int .i64 a', .int .i64 b', .slice A n k]) ∧ LieQ wdV 1 w' (fun q => w.heap.size + 1 ≤ q ∧ q < w'.heap.size) A ws) ∨ (M = false ∧ e = errPanic 2))
/-- the object that says a thing, or that it may not be said. -/
def SaidEnd (M : Bool) (a b : Int) (ws : List Int) (w : World) (e : Ending) (w' : World) : Prop :=
  Below w.heap.size w w' ∧ ((M = true ∧ ∃ A k, e = .returned (.tuple #[.agg #[.int .i64 a, .int .i64 b, .slice A ws.length k], .int .i64 0]) ∧ LieQ wdV 1 w' (fun q => w.heap.size ≤ q ∧ q < w'.heap.size) A ws) ∨ (M = false ∧ e = .returned (.tuple #[.agg #[.int .i64 0, .int .i64 0, .slice none 0 0], .int .i64 2])))

set_option maxHeartbeats 2000000 in
theorem said1I_any (fm fo ft : Nat) (em : ∀ args w, (callFunc fm args).run Try.prog w = .ok (.enter fm args) w) (eo : ∀ args w, (callFunc fo args).run Try.prog w = .ok (.enter fo args) w) (co : Array Value) (M : Bool) (a b : Int) (ws : List Int) (x : Int) (ps px : Nat) (w : World)
    (hs : ps < w.heap.size) (hx : px < w.heap.size) (c0 : w.cell? ⟨ps, 0, none⟩ = some (.func (.func fm) #[] #[])) (c1 : w.cell? ⟨ps, 1, none⟩ = some (.func (.func fo) #[] co)) (c3 : w.cell? ⟨px, 0, none⟩ = some (.int .i64 x))
    (cm : ∀ W, Below w.heap.size w W → Calls Try.prog fm #[.int .i64 x] W fun e w' => e = .returned (.bool M) ∧ Below W.heap.size W w')
    (ct : M = true → ∀ W, Below w.heap.size w W → Calls Try.prog fo (#[.int .i64 x] ++ co) W (ObjEnd a b ws W)) :
    Calls Try.prog 49 #[.pointer (some ⟨ps, 0, none⟩), .pointer (some ⟨px, 0, none⟩)] w (Said1 M a b ws w) := by
  have CM := hidd cm
  have CT := hidd ct
  have KS := hidd (fun W (h : Below w.heap.size w W) => (show W.cell? ⟨ps, 0, none⟩ = some (.func (.func fm) #[] #[]) ∧ W.cell? ⟨ps, 1, none⟩ = some (.func (.func fo) #[] co) ∧ W.cell? ⟨px, 0, none⟩ = some (.int .i64 x) from ⟨(h.cell (p := ⟨ps, 0, none⟩) hs).trans c0, (h.cell (p := ⟨ps, 1, none⟩) hs).trans c1, (h.cell (p := ⟨px, 0, none⟩) hx).trans c3⟩))
  clear cm ct
  cases M
  · go_enter Try.func49, Try.ntmps49
    go_wp2_with fail
    refine (CM.out _ (by (repeat' (first | (with_reducible exact Below.refl _ _) | (with_reducible assumption) | (with_reducible apply Below.setCell) | (with_reducible apply Below.alloc) | (with_reducible apply Below.drew) | (with_reducible apply below_drewN) | (with_reducible refine Below.trans ?_ (Below.mono (by assumption) ?_)) | omega | (simp; done) | (simp; omega))))).mono ?_
    rintro e w1 ⟨rfl, hb1⟩
    go_wp2_with fail
    refine (need_no _ _).mono ?_
    rintro e w2 ⟨rfl, rfl⟩
    go_wp2_with fail
    exact ⟨rfl, by (repeat' (first | (with_reducible exact Below.refl _ _) | (with_reducible assumption) | (with_reducible apply Below.setCell) | (with_reducible apply Below.alloc) | (with_reducible apply Below.drew) | (with_reducible apply below_drewN) | (with_reducible refine Below.trans ?_ (Below.mono (by assumption) ?_)) | omega | (simp; done) | (simp; omega))), .inr ⟨rfl, rfl⟩⟩
  · go_enter Try.func49, Try.ntmps49
    go_wp2_with fail
    refine (CM.out _ (by (repeat' (first | (with_reducible exact Below.refl _ _) | (with_reducible assumption) | (with_reducible apply Below.setCell) | (with_reducible apply Below.alloc) | (with_reducible apply Below.drew) | (with_reducible apply below_drewN) | (with_reducible refine Below.trans ?_ (Below.mono (by assumption) ?_)) | omega | (simp; done) | (simp; omega))))).mono ?_
    rintro e w1 ⟨rfl, hb1⟩
    have hb2 : Below w.heap.size w w1 := below_step (show Below w.heap.size w _ by (repeat' (first | (with_reducible exact Below.refl _ _) | (with_reducible assumption) | (with_reducible apply Below.setCell) | (with_reducible apply Below.alloc) | (with_reducible apply Below.drew) | (with_reducible apply below_drewN) | (with_reducible refine Below.trans ?_ (Below.mono (by assumption) ?_)) | omega | (simp; done) | (simp; omega)))) hb1
    have HB2 := hidd hb2
    obtain ⟨bc, bf⟩ := bcell hb1
    have zz : w.heap.size < w1.heap.size := by have := hb1.size; simp at this; omega
    have r0 : w1.cell? ⟨w.heap.size, 0, none⟩ = some (.int .i64 0) := by rw [bc _ _ (by simp)]; simp [go_sem]
    have r1 : w1.cell? ⟨w.heap.size, 1, none⟩ = some (.int .i64 0) := by rw [bc _ _ (by simp)]; simp [go_sem]
    have r2 : w1.cell? ⟨w.heap.size, 2, none⟩ = some (.slice none 0 0) := by rw [bc _ _ (by simp)]; simp [go_sem]
    have r3 : w1.frozen? ⟨w.heap.size, 0, none⟩ = false := by rw [bf _ _ (by simp)]; simp [go_sem]
    have r4 : w1.frozen? ⟨w.heap.size, 1, none⟩ = false := by rw [bf _ _ (by simp)]; simp [go_sem]
    have r5 : w1.frozen? ⟨w.heap.size, 2, none⟩ = false := by rw [bf _ _ (by simp)]; simp [go_sem]
    obtain ⟨g0, g1, g2⟩ := KS.out _ hb2
    clear hb1 hb2 bc bf
    go_wp2_with fail
    refine (need_yes _ _).mono ?_
    rintro e w2 ⟨rfl, rfl⟩
    go_wp2_with fail
    refine (CT.out (by first | rfl | trivial) _ HB2.out).mono ?_
    rintro e w2 ⟨hb2, A, k, rfl, hl⟩
    have HB3 := hidd (below_step HB2.out hb2)
    have HL := hidd hl
    obtain ⟨bc, bf⟩ := bcell hb2
    have s0 : w2.cell? ⟨w.heap.size, 0, none⟩ = some (.int .i64 0) := by rw [bc _ _ zz]; exact r0
    have s1 : w2.cell? ⟨w.heap.size, 1, none⟩ = some (.int .i64 0) := by rw [bc _ _ zz]; exact r1
    have s2 : w2.cell? ⟨w.heap.size, 2, none⟩ = some (.slice none 0 0) := by rw [bc _ _ zz]; exact r2
    have s3 : w2.frozen? ⟨w.heap.size, 0, none⟩ = false := by rw [bf _ _ zz]; exact r3
    have s4 : w2.frozen? ⟨w.heap.size, 1, none⟩ = false := by rw [bf _ _ zz]; exact r4
    have s5 : w2.frozen? ⟨w.heap.size, 2, none⟩ = false := by rw [bf _ _ zz]; exact r5
    clear hb2 hl bc bf r0 r1 r2 r3 r4 r5
    go_wp2_with fail
    refine bodyPost_ret (v := .agg #[.int .i64 a, .int .i64 b, .slice A ws.length k]) (by simp [results, Try.results49, go_sem, *]) rfl ⟨by have q := HB3.out; (repeat' (first | (with_reducible exact Below.refl _ _) | (with_reducible assumption) | (with_reducible apply Below.setCell) | (with_reducible apply Below.alloc) | (with_reducible apply Below.drew) | (with_reducible apply below_drewN) | (with_reducible refine Below.trans ?_ (Below.mono (by assumption) ?_)) | omega | (simp; done) | (simp; omega))), .inl ⟨rfl, a, b, A, ws.length, k, rfl, rfl, rfl, rfl, ?_⟩⟩
    have H := HL.out
    refine (((H.to (p' := fun q => w.heap.size + 1 ≤ q ∧ q < w2.heap.size) (fun q hq => ⟨⟨by omega, hq.2⟩, rfl⟩)).low (p := ⟨w.heap.size, 0, none⟩) (by simp) _).low (p := ⟨w.heap.size, 1, none⟩) (by simp) _).low (p := ⟨w.heap.size, 2, none⟩) (by simp) _
theorem enters_said1I : ∀ args w, (callFunc 49 args).run Try.prog w = .ok (.enter 49 args) w := fun args w => by simp [callFunc, Try.func49, Try.f49, mark]
set_option maxHeartbeats 2000000 in
theorem saidI_any (fm fo ft : Nat) (em : ∀ args w, (callFunc fm args).run Try.prog w = .ok (.enter fm args) w) (eo : ∀ args w, (callFunc fo args).run Try.prog w = .ok (.enter fo args) w) (co : Array Value) (M : Bool) (a b : Int) (ws : List Int) (x : Int) (w : World)
    (cm : ∀ W, Below w.heap.size w W → Calls Try.prog fm #[.int .i64 x] W fun e w' => e = .returned (.bool M) ∧ Below W.heap.size W w')
    (ct : M = true → ∀ W, Below w.heap.size w W → Calls Try.prog fo (#[.int .i64 x] ++ co) W (ObjEnd a b ws W)) :
    Calls Try.prog 30 #[.agg #[.func (.func fm) #[] #[], .func (.func fo) #[] co, .func (.func ft) #[] #[]], .int .i64 x] w (SaidEnd M a b ws w) := by
  have hmf : ∀ (fn : Fn) (first cap : Array Value) (w : World), (Instr.makeFunc fn first cap).run Try.prog w = .ok (.func fn first cap) w := fun _ _ _ _ => rfl
  obtain ⟨w0, hw0⟩ : ∃ w0, (((w.alloc (.cells #[.func (.func fm) #[] #[], .func (.func fo) #[] co, .func (.func ft) #[] #[]] 64)).alloc (.cells #[.int .i64 x] 2)).alloc (.cells #[.int .i64 0, .int .i64 0, .slice none 0 0] 32)) = w0 := ⟨_, rfl⟩
  have hs0 : w0.heap.size = w.heap.size + 3 := by rw [← hw0]; simp
  have hb0 : Below w.heap.size w w0 := by rw [← hw0]; (repeat' (first | (with_reducible exact Below.refl _ _) | (with_reducible assumption) | (with_reducible apply Below.setCell) | (with_reducible apply Below.alloc) | (with_reducible apply Below.drew) | (with_reducible apply below_drewN) | (with_reducible refine Below.trans ?_ (Below.mono (by assumption) ?_)) | omega | (simp; done) | (simp; omega)))
  have d0 : w0.cell? ⟨w.heap.size, 0, none⟩ = some (.func (.func fm) #[] #[]) := by rw [← hw0]; simp [go_sem]
  have d1 : w0.cell? ⟨w.heap.size, 1, none⟩ = some (.func (.func fo) #[] co) := by rw [← hw0]; simp [go_sem]
  have d2 : w0.cell? ⟨w.heap.size + 1, 0, none⟩ = some (.int .i64 x) := by rw [← hw0]; simp [go_sem]
  have ct := hidd (toldO_any 49 (enters_said1I) #[.pointer (some ⟨w.heap.size, 0, none⟩), .pointer (some ⟨w.heap.size + 1, 0, none⟩)] w0 (fun a' b' A n k X => M = true ∧ a' = a ∧ b' = b ∧ n = ws.length ∧ LieQ wdV 1 X (fun q => w.heap.size + 5 ≤ q ∧ q < X.heap.size) A ws) (fun k => k = 2 ∧ M = false)
    (fun _ _ _ _ _ X p u h1 h2 h3 => ⟨h3.1, h3.2.1, h3.2.2.1, h3.2.2.2.1, h3.2.2.2.2.low (by omega) u⟩)
    (fun W hW hsz => (said1I_any fm fo ft em eo co M a b ws x w.heap.size (w.heap.size + 1) W (by omega) (by omega) ((hW.cell (p := ⟨w.heap.size, 0, none⟩) (by rw [hs0]; simp)).trans d0) ((hW.cell (p := ⟨w.heap.size, 1, none⟩) (by rw [hs0]; simp)).trans d1) ((hW.cell (p := ⟨w.heap.size + 1, 0, none⟩) (by rw [hs0]; simp)).trans d2)
      (fun X hX => cm X (below_step (hb0.trans (hW.mono hb0.size)) hX)) (fun hM X hX => ct hM X (below_step (hb0.trans (hW.mono hb0.size)) hX))).mono fun e w' ⟨h1, h2⟩ => ⟨h1, by
      rcases h2 with ⟨hM, a', b', A, n, k, e1, e2, e3, e4, e5⟩ | ⟨e1, e2⟩
      · exact .inl ⟨a', b', A, n, k, e4, hM, e1, e2, e3, e5.to (fun q hq => ⟨⟨by omega, hq.2⟩, rfl⟩)⟩
      · exact .inr ⟨2, e2, rfl, e1⟩⟩))
  have HB0 := hidd hb0
  have HW0 := hidd hw0
  have HS0 := hidd hs0
  clear cm hs0 hb0 hw0 d0 d1 d2
  go_enter Try.func30, Try.ntmps30
  go_wp2_with fail
  rw [HW0.out]
  refine ct.out.mono ?_
  rintro e w1 ⟨hb1, h⟩
  have HB1 := hidd (below_step HB0.out hb1)
  have hz : w.heap.size + 2 < w1.heap.size := by have := hb1.size; rw [HS0.out] at this; omega
  obtain ⟨bc, bf⟩ := bcell hb1
  have s0 : w1.cell? ⟨w.heap.size + 1 + 1, 0, none⟩ = some (.int .i64 0) := by rw [bc _ _ (by rw [HS0.out]; omega), ← HW0.out]; simp [go_sem]
  have s1 : w1.cell? ⟨w.heap.size + 1 + 1, 1, none⟩ = some (.int .i64 0) := by rw [bc _ _ (by rw [HS0.out]; omega), ← HW0.out]; simp [go_sem]
  have s2 : w1.cell? ⟨w.heap.size + 1 + 1, 2, none⟩ = some (.slice none 0 0) := by rw [bc _ _ (by rw [HS0.out]; omega), ← HW0.out]; simp [go_sem]
  have s3 : w1.frozen? ⟨w.heap.size + 1 + 1, 0, none⟩ = false := by rw [bf _ _ (by rw [HS0.out]; omega), ← HW0.out]; simp [go_sem]
  have s4 : w1.frozen? ⟨w.heap.size + 1 + 1, 1, none⟩ = false := by rw [bf _ _ (by rw [HS0.out]; omega), ← HW0.out]; simp [go_sem]
  have s5 : w1.frozen? ⟨w.heap.size + 1 + 1, 2, none⟩ = false := by rw [bf _ _ (by rw [HS0.out]; omega), ← HW0.out]; simp [go_sem]
  clear hb1 bc bf
  rcases h with ⟨a', b', A, n, k, rfl, hM, rfl, rfl, rfl, hl⟩ | ⟨k, rfl, rfl, hM⟩
  · have HL := hidd hl
    have HM := hidd hM
    clear hl hM
    go_wp2_with fail
    refine bodyPost_ret (v := .tuple #[.agg #[.int .i64 a', .int .i64 b', .slice A ws.length k], .int .i64 0]) (by simp [results, Try.results30, go_sem, *]) rfl ⟨by have q := HB1.out; (repeat' (first | (with_reducible exact Below.refl _ _) | (with_reducible assumption) | (with_reducible apply Below.setCell) | (with_reducible apply Below.alloc) | (with_reducible apply Below.drew) | (with_reducible apply below_drewN) | (with_reducible refine Below.trans ?_ (Below.mono (by assumption) ?_)) | omega | (simp; done) | (simp; omega))), .inl ⟨HM.out, A, k, rfl, ?_⟩⟩
    exact (((HL.out.low (p := ⟨w.heap.size + 1 + 1, 0, none⟩) (by simp) _).low (p := ⟨w.heap.size + 1 + 1, 1, none⟩) (by simp) _).low (p := ⟨w.heap.size + 1 + 1, 2, none⟩) (by simp) _).to (fun q hq => ⟨⟨by omega, hq.2⟩, rfl⟩)
  · have HM := hidd hM
    clear hM
    go_wp2_with fail
    exact bodyPost_ret (v := .tuple #[.agg #[.int .i64 0, .int .i64 0, .slice none 0 0], .int .i64 2]) (by simp [results, Try.results30, go_sem, *]) rfl ⟨by have q := HB1.out; (repeat' (first | (with_reducible exact Below.refl _ _) | (with_reducible assumption) | (with_reducible apply Below.setCell) | (with_reducible apply Below.alloc) | (with_reducible apply Below.drew) | (with_reducible apply below_drewN) | (with_reducible refine Below.trans ?_ (Below.mono (by assumption) ?_)) | omega | (simp; done) | (simp; omega))), .inr ⟨HM.out, rfl⟩⟩

set_option maxHeartbeats 2000000 in
theorem said1S_any (fm fo ft : Nat) (em : ∀ args w, (callFunc fm args).run Try.prog w = .ok (.enter fm args) w) (eo : ∀ args w, (callFunc fo args).run Try.prog w = .ok (.enter fo args) w) (co : Array Value) (M : Bool) (a b : Int) (ws : List Int) (x0 x1 : Int) (ps px : Nat) (w : World)
    (hs : ps < w.heap.size) (hx : px < w.heap.size) (c0 : w.cell? ⟨ps, 0, none⟩ = some (.func (.func fm) #[] #[])) (c1 : w.cell? ⟨ps, 1, none⟩ = some (.func (.func fo) #[] co)) (c3 : w.cell? ⟨px, 0, none⟩ = some (.int .i64 x0)) (c4 : w.cell? ⟨px, 1, none⟩ = some (.int .i64 x1))
    (cm : ∀ W, Below w.heap.size w W → Calls Try.prog fm #[.agg #[.int .i64 x0, .int .i64 x1]] W fun e w' => e = .returned (.bool M) ∧ Below W.heap.size W w')
    (ct : M = true → ∀ W, Below w.heap.size w W → Calls Try.prog fo (#[.agg #[.int .i64 x0, .int .i64 x1]] ++ co) W (ObjEnd a b ws W)) :
    Calls Try.prog 55 #[.pointer (some ⟨ps, 0, none⟩), .pointer (some ⟨px, 0, none⟩)] w (Said1 M a b ws w) := by
  have CM := hidd cm
  have CT := hidd ct
  have KS := hidd (fun W (h : Below w.heap.size w W) => (show W.cell? ⟨ps, 0, none⟩ = some (.func (.func fm) #[] #[]) ∧ W.cell? ⟨ps, 1, none⟩ = some (.func (.func fo) #[] co) ∧ W.cell? ⟨px, 0, none⟩ = some (.int .i64 x0) ∧ W.cell? ⟨px, 1, none⟩ = some (.int .i64 x1) from ⟨(h.cell (p := ⟨ps, 0, none⟩) hs).trans c0, (h.cell (p := ⟨ps, 1, none⟩) hs).trans c1, (h.cell (p := ⟨px, 0, none⟩) hx).trans c3, (h.cell (p := ⟨px, 1, none⟩) hx).trans c4⟩))
  clear cm ct
  cases M
  · go_enter Try.func55, Try.ntmps55
    go_wp2_with fail
    refine (CM.out _ (by (repeat' (first | (with_reducible exact Below.refl _ _) | (with_reducible assumption) | (with_reducible apply Below.setCell) | (with_reducible apply Below.alloc) | (with_reducible apply Below.drew) | (with_reducible apply below_drewN) | (with_reducible refine Below.trans ?_ (Below.mono (by assumption) ?_)) | omega | (simp; done) | (simp; omega))))).mono ?_
    rintro e w1 ⟨rfl, hb1⟩
    go_wp2_with fail
    refine (need_no _ _).mono ?_
    rintro e w2 ⟨rfl, rfl⟩
    go_wp2_with fail
    exact ⟨rfl, by (repeat' (first | (with_reducible exact Below.refl _ _) | (with_reducible assumption) | (with_reducible apply Below.setCell) | (with_reducible apply Below.alloc) | (with_reducible apply Below.drew) | (with_reducible apply below_drewN) | (with_reducible refine Below.trans ?_ (Below.mono (by assumption) ?_)) | omega | (simp; done) | (simp; omega))), .inr ⟨rfl, rfl⟩⟩
  · go_enter Try.func55, Try.ntmps55
    go_wp2_with fail
    refine (CM.out _ (by (repeat' (first | (with_reducible exact Below.refl _ _) | (with_reducible assumption) | (with_reducible apply Below.setCell) | (with_reducible apply Below.alloc) | (with_reducible apply Below.drew) | (with_reducible apply below_drewN) | (with_reducible refine Below.trans ?_ (Below.mono (by assumption) ?_)) | omega | (simp; done) | (simp; omega))))).mono ?_
    rintro e w1 ⟨rfl, hb1⟩
    have hb2 : Below w.heap.size w w1 := below_step (show Below w.heap.size w _ by (repeat' (first | (with_reducible exact Below.refl _ _) | (with_reducible assumption) | (with_reducible apply Below.setCell) | (with_reducible apply Below.alloc) | (with_reducible apply Below.drew) | (with_reducible apply below_drewN) | (with_reducible refine Below.trans ?_ (Below.mono (by assumption) ?_)) | omega | (simp; done) | (simp; omega)))) hb1
    have HB2 := hidd hb2
    obtain ⟨bc, bf⟩ := bcell hb1
    have zz : w.heap.size < w1.heap.size := by have := hb1.size; simp at this; omega
    have r0 : w1.cell? ⟨w.heap.size, 0, none⟩ = some (.int .i64 0) := by rw [bc _ _ (by simp)]; simp [go_sem]
    have r1 : w1.cell? ⟨w.heap.size, 1, none⟩ = some (.int .i64 0) := by rw [bc _ _ (by simp)]; simp [go_sem]
    have r2 : w1.cell? ⟨w.heap.size, 2, none⟩ = some (.slice none 0 0) := by rw [bc _ _ (by simp)]; simp [go_sem]
    have r3 : w1.frozen? ⟨w.heap.size, 0, none⟩ = false := by rw [bf _ _ (by simp)]; simp [go_sem]
    have r4 : w1.frozen? ⟨w.heap.size, 1, none⟩ = false := by rw [bf _ _ (by simp)]; simp [go_sem]
    have r5 : w1.frozen? ⟨w.heap.size, 2, none⟩ = false := by rw [bf _ _ (by simp)]; simp [go_sem]
    obtain ⟨g0, g1, g2, g3⟩ := KS.out _ hb2
    clear hb1 hb2 bc bf
    go_wp2_with fail
    refine (need_yes _ _).mono ?_
    rintro e w2 ⟨rfl, rfl⟩
    go_wp2_with fail
    refine (CT.out (by first | rfl | trivial) _ HB2.out).mono ?_
    rintro e w2 ⟨hb2, A, k, rfl, hl⟩
    have HB3 := hidd (below_step HB2.out hb2)
    have HL := hidd hl
    obtain ⟨bc, bf⟩ := bcell hb2
    have s0 : w2.cell? ⟨w.heap.size, 0, none⟩ = some (.int .i64 0) := by rw [bc _ _ zz]; exact r0
    have s1 : w2.cell? ⟨w.heap.size, 1, none⟩ = some (.int .i64 0) := by rw [bc _ _ zz]; exact r1
    have s2 : w2.cell? ⟨w.heap.size, 2, none⟩ = some (.slice none 0 0) := by rw [bc _ _ zz]; exact r2
    have s3 : w2.frozen? ⟨w.heap.size, 0, none⟩ = false := by rw [bf _ _ zz]; exact r3
    have s4 : w2.frozen? ⟨w.heap.size, 1, none⟩ = false := by rw [bf _ _ zz]; exact r4
    have s5 : w2.frozen? ⟨w.heap.size, 2, none⟩ = false := by rw [bf _ _ zz]; exact r5
    clear hb2 hl bc bf r0 r1 r2 r3 r4 r5
    go_wp2_with fail
    refine bodyPost_ret (v := .agg #[.int .i64 a, .int .i64 b, .slice A ws.length k]) (by simp [results, Try.results55, go_sem, *]) rfl ⟨by have q := HB3.out; (repeat' (first | (with_reducible exact Below.refl _ _) | (with_reducible assumption) | (with_reducible apply Below.setCell) | (with_reducible apply Below.alloc) | (with_reducible apply Below.drew) | (with_reducible apply below_drewN) | (with_reducible refine Below.trans ?_ (Below.mono (by assumption) ?_)) | omega | (simp; done) | (simp; omega))), .inl ⟨rfl, a, b, A, ws.length, k, rfl, rfl, rfl, rfl, ?_⟩⟩
    have H := HL.out
    refine (((H.to (p' := fun q => w.heap.size + 1 ≤ q ∧ q < w2.heap.size) (fun q hq => ⟨⟨by omega, hq.2⟩, rfl⟩)).low (p := ⟨w.heap.size, 0, none⟩) (by simp) _).low (p := ⟨w.heap.size, 1, none⟩) (by simp) _).low (p := ⟨w.heap.size, 2, none⟩) (by simp) _
theorem enters_said1S : ∀ args w, (callFunc 55 args).run Try.prog w = .ok (.enter 55 args) w := fun args w => by simp [callFunc, Try.func55, Try.f55, mark]
set_option maxHeartbeats 2000000 in
theorem saidS_any (fm fo ft : Nat) (em : ∀ args w, (callFunc fm args).run Try.prog w = .ok (.enter fm args) w) (eo : ∀ args w, (callFunc fo args).run Try.prog w = .ok (.enter fo args) w) (co : Array Value) (M : Bool) (a b : Int) (ws : List Int) (x0 x1 : Int) (w : World)
    (cm : ∀ W, Below w.heap.size w W → Calls Try.prog fm #[.agg #[.int .i64 x0, .int .i64 x1]] W fun e w' => e = .returned (.bool M) ∧ Below W.heap.size W w')
    (ct : M = true → ∀ W, Below w.heap.size w W → Calls Try.prog fo (#[.agg #[.int .i64 x0, .int .i64 x1]] ++ co) W (ObjEnd a b ws W)) :
    Calls Try.prog 32 #[.agg #[.func (.func fm) #[] #[], .func (.func fo) #[] co, .func (.func ft) #[] #[]], .agg #[.int .i64 x0, .int .i64 x1]] w (SaidEnd M a b ws w) := by
  have hmf : ∀ (fn : Fn) (first cap : Array Value) (w : World), (Instr.makeFunc fn first cap).run Try.prog w = .ok (.func fn first cap) w := fun _ _ _ _ => rfl
  obtain ⟨w0, hw0⟩ : ∃ w0, (((w.alloc (.cells #[.func (.func fm) #[] #[], .func (.func fo) #[] co, .func (.func ft) #[] #[]] 70)).alloc (.cells #[.int .i64 x0, .int .i64 x1] 45)).alloc (.cells #[.int .i64 0, .int .i64 0, .slice none 0 0] 32)) = w0 := ⟨_, rfl⟩
  have hs0 : w0.heap.size = w.heap.size + 3 := by rw [← hw0]; simp
  have hb0 : Below w.heap.size w w0 := by rw [← hw0]; (repeat' (first | (with_reducible exact Below.refl _ _) | (with_reducible assumption) | (with_reducible apply Below.setCell) | (with_reducible apply Below.alloc) | (with_reducible apply Below.drew) | (with_reducible apply below_drewN) | (with_reducible refine Below.trans ?_ (Below.mono (by assumption) ?_)) | omega | (simp; done) | (simp; omega)))
  have d0 : w0.cell? ⟨w.heap.size, 0, none⟩ = some (.func (.func fm) #[] #[]) := by rw [← hw0]; simp [go_sem]
  have d1 : w0.cell? ⟨w.heap.size, 1, none⟩ = some (.func (.func fo) #[] co) := by rw [← hw0]; simp [go_sem]
  have d2 : w0.cell? ⟨w.heap.size + 1, 0, none⟩ = some (.int .i64 x0) := by rw [← hw0]; simp [go_sem]
  have d3 : w0.cell? ⟨w.heap.size + 1, 1, none⟩ = some (.int .i64 x1) := by rw [← hw0]; simp [go_sem]
  have ct := hidd (toldO_any 55 (enters_said1S) #[.pointer (some ⟨w.heap.size, 0, none⟩), .pointer (some ⟨w.heap.size + 1, 0, none⟩)] w0 (fun a' b' A n k X => M = true ∧ a' = a ∧ b' = b ∧ n = ws.length ∧ LieQ wdV 1 X (fun q => w.heap.size + 5 ≤ q ∧ q < X.heap.size) A ws) (fun k => k = 2 ∧ M = false)
    (fun _ _ _ _ _ X p u h1 h2 h3 => ⟨h3.1, h3.2.1, h3.2.2.1, h3.2.2.2.1, h3.2.2.2.2.low (by omega) u⟩)
    (fun W hW hsz => (said1S_any fm fo ft em eo co M a b ws x0 x1 w.heap.size (w.heap.size + 1) W (by omega) (by omega) ((hW.cell (p := ⟨w.heap.size, 0, none⟩) (by rw [hs0]; simp)).trans d0) ((hW.cell (p := ⟨w.heap.size, 1, none⟩) (by rw [hs0]; simp)).trans d1) ((hW.cell (p := ⟨w.heap.size + 1, 0, none⟩) (by rw [hs0]; simp)).trans d2) ((hW.cell (p := ⟨w.heap.size + 1, 1, none⟩) (by rw [hs0]; simp)).trans d3)
      (fun X hX => cm X (below_step (hb0.trans (hW.mono hb0.size)) hX)) (fun hM X hX => ct hM X (below_step (hb0.trans (hW.mono hb0.size)) hX))).mono fun e w' ⟨h1, h2⟩ => ⟨h1, by
      rcases h2 with ⟨hM, a', b', A, n, k, e1, e2, e3, e4, e5⟩ | ⟨e1, e2⟩
      · exact .inl ⟨a', b', A, n, k, e4, hM, e1, e2, e3, e5.to (fun q hq => ⟨⟨by omega, hq.2⟩, rfl⟩)⟩
      · exact .inr ⟨2, e2, rfl, e1⟩⟩))
  have HB0 := hidd hb0
  have HW0 := hidd hw0
  have HS0 := hidd hs0
  clear cm hs0 hb0 hw0 d0 d1 d2 d3
  go_enter Try.func32, Try.ntmps32
  go_wp2_with fail
  rw [HW0.out]
  refine ct.out.mono ?_
  rintro e w1 ⟨hb1, h⟩
  have HB1 := hidd (below_step HB0.out hb1)
  have hz : w.heap.size + 2 < w1.heap.size := by have := hb1.size; rw [HS0.out] at this; omega
  obtain ⟨bc, bf⟩ := bcell hb1
  have s0 : w1.cell? ⟨w.heap.size + 1 + 1, 0, none⟩ = some (.int .i64 0) := by rw [bc _ _ (by rw [HS0.out]; omega), ← HW0.out]; simp [go_sem]
  have s1 : w1.cell? ⟨w.heap.size + 1 + 1, 1, none⟩ = some (.int .i64 0) := by rw [bc _ _ (by rw [HS0.out]; omega), ← HW0.out]; simp [go_sem]
  have s2 : w1.cell? ⟨w.heap.size + 1 + 1, 2, none⟩ = some (.slice none 0 0) := by rw [bc _ _ (by rw [HS0.out]; omega), ← HW0.out]; simp [go_sem]
  have s3 : w1.frozen? ⟨w.heap.size + 1 + 1, 0, none⟩ = false := by rw [bf _ _ (by rw [HS0.out]; omega), ← HW0.out]; simp [go_sem]
  have s4 : w1.frozen? ⟨w.heap.size + 1 + 1, 1, none⟩ = false := by rw [bf _ _ (by rw [HS0.out]; omega), ← HW0.out]; simp [go_sem]
  have s5 : w1.frozen? ⟨w.heap.size + 1 + 1, 2, none⟩ = false := by rw [bf _ _ (by rw [HS0.out]; omega), ← HW0.out]; simp [go_sem]
  clear hb1 bc bf
  rcases h with ⟨a', b', A, n, k, rfl, hM, rfl, rfl, rfl, hl⟩ | ⟨k, rfl, rfl, hM⟩
  · have HL := hidd hl
    have HM := hidd hM
    clear hl hM
    go_wp2_with fail
    refine bodyPost_ret (v := .tuple #[.agg #[.int .i64 a', .int .i64 b', .slice A ws.length k], .int .i64 0]) (by simp [results, Try.results32, go_sem, *]) rfl ⟨by have q := HB1.out; (repeat' (first | (with_reducible exact Below.refl _ _) | (with_reducible assumption) | (with_reducible apply Below.setCell) | (with_reducible apply Below.alloc) | (with_reducible apply Below.drew) | (with_reducible apply below_drewN) | (with_reducible refine Below.trans ?_ (Below.mono (by assumption) ?_)) | omega | (simp; done) | (simp; omega))), .inl ⟨HM.out, A, k, rfl, ?_⟩⟩
    exact (((HL.out.low (p := ⟨w.heap.size + 1 + 1, 0, none⟩) (by simp) _).low (p := ⟨w.heap.size + 1 + 1, 1, none⟩) (by simp) _).low (p := ⟨w.heap.size + 1 + 1, 2, none⟩) (by simp) _).to (fun q hq => ⟨⟨by omega, hq.2⟩, rfl⟩)
  · have HM := hidd hM
    clear hM
    go_wp2_with fail
    exact bodyPost_ret (v := .tuple #[.agg #[.int .i64 0, .int .i64 0, .slice none 0 0], .int .i64 2]) (by simp [results, Try.results32, go_sem, *]) rfl ⟨by have q := HB1.out; (repeat' (first | (with_reducible exact Below.refl _ _) | (with_reducible assumption) | (with_reducible apply Below.setCell) | (with_reducible apply Below.alloc) | (with_reducible apply Below.drew) | (with_reducible apply below_drewN) | (with_reducible refine Below.trans ?_ (Below.mono (by assumption) ?_)) | omega | (simp; done) | (simp; omega))), .inr ⟨HM.out, rfl⟩⟩

end Go.Proofs.Ytnneolkedekfbaa
