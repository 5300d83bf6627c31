/- Objects: the object that says a thing. -/
import Derived.Test.YtappmacnoopmkaaGreatObF
namespace Go.Proofs.YtappmacnoopmkaaGreat
set_option linter.unusedVariables false
open Go.RowKit

/-- an object of words that a call made itself. -/
def ObjEnd (a b : Int) (ws : List Int) (w : World) (e : Ending) (w' : World) : Prop := Below w.heap.size w w' ∧ ∃ A k, e = .returned (.agg #[.int .i64 a, .int .i64 b, .slice A ws.length k]) ∧ LieQ wdV 1 w' (fun q => w.heap.size ≤ q ∧ q < w'.heap.size) A ws
def Said1 (M : Bool) (a b : Int) (ws : List Int) (w : World) (e : Ending) (w' : World) : Prop :=
  Below w.heap.size w w' ∧ ((M = true ∧ ∃ a' b' A n k, a' = a ∧ b' = b ∧ n = ws.length ∧ e = .returned (.agg #[.int .i64 a', .int .i64 b', .slice A n k]) ∧ LieQ wdV 1 w' (fun q => w.heap.size + 1 ≤ q ∧ q < w'.heap.size) A ws) ∨ (M = false ∧ e = errPanic 2))
/-- the object that says a thing, or that it may not be said. -/
def SaidEnd (M : Bool) (a b : Int) (ws : List Int) (w : World) (e : Ending) (w' : World) : Prop :=
  Below w.heap.size w w' ∧ ((M = true ∧ ∃ A k, e = .returned (.tuple #[.agg #[.int .i64 a, .int .i64 b, .slice A ws.length k], .int .i64 0]) ∧ LieQ wdV 1 w' (fun q => w.heap.size ≤ q ∧ q < w'.heap.size) A ws) ∨ (M = false ∧ e = .returned (.tuple #[.agg #[.int .i64 0, .int .i64 0, .slice none 0 0], .int .i64 2])))

set_option maxHeartbeats 2000000 in
theorem said1I_any (fm fo ft : Nat) (em : ∀ args w, (callFunc fm args).run Tryz.prog w = .ok (.enter fm args) w) (eo : ∀ args w, (callFunc fo args).run Tryz.prog w = .ok (.enter fo args) w) (co : Array Value) (M : Bool) (a b : Int) (ws : List Int) (x : Int) (ps px : Nat) (w : World)
    (hs : ps < w.heap.size) (hx : px < w.heap.size) (c0 : w.cell? ⟨ps, 0, none⟩ = some (.func (.func fm) #[] #[])) (c1 : w.cell? ⟨ps, 1, none⟩ = some (.func (.func fo) #[] co)) (c3 : w.cell? ⟨px, 0, none⟩ = some (.int .i64 x))
    (cm : ∀ W, Below w.heap.size w W → Calls Tryz.prog fm #[.int .i64 x] W fun e w' => e = .returned (.bool M) ∧ Below W.heap.size W w')
    (ct : M = true → ∀ W, Below w.heap.size w W → Calls Tryz.prog fo (#[.int .i64 x] ++ co) W (ObjEnd a b ws W)) :
    Calls Tryz.prog 136 #[.pointer (some ⟨ps, 0, none⟩), .pointer (some ⟨px, 0, none⟩)] w (Said1 M a b ws w) := by
  have CM := hidd cm
  have CT := hidd ct
  have KS := hidd (fun W (h : Below w.heap.size w W) => (show W.cell? ⟨ps, 0, none⟩ = some (.func (.func fm) #[] #[]) ∧ W.cell? ⟨ps, 1, none⟩ = some (.func (.func fo) #[] co) ∧ W.cell? ⟨px, 0, none⟩ = some (.int .i64 x) from ⟨(h.cell (p := ⟨ps, 0, none⟩) hs).trans c0, (h.cell (p := ⟨ps, 1, none⟩) hs).trans c1, (h.cell (p := ⟨px, 0, none⟩) hx).trans c3⟩))
  clear cm ct
  cases M
  · go_enter Tryz.func136, Tryz.ntmps136
    go_wp2_with fail
    refine (CM.out _ (by (repeat' (first | (with_reducible exact Below.refl _ _) | (with_reducible assumption) | (with_reducible apply Below.setCell) | (with_reducible apply Below.alloc) | (with_reducible apply Below.drew) | (with_reducible apply below_drewN) | (with_reducible refine Below.trans ?_ (Below.mono (by assumption) ?_)) | omega | (simp; done) | (simp; omega))))).mono ?_
    rintro e w1 ⟨rfl, hb1⟩
    go_wp2_with fail
    refine (need_no _ _).mono ?_
    rintro e w2 ⟨rfl, rfl⟩
    go_wp2_with fail
    exact ⟨rfl, by (repeat' (first | (with_reducible exact Below.refl _ _) | (with_reducible assumption) | (with_reducible apply Below.setCell) | (with_reducible apply Below.alloc) | (with_reducible apply Below.drew) | (with_reducible apply below_drewN) | (with_reducible refine Below.trans ?_ (Below.mono (by assumption) ?_)) | omega | (simp; done) | (simp; omega))), .inr ⟨rfl, rfl⟩⟩
  · go_enter Tryz.func136, Tryz.ntmps136
    go_wp2_with fail
    refine (CM.out _ (by (repeat' (first | (with_reducible exact Below.refl _ _) | (with_reducible assumption) | (with_reducible apply Below.setCell) | (with_reducible apply Below.alloc) | (with_reducible apply Below.drew) | (with_reducible apply below_drewN) | (with_reducible refine Below.trans ?_ (Below.mono (by assumption) ?_)) | omega | (simp; done) | (simp; omega))))).mono ?_
    rintro e w1 ⟨rfl, hb1⟩
    have hb2 : Below w.heap.size w w1 := below_step (show Below w.heap.size w _ by (repeat' (first | (with_reducible exact Below.refl _ _) | (with_reducible assumption) | (with_reducible apply Below.setCell) | (with_reducible apply Below.alloc) | (with_reducible apply Below.drew) | (with_reducible apply below_drewN) | (with_reducible refine Below.trans ?_ (Below.mono (by assumption) ?_)) | omega | (simp; done) | (simp; omega)))) hb1
    have HB2 := hidd hb2
    obtain ⟨bc, bf⟩ := bcell hb1
    have zz : w.heap.size < w1.heap.size := by have := hb1.size; simp at this; omega
    have r0 : w1.cell? ⟨w.heap.size, 0, none⟩ = some (.int .i64 0) := by rw [bc _ _ (by simp)]; simp [go_sem]
    have r1 : w1.cell? ⟨w.heap.size, 1, none⟩ = some (.int .i64 0) := by rw [bc _ _ (by simp)]; simp [go_sem]
    have r2 : w1.cell? ⟨w.heap.size, 2, none⟩ = some (.slice none 0 0) := by rw [bc _ _ (by simp)]; simp [go_sem]
    have r3 : w1.frozen? ⟨w.heap.size, 0, none⟩ = false := by rw [bf _ _ (by simp)]; simp [go_sem]
    have r4 : w1.frozen? ⟨w.heap.size, 1, none⟩ = false := by rw [bf _ _ (by simp)]; simp [go_sem]
    have r5 : w1.frozen? ⟨w.heap.size, 2, none⟩ = false := by rw [bf _ _ (by simp)]; simp [go_sem]
    obtain ⟨g0, g1, g2⟩ := KS.out _ hb2
    clear hb1 hb2 bc bf
    go_wp2_with fail
    refine (need_yes _ _).mono ?_
    rintro e w2 ⟨rfl, rfl⟩
    go_wp2_with fail
    refine (CT.out (by first | rfl | trivial) _ HB2.out).mono ?_
    rintro e w2 ⟨hb2, A, k, rfl, hl⟩
    have HB3 := hidd (below_step HB2.out hb2)
    have HL := hidd hl
    obtain ⟨bc, bf⟩ := bcell hb2
    have s0 : w2.cell? ⟨w.heap.size, 0, none⟩ = some (.int .i64 0) := by rw [bc _ _ zz]; exact r0
    have s1 : w2.cell? ⟨w.heap.size, 1, none⟩ = some (.int .i64 0) := by rw [bc _ _ zz]; exact r1
    have s2 : w2.cell? ⟨w.heap.size, 2, none⟩ = some (.slice none 0 0) := by rw [bc _ _ zz]; exact r2
    have s3 : w2.frozen? ⟨w.heap.size, 0, none⟩ = false := by rw [bf _ _ zz]; exact r3
    have s4 : w2.frozen? ⟨w.heap.size, 1, none⟩ = false := by rw [bf _ _ zz]; exact r4
    have s5 : w2.frozen? ⟨w.heap.size, 2, none⟩ = false := by rw [bf _ _ zz]; exact r5
    clear hb2 hl bc bf r0 r1 r2 r3 r4 r5
    go_wp2_with fail
    refine bodyPost_ret (v := .agg #[.int .i64 a, .int .i64 b, .slice A ws.length k]) (by simp [results, Tryz.results136, go_sem, *]) rfl ⟨by have q := HB3.out; (repeat' (first | (with_reducible exact Below.refl _ _) | (with_reducible assumption) | (with_reducible apply Below.setCell) | (with_reducible apply Below.alloc) | (with_reducible apply Below.drew) | (with_reducible apply below_drewN) | (with_reducible refine Below.trans ?_ (Below.mono (by assumption) ?_)) | omega | (simp; done) | (simp; omega))), .inl ⟨rfl, a, b, A, ws.length, k, rfl, rfl, rfl, rfl, ?_⟩⟩
    have H := HL.out
    refine (((H.to (p' := fun q => w.heap.size + 1 ≤ q ∧ q < w2.heap.size) (fun q hq => ⟨⟨by omega, hq.2⟩, rfl⟩)).low (p := ⟨w.heap.size, 0, none⟩) (by simp) _).low (p := ⟨w.heap.size, 1, none⟩) (by simp) _).low (p := ⟨w.heap.size, 2, none⟩) (by simp) _
theorem enters_said1I : ∀ args w, (callFunc 136 args).run Tryz.prog w = .ok (.enter 136 args) w := fun args w => by simp [callFunc, Tryz.func136, Tryz.f136, mark]
set_option maxHeartbeats 2000000 in
theorem saidI_any (fm fo ft : Nat) (em : ∀ args w, (callFunc fm args).run Tryz.prog w = .ok (.enter fm args) w) (eo : ∀ args w, (callFunc fo args).run Tryz.prog w = .ok (.enter fo args) w) (co : Array Value) (M : Bool) (a b : Int) (ws : List Int) (x : Int) (w : World)
    (cm : ∀ W, Below w.heap.size w W → Calls Tryz.prog fm #[.int .i64 x] W fun e w' => e = .returned (.bool M) ∧ Below W.heap.size W w')
    (ct : M = true → ∀ W, Below w.heap.size w W → Calls Tryz.prog fo (#[.int .i64 x] ++ co) W (ObjEnd a b ws W)) :
    Calls Tryz.prog 70 #[.agg #[.func (.func fm) #[] #[], .func (.func fo) #[] co, .func (.func ft) #[] #[]], .int .i64 x] w (SaidEnd M a b ws w) := by
  have hmf : ∀ (fn : Fn) (first cap : Array Value) (w : World), (Instr.makeFunc fn first cap).run Tryz.prog w = .ok (.func fn first cap) w := fun _ _ _ _ => rfl
  obtain ⟨w0, hw0⟩ : ∃ w0, (((w.alloc (.cells #[.func (.func fm) #[] #[], .func (.func fo) #[] co, .func (.func ft) #[] #[]] 109)).alloc (.cells #[.int .i64 x] 2)).alloc (.cells #[.int .i64 0, .int .i64 0, .slice none 0 0] 42)) = w0 := ⟨_, rfl⟩
  have hs0 : w0.heap.size = w.heap.size + 3 := by rw [← hw0]; simp
  have hb0 : Below w.heap.size w w0 := by rw [← hw0]; (repeat' (first | (with_reducible exact Below.refl _ _) | (with_reducible assumption) | (with_reducible apply Below.setCell) | (with_reducible apply Below.alloc) | (with_reducible apply Below.drew) | (with_reducible apply below_drewN) | (with_reducible refine Below.trans ?_ (Below.mono (by assumption) ?_)) | omega | (simp; done) | (simp; omega)))
  have d0 : w0.cell? ⟨w.heap.size, 0, none⟩ = some (.func (.func fm) #[] #[]) := by rw [← hw0]; simp [go_sem]
  have d1 : w0.cell? ⟨w.heap.size, 1, none⟩ = some (.func (.func fo) #[] co) := by rw [← hw0]; simp [go_sem]
  have d2 : w0.cell? ⟨w.heap.size + 1, 0, none⟩ = some (.int .i64 x) := by rw [← hw0]; simp [go_sem]
  have ct := hidd (toldO_any 136 (enters_said1I) #[.pointer (some ⟨w.heap.size, 0, none⟩), .pointer (some ⟨w.heap.size + 1, 0, none⟩)] w0 (fun a' b' A n k X => M = true ∧ a' = a ∧ b' = b ∧ n = ws.length ∧ LieQ wdV 1 X (fun q => w.heap.size + 5 ≤ q ∧ q < X.heap.size) A ws) (fun k => k = 2 ∧ M = false)
    (fun _ _ _ _ _ X p u h1 h2 h3 => ⟨h3.1, h3.2.1, h3.2.2.1, h3.2.2.2.1, h3.2.2.2.2.low (by omega) u⟩)
    (fun W hW hsz => (said1I_any fm fo ft em eo co M a b ws x w.heap.size (w.heap.size + 1) W (by omega) (by omega) ((hW.cell (p := ⟨w.heap.size, 0, none⟩) (by rw [hs0]; simp)).trans d0) ((hW.cell (p := ⟨w.heap.size, 1, none⟩) (by rw [hs0]; simp)).trans d1) ((hW.cell (p := ⟨w.heap.size + 1, 0, none⟩) (by rw [hs0]; simp)).trans d2)
      (fun X hX => cm X (below_step (hb0.trans (hW.mono hb0.size)) hX)) (fun hM X hX => ct hM X (below_step (hb0.trans (hW.mono hb0.size)) hX))).mono fun e w' ⟨h1, h2⟩ => ⟨h1, by
      rcases h2 with ⟨hM, a', b', A, n, k, e1, e2, e3, e4, e5⟩ | ⟨e1, e2⟩
      · exact .inl ⟨a', b', A, n, k, e4, hM, e1, e2, e3, e5.to (fun q hq => ⟨⟨by omega, hq.2⟩, rfl⟩)⟩
      · exact .inr ⟨2, e2, rfl, e1⟩⟩))
  have HB0 := hidd hb0
  have HW0 := hidd hw0
  have HS0 := hidd hs0
  clear cm hs0 hb0 hw0 d0 d1 d2
  go_enter Tryz.func70, Tryz.ntmps70
  go_wp2_with fail
  rw [HW0.out]
  refine ct.out.mono ?_
  rintro e w1 ⟨hb1, h⟩
  have HB1 := hidd (below_step HB0.out hb1)
  have hz : w.heap.size + 2 < w1.heap.size := by have := hb1.size; rw [HS0.out] at this; omega
  obtain ⟨bc, bf⟩ := bcell hb1
  have s0 : w1.cell? ⟨w.heap.size + 1 + 1, 0, none⟩ = some (.int .i64 0) := by rw [bc _ _ (by rw [HS0.out]; omega), ← HW0.out]; simp [go_sem]
  have s1 : w1.cell? ⟨w.heap.size + 1 + 1, 1, none⟩ = some (.int .i64 0) := by rw [bc _ _ (by rw [HS0.out]; omega), ← HW0.out]; simp [go_sem]
  have s2 : w1.cell? ⟨w.heap.size + 1 + 1, 2, none⟩ = some (.slice none 0 0) := by rw [bc _ _ (by rw [HS0.out]; omega), ← HW0.out]; simp [go_sem]
  have s3 : w1.frozen? ⟨w.heap.size + 1 + 1, 0, none⟩ = false := by rw [bf _ _ (by rw [HS0.out]; omega), ← HW0.out]; simp [go_sem]
  have s4 : w1.frozen? ⟨w.heap.size + 1 + 1, 1, none⟩ = false := by rw [bf _ _ (by rw [HS0.out]; omega), ← HW0.out]; simp [go_sem]
  have s5 : w1.frozen? ⟨w.heap.size + 1 + 1, 2, none⟩ = false := by rw [bf _ _ (by rw [HS0.out]; omega), ← HW0.out]; simp [go_sem]
  clear hb1 bc bf
  rcases h with ⟨a', b', A, n, k, rfl, hM, rfl, rfl, rfl, hl⟩ | ⟨k, rfl, rfl, hM⟩
  · have HL := hidd hl
    have HM := hidd hM
    clear hl hM
    go_wp2_with fail
    refine bodyPost_ret (v := .tuple #[.agg #[.int .i64 a', .int .i64 b', .slice A ws.length k], .int .i64 0]) (by simp [results, Tryz.results70, go_sem, *]) rfl ⟨by have q := HB1.out; (repeat' (first | (with_reducible exact Below.refl _ _) | (with_reducible assumption) | (with_reducible apply Below.setCell) | (with_reducible apply Below.alloc) | (with_reducible apply Below.drew) | (with_reducible apply below_drewN) | (with_reducible refine Below.trans ?_ (Below.mono (by assumption) ?_)) | omega | (simp; done) | (simp; omega))), .inl ⟨HM.out, A, k, rfl, ?_⟩⟩
    exact (((HL.out.low (p := ⟨w.heap.size + 1 + 1, 0, none⟩) (by simp) _).low (p := ⟨w.heap.size + 1 + 1, 1, none⟩) (by simp) _).low (p := ⟨w.heap.size + 1 + 1, 2, none⟩) (by simp) _).to (fun q hq => ⟨⟨by omega, hq.2⟩, rfl⟩)
  · have HM := hidd hM
    clear hM
    go_wp2_with fail
    exact bodyPost_ret (v := .tuple #[.agg #[.int .i64 0, .int .i64 0, .slice none 0 0], .int .i64 2]) (by simp [results, Tryz.results70, go_sem, *]) rfl ⟨by have q := HB1.out; (repeat' (first | (with_reducible exact Below.refl _ _) | (with_reducible assumption) | (with_reducible apply Below.setCell) | (with_reducible apply Below.alloc) | (with_reducible apply Below.drew) | (with_reducible apply below_drewN) | (with_reducible refine Below.trans ?_ (Below.mono (by assumption) ?_)) | omega | (simp; done) | (simp; omega))), .inr ⟨HM.out, rfl⟩⟩

set_option maxHeartbeats 2000000 in
theorem said1S_any (fm fo ft : Nat) (em : ∀ args w, (callFunc fm args).run Tryz.prog w = .ok (.enter fm args) w) (eo : ∀ args w, (callFunc fo args).run Tryz.prog w = .ok (.enter fo args) w) (co : Array Value) (M : Bool) (a b : Int) (ws : List Int) (x0 x1 : Int) (ps px : Nat) (w : World)
    (hs : ps < w.heap.size) (hx : px < w.heap.size) (c0 : w.cell? ⟨ps, 0, none⟩ = some (.func (.func fm) #[] #[])) (c1 : w.cell? ⟨ps, 1, none⟩ = some (.func (.func fo) #[] co)) (c3 : w.cell? ⟨px, 0, none⟩ = some (.int .i64 x0)) (c4 : w.cell? ⟨px, 1, none⟩ = some (.int .i64 x1))
    (cm : ∀ W, Below w.heap.size w W → Calls Tryz.prog fm #[.agg #[.int .i64 x0, .int .i64 x1]] W fun e w' => e = .returned (.bool M) ∧ Below W.heap.size W w')
    (ct : M = true → ∀ W, Below w.heap.size w W → Calls Tryz.prog fo (#[.agg #[.int .i64 x0, .int .i64 x1]] ++ co) W (ObjEnd a b ws W)) :
    Calls Tryz.prog 134 #[.pointer (some ⟨ps, 0, none⟩), .pointer (some ⟨px, 0, none⟩)] w (Said1 M a b ws w) := by
  have CM := hidd cm
  have CT := hidd ct
  have KS := hidd (fun W (h : Below w.heap.size w W) => (show W.cell? ⟨ps, 0, none⟩ = some (.func (.func fm) #[] #[]) ∧ W.cell? ⟨ps, 1, none⟩ = some (.func (.func fo) #[] co) ∧ W.cell? ⟨px, 0, none⟩ = some (.int .i64 x0) ∧ W.cell? ⟨px, 1, none⟩ = some (.int .i64 x1) from ⟨(h.cell (p := ⟨ps, 0, none⟩) hs).trans c0, (h.cell (p := ⟨ps, 1, none⟩) hs).trans c1, (h.cell (p := ⟨px, 0, none⟩) hx).trans c3, (h.cell (p := ⟨px, 1, none⟩) hx).trans c4⟩))
  clear cm ct
  cases M
  · go_enter Tryz.func134, Tryz.ntmps134
    go_wp2_with fail
    refine (CM.out _ (by (repeat' (first | (with_reducible exact Below.refl _ _) | (with_reducible assumption) | (with_reducible apply Below.setCell) | (with_reducible apply Below.alloc) | (with_reducible apply Below.drew) | (with_reducible apply below_drewN) | (with_reducible refine Below.trans ?_ (Below.mono (by assumption) ?_)) | omega | (simp; done) | (simp; omega))))).mono ?_
    rintro e w1 ⟨rfl, hb1⟩
    go_wp2_with fail
    refine (need_no _ _).mono ?_
    rintro e w2 ⟨rfl, rfl⟩
    go_wp2_with fail
    exact ⟨rfl, by (repeat' (first | (with_reducible exact Below.refl _ _) | (with_reducible assumption) | (with_reducible apply Below.setCell) | (with_reducible apply Below.alloc) | (with_reducible apply Below.drew) | (with_reducible apply below_drewN) | (with_reducible refine Below.trans ?_ (Below.mono (by assumption) ?_)) | omega | (simp; done) | (simp; omega))), .inr ⟨rfl, rfl⟩⟩
  · go_enter Tryz.func134, Tryz.ntmps134
    go_wp2_with fail
    refine (CM.out _ (by (repeat' (first | (with_reducible exact Below.refl _ _) | (with_reducible assumption) | (with_reducible apply Below.setCell) | (with_reducible apply Below.alloc) | (with_reducible apply Below.drew) | (with_reducible apply below_drewN) | (with_reducible refine Below.trans ?_ (Below.mono (by assumption) ?_)) | omega | (simp; done) | (simp; omega))))).mono ?_
    rintro e w1 ⟨rfl, hb1⟩
    have hb2 : Below w.heap.size w w1 := below_step (show Below w.heap.size w _ by (repeat' (first | (with_reducible exact Below.refl _ _) | (with_reducible assumption) | (with_reducible apply Below.setCell) | (with_reducible apply Below.alloc) | (with_reducible apply Below.drew) | (with_reducible apply below_drewN) | (with_reducible refine Below.trans ?_ (Below.mono (by assumption) ?_)) | omega | (simp; done) | (simp; omega)))) hb1
    have HB2 := hidd hb2
    obtain ⟨bc, bf⟩ := bcell hb1
    have zz : w.heap.size < w1.heap.size := by have := hb1.size; simp at this; omega
    have r0 : w1.cell? ⟨w.heap.size, 0, none⟩ = some (.int .i64 0) := by rw [bc _ _ (by simp)]; simp [go_sem]
    have r1 : w1.cell? ⟨w.heap.size, 1, none⟩ = some (.int .i64 0) := by rw [bc _ _ (by simp)]; simp [go_sem]
    have r2 : w1.cell? ⟨w.heap.size, 2, none⟩ = some (.slice none 0 0) := by rw [bc _ _ (by simp)]; simp [go_sem]
    have r3 : w1.frozen? ⟨w.heap.size, 0, none⟩ = false := by rw [bf _ _ (by simp)]; simp [go_sem]
    have r4 : w1.frozen? ⟨w.heap.size, 1, none⟩ = false := by rw [bf _ _ (by simp)]; simp [go_sem]
    have r5 : w1.frozen? ⟨w.heap.size, 2, none⟩ = false := by rw [bf _ _ (by simp)]; simp [go_sem]
    obtain ⟨g0, g1, g2, g3⟩ := KS.out _ hb2
    clear hb1 hb2 bc bf
    go_wp2_with fail
    refine (need_yes _ _).mono ?_
    rintro e w2 ⟨rfl, rfl⟩
    go_wp2_with fail
    refine (CT.out (by first | rfl | trivial) _ HB2.out).mono ?_
    rintro e w2 ⟨hb2, A, k, rfl, hl⟩
    have HB3 := hidd (below_step HB2.out hb2)
    have HL := hidd hl
    obtain ⟨bc, bf⟩ := bcell hb2
    have s0 : w2.cell? ⟨w.heap.size, 0, none⟩ = some (.int .i64 0) := by rw [bc _ _ zz]; exact r0
    have s1 : w2.cell? ⟨w.heap.size, 1, none⟩ = some (.int .i64 0) := by rw [bc _ _ zz]; exact r1
    have s2 : w2.cell? ⟨w.heap.size, 2, none⟩ = some (.slice none 0 0) := by rw [bc _ _ zz]; exact r2
    have s3 : w2.frozen? ⟨w.heap.size, 0, none⟩ = false := by rw [bf _ _ zz]; exact r3
    have s4 : w2.frozen? ⟨w.heap.size, 1, none⟩ = false := by rw [bf _ _ zz]; exact r4
    have s5 : w2.frozen? ⟨w.heap.size, 2, none⟩ = false := by rw [bf _ _ zz]; exact r5
    clear hb2 hl bc bf r0 r1 r2 r3 r4 r5
    go_wp2_with fail
    refine bodyPost_ret (v := .agg #[.int .i64 a, .int .i64 b, .slice A ws.length k]) (by simp [results, Tryz.results134, go_sem, *]) rfl ⟨by have q := HB3.out; (repeat' (first | (with_reducible exact Below.refl _ _) | (with_reducible assumption) | (with_reducible apply Below.setCell) | (with_reducible apply Below.alloc) | (with_reducible apply Below.drew) | (with_reducible apply below_drewN) | (with_reducible refine Below.trans ?_ (Below.mono (by assumption) ?_)) | omega | (simp; done) | (simp; omega))), .inl ⟨rfl, a, b, A, ws.length, k, rfl, rfl, rfl, rfl, ?_⟩⟩
    have H := HL.out
    refine (((H.to (p' := fun q => w.heap.size + 1 ≤ q ∧ q < w2.heap.size) (fun q hq => ⟨⟨by omega, hq.2⟩, rfl⟩)).low (p := ⟨w.heap.size, 0, none⟩) (by simp) _).low (p := ⟨w.heap.size, 1, none⟩) (by simp) _).low (p := ⟨w.heap.size, 2, none⟩) (by simp) _
theorem enters_said1S : ∀ args w, (callFunc 134 args).run Tryz.prog w = .ok (.enter 134 args) w := fun args w => by simp [callFunc, Tryz.func134, Tryz.f134, mark]
set_option maxHeartbeats 2000000 in
theorem saidS_any (fm fo ft : Nat) (em : ∀ args w, (callFunc fm args).run Tryz.prog w = .ok (.enter fm args) w) (eo : ∀ args w, (callFunc fo args).run Tryz.prog w = .ok (.enter fo args) w) (co : Array Value) (M : Bool) (a b : Int) (ws : List Int) (x0 x1 : Int) (w : World)
    (cm : ∀ W, Below w.heap.size w W → Calls Tryz.prog fm #[.agg #[.int .i64 x0, .int .i64 x1]] W fun e w' => e = .returned (.bool M) ∧ Below W.heap.size W w')
    (ct : M = true → ∀ W, Below w.heap.size w W → Calls Tryz.prog fo (#[.agg #[.int .i64 x0, .int .i64 x1]] ++ co) W (ObjEnd a b ws W)) :
    Calls Tryz.prog 68 #[.agg #[.func (.func fm) #[] #[], .func (.func fo) #[] co, .func (.func ft) #[] #[]], .agg #[.int .i64 x0, .int .i64 x1]] w (SaidEnd M a b ws w) := by
  have hmf : ∀ (fn : Fn) (first cap : Array Value) (w : World), (Instr.makeFunc fn first cap).run Tryz.prog w = .ok (.func fn first cap) w := fun _ _ _ _ => rfl
  obtain ⟨w0, hw0⟩ : ∃ w0, (((w.alloc (.cells #[.func (.func fm) #[] #[], .func (.func fo) #[] co, .func (.func ft) #[] #[]] 99)).alloc (.cells #[.int .i64 x0, .int .i64 x1] 23)).alloc (.cells #[.int .i64 0, .int .i64 0, .slice none 0 0] 42)) = w0 := ⟨_, rfl⟩
  have hs0 : w0.heap.size = w.heap.size + 3 := by rw [← hw0]; simp
  have hb0 : Below w.heap.size w w0 := by rw [← hw0]; (repeat' (first | (with_reducible exact Below.refl _ _) | (with_reducible assumption) | (with_reducible apply Below.setCell) | (with_reducible apply Below.alloc) | (with_reducible apply Below.drew) | (with_reducible apply below_drewN) | (with_reducible refine Below.trans ?_ (Below.mono (by assumption) ?_)) | omega | (simp; done) | (simp; omega)))
  have d0 : w0.cell? ⟨w.heap.size, 0, none⟩ = some (.func (.func fm) #[] #[]) := by rw [← hw0]; simp [go_sem]
  have d1 : w0.cell? ⟨w.heap.size, 1, none⟩ = some (.func (.func fo) #[] co) := by rw [← hw0]; simp [go_sem]
  have d2 : w0.cell? ⟨w.heap.size + 1, 0, none⟩ = some (.int .i64 x0) := by rw [← hw0]; simp [go_sem]
  have d3 : w0.cell? ⟨w.heap.size + 1, 1, none⟩ = some (.int .i64 x1) := by rw [← hw0]; simp [go_sem]
  have ct := hidd (toldO_any 134 (enters_said1S) #[.pointer (some ⟨w.heap.size, 0, none⟩), .pointer (some ⟨w.heap.size + 1, 0, none⟩)] w0 (fun a' b' A n k X => M = true ∧ a' = a ∧ b' = b ∧ n = ws.length ∧ LieQ wdV 1 X (fun q => w.heap.size + 5 ≤ q ∧ q < X.heap.size) A ws) (fun k => k = 2 ∧ M = false)
    (fun _ _ _ _ _ X p u h1 h2 h3 => ⟨h3.1, h3.2.1, h3.2.2.1, h3.2.2.2.1, h3.2.2.2.2.low (by omega) u⟩)
    (fun W hW hsz => (said1S_any fm fo ft em eo co M a b ws x0 x1 w.heap.size (w.heap.size + 1) W (by omega) (by omega) ((hW.cell (p := ⟨w.heap.size, 0, none⟩) (by rw [hs0]; simp)).trans d0) ((hW.cell (p := ⟨w.heap.size, 1, none⟩) (by rw [hs0]; simp)).trans d1) ((hW.cell (p := ⟨w.heap.size + 1, 0, none⟩) (by rw [hs0]; simp)).trans d2) ((hW.cell (p := ⟨w.heap.size + 1, 1, none⟩) (by rw [hs0]; simp)).trans d3)
      (fun X hX => cm X (below_step (hb0.trans (hW.mono hb0.size)) hX)) (fun hM X hX => ct hM X (below_step (hb0.trans (hW.mono hb0.size)) hX))).mono fun e w' ⟨h1, h2⟩ => ⟨h1, by
      rcases h2 with ⟨hM, a', b', A, n, k, e1, e2, e3, e4, e5⟩ | ⟨e1, e2⟩
      · exact .inl ⟨a', b', A, n, k, e4, hM, e1, e2, e3, e5.to (fun q hq => ⟨⟨by omega, hq.2⟩, rfl⟩)⟩
      · exact .inr ⟨2, e2, rfl, e1⟩⟩))
  have HB0 := hidd hb0
  have HW0 := hidd hw0
  have HS0 := hidd hs0
  clear cm hs0 hb0 hw0 d0 d1 d2 d3
  go_enter Tryz.func68, Tryz.ntmps68
  go_wp2_with fail
  rw [HW0.out]
  refine ct.out.mono ?_
  rintro e w1 ⟨hb1, h⟩
  have HB1 := hidd (below_step HB0.out hb1)
  have hz : w.heap.size + 2 < w1.heap.size := by have := hb1.size; rw [HS0.out] at this; omega
  obtain ⟨bc, bf⟩ := bcell hb1
  have s0 : w1.cell? ⟨w.heap.size + 1 + 1, 0, none⟩ = some (.int .i64 0) := by rw [bc _ _ (by rw [HS0.out]; omega), ← HW0.out]; simp [go_sem]
  have s1 : w1.cell? ⟨w.heap.size + 1 + 1, 1, none⟩ = some (.int .i64 0) := by rw [bc _ _ (by rw [HS0.out]; omega), ← HW0.out]; simp [go_sem]
  have s2 : w1.cell? ⟨w.heap.size + 1 + 1, 2, none⟩ = some (.slice none 0 0) := by rw [bc _ _ (by rw [HS0.out]; omega), ← HW0.out]; simp [go_sem]
  have s3 : w1.frozen? ⟨w.heap.size + 1 + 1, 0, none⟩ = false := by rw [bf _ _ (by rw [HS0.out]; omega), ← HW0.out]; simp [go_sem]
  have s4 : w1.frozen? ⟨w.heap.size + 1 + 1, 1, none⟩ = false := by rw [bf _ _ (by rw [HS0.out]; omega), ← HW0.out]; simp [go_sem]
  have s5 : w1.frozen? ⟨w.heap.size + 1 + 1, 2, none⟩ = false := by rw [bf _ _ (by rw [HS0.out]; omega), ← HW0.out]; simp [go_sem]
  clear hb1 bc bf
  rcases h with ⟨a', b', A, n, k, rfl, hM, rfl, rfl, rfl, hl⟩ | ⟨k, rfl, rfl, hM⟩
  · have HL := hidd hl
    have HM := hidd hM
    clear hl hM
    go_wp2_with fail
    refine bodyPost_ret (v := .tuple #[.agg #[.int .i64 a', .int .i64 b', .slice A ws.length k], .int .i64 0]) (by simp [results, Tryz.results68, go_sem, *]) rfl ⟨by have q := HB1.out; (repeat' (first | (with_reducible exact Below.refl _ _) | (with_reducible assumption) | (with_reducible apply Below.setCell) | (with_reducible apply Below.alloc) | (with_reducible apply Below.drew) | (with_reducible apply below_drewN) | (with_reducible refine Below.trans ?_ (Below.mono (by assumption) ?_)) | omega | (simp; done) | (simp; omega))), .inl ⟨HM.out, A, k, rfl, ?_⟩⟩
    exact (((HL.out.low (p := ⟨w.heap.size + 1 + 1, 0, none⟩) (by simp) _).low (p := ⟨w.heap.size + 1 + 1, 1, none⟩) (by simp) _).low (p := ⟨w.heap.size + 1 + 1, 2, none⟩) (by simp) _).to (fun q hq => ⟨⟨by omega, hq.2⟩, rfl⟩)
  · have HM := hidd hM
    clear hM
    go_wp2_with fail
    exact bodyPost_ret (v := .tuple #[.agg #[.int .i64 0, .int .i64 0, .slice none 0 0], .int .i64 2]) (by simp [results, Tryz.results68, go_sem, *]) rfl ⟨by have q := HB1.out; (repeat' (first | (with_reducible exact Below.refl _ _) | (with_reducible assumption) | (with_reducible apply Below.setCell) | (with_reducible apply Below.alloc) | (with_reducible apply Below.drew) | (with_reducible apply below_drewN) | (with_reducible refine Below.trans ?_ (Below.mono (by assumption) ?_)) | omega | (simp; done) | (simp; omega))), .inr ⟨HM.out, rfl⟩⟩

set_option maxHeartbeats 2000000 in
theorem said1H_any (fm fo ft : Nat) (em : ∀ args w, (callFunc fm args).run Tryz.prog w = .ok (.enter fm args) w) (eo : ∀ args w, (callFunc fo args).run Tryz.prog w = .ok (.enter fo args) w) (co : Array Value) (M : Bool) (a b : Int) (ws : List Int) (x0 x1 : Int) (ps px : Nat) (w : World)
    (hs : ps < w.heap.size) (hx : px < w.heap.size) (c0 : w.cell? ⟨ps, 0, none⟩ = some (.func (.func fm) #[] #[])) (c1 : w.cell? ⟨ps, 1, none⟩ = some (.func (.func fo) #[] co)) (c3 : w.cell? ⟨px, 0, none⟩ = some (.int .i64 x0)) (c4 : w.cell? ⟨px, 1, none⟩ = some (.int .i64 x1))
    (cm : ∀ W, Below w.heap.size w W → Calls Tryz.prog fm #[.agg #[.int .i64 x0, .int .i64 x1]] W fun e w' => e = .returned (.bool M) ∧ Below W.heap.size W w')
    (ct : M = true → ∀ W, Below w.heap.size w W → Calls Tryz.prog fo (#[.agg #[.int .i64 x0, .int .i64 x1]] ++ co) W (ObjEnd a b ws W)) :
    Calls Tryz.prog 135 #[.pointer (some ⟨ps, 0, none⟩), .pointer (some ⟨px, 0, none⟩)] w (Said1 M a b ws w) := by
  have CM := hidd cm
  have CT := hidd ct
  have KS := hidd (fun W (h : Below w.heap.size w W) => (show W.cell? ⟨ps, 0, none⟩ = some (.func (.func fm) #[] #[]) ∧ W.cell? ⟨ps, 1, none⟩ = some (.func (.func fo) #[] co) ∧ W.cell? ⟨px, 0, none⟩ = some (.int .i64 x0) ∧ W.cell? ⟨px, 1, none⟩ = some (.int .i64 x1) from ⟨(h.cell (p := ⟨ps, 0, none⟩) hs).trans c0, (h.cell (p := ⟨ps, 1, none⟩) hs).trans c1, (h.cell (p := ⟨px, 0, none⟩) hx).trans c3, (h.cell (p := ⟨px, 1, none⟩) hx).trans c4⟩))
  clear cm ct
  cases M
  · go_enter Tryz.func135, Tryz.ntmps135
    go_wp2_with fail
    refine (CM.out _ (by (repeat' (first | (with_reducible exact Below.refl _ _) | (with_reducible assumption) | (with_reducible apply Below.setCell) | (with_reducible apply Below.alloc) | (with_reducible apply Below.drew) | (with_reducible apply below_drewN) | (with_reducible refine Below.trans ?_ (Below.mono (by assumption) ?_)) | omega | (simp; done) | (simp; omega))))).mono ?_
    rintro e w1 ⟨rfl, hb1⟩
    go_wp2_with fail
    refine (need_no _ _).mono ?_
    rintro e w2 ⟨rfl, rfl⟩
    go_wp2_with fail
    exact ⟨rfl, by (repeat' (first | (with_reducible exact Below.refl _ _) | (with_reducible assumption) | (with_reducible apply Below.setCell) | (with_reducible apply Below.alloc) | (with_reducible apply Below.drew) | (with_reducible apply below_drewN) | (with_reducible refine Below.trans ?_ (Below.mono (by assumption) ?_)) | omega | (simp; done) | (simp; omega))), .inr ⟨rfl, rfl⟩⟩
  · go_enter Tryz.func135, Tryz.ntmps135
    go_wp2_with fail
    refine (CM.out _ (by (repeat' (first | (with_reducible exact Below.refl _ _) | (with_reducible assumption) | (with_reducible apply Below.setCell) | (with_reducible apply Below.alloc) | (with_reducible apply Below.drew) | (with_reducible apply below_drewN) | (with_reducible refine Below.trans ?_ (Below.mono (by assumption) ?_)) | omega | (simp; done) | (simp; omega))))).mono ?_
    rintro e w1 ⟨rfl, hb1⟩
    have hb2 : Below w.heap.size w w1 := below_step (show Below w.heap.size w _ by (repeat' (first | (with_reducible exact Below.refl _ _) | (with_reducible assumption) | (with_reducible apply Below.setCell) | (with_reducible apply Below.alloc) | (with_reducible apply Below.drew) | (with_reducible apply below_drewN) | (with_reducible refine Below.trans ?_ (Below.mono (by assumption) ?_)) | omega | (simp; done) | (simp; omega)))) hb1
    have HB2 := hidd hb2
    obtain ⟨bc, bf⟩ := bcell hb1
    have zz : w.heap.size < w1.heap.size := by have := hb1.size; simp at this; omega
    have r0 : w1.cell? ⟨w.heap.size, 0, none⟩ = some (.int .i64 0) := by rw [bc _ _ (by simp)]; simp [go_sem]
    have r1 : w1.cell? ⟨w.heap.size, 1, none⟩ = some (.int .i64 0) := by rw [bc _ _ (by simp)]; simp [go_sem]
    have r2 : w1.cell? ⟨w.heap.size, 2, none⟩ = some (.slice none 0 0) := by rw [bc _ _ (by simp)]; simp [go_sem]
    have r3 : w1.frozen? ⟨w.heap.size, 0, none⟩ = false := by rw [bf _ _ (by simp)]; simp [go_sem]
    have r4 : w1.frozen? ⟨w.heap.size, 1, none⟩ = false := by rw [bf _ _ (by simp)]; simp [go_sem]
    have r5 : w1.frozen? ⟨w.heap.size, 2, none⟩ = false := by rw [bf _ _ (by simp)]; simp [go_sem]
    obtain ⟨g0, g1, g2, g3⟩ := KS.out _ hb2
    clear hb1 hb2 bc bf
    go_wp2_with fail
    refine (need_yes _ _).mono ?_
    rintro e w2 ⟨rfl, rfl⟩
    go_wp2_with fail
    refine (CT.out (by first | rfl | trivial) _ HB2.out).mono ?_
    rintro e w2 ⟨hb2, A, k, rfl, hl⟩
    have HB3 := hidd (below_step HB2.out hb2)
    have HL := hidd hl
    obtain ⟨bc, bf⟩ := bcell hb2
    have s0 : w2.cell? ⟨w.heap.size, 0, none⟩ = some (.int .i64 0) := by rw [bc _ _ zz]; exact r0
    have s1 : w2.cell? ⟨w.heap.size, 1, none⟩ = some (.int .i64 0) := by rw [bc _ _ zz]; exact r1
    have s2 : w2.cell? ⟨w.heap.size, 2, none⟩ = some (.slice none 0 0) := by rw [bc _ _ zz]; exact r2
    have s3 : w2.frozen? ⟨w.heap.size, 0, none⟩ = false := by rw [bf _ _ zz]; exact r3
    have s4 : w2.frozen? ⟨w.heap.size, 1, none⟩ = false := by rw [bf _ _ zz]; exact r4
    have s5 : w2.frozen? ⟨w.heap.size, 2, none⟩ = false := by rw [bf _ _ zz]; exact r5
    clear hb2 hl bc bf r0 r1 r2 r3 r4 r5
    go_wp2_with fail
    refine bodyPost_ret (v := .agg #[.int .i64 a, .int .i64 b, .slice A ws.length k]) (by simp [results, Tryz.results135, go_sem, *]) rfl ⟨by have q := HB3.out; (repeat' (first | (with_reducible exact Below.refl _ _) | (with_reducible assumption) | (with_reducible apply Below.setCell) | (with_reducible apply Below.alloc) | (with_reducible apply Below.drew) | (with_reducible apply below_drewN) | (with_reducible refine Below.trans ?_ (Below.mono (by assumption) ?_)) | omega | (simp; done) | (simp; omega))), .inl ⟨rfl, a, b, A, ws.length, k, rfl, rfl, rfl, rfl, ?_⟩⟩
    have H := HL.out
    refine (((H.to (p' := fun q => w.heap.size + 1 ≤ q ∧ q < w2.heap.size) (fun q hq => ⟨⟨by omega, hq.2⟩, rfl⟩)).low (p := ⟨w.heap.size, 0, none⟩) (by simp) _).low (p := ⟨w.heap.size, 1, none⟩) (by simp) _).low (p := ⟨w.heap.size, 2, none⟩) (by simp) _
theorem enters_said1H : ∀ args w, (callFunc 135 args).run Tryz.prog w = .ok (.enter 135 args) w := fun args w => by simp [callFunc, Tryz.func135, Tryz.f135, mark]
set_option maxHeartbeats 2000000 in
theorem saidH_any (fm fo ft : Nat) (em : ∀ args w, (callFunc fm args).run Tryz.prog w = .ok (.enter fm args) w) (eo : ∀ args w, (callFunc fo args).run Tryz.prog w = .ok (.enter fo args) w) (co : Array Value) (M : Bool) (a b : Int) (ws : List Int) (x0 x1 : Int) (w : World)
    (cm : ∀ W, Below w.heap.size w W → Calls Tryz.prog fm #[.agg #[.int .i64 x0, .int .i64 x1]] W fun e w' => e = .returned (.bool M) ∧ Below W.heap.size W w')
    (ct : M = true → ∀ W, Below w.heap.size w W → Calls Tryz.prog fo (#[.agg #[.int .i64 x0, .int .i64 x1]] ++ co) W (ObjEnd a b ws W)) :
    Calls Tryz.prog 69 #[.agg #[.func (.func fm) #[] #[], .func (.func fo) #[] co, .func (.func ft) #[] #[]], .agg #[.int .i64 x0, .int .i64 x1]] w (SaidEnd M a b ws w) := by
  have hmf : ∀ (fn : Fn) (first cap : Array Value) (w : World), (Instr.makeFunc fn first cap).run Tryz.prog w = .ok (.func fn first cap) w := fun _ _ _ _ => rfl
  obtain ⟨w0, hw0⟩ : ∃ w0, (((w.alloc (.cells #[.func (.func fm) #[] #[], .func (.func fo) #[] co, .func (.func ft) #[] #[]] 105)).alloc (.cells #[.int .i64 x0, .int .i64 x1] 25)).alloc (.cells #[.int .i64 0, .int .i64 0, .slice none 0 0] 42)) = w0 := ⟨_, rfl⟩
  have hs0 : w0.heap.size = w.heap.size + 3 := by rw [← hw0]; simp
  have hb0 : Below w.heap.size w w0 := by rw [← hw0]; (repeat' (first | (with_reducible exact Below.refl _ _) | (with_reducible assumption) | (with_reducible apply Below.setCell) | (with_reducible apply Below.alloc) | (with_reducible apply Below.drew) | (with_reducible apply below_drewN) | (with_reducible refine Below.trans ?_ (Below.mono (by assumption) ?_)) | omega | (simp; done) | (simp; omega)))
  have d0 : w0.cell? ⟨w.heap.size, 0, none⟩ = some (.func (.func fm) #[] #[]) := by rw [← hw0]; simp [go_sem]
  have d1 : w0.cell? ⟨w.heap.size, 1, none⟩ = some (.func (.func fo) #[] co) := by rw [← hw0]; simp [go_sem]
  have d2 : w0.cell? ⟨w.heap.size + 1, 0, none⟩ = some (.int .i64 x0) := by rw [← hw0]; simp [go_sem]
  have d3 : w0.cell? ⟨w.heap.size + 1, 1, none⟩ = some (.int .i64 x1) := by rw [← hw0]; simp [go_sem]
  have ct := hidd (toldO_any 135 (enters_said1H) #[.pointer (some ⟨w.heap.size, 0, none⟩), .pointer (some ⟨w.heap.size + 1, 0, none⟩)] w0 (fun a' b' A n k X => M = true ∧ a' = a ∧ b' = b ∧ n = ws.length ∧ LieQ wdV 1 X (fun q => w.heap.size + 5 ≤ q ∧ q < X.heap.size) A ws) (fun k => k = 2 ∧ M = false)
    (fun _ _ _ _ _ X p u h1 h2 h3 => ⟨h3.1, h3.2.1, h3.2.2.1, h3.2.2.2.1, h3.2.2.2.2.low (by omega) u⟩)
    (fun W hW hsz => (said1H_any fm fo ft em eo co M a b ws x0 x1 w.heap.size (w.heap.size + 1) W (by omega) (by omega) ((hW.cell (p := ⟨w.heap.size, 0, none⟩) (by rw [hs0]; simp)).trans d0) ((hW.cell (p := ⟨w.heap.size, 1, none⟩) (by rw [hs0]; simp)).trans d1) ((hW.cell (p := ⟨w.heap.size + 1, 0, none⟩) (by rw [hs0]; simp)).trans d2) ((hW.cell (p := ⟨w.heap.size + 1, 1, none⟩) (by rw [hs0]; simp)).trans d3)
      (fun X hX => cm X (below_step (hb0.trans (hW.mono hb0.size)) hX)) (fun hM X hX => ct hM X (below_step (hb0.trans (hW.mono hb0.size)) hX))).mono fun e w' ⟨h1, h2⟩ => ⟨h1, by
      rcases h2 with ⟨hM, a', b', A, n, k, e1, e2, e3, e4, e5⟩ | ⟨e1, e2⟩
      · exact .inl ⟨a', b', A, n, k, e4, hM, e1, e2, e3, e5.to (fun q hq => ⟨⟨by omega, hq.2⟩, rfl⟩)⟩
      · exact .inr ⟨2, e2, rfl, e1⟩⟩))
  have HB0 := hidd hb0
  have HW0 := hidd hw0
  have HS0 := hidd hs0
  clear cm hs0 hb0 hw0 d0 d1 d2 d3
  go_enter Tryz.func69, Tryz.ntmps69
  go_wp2_with fail
  rw [HW0.out]
  refine ct.out.mono ?_
  rintro e w1 ⟨hb1, h⟩
  have HB1 := hidd (below_step HB0.out hb1)
  have hz : w.heap.size + 2 < w1.heap.size := by have := hb1.size; rw [HS0.out] at this; omega
  obtain ⟨bc, bf⟩ := bcell hb1
  have s0 : w1.cell? ⟨w.heap.size + 1 + 1, 0, none⟩ = some (.int .i64 0) := by rw [bc _ _ (by rw [HS0.out]; omega), ← HW0.out]; simp [go_sem]
  have s1 : w1.cell? ⟨w.heap.size + 1 + 1, 1, none⟩ = some (.int .i64 0) := by rw [bc _ _ (by rw [HS0.out]; omega), ← HW0.out]; simp [go_sem]
  have s2 : w1.cell? ⟨w.heap.size + 1 + 1, 2, none⟩ = some (.slice none 0 0) := by rw [bc _ _ (by rw [HS0.out]; omega), ← HW0.out]; simp [go_sem]
  have s3 : w1.frozen? ⟨w.heap.size + 1 + 1, 0, none⟩ = false := by rw [bf _ _ (by rw [HS0.out]; omega), ← HW0.out]; simp [go_sem]
  have s4 : w1.frozen? ⟨w.heap.size + 1 + 1, 1, none⟩ = false := by rw [bf _ _ (by rw [HS0.out]; omega), ← HW0.out]; simp [go_sem]
  have s5 : w1.frozen? ⟨w.heap.size + 1 + 1, 2, none⟩ = false := by rw [bf _ _ (by rw [HS0.out]; omega), ← HW0.out]; simp [go_sem]
  clear hb1 bc bf
  rcases h with ⟨a', b', A, n, k, rfl, hM, rfl, rfl, rfl, hl⟩ | ⟨k, rfl, rfl, hM⟩
  · have HL := hidd hl
    have HM := hidd hM
    clear hl hM
    go_wp2_with fail
    refine bodyPost_ret (v := .tuple #[.agg #[.int .i64 a', .int .i64 b', .slice A ws.length k], .int .i64 0]) (by simp [results, Tryz.results69, go_sem, *]) rfl ⟨by have q := HB1.out; (repeat' (first | (with_reducible exact Below.refl _ _) | (with_reducible assumption) | (with_reducible apply Below.setCell) | (with_reducible apply Below.alloc) | (with_reducible apply Below.drew) | (with_reducible apply below_drewN) | (with_reducible refine Below.trans ?_ (Below.mono (by assumption) ?_)) | omega | (simp; done) | (simp; omega))), .inl ⟨HM.out, A, k, rfl, ?_⟩⟩
    exact (((HL.out.low (p := ⟨w.heap.size + 1 + 1, 0, none⟩) (by simp) _).low (p := ⟨w.heap.size + 1 + 1, 1, none⟩) (by simp) _).low (p := ⟨w.heap.size + 1 + 1, 2, none⟩) (by simp) _).to (fun q hq => ⟨⟨by omega, hq.2⟩, rfl⟩)
  · have HM := hidd hM
    clear hM
    go_wp2_with fail
    exact bodyPost_ret (v := .tuple #[.agg #[.int .i64 0, .int .i64 0, .slice none 0 0], .int .i64 2]) (by simp [results, Tryz.results69, go_sem, *]) rfl ⟨by have q := HB1.out; (repeat' (first | (with_reducible exact Below.refl _ _) | (with_reducible assumption) | (with_reducible apply Below.setCell) | (with_reducible apply Below.alloc) | (with_reducible apply Below.drew) | (with_reducible apply below_drewN) | (with_reducible refine Below.trans ?_ (Below.mono (by assumption) ?_)) | omega | (simp; done) | (simp; omega))), .inr ⟨HM.out, rfl⟩⟩

set_option maxHeartbeats 2000000 in
theorem said1F_any (fm fo ft : Nat) (em : ∀ args w, (callFunc fm args).run Tryz.prog w = .ok (.enter fm args) w) (eo : ∀ args w, (callFunc fo args).run Tryz.prog w = .ok (.enter fo args) w) (co : Array Value) (M : Bool) (a b : Int) (ws : List Int) (x0 x1 x2 : Int) (ps px : Nat) (w : World)
    (hs : ps < w.heap.size) (hx : px < w.heap.size) (c0 : w.cell? ⟨ps, 0, none⟩ = some (.func (.func fm) #[] #[])) (c1 : w.cell? ⟨ps, 1, none⟩ = some (.func (.func fo) #[] co)) (c3 : w.cell? ⟨px, 0, none⟩ = some (.int .i64 x0)) (c4 : w.cell? ⟨px, 1, none⟩ = some (.int .i64 x1)) (c5 : w.cell? ⟨px, 2, none⟩ = some (.int .i64 x2))
    (cm : ∀ W, Below w.heap.size w W → Calls Tryz.prog fm #[.agg #[.int .i64 x0, .int .i64 x1, .int .i64 x2]] W fun e w' => e = .returned (.bool M) ∧ Below W.heap.size W w')
    (ct : M = true → ∀ W, Below w.heap.size w W → Calls Tryz.prog fo (#[.agg #[.int .i64 x0, .int .i64 x1, .int .i64 x2]] ++ co) W (ObjEnd a b ws W)) :
    Calls Tryz.prog 137 #[.pointer (some ⟨ps, 0, none⟩), .pointer (some ⟨px, 0, none⟩)] w (Said1 M a b ws w) := by
  have CM := hidd cm
  have CT := hidd ct
  have KS := hidd (fun W (h : Below w.heap.size w W) => (show W.cell? ⟨ps, 0, none⟩ = some (.func (.func fm) #[] #[]) ∧ W.cell? ⟨ps, 1, none⟩ = some (.func (.func fo) #[] co) ∧ W.cell? ⟨px, 0, none⟩ = some (.int .i64 x0) ∧ W.cell? ⟨px, 1, none⟩ = some (.int .i64 x1) ∧ W.cell? ⟨px, 2, none⟩ = some (.int .i64 x2) from ⟨(h.cell (p := ⟨ps, 0, none⟩) hs).trans c0, (h.cell (p := ⟨ps, 1, none⟩) hs).trans c1, (h.cell (p := ⟨px, 0, none⟩) hx).trans c3, (h.cell (p := ⟨px, 1, none⟩) hx).trans c4, (h.cell (p := ⟨px, 2, none⟩) hx).trans c5⟩))
  clear cm ct
  cases M
  · go_enter Tryz.func137, Tryz.ntmps137
    go_wp2_with fail
    refine (CM.out _ (by (repeat' (first | (with_reducible exact Below.refl _ _) | (with_reducible assumption) | (with_reducible apply Below.setCell) | (with_reducible apply Below.alloc) | (with_reducible apply Below.drew) | (with_reducible apply below_drewN) | (with_reducible refine Below.trans ?_ (Below.mono (by assumption) ?_)) | omega | (simp; done) | (simp; omega))))).mono ?_
    rintro e w1 ⟨rfl, hb1⟩
    go_wp2_with fail
    refine (need_no _ _).mono ?_
    rintro e w2 ⟨rfl, rfl⟩
    go_wp2_with fail
    exact ⟨rfl, by (repeat' (first | (with_reducible exact Below.refl _ _) | (with_reducible assumption) | (with_reducible apply Below.setCell) | (with_reducible apply Below.alloc) | (with_reducible apply Below.drew) | (with_reducible apply below_drewN) | (with_reducible refine Below.trans ?_ (Below.mono (by assumption) ?_)) | omega | (simp; done) | (simp; omega))), .inr ⟨rfl, rfl⟩⟩
  · go_enter Tryz.func137, Tryz.ntmps137
    go_wp2_with fail
    refine (CM.out _ (by (repeat' (first | (with_reducible exact Below.refl _ _) | (with_reducible assumption) | (with_reducible apply Below.setCell) | (with_reducible apply Below.alloc) | (with_reducible apply Below.drew) | (with_reducible apply below_drewN) | (with_reducible refine Below.trans ?_ (Below.mono (by assumption) ?_)) | omega | (simp; done) | (simp; omega))))).mono ?_
    rintro e w1 ⟨rfl, hb1⟩
    have hb2 : Below w.heap.size w w1 := below_step (show Below w.heap.size w _ by (repeat' (first | (with_reducible exact Below.refl _ _) | (with_reducible assumption) | (with_reducible apply Below.setCell) | (with_reducible apply Below.alloc) | (with_reducible apply Below.drew) | (with_reducible apply below_drewN) | (with_reducible refine Below.trans ?_ (Below.mono (by assumption) ?_)) | omega | (simp; done) | (simp; omega)))) hb1
    have HB2 := hidd hb2
    obtain ⟨bc, bf⟩ := bcell hb1
    have zz : w.heap.size < w1.heap.size := by have := hb1.size; simp at this; omega
    have r0 : w1.cell? ⟨w.heap.size, 0, none⟩ = some (.int .i64 0) := by rw [bc _ _ (by simp)]; simp [go_sem]
    have r1 : w1.cell? ⟨w.heap.size, 1, none⟩ = some (.int .i64 0) := by rw [bc _ _ (by simp)]; simp [go_sem]
    have r2 : w1.cell? ⟨w.heap.size, 2, none⟩ = some (.slice none 0 0) := by rw [bc _ _ (by simp)]; simp [go_sem]
    have r3 : w1.frozen? ⟨w.heap.size, 0, none⟩ = false := by rw [bf _ _ (by simp)]; simp [go_sem]
    have r4 : w1.frozen? ⟨w.heap.size, 1, none⟩ = false := by rw [bf _ _ (by simp)]; simp [go_sem]
    have r5 : w1.frozen? ⟨w.heap.size, 2, none⟩ = false := by rw [bf _ _ (by simp)]; simp [go_sem]
    obtain ⟨g0, g1, g2, g3, g4⟩ := KS.out _ hb2
    clear hb1 hb2 bc bf
    go_wp2_with fail
    refine (need_yes _ _).mono ?_
    rintro e w2 ⟨rfl, rfl⟩
    go_wp2_with fail
    refine (CT.out (by first | rfl | trivial) _ HB2.out).mono ?_
    rintro e w2 ⟨hb2, A, k, rfl, hl⟩
    have HB3 := hidd (below_step HB2.out hb2)
    have HL := hidd hl
    obtain ⟨bc, bf⟩ := bcell hb2
    have s0 : w2.cell? ⟨w.heap.size, 0, none⟩ = some (.int .i64 0) := by rw [bc _ _ zz]; exact r0
    have s1 : w2.cell? ⟨w.heap.size, 1, none⟩ = some (.int .i64 0) := by rw [bc _ _ zz]; exact r1
    have s2 : w2.cell? ⟨w.heap.size, 2, none⟩ = some (.slice none 0 0) := by rw [bc _ _ zz]; exact r2
    have s3 : w2.frozen? ⟨w.heap.size, 0, none⟩ = false := by rw [bf _ _ zz]; exact r3
    have s4 : w2.frozen? ⟨w.heap.size, 1, none⟩ = false := by rw [bf _ _ zz]; exact r4
    have s5 : w2.frozen? ⟨w.heap.size, 2, none⟩ = false := by rw [bf _ _ zz]; exact r5
    clear hb2 hl bc bf r0 r1 r2 r3 r4 r5
    go_wp2_with fail
    refine bodyPost_ret (v := .agg #[.int .i64 a, .int .i64 b, .slice A ws.length k]) (by simp [results, Tryz.results137, go_sem, *]) rfl ⟨by have q := HB3.out; (repeat' (first | (with_reducible exact Below.refl _ _) | (with_reducible assumption) | (with_reducible apply Below.setCell) | (with_reducible apply Below.alloc) | (with_reducible apply Below.drew) | (with_reducible apply below_drewN) | (with_reducible refine Below.trans ?_ (Below.mono (by assumption) ?_)) | omega | (simp; done) | (simp; omega))), .inl ⟨rfl, a, b, A, ws.length, k, rfl, rfl, rfl, rfl, ?_⟩⟩
    have H := HL.out
    refine (((H.to (p' := fun q => w.heap.size + 1 ≤ q ∧ q < w2.heap.size) (fun q hq => ⟨⟨by omega, hq.2⟩, rfl⟩)).low (p := ⟨w.heap.size, 0, none⟩) (by simp) _).low (p := ⟨w.heap.size, 1, none⟩) (by simp) _).low (p := ⟨w.heap.size, 2, none⟩) (by simp) _
theorem enters_said1F : ∀ args w, (callFunc 137 args).run Tryz.prog w = .ok (.enter 137 args) w := fun args w => by simp [callFunc, Tryz.func137, Tryz.f137, mark]
set_option maxHeartbeats 2000000 in
theorem saidF_any (fm fo ft : Nat) (em : ∀ args w, (callFunc fm args).run Tryz.prog w = .ok (.enter fm args) w) (eo : ∀ args w, (callFunc fo args).run Tryz.prog w = .ok (.enter fo args) w) (co : Array Value) (M : Bool) (a b : Int) (ws : List Int) (x0 x1 x2 : Int) (w : World)
    (cm : ∀ W, Below w.heap.size w W → Calls Tryz.prog fm #[.agg #[.int .i64 x0, .int .i64 x1, .int .i64 x2]] W fun e w' => e = .returned (.bool M) ∧ Below W.heap.size W w')
    (ct : M = true → ∀ W, Below w.heap.size w W → Calls Tryz.prog fo (#[.agg #[.int .i64 x0, .int .i64 x1, .int .i64 x2]] ++ co) W (ObjEnd a b ws W)) :
    Calls Tryz.prog 71 #[.agg #[.func (.func fm) #[] #[], .func (.func fo) #[] co, .func (.func ft) #[] #[]], .agg #[.int .i64 x0, .int .i64 x1, .int .i64 x2]] w (SaidEnd M a b ws w) := by
  have hmf : ∀ (fn : Fn) (first cap : Array Value) (w : World), (Instr.makeFunc fn first cap).run Tryz.prog w = .ok (.func fn first cap) w := fun _ _ _ _ => rfl
  obtain ⟨w0, hw0⟩ : ∃ w0, (((w.alloc (.cells #[.func (.func fm) #[] #[], .func (.func fo) #[] co, .func (.func ft) #[] #[]] 113)).alloc (.cells #[.int .i64 x0, .int .i64 x1, .int .i64 x2] 27)).alloc (.cells #[.int .i64 0, .int .i64 0, .slice none 0 0] 42)) = w0 := ⟨_, rfl⟩
  have hs0 : w0.heap.size = w.heap.size + 3 := by rw [← hw0]; simp
  have hb0 : Below w.heap.size w w0 := by rw [← hw0]; (repeat' (first | (with_reducible exact Below.refl _ _) | (with_reducible assumption) | (with_reducible apply Below.setCell) | (with_reducible apply Below.alloc) | (with_reducible apply Below.drew) | (with_reducible apply below_drewN) | (with_reducible refine Below.trans ?_ (Below.mono (by assumption) ?_)) | omega | (simp; done) | (simp; omega)))
  have d0 : w0.cell? ⟨w.heap.size, 0, none⟩ = some (.func (.func fm) #[] #[]) := by rw [← hw0]; simp [go_sem]
  have d1 : w0.cell? ⟨w.heap.size, 1, none⟩ = some (.func (.func fo) #[] co) := by rw [← hw0]; simp [go_sem]
  have d2 : w0.cell? ⟨w.heap.size + 1, 0, none⟩ = some (.int .i64 x0) := by rw [← hw0]; simp [go_sem]
  have d3 : w0.cell? ⟨w.heap.size + 1, 1, none⟩ = some (.int .i64 x1) := by rw [← hw0]; simp [go_sem]
  have d4 : w0.cell? ⟨w.heap.size + 1, 2, none⟩ = some (.int .i64 x2) := by rw [← hw0]; simp [go_sem]
  have ct := hidd (toldO_any 137 (enters_said1F) #[.pointer (some ⟨w.heap.size, 0, none⟩), .pointer (some ⟨w.heap.size + 1, 0, none⟩)] w0 (fun a' b' A n k X => M = true ∧ a' = a ∧ b' = b ∧ n = ws.length ∧ LieQ wdV 1 X (fun q => w.heap.size + 5 ≤ q ∧ q < X.heap.size) A ws) (fun k => k = 2 ∧ M = false)
    (fun _ _ _ _ _ X p u h1 h2 h3 => ⟨h3.1, h3.2.1, h3.2.2.1, h3.2.2.2.1, h3.2.2.2.2.low (by omega) u⟩)
    (fun W hW hsz => (said1F_any fm fo ft em eo co M a b ws x0 x1 x2 w.heap.size (w.heap.size + 1) W (by omega) (by omega) ((hW.cell (p := ⟨w.heap.size, 0, none⟩) (by rw [hs0]; simp)).trans d0) ((hW.cell (p := ⟨w.heap.size, 1, none⟩) (by rw [hs0]; simp)).trans d1) ((hW.cell (p := ⟨w.heap.size + 1, 0, none⟩) (by rw [hs0]; simp)).trans d2) ((hW.cell (p := ⟨w.heap.size + 1, 1, none⟩) (by rw [hs0]; simp)).trans d3) ((hW.cell (p := ⟨w.heap.size + 1, 2, none⟩) (by rw [hs0]; simp)).trans d4)
      (fun X hX => cm X (below_step (hb0.trans (hW.mono hb0.size)) hX)) (fun hM X hX => ct hM X (below_step (hb0.trans (hW.mono hb0.size)) hX))).mono fun e w' ⟨h1, h2⟩ => ⟨h1, by
      rcases h2 with ⟨hM, a', b', A, n, k, e1, e2, e3, e4, e5⟩ | ⟨e1, e2⟩
      · exact .inl ⟨a', b', A, n, k, e4, hM, e1, e2, e3, e5.to (fun q hq => ⟨⟨by omega, hq.2⟩, rfl⟩)⟩
      · exact .inr ⟨2, e2, rfl, e1⟩⟩))
  have HB0 := hidd hb0
  have HW0 := hidd hw0
  have HS0 := hidd hs0
  clear cm hs0 hb0 hw0 d0 d1 d2 d3 d4
  go_enter Tryz.func71, Tryz.ntmps71
  go_wp2_with fail
  rw [HW0.out]
  refine ct.out.mono ?_
  rintro e w1 ⟨hb1, h⟩
  have HB1 := hidd (below_step HB0.out hb1)
  have hz : w.heap.size + 2 < w1.heap.size := by have := hb1.size; rw [HS0.out] at this; omega
  obtain ⟨bc, bf⟩ := bcell hb1
  have s0 : w1.cell? ⟨w.heap.size + 1 + 1, 0, none⟩ = some (.int .i64 0) := by rw [bc _ _ (by rw [HS0.out]; omega), ← HW0.out]; simp [go_sem]
  have s1 : w1.cell? ⟨w.heap.size + 1 + 1, 1, none⟩ = some (.int .i64 0) := by rw [bc _ _ (by rw [HS0.out]; omega), ← HW0.out]; simp [go_sem]
  have s2 : w1.cell? ⟨w.heap.size + 1 + 1, 2, none⟩ = some (.slice none 0 0) := by rw [bc _ _ (by rw [HS0.out]; omega), ← HW0.out]; simp [go_sem]
  have s3 : w1.frozen? ⟨w.heap.size + 1 + 1, 0, none⟩ = false := by rw [bf _ _ (by rw [HS0.out]; omega), ← HW0.out]; simp [go_sem]
  have s4 : w1.frozen? ⟨w.heap.size + 1 + 1, 1, none⟩ = false := by rw [bf _ _ (by rw [HS0.out]; omega), ← HW0.out]; simp [go_sem]
  have s5 : w1.frozen? ⟨w.heap.size + 1 + 1, 2, none⟩ = false := by rw [bf _ _ (by rw [HS0.out]; omega), ← HW0.out]; simp [go_sem]
  clear hb1 bc bf
  rcases h with ⟨a', b', A, n, k, rfl, hM, rfl, rfl, rfl, hl⟩ | ⟨k, rfl, rfl, hM⟩
  · have HL := hidd hl
    have HM := hidd hM
    clear hl hM
    go_wp2_with fail
    refine bodyPost_ret (v := .tuple #[.agg #[.int .i64 a', .int .i64 b', .slice A ws.length k], .int .i64 0]) (by simp [results, Tryz.results71, go_sem, *]) rfl ⟨by have q := HB1.out; (repeat' (first | (with_reducible exact Below.refl _ _) | (with_reducible assumption) | (with_reducible apply Below.setCell) | (with_reducible apply Below.alloc) | (with_reducible apply Below.drew) | (with_reducible apply below_drewN) | (with_reducible refine Below.trans ?_ (Below.mono (by assumption) ?_)) | omega | (simp; done) | (simp; omega))), .inl ⟨HM.out, A, k, rfl, ?_⟩⟩
    exact (((HL.out.low (p := ⟨w.heap.size + 1 + 1, 0, none⟩) (by simp) _).low (p := ⟨w.heap.size + 1 + 1, 1, none⟩) (by simp) _).low (p := ⟨w.heap.size + 1 + 1, 2, none⟩) (by simp) _).to (fun q hq => ⟨⟨by omega, hq.2⟩, rfl⟩)
  · have HM := hidd hM
    clear hM
    go_wp2_with fail
    exact bodyPost_ret (v := .tuple #[.agg #[.int .i64 0, .int .i64 0, .slice none 0 0], .int .i64 2]) (by simp [results, Tryz.results71, go_sem, *]) rfl ⟨by have q := HB1.out; (repeat' (first | (with_reducible exact Below.refl _ _) | (with_reducible assumption) | (with_reducible apply Below.setCell) | (with_reducible apply Below.alloc) | (with_reducible apply Below.drew) | (with_reducible apply below_drewN) | (with_reducible refine Below.trans ?_ (Below.mono (by assumption) ?_)) | omega | (simp; done) | (simp; omega))), .inr ⟨HM.out, rfl⟩⟩

set_option maxHeartbeats 2000000 in
theorem said1Y_any (fm fo ft : Nat) (em : ∀ args w, (callFunc fm args).run Tryz.prog w = .ok (.enter fm args) w) (eo : ∀ args w, (callFunc fo args).run Tryz.prog w = .ok (.enter fo args) w) (co : Array Value) (M : Bool) (a b : Int) (ws : List Int) (x : Int) (ps px : Nat) (w : World)
    (hs : ps < w.heap.size) (hx : px < w.heap.size) (c0 : w.cell? ⟨ps, 0, none⟩ = some (.func (.func fm) #[] #[])) (c1 : w.cell? ⟨ps, 1, none⟩ = some (.func (.func fo) #[] co)) (c3 : w.cell? ⟨px, 0, none⟩ = some (.int .i64 x))
    (cm : ∀ W, Below w.heap.size w W → Calls Tryz.prog fm #[.int .i64 x] W fun e w' => e = .returned (.bool M) ∧ Below W.heap.size W w')
    (ct : M = true → ∀ W, Below w.heap.size w W → Calls Tryz.prog fo (#[.int .i64 x] ++ co) W (ObjEnd a b ws W)) :
    Calls Tryz.prog 138 #[.pointer (some ⟨ps, 0, none⟩), .pointer (some ⟨px, 0, none⟩)] w (Said1 M a b ws w) := by
  have CM := hidd cm
  have CT := hidd ct
  have KS := hidd (fun W (h : Below w.heap.size w W) => (show W.cell? ⟨ps, 0, none⟩ = some (.func (.func fm) #[] #[]) ∧ W.cell? ⟨ps, 1, none⟩ = some (.func (.func fo) #[] co) ∧ W.cell? ⟨px, 0, none⟩ = some (.int .i64 x) from ⟨(h.cell (p := ⟨ps, 0, none⟩) hs).trans c0, (h.cell (p := ⟨ps, 1, none⟩) hs).trans c1, (h.cell (p := ⟨px, 0, none⟩) hx).trans c3⟩))
  clear cm ct
  cases M
  · go_enter Tryz.func138, Tryz.ntmps138
    go_wp2_with fail
    refine (CM.out _ (by (repeat' (first | (with_reducible exact Below.refl _ _) | (with_reducible assumption) | (with_reducible apply Below.setCell) | (with_reducible apply Below.alloc) | (with_reducible apply Below.drew) | (with_reducible apply below_drewN) | (with_reducible refine Below.trans ?_ (Below.mono (by assumption) ?_)) | omega | (simp; done) | (simp; omega))))).mono ?_
    rintro e w1 ⟨rfl, hb1⟩
    go_wp2_with fail
    refine (need_no _ _).mono ?_
    rintro e w2 ⟨rfl, rfl⟩
    go_wp2_with fail
    exact ⟨rfl, by (repeat' (first | (with_reducible exact Below.refl _ _) | (with_reducible assumption) | (with_reducible apply Below.setCell) | (with_reducible apply Below.alloc) | (with_reducible apply Below.drew) | (with_reducible apply below_drewN) | (with_reducible refine Below.trans ?_ (Below.mono (by assumption) ?_)) | omega | (simp; done) | (simp; omega))), .inr ⟨rfl, rfl⟩⟩
  · go_enter Tryz.func138, Tryz.ntmps138
    go_wp2_with fail
    refine (CM.out _ (by (repeat' (first | (with_reducible exact Below.refl _ _) | (with_reducible assumption) | (with_reducible apply Below.setCell) | (with_reducible apply Below.alloc) | (with_reducible apply Below.drew) | (with_reducible apply below_drewN) | (with_reducible refine Below.trans ?_ (Below.mono (by assumption) ?_)) | omega | (simp; done) | (simp; omega))))).mono ?_
    rintro e w1 ⟨rfl, hb1⟩
    have hb2 : Below w.heap.size w w1 := below_step (show Below w.heap.size w _ by (repeat' (first | (with_reducible exact Below.refl _ _) | (with_reducible assumption) | (with_reducible apply Below.setCell) | (with_reducible apply Below.alloc) | (with_reducible apply Below.drew) | (with_reducible apply below_drewN) | (with_reducible refine Below.trans ?_ (Below.mono (by assumption) ?_)) | omega | (simp; done) | (simp; omega)))) hb1
    have HB2 := hidd hb2
    obtain ⟨bc, bf⟩ := bcell hb1
    have zz : w.heap.size < w1.heap.size := by have := hb1.size; simp at this; omega
    have r0 : w1.cell? ⟨w.heap.size, 0, none⟩ = some (.int .i64 0) := by rw [bc _ _ (by simp)]; simp [go_sem]
    have r1 : w1.cell? ⟨w.heap.size, 1, none⟩ = some (.int .i64 0) := by rw [bc _ _ (by simp)]; simp [go_sem]
    have r2 : w1.cell? ⟨w.heap.size, 2, none⟩ = some (.slice none 0 0) := by rw [bc _ _ (by simp)]; simp [go_sem]
    have r3 : w1.frozen? ⟨w.heap.size, 0, none⟩ = false := by rw [bf _ _ (by simp)]; simp [go_sem]
    have r4 : w1.frozen? ⟨w.heap.size, 1, none⟩ = false := by rw [bf _ _ (by simp)]; simp [go_sem]
    have r5 : w1.frozen? ⟨w.heap.size, 2, none⟩ = false := by rw [bf _ _ (by simp)]; simp [go_sem]
    obtain ⟨g0, g1, g2⟩ := KS.out _ hb2
    clear hb1 hb2 bc bf
    go_wp2_with fail
    refine (need_yes _ _).mono ?_
    rintro e w2 ⟨rfl, rfl⟩
    go_wp2_with fail
    refine (CT.out (by first | rfl | trivial) _ HB2.out).mono ?_
    rintro e w2 ⟨hb2, A, k, rfl, hl⟩
    have HB3 := hidd (below_step HB2.out hb2)
    have HL := hidd hl
    obtain ⟨bc, bf⟩ := bcell hb2
    have s0 : w2.cell? ⟨w.heap.size, 0, none⟩ = some (.int .i64 0) := by rw [bc _ _ zz]; exact r0
    have s1 : w2.cell? ⟨w.heap.size, 1, none⟩ = some (.int .i64 0) := by rw [bc _ _ zz]; exact r1
    have s2 : w2.cell? ⟨w.heap.size, 2, none⟩ = some (.slice none 0 0) := by rw [bc _ _ zz]; exact r2
    have s3 : w2.frozen? ⟨w.heap.size, 0, none⟩ = false := by rw [bf _ _ zz]; exact r3
    have s4 : w2.frozen? ⟨w.heap.size, 1, none⟩ = false := by rw [bf _ _ zz]; exact r4
    have s5 : w2.frozen? ⟨w.heap.size, 2, none⟩ = false := by rw [bf _ _ zz]; exact r5
    clear hb2 hl bc bf r0 r1 r2 r3 r4 r5
    go_wp2_with fail
    refine bodyPost_ret (v := .agg #[.int .i64 a, .int .i64 b, .slice A ws.length k]) (by simp [results, Tryz.results138, go_sem, *]) rfl ⟨by have q := HB3.out; (repeat' (first | (with_reducible exact Below.refl _ _) | (with_reducible assumption) | (with_reducible apply Below.setCell) | (with_reducible apply Below.alloc) | (with_reducible apply Below.drew) | (with_reducible apply below_drewN) | (with_reducible refine Below.trans ?_ (Below.mono (by assumption) ?_)) | omega | (simp; done) | (simp; omega))), .inl ⟨rfl, a, b, A, ws.length, k, rfl, rfl, rfl, rfl, ?_⟩⟩
    have H := HL.out
    refine (((H.to (p' := fun q => w.heap.size + 1 ≤ q ∧ q < w2.heap.size) (fun q hq => ⟨⟨by omega, hq.2⟩, rfl⟩)).low (p := ⟨w.heap.size, 0, none⟩) (by simp) _).low (p := ⟨w.heap.size, 1, none⟩) (by simp) _).low (p := ⟨w.heap.size, 2, none⟩) (by simp) _
theorem enters_said1Y : ∀ args w, (callFunc 138 args).run Tryz.prog w = .ok (.enter 138 args) w := fun args w => by simp [callFunc, Tryz.func138, Tryz.f138, mark]
set_option maxHeartbeats 2000000 in
theorem saidY_any (fm fo ft : Nat) (em : ∀ args w, (callFunc fm args).run Tryz.prog w = .ok (.enter fm args) w) (eo : ∀ args w, (callFunc fo args).run Tryz.prog w = .ok (.enter fo args) w) (co : Array Value) (M : Bool) (a b : Int) (ws : List Int) (x : Int) (w : World)
    (cm : ∀ W, Below w.heap.size w W → Calls Tryz.prog fm #[.int .i64 x] W fun e w' => e = .returned (.bool M) ∧ Below W.heap.size W w')
    (ct : M = true → ∀ W, Below w.heap.size w W → Calls Tryz.prog fo (#[.int .i64 x] ++ co) W (ObjEnd a b ws W)) :
    Calls Tryz.prog 72 #[.agg #[.func (.func fm) #[] #[], .func (.func fo) #[] co, .func (.func ft) #[] #[]], .int .i64 x] w (SaidEnd M a b ws w) := by
  have hmf : ∀ (fn : Fn) (first cap : Array Value) (w : World), (Instr.makeFunc fn first cap).run Tryz.prog w = .ok (.func fn first cap) w := fun _ _ _ _ => rfl
  obtain ⟨w0, hw0⟩ : ∃ w0, (((w.alloc (.cells #[.func (.func fm) #[] #[], .func (.func fo) #[] co, .func (.func ft) #[] #[]] 117)).alloc (.cells #[.int .i64 x] 28)).alloc (.cells #[.int .i64 0, .int .i64 0, .slice none 0 0] 42)) = w0 := ⟨_, rfl⟩
  have hs0 : w0.heap.size = w.heap.size + 3 := by rw [← hw0]; simp
  have hb0 : Below w.heap.size w w0 := by rw [← hw0]; (repeat' (first | (with_reducible exact Below.refl _ _) | (with_reducible assumption) | (with_reducible apply Below.setCell) | (with_reducible apply Below.alloc) | (with_reducible apply Below.drew) | (with_reducible apply below_drewN) | (with_reducible refine Below.trans ?_ (Below.mono (by assumption) ?_)) | omega | (simp; done) | (simp; omega)))
  have d0 : w0.cell? ⟨w.heap.size, 0, none⟩ = some (.func (.func fm) #[] #[]) := by rw [← hw0]; simp [go_sem]
  have d1 : w0.cell? ⟨w.heap.size, 1, none⟩ = some (.func (.func fo) #[] co) := by rw [← hw0]; simp [go_sem]
  have d2 : w0.cell? ⟨w.heap.size + 1, 0, none⟩ = some (.int .i64 x) := by rw [← hw0]; simp [go_sem]
  have ct := hidd (toldO_any 138 (enters_said1Y) #[.pointer (some ⟨w.heap.size, 0, none⟩), .pointer (some ⟨w.heap.size + 1, 0, none⟩)] w0 (fun a' b' A n k X => M = true ∧ a' = a ∧ b' = b ∧ n = ws.length ∧ LieQ wdV 1 X (fun q => w.heap.size + 5 ≤ q ∧ q < X.heap.size) A ws) (fun k => k = 2 ∧ M = false)
    (fun _ _ _ _ _ X p u h1 h2 h3 => ⟨h3.1, h3.2.1, h3.2.2.1, h3.2.2.2.1, h3.2.2.2.2.low (by omega) u⟩)
    (fun W hW hsz => (said1Y_any fm fo ft em eo co M a b ws x w.heap.size (w.heap.size + 1) W (by omega) (by omega) ((hW.cell (p := ⟨w.heap.size, 0, none⟩) (by rw [hs0]; simp)).trans d0) ((hW.cell (p := ⟨w.heap.size, 1, none⟩) (by rw [hs0]; simp)).trans d1) ((hW.cell (p := ⟨w.heap.size + 1, 0, none⟩) (by rw [hs0]; simp)).trans d2)
      (fun X hX => cm X (below_step (hb0.trans (hW.mono hb0.size)) hX)) (fun hM X hX => ct hM X (below_step (hb0.trans (hW.mono hb0.size)) hX))).mono fun e w' ⟨h1, h2⟩ => ⟨h1, by
      rcases h2 with ⟨hM, a', b', A, n, k, e1, e2, e3, e4, e5⟩ | ⟨e1, e2⟩
      · exact .inl ⟨a', b', A, n, k, e4, hM, e1, e2, e3, e5.to (fun q hq => ⟨⟨by omega, hq.2⟩, rfl⟩)⟩
      · exact .inr ⟨2, e2, rfl, e1⟩⟩))
  have HB0 := hidd hb0
  have HW0 := hidd hw0
  have HS0 := hidd hs0
  clear cm hs0 hb0 hw0 d0 d1 d2
  go_enter Tryz.func72, Tryz.ntmps72
  go_wp2_with fail
  rw [HW0.out]
  refine ct.out.mono ?_
  rintro e w1 ⟨hb1, h⟩
  have HB1 := hidd (below_step HB0.out hb1)
  have hz : w.heap.size + 2 < w1.heap.size := by have := hb1.size; rw [HS0.out] at this; omega
  obtain ⟨bc, bf⟩ := bcell hb1
  have s0 : w1.cell? ⟨w.heap.size + 1 + 1, 0, none⟩ = some (.int .i64 0) := by rw [bc _ _ (by rw [HS0.out]; omega), ← HW0.out]; simp [go_sem]
  have s1 : w1.cell? ⟨w.heap.size + 1 + 1, 1, none⟩ = some (.int .i64 0) := by rw [bc _ _ (by rw [HS0.out]; omega), ← HW0.out]; simp [go_sem]
  have s2 : w1.cell? ⟨w.heap.size + 1 + 1, 2, none⟩ = some (.slice none 0 0) := by rw [bc _ _ (by rw [HS0.out]; omega), ← HW0.out]; simp [go_sem]
  have s3 : w1.frozen? ⟨w.heap.size + 1 + 1, 0, none⟩ = false := by rw [bf _ _ (by rw [HS0.out]; omega), ← HW0.out]; simp [go_sem]
  have s4 : w1.frozen? ⟨w.heap.size + 1 + 1, 1, none⟩ = false := by rw [bf _ _ (by rw [HS0.out]; omega), ← HW0.out]; simp [go_sem]
  have s5 : w1.frozen? ⟨w.heap.size + 1 + 1, 2, none⟩ = false := by rw [bf _ _ (by rw [HS0.out]; omega), ← HW0.out]; simp [go_sem]
  clear hb1 bc bf
  rcases h with ⟨a', b', A, n, k, rfl, hM, rfl, rfl, rfl, hl⟩ | ⟨k, rfl, rfl, hM⟩
  · have HL := hidd hl
    have HM := hidd hM
    clear hl hM
    go_wp2_with fail
    refine bodyPost_ret (v := .tuple #[.agg #[.int .i64 a', .int .i64 b', .slice A ws.length k], .int .i64 0]) (by simp [results, Tryz.results72, go_sem, *]) rfl ⟨by have q := HB1.out; (repeat' (first | (with_reducible exact Below.refl _ _) | (with_reducible assumption) | (with_reducible apply Below.setCell) | (with_reducible apply Below.alloc) | (with_reducible apply Below.drew) | (with_reducible apply below_drewN) | (with_reducible refine Below.trans ?_ (Below.mono (by assumption) ?_)) | omega | (simp; done) | (simp; omega))), .inl ⟨HM.out, A, k, rfl, ?_⟩⟩
    exact (((HL.out.low (p := ⟨w.heap.size + 1 + 1, 0, none⟩) (by simp) _).low (p := ⟨w.heap.size + 1 + 1, 1, none⟩) (by simp) _).low (p := ⟨w.heap.size + 1 + 1, 2, none⟩) (by simp) _).to (fun q hq => ⟨⟨by omega, hq.2⟩, rfl⟩)
  · have HM := hidd hM
    clear hM
    go_wp2_with fail
    exact bodyPost_ret (v := .tuple #[.agg #[.int .i64 0, .int .i64 0, .slice none 0 0], .int .i64 2]) (by simp [results, Tryz.results72, go_sem, *]) rfl ⟨by have q := HB1.out; (repeat' (first | (with_reducible exact Below.refl _ _) | (with_reducible assumption) | (with_reducible apply Below.setCell) | (with_reducible apply Below.alloc) | (with_reducible apply Below.drew) | (with_reducible apply below_drewN) | (with_reducible refine Below.trans ?_ (Below.mono (by assumption) ?_)) | omega | (simp; done) | (simp; omega))), .inr ⟨HM.out, rfl⟩⟩

set_option maxHeartbeats 2000000 in
theorem said1W_any (fm fo ft : Nat) (em : ∀ args w, (callFunc fm args).run Tryz.prog w = .ok (.enter fm args) w) (eo : ∀ args w, (callFunc fo args).run Tryz.prog w = .ok (.enter fo args) w) (co : Array Value) (M : Bool) (a b : Int) (ws : List Int) (x0 x1 x2 x3 x4 x5 x6 : Int) (ps px : Nat) (w : World)
    (hs : ps < w.heap.size) (hx : px < w.heap.size) (c0 : w.cell? ⟨ps, 0, none⟩ = some (.func (.func fm) #[] #[])) (c1 : w.cell? ⟨ps, 1, none⟩ = some (.func (.func fo) #[] co)) (c3 : w.cell? ⟨px, 0, none⟩ = some (.int .i64 x0)) (c4 : w.cell? ⟨px, 1, none⟩ = some (.int .i64 x1)) (c5 : w.cell? ⟨px, 2, none⟩ = some (.int .i64 x2)) (c6 : w.cell? ⟨px, 3, none⟩ = some (.int .i64 x3)) (c7 : w.cell? ⟨px, 4, none⟩ = some (.int .i64 x4)) (c8 : w.cell? ⟨px, 5, none⟩ = some (.int .i64 x5)) (c9 : w.cell? ⟨px, 6, none⟩ = some (.int .i64 x6))
    (cm : ∀ W, Below w.heap.size w W → Calls Tryz.prog fm #[.agg #[.int .i64 x0, .int .i64 x1, .int .i64 x2, .int .i64 x3, .int .i64 x4, .int .i64 x5, .int .i64 x6]] W fun e w' => e = .returned (.bool M) ∧ Below W.heap.size W w')
    (ct : M = true → ∀ W, Below w.heap.size w W → Calls Tryz.prog fo (#[.agg #[.int .i64 x0, .int .i64 x1, .int .i64 x2, .int .i64 x3, .int .i64 x4, .int .i64 x5, .int .i64 x6]] ++ co) W (ObjEnd a b ws W)) :
    Calls Tryz.prog 141 #[.pointer (some ⟨ps, 0, none⟩), .pointer (some ⟨px, 0, none⟩)] w (Said1 M a b ws w) := by
  have CM := hidd cm
  have CT := hidd ct
  have KS := hidd (fun W (h : Below w.heap.size w W) => (show W.cell? ⟨ps, 0, none⟩ = some (.func (.func fm) #[] #[]) ∧ W.cell? ⟨ps, 1, none⟩ = some (.func (.func fo) #[] co) ∧ W.cell? ⟨px, 0, none⟩ = some (.int .i64 x0) ∧ W.cell? ⟨px, 1, none⟩ = some (.int .i64 x1) ∧ W.cell? ⟨px, 2, none⟩ = some (.int .i64 x2) ∧ W.cell? ⟨px, 3, none⟩ = some (.int .i64 x3) ∧ W.cell? ⟨px, 4, none⟩ = some (.int .i64 x4) ∧ W.cell? ⟨px, 5, none⟩ = some (.int .i64 x5) ∧ W.cell? ⟨px, 6, none⟩ = some (.int .i64 x6) from ⟨(h.cell (p := ⟨ps, 0, none⟩) hs).trans c0, (h.cell (p := ⟨ps, 1, none⟩) hs).trans c1, (h.cell (p := ⟨px, 0, none⟩) hx).trans c3, (h.cell (p := ⟨px, 1, none⟩) hx).trans c4, (h.cell (p := ⟨px, 2, none⟩) hx).trans c5, (h.cell (p := ⟨px, 3, none⟩) hx).trans c6, (h.cell (p := ⟨px, 4, none⟩) hx).trans c7, (h.cell (p := ⟨px, 5, none⟩) hx).trans c8, (h.cell (p := ⟨px, 6, none⟩) hx).trans c9⟩))
  clear cm ct
  cases M
  · go_enter Tryz.func141, Tryz.ntmps141
    go_wp2_with fail
    refine (CM.out _ (by (repeat' (first | (with_reducible exact Below.refl _ _) | (with_reducible assumption) | (with_reducible apply Below.setCell) | (with_reducible apply Below.alloc) | (with_reducible apply Below.drew) | (with_reducible apply below_drewN) | (with_reducible refine Below.trans ?_ (Below.mono (by assumption) ?_)) | omega | (simp; done) | (simp; omega))))).mono ?_
    rintro e w1 ⟨rfl, hb1⟩
    go_wp2_with fail
    refine (need_no _ _).mono ?_
    rintro e w2 ⟨rfl, rfl⟩
    go_wp2_with fail
    exact ⟨rfl, by (repeat' (first | (with_reducible exact Below.refl _ _) | (with_reducible assumption) | (with_reducible apply Below.setCell) | (with_reducible apply Below.alloc) | (with_reducible apply Below.drew) | (with_reducible apply below_drewN) | (with_reducible refine Below.trans ?_ (Below.mono (by assumption) ?_)) | omega | (simp; done) | (simp; omega))), .inr ⟨rfl, rfl⟩⟩
  · go_enter Tryz.func141, Tryz.ntmps141
    go_wp2_with fail
    refine (CM.out _ (by (repeat' (first | (with_reducible exact Below.refl _ _) | (with_reducible assumption) | (with_reducible apply Below.setCell) | (with_reducible apply Below.alloc) | (with_reducible apply Below.drew) | (with_reducible apply below_drewN) | (with_reducible refine Below.trans ?_ (Below.mono (by assumption) ?_)) | omega | (simp; done) | (simp; omega))))).mono ?_
    rintro e w1 ⟨rfl, hb1⟩
    have hb2 : Below w.heap.size w w1 := below_step (show Below w.heap.size w _ by (repeat' (first | (with_reducible exact Below.refl _ _) | (with_reducible assumption) | (with_reducible apply Below.setCell) | (with_reducible apply Below.alloc) | (with_reducible apply Below.drew) | (with_reducible apply below_drewN) | (with_reducible refine Below.trans ?_ (Below.mono (by assumption) ?_)) | omega | (simp; done) | (simp; omega)))) hb1
    have HB2 := hidd hb2
    obtain ⟨bc, bf⟩ := bcell hb1
    have zz : w.heap.size < w1.heap.size := by have := hb1.size; simp at this; omega
    have r0 : w1.cell? ⟨w.heap.size, 0, none⟩ = some (.int .i64 0) := by rw [bc _ _ (by simp)]; simp [go_sem]
    have r1 : w1.cell? ⟨w.heap.size, 1, none⟩ = some (.int .i64 0) := by rw [bc _ _ (by simp)]; simp [go_sem]
    have r2 : w1.cell? ⟨w.heap.size, 2, none⟩ = some (.slice none 0 0) := by rw [bc _ _ (by simp)]; simp [go_sem]
    have r3 : w1.frozen? ⟨w.heap.size, 0, none⟩ = false := by rw [bf _ _ (by simp)]; simp [go_sem]
    have r4 : w1.frozen? ⟨w.heap.size, 1, none⟩ = false := by rw [bf _ _ (by simp)]; simp [go_sem]
    have r5 : w1.frozen? ⟨w.heap.size, 2, none⟩ = false := by rw [bf _ _ (by simp)]; simp [go_sem]
    obtain ⟨g0, g1, g2, g3, g4, g5, g6, g7, g8⟩ := KS.out _ hb2
    clear hb1 hb2 bc bf
    go_wp2_with fail
    refine (need_yes _ _).mono ?_
    rintro e w2 ⟨rfl, rfl⟩
    go_wp2_with fail
    refine (CT.out (by first | rfl | trivial) _ HB2.out).mono ?_
    rintro e w2 ⟨hb2, A, k, rfl, hl⟩
    have HB3 := hidd (below_step HB2.out hb2)
    have HL := hidd hl
    obtain ⟨bc, bf⟩ := bcell hb2
    have s0 : w2.cell? ⟨w.heap.size, 0, none⟩ = some (.int .i64 0) := by rw [bc _ _ zz]; exact r0
    have s1 : w2.cell? ⟨w.heap.size, 1, none⟩ = some (.int .i64 0) := by rw [bc _ _ zz]; exact r1
    have s2 : w2.cell? ⟨w.heap.size, 2, none⟩ = some (.slice none 0 0) := by rw [bc _ _ zz]; exact r2
    have s3 : w2.frozen? ⟨w.heap.size, 0, none⟩ = false := by rw [bf _ _ zz]; exact r3
    have s4 : w2.frozen? ⟨w.heap.size, 1, none⟩ = false := by rw [bf _ _ zz]; exact r4
    have s5 : w2.frozen? ⟨w.heap.size, 2, none⟩ = false := by rw [bf _ _ zz]; exact r5
    clear hb2 hl bc bf r0 r1 r2 r3 r4 r5
    go_wp2_with fail
    refine bodyPost_ret (v := .agg #[.int .i64 a, .int .i64 b, .slice A ws.length k]) (by simp [results, Tryz.results141, go_sem, *]) rfl ⟨by have q := HB3.out; (repeat' (first | (with_reducible exact Below.refl _ _) | (with_reducible assumption) | (with_reducible apply Below.setCell) | (with_reducible apply Below.alloc) | (with_reducible apply Below.drew) | (with_reducible apply below_drewN) | (with_reducible refine Below.trans ?_ (Below.mono (by assumption) ?_)) | omega | (simp; done) | (simp; omega))), .inl ⟨rfl, a, b, A, ws.length, k, rfl, rfl, rfl, rfl, ?_⟩⟩
    have H := HL.out
    refine (((H.to (p' := fun q => w.heap.size + 1 ≤ q ∧ q < w2.heap.size) (fun q hq => ⟨⟨by omega, hq.2⟩, rfl⟩)).low (p := ⟨w.heap.size, 0, none⟩) (by simp) _).low (p := ⟨w.heap.size, 1, none⟩) (by simp) _).low (p := ⟨w.heap.size, 2, none⟩) (by simp) _
theorem enters_said1W : ∀ args w, (callFunc 141 args).run Tryz.prog w = .ok (.enter 141 args) w := fun args w => by simp [callFunc, Tryz.func141, Tryz.f141, mark]
set_option maxHeartbeats 2000000 in
theorem saidW_any (fm fo ft : Nat) (em : ∀ args w, (callFunc fm args).run Tryz.prog w = .ok (.enter fm args) w) (eo : ∀ args w, (callFunc fo args).run Tryz.prog w = .ok (.enter fo args) w) (co : Array Value) (M : Bool) (a b : Int) (ws : List Int) (x0 x1 x2 x3 x4 x5 x6 : Int) (w : World)
    (cm : ∀ W, Below w.heap.size w W → Calls Tryz.prog fm #[.agg #[.int .i64 x0, .int .i64 x1, .int .i64 x2, .int .i64 x3, .int .i64 x4, .int .i64 x5, .int .i64 x6]] W fun e w' => e = .returned (.bool M) ∧ Below W.heap.size W w')
    (ct : M = true → ∀ W, Below w.heap.size w W → Calls Tryz.prog fo (#[.agg #[.int .i64 x0, .int .i64 x1, .int .i64 x2, .int .i64 x3, .int .i64 x4, .int .i64 x5, .int .i64 x6]] ++ co) W (ObjEnd a b ws W)) :
    Calls Tryz.prog 74 #[.agg #[.func (.func fm) #[] #[], .func (.func fo) #[] co, .func (.func ft) #[] #[]], .agg #[.int .i64 x0, .int .i64 x1, .int .i64 x2, .int .i64 x3, .int .i64 x4, .int .i64 x5, .int .i64 x6]] w (SaidEnd M a b ws w) := by
  have hmf : ∀ (fn : Fn) (first cap : Array Value) (w : World), (Instr.makeFunc fn first cap).run Tryz.prog w = .ok (.func fn first cap) w := fun _ _ _ _ => rfl
  obtain ⟨w0, hw0⟩ : ∃ w0, (((w.alloc (.cells #[.func (.func fm) #[] #[], .func (.func fo) #[] co, .func (.func ft) #[] #[]] 121)).alloc (.cells #[.int .i64 x0, .int .i64 x1, .int .i64 x2, .int .i64 x3, .int .i64 x4, .int .i64 x5, .int .i64 x6] 32)).alloc (.cells #[.int .i64 0, .int .i64 0, .slice none 0 0] 42)) = w0 := ⟨_, rfl⟩
  have hs0 : w0.heap.size = w.heap.size + 3 := by rw [← hw0]; simp
  have hb0 : Below w.heap.size w w0 := by rw [← hw0]; (repeat' (first | (with_reducible exact Below.refl _ _) | (with_reducible assumption) | (with_reducible apply Below.setCell) | (with_reducible apply Below.alloc) | (with_reducible apply Below.drew) | (with_reducible apply below_drewN) | (with_reducible refine Below.trans ?_ (Below.mono (by assumption) ?_)) | omega | (simp; done) | (simp; omega)))
  have d0 : w0.cell? ⟨w.heap.size, 0, none⟩ = some (.func (.func fm) #[] #[]) := by rw [← hw0]; simp [go_sem]
  have d1 : w0.cell? ⟨w.heap.size, 1, none⟩ = some (.func (.func fo) #[] co) := by rw [← hw0]; simp [go_sem]
  have d2 : w0.cell? ⟨w.heap.size + 1, 0, none⟩ = some (.int .i64 x0) := by rw [← hw0]; simp [go_sem]
  have d3 : w0.cell? ⟨w.heap.size + 1, 1, none⟩ = some (.int .i64 x1) := by rw [← hw0]; simp [go_sem]
  have d4 : w0.cell? ⟨w.heap.size + 1, 2, none⟩ = some (.int .i64 x2) := by rw [← hw0]; simp [go_sem]
  have d5 : w0.cell? ⟨w.heap.size + 1, 3, none⟩ = some (.int .i64 x3) := by rw [← hw0]; simp [go_sem]
  have d6 : w0.cell? ⟨w.heap.size + 1, 4, none⟩ = some (.int .i64 x4) := by rw [← hw0]; simp [go_sem]
  have d7 : w0.cell? ⟨w.heap.size + 1, 5, none⟩ = some (.int .i64 x5) := by rw [← hw0]; simp [go_sem]
  have d8 : w0.cell? ⟨w.heap.size + 1, 6, none⟩ = some (.int .i64 x6) := by rw [← hw0]; simp [go_sem]
  have ct := hidd (toldO_any 141 (enters_said1W) #[.pointer (some ⟨w.heap.size, 0, none⟩), .pointer (some ⟨w.heap.size + 1, 0, none⟩)] w0 (fun a' b' A n k X => M = true ∧ a' = a ∧ b' = b ∧ n = ws.length ∧ LieQ wdV 1 X (fun q => w.heap.size + 5 ≤ q ∧ q < X.heap.size) A ws) (fun k => k = 2 ∧ M = false)
    (fun _ _ _ _ _ X p u h1 h2 h3 => ⟨h3.1, h3.2.1, h3.2.2.1, h3.2.2.2.1, h3.2.2.2.2.low (by omega) u⟩)
    (fun W hW hsz => (said1W_any fm fo ft em eo co M a b ws x0 x1 x2 x3 x4 x5 x6 w.heap.size (w.heap.size + 1) W (by omega) (by omega) ((hW.cell (p := ⟨w.heap.size, 0, none⟩) (by rw [hs0]; simp)).trans d0) ((hW.cell (p := ⟨w.heap.size, 1, none⟩) (by rw [hs0]; simp)).trans d1) ((hW.cell (p := ⟨w.heap.size + 1, 0, none⟩) (by rw [hs0]; simp)).trans d2) ((hW.cell (p := ⟨w.heap.size + 1, 1, none⟩) (by rw [hs0]; simp)).trans d3) ((hW.cell (p := ⟨w.heap.size + 1, 2, none⟩) (by rw [hs0]; simp)).trans d4) ((hW.cell (p := ⟨w.heap.size + 1, 3, none⟩) (by rw [hs0]; simp)).trans d5) ((hW.cell (p := ⟨w.heap.size + 1, 4, none⟩) (by rw [hs0]; simp)).trans d6) ((hW.cell (p := ⟨w.heap.size + 1, 5, none⟩) (by rw [hs0]; simp)).trans d7) ((hW.cell (p := ⟨w.heap.size + 1, 6, none⟩) (by rw [hs0]; simp)).trans d8)
      (fun X hX => cm X (below_step (hb0.trans (hW.mono hb0.size)) hX)) (fun hM X hX => ct hM X (below_step (hb0.trans (hW.mono hb0.size)) hX))).mono fun e w' ⟨h1, h2⟩ => ⟨h1, by
      rcases h2 with ⟨hM, a', b', A, n, k, e1, e2, e3, e4, e5⟩ | ⟨e1, e2⟩
      · exact .inl ⟨a', b', A, n, k, e4, hM, e1, e2, e3, e5.to (fun q hq => ⟨⟨by omega, hq.2⟩, rfl⟩)⟩
      · exact .inr ⟨2, e2, rfl, e1⟩⟩))
  have HB0 := hidd hb0
  have HW0 := hidd hw0
  have HS0 := hidd hs0
  clear cm hs0 hb0 hw0 d0 d1 d2 d3 d4 d5 d6 d7 d8
  go_enter Tryz.func74, Tryz.ntmps74
  go_wp2_with fail
  rw [HW0.out]
  refine ct.out.mono ?_
  rintro e w1 ⟨hb1, h⟩
  have HB1 := hidd (below_step HB0.out hb1)
  have hz : w.heap.size + 2 < w1.heap.size := by have := hb1.size; rw [HS0.out] at this; omega
  obtain ⟨bc, bf⟩ := bcell hb1
  have s0 : w1.cell? ⟨w.heap.size + 1 + 1, 0, none⟩ = some (.int .i64 0) := by rw [bc _ _ (by rw [HS0.out]; omega), ← HW0.out]; simp [go_sem]
  have s1 : w1.cell? ⟨w.heap.size + 1 + 1, 1, none⟩ = some (.int .i64 0) := by rw [bc _ _ (by rw [HS0.out]; omega), ← HW0.out]; simp [go_sem]
  have s2 : w1.cell? ⟨w.heap.size + 1 + 1, 2, none⟩ = some (.slice none 0 0) := by rw [bc _ _ (by rw [HS0.out]; omega), ← HW0.out]; simp [go_sem]
  have s3 : w1.frozen? ⟨w.heap.size + 1 + 1, 0, none⟩ = false := by rw [bf _ _ (by rw [HS0.out]; omega), ← HW0.out]; simp [go_sem]
  have s4 : w1.frozen? ⟨w.heap.size + 1 + 1, 1, none⟩ = false := by rw [bf _ _ (by rw [HS0.out]; omega), ← HW0.out]; simp [go_sem]
  have s5 : w1.frozen? ⟨w.heap.size + 1 + 1, 2, none⟩ = false := by rw [bf _ _ (by rw [HS0.out]; omega), ← HW0.out]; simp [go_sem]
  clear hb1 bc bf
  rcases h with ⟨a', b', A, n, k, rfl, hM, rfl, rfl, rfl, hl⟩ | ⟨k, rfl, rfl, hM⟩
  · have HL := hidd hl
    have HM := hidd hM
    clear hl hM
    go_wp2_with fail
    refine bodyPost_ret (v := .tuple #[.agg #[.int .i64 a', .int .i64 b', .slice A ws.length k], .int .i64 0]) (by simp [results, Tryz.results74, go_sem, *]) rfl ⟨by have q := HB1.out; (repeat' (first | (with_reducible exact Below.refl _ _) | (with_reducible assumption) | (with_reducible apply Below.setCell) | (with_reducible apply Below.alloc) | (with_reducible apply Below.drew) | (with_reducible apply below_drewN) | (with_reducible refine Below.trans ?_ (Below.mono (by assumption) ?_)) | omega | (simp; done) | (simp; omega))), .inl ⟨HM.out, A, k, rfl, ?_⟩⟩
    exact (((HL.out.low (p := ⟨w.heap.size + 1 + 1, 0, none⟩) (by simp) _).low (p := ⟨w.heap.size + 1 + 1, 1, none⟩) (by simp) _).low (p := ⟨w.heap.size + 1 + 1, 2, none⟩) (by simp) _).to (fun q hq => ⟨⟨by omega, hq.2⟩, rfl⟩)
  · have HM := hidd hM
    clear hM
    go_wp2_with fail
    exact bodyPost_ret (v := .tuple #[.agg #[.int .i64 0, .int .i64 0, .slice none 0 0], .int .i64 2]) (by simp [results, Tryz.results74, go_sem, *]) rfl ⟨by have q := HB1.out; (repeat' (first | (with_reducible exact Below.refl _ _) | (with_reducible assumption) | (with_reducible apply Below.setCell) | (with_reducible apply Below.alloc) | (with_reducible apply Below.drew) | (with_reducible apply below_drewN) | (with_reducible refine Below.trans ?_ (Below.mono (by assumption) ?_)) | omega | (simp; done) | (simp; omega))), .inr ⟨HM.out, rfl⟩⟩

set_option maxHeartbeats 2000000 in
theorem said1N_any (fm fo ft : Nat) (em : ∀ args w, (callFunc fm args).run Tryz.prog w = .ok (.enter fm args) w) (eo : ∀ args w, (callFunc fo args).run Tryz.prog w = .ok (.enter fo args) w) (co : Array Value) (M : Bool) (a b : Int) (ws : List Int) (x0 x1 : Int) (ps px : Nat) (w : World)
    (hs : ps < w.heap.size) (hx : px < w.heap.size) (c0 : w.cell? ⟨ps, 0, none⟩ = some (.func (.func fm) #[] #[])) (c1 : w.cell? ⟨ps, 1, none⟩ = some (.func (.func fo) #[] co)) (c3 : w.cell? ⟨px, 0, none⟩ = some (.int .i64 x0)) (c4 : w.cell? ⟨px, 1, none⟩ = some (.int .i64 x1))
    (cm : ∀ W, Below w.heap.size w W → Calls Tryz.prog fm #[.agg #[.int .i64 x0, .int .i64 x1]] W fun e w' => e = .returned (.bool M) ∧ Below W.heap.size W w')
    (ct : M = true → ∀ W, Below w.heap.size w W → Calls Tryz.prog fo (#[.agg #[.int .i64 x0, .int .i64 x1]] ++ co) W (ObjEnd a b ws W)) :
    Calls Tryz.prog 143 #[.pointer (some ⟨ps, 0, none⟩), .pointer (some ⟨px, 0, none⟩)] w (Said1 M a b ws w) := by
  have CM := hidd cm
  have CT := hidd ct
  have KS := hidd (fun W (h : Below w.heap.size w W) => (show W.cell? ⟨ps, 0, none⟩ = some (.func (.func fm) #[] #[]) ∧ W.cell? ⟨ps, 1, none⟩ = some (.func (.func fo) #[] co) ∧ W.cell? ⟨px, 0, none⟩ = some (.int .i64 x0) ∧ W.cell? ⟨px, 1, none⟩ = some (.int .i64 x1) from ⟨(h.cell (p := ⟨ps, 0, none⟩) hs).trans c0, (h.cell (p := ⟨ps, 1, none⟩) hs).trans c1, (h.cell (p := ⟨px, 0, none⟩) hx).trans c3, (h.cell (p := ⟨px, 1, none⟩) hx).trans c4⟩))
  clear cm ct
  cases M
  · go_enter Tryz.func143, Tryz.ntmps143
    go_wp2_with fail
    refine (CM.out _ (by (repeat' (first | (with_reducible exact Below.refl _ _) | (with_reducible assumption) | (with_reducible apply Below.setCell) | (with_reducible apply Below.alloc) | (with_reducible apply Below.drew) | (with_reducible apply below_drewN) | (with_reducible refine Below.trans ?_ (Below.mono (by assumption) ?_)) | omega | (simp; done) | (simp; omega))))).mono ?_
    rintro e w1 ⟨rfl, hb1⟩
    go_wp2_with fail
    refine (need_no _ _).mono ?_
    rintro e w2 ⟨rfl, rfl⟩
    go_wp2_with fail
    exact ⟨rfl, by (repeat' (first | (with_reducible exact Below.refl _ _) | (with_reducible assumption) | (with_reducible apply Below.setCell) | (with_reducible apply Below.alloc) | (with_reducible apply Below.drew) | (with_reducible apply below_drewN) | (with_reducible refine Below.trans ?_ (Below.mono (by assumption) ?_)) | omega | (simp; done) | (simp; omega))), .inr ⟨rfl, rfl⟩⟩
  · go_enter Tryz.func143, Tryz.ntmps143
    go_wp2_with fail
    refine (CM.out _ (by (repeat' (first | (with_reducible exact Below.refl _ _) | (with_reducible assumption) | (with_reducible apply Below.setCell) | (with_reducible apply Below.alloc) | (with_reducible apply Below.drew) | (with_reducible apply below_drewN) | (with_reducible refine Below.trans ?_ (Below.mono (by assumption) ?_)) | omega | (simp; done) | (simp; omega))))).mono ?_
    rintro e w1 ⟨rfl, hb1⟩
    have hb2 : Below w.heap.size w w1 := below_step (show Below w.heap.size w _ by (repeat' (first | (with_reducible exact Below.refl _ _) | (with_reducible assumption) | (with_reducible apply Below.setCell) | (with_reducible apply Below.alloc) | (with_reducible apply Below.drew) | (with_reducible apply below_drewN) | (with_reducible refine Below.trans ?_ (Below.mono (by assumption) ?_)) | omega | (simp; done) | (simp; omega)))) hb1
    have HB2 := hidd hb2
    obtain ⟨bc, bf⟩ := bcell hb1
    have zz : w.heap.size < w1.heap.size := by have := hb1.size; simp at this; omega
    have r0 : w1.cell? ⟨w.heap.size, 0, none⟩ = some (.int .i64 0) := by rw [bc _ _ (by simp)]; simp [go_sem]
    have r1 : w1.cell? ⟨w.heap.size, 1, none⟩ = some (.int .i64 0) := by rw [bc _ _ (by simp)]; simp [go_sem]
    have r2 : w1.cell? ⟨w.heap.size, 2, none⟩ = some (.slice none 0 0) := by rw [bc _ _ (by simp)]; simp [go_sem]
    have r3 : w1.frozen? ⟨w.heap.size, 0, none⟩ = false := by rw [bf _ _ (by simp)]; simp [go_sem]
    have r4 : w1.frozen? ⟨w.heap.size, 1, none⟩ = false := by rw [bf _ _ (by simp)]; simp [go_sem]
    have r5 : w1.frozen? ⟨w.heap.size, 2, none⟩ = false := by rw [bf _ _ (by simp)]; simp [go_sem]
    obtain ⟨g0, g1, g2, g3⟩ := KS.out _ hb2
    clear hb1 hb2 bc bf
    go_wp2_with fail
    refine (need_yes _ _).mono ?_
    rintro e w2 ⟨rfl, rfl⟩
    go_wp2_with fail
    refine (CT.out (by first | rfl | trivial) _ HB2.out).mono ?_
    rintro e w2 ⟨hb2, A, k, rfl, hl⟩
    have HB3 := hidd (below_step HB2.out hb2)
    have HL := hidd hl
    obtain ⟨bc, bf⟩ := bcell hb2
    have s0 : w2.cell? ⟨w.heap.size, 0, none⟩ = some (.int .i64 0) := by rw [bc _ _ zz]; exact r0
    have s1 : w2.cell? ⟨w.heap.size, 1, none⟩ = some (.int .i64 0) := by rw [bc _ _ zz]; exact r1
    have s2 : w2.cell? ⟨w.heap.size, 2, none⟩ = some (.slice none 0 0) := by rw [bc _ _ zz]; exact r2
    have s3 : w2.frozen? ⟨w.heap.size, 0, none⟩ = false := by rw [bf _ _ zz]; exact r3
    have s4 : w2.frozen? ⟨w.heap.size, 1, none⟩ = false := by rw [bf _ _ zz]; exact r4
    have s5 : w2.frozen? ⟨w.heap.size, 2, none⟩ = false := by rw [bf _ _ zz]; exact r5
    clear hb2 hl bc bf r0 r1 r2 r3 r4 r5
    go_wp2_with fail
    refine bodyPost_ret (v := .agg #[.int .i64 a, .int .i64 b, .slice A ws.length k]) (by simp [results, Tryz.results143, go_sem, *]) rfl ⟨by have q := HB3.out; (repeat' (first | (with_reducible exact Below.refl _ _) | (with_reducible assumption) | (with_reducible apply Below.setCell) | (with_reducible apply Below.alloc) | (with_reducible apply Below.drew) | (with_reducible apply below_drewN) | (with_reducible refine Below.trans ?_ (Below.mono (by assumption) ?_)) | omega | (simp; done) | (simp; omega))), .inl ⟨rfl, a, b, A, ws.length, k, rfl, rfl, rfl, rfl, ?_⟩⟩
    have H := HL.out
    refine (((H.to (p' := fun q => w.heap.size + 1 ≤ q ∧ q < w2.heap.size) (fun q hq => ⟨⟨by omega, hq.2⟩, rfl⟩)).low (p := ⟨w.heap.size, 0, none⟩) (by simp) _).low (p := ⟨w.heap.size, 1, none⟩) (by simp) _).low (p := ⟨w.heap.size, 2, none⟩) (by simp) _
theorem enters_said1N : ∀ args w, (callFunc 143 args).run Tryz.prog w = .ok (.enter 143 args) w := fun args w => by simp [callFunc, Tryz.func143, Tryz.f143, mark]
set_option maxHeartbeats 2000000 in
theorem saidN_any (fm fo ft : Nat) (em : ∀ args w, (callFunc fm args).run Tryz.prog w = .ok (.enter fm args) w) (eo : ∀ args w, (callFunc fo args).run Tryz.prog w = .ok (.enter fo args) w) (co : Array Value) (M : Bool) (a b : Int) (ws : List Int) (x0 x1 : Int) (w : World)
    (cm : ∀ W, Below w.heap.size w W → Calls Tryz.prog fm #[.agg #[.int .i64 x0, .int .i64 x1]] W fun e w' => e = .returned (.bool M) ∧ Below W.heap.size W w')
    (ct : M = true → ∀ W, Below w.heap.size w W → Calls Tryz.prog fo (#[.agg #[.int .i64 x0, .int .i64 x1]] ++ co) W (ObjEnd a b ws W)) :
    Calls Tryz.prog 76 #[.agg #[.func (.func fm) #[] #[], .func (.func fo) #[] co, .func (.func ft) #[] #[]], .agg #[.int .i64 x0, .int .i64 x1]] w (SaidEnd M a b ws w) := by
  have hmf : ∀ (fn : Fn) (first cap : Array Value) (w : World), (Instr.makeFunc fn first cap).run Tryz.prog w = .ok (.func fn first cap) w := fun _ _ _ _ => rfl
  obtain ⟨w0, hw0⟩ : ∃ w0, (((w.alloc (.cells #[.func (.func fm) #[] #[], .func (.func fo) #[] co, .func (.func ft) #[] #[]] 125)).alloc (.cells #[.int .i64 x0, .int .i64 x1] 33)).alloc (.cells #[.int .i64 0, .int .i64 0, .slice none 0 0] 42)) = w0 := ⟨_, rfl⟩
  have hs0 : w0.heap.size = w.heap.size + 3 := by rw [← hw0]; simp
  have hb0 : Below w.heap.size w w0 := by rw [← hw0]; (repeat' (first | (with_reducible exact Below.refl _ _) | (with_reducible assumption) | (with_reducible apply Below.setCell) | (with_reducible apply Below.alloc) | (with_reducible apply Below.drew) | (with_reducible apply below_drewN) | (with_reducible refine Below.trans ?_ (Below.mono (by assumption) ?_)) | omega | (simp; done) | (simp; omega)))
  have d0 : w0.cell? ⟨w.heap.size, 0, none⟩ = some (.func (.func fm) #[] #[]) := by rw [← hw0]; simp [go_sem]
  have d1 : w0.cell? ⟨w.heap.size, 1, none⟩ = some (.func (.func fo) #[] co) := by rw [← hw0]; simp [go_sem]
  have d2 : w0.cell? ⟨w.heap.size + 1, 0, none⟩ = some (.int .i64 x0) := by rw [← hw0]; simp [go_sem]
  have d3 : w0.cell? ⟨w.heap.size + 1, 1, none⟩ = some (.int .i64 x1) := by rw [← hw0]; simp [go_sem]
  have ct := hidd (toldO_any 143 (enters_said1N) #[.pointer (some ⟨w.heap.size, 0, none⟩), .pointer (some ⟨w.heap.size + 1, 0, none⟩)] w0 (fun a' b' A n k X => M = true ∧ a' = a ∧ b' = b ∧ n = ws.length ∧ LieQ wdV 1 X (fun q => w.heap.size + 5 ≤ q ∧ q < X.heap.size) A ws) (fun k => k = 2 ∧ M = false)
    (fun _ _ _ _ _ X p u h1 h2 h3 => ⟨h3.1, h3.2.1, h3.2.2.1, h3.2.2.2.1, h3.2.2.2.2.low (by omega) u⟩)
    (fun W hW hsz => (said1N_any fm fo ft em eo co M a b ws x0 x1 w.heap.size (w.heap.size + 1) W (by omega) (by omega) ((hW.cell (p := ⟨w.heap.size, 0, none⟩) (by rw [hs0]; simp)).trans d0) ((hW.cell (p := ⟨w.heap.size, 1, none⟩) (by rw [hs0]; simp)).trans d1) ((hW.cell (p := ⟨w.heap.size + 1, 0, none⟩) (by rw [hs0]; simp)).trans d2) ((hW.cell (p := ⟨w.heap.size + 1, 1, none⟩) (by rw [hs0]; simp)).trans d3)
      (fun X hX => cm X (below_step (hb0.trans (hW.mono hb0.size)) hX)) (fun hM X hX => ct hM X (below_step (hb0.trans (hW.mono hb0.size)) hX))).mono fun e w' ⟨h1, h2⟩ => ⟨h1, by
      rcases h2 with ⟨hM, a', b', A, n, k, e1, e2, e3, e4, e5⟩ | ⟨e1, e2⟩
      · exact .inl ⟨a', b', A, n, k, e4, hM, e1, e2, e3, e5.to (fun q hq => ⟨⟨by omega, hq.2⟩, rfl⟩)⟩
      · exact .inr ⟨2, e2, rfl, e1⟩⟩))
  have HB0 := hidd hb0
  have HW0 := hidd hw0
  have HS0 := hidd hs0
  clear cm hs0 hb0 hw0 d0 d1 d2 d3
  go_enter Tryz.func76, Tryz.ntmps76
  go_wp2_with fail
  rw [HW0.out]
  refine ct.out.mono ?_
  rintro e w1 ⟨hb1, h⟩
  have HB1 := hidd (below_step HB0.out hb1)
  have hz : w.heap.size + 2 < w1.heap.size := by have := hb1.size; rw [HS0.out] at this; omega
  obtain ⟨bc, bf⟩ := bcell hb1
  have s0 : w1.cell? ⟨w.heap.size + 1 + 1, 0, none⟩ = some (.int .i64 0) := by rw [bc _ _ (by rw [HS0.out]; omega), ← HW0.out]; simp [go_sem]
  have s1 : w1.cell? ⟨w.heap.size + 1 + 1, 1, none⟩ = some (.int .i64 0) := by rw [bc _ _ (by rw [HS0.out]; omega), ← HW0.out]; simp [go_sem]
  have s2 : w1.cell? ⟨w.heap.size + 1 + 1, 2, none⟩ = some (.slice none 0 0) := by rw [bc _ _ (by rw [HS0.out]; omega), ← HW0.out]; simp [go_sem]
  have s3 : w1.frozen? ⟨w.heap.size + 1 + 1, 0, none⟩ = false := by rw [bf _ _ (by rw [HS0.out]; omega), ← HW0.out]; simp [go_sem]
  have s4 : w1.frozen? ⟨w.heap.size + 1 + 1, 1, none⟩ = false := by rw [bf _ _ (by rw [HS0.out]; omega), ← HW0.out]; simp [go_sem]
  have s5 : w1.frozen? ⟨w.heap.size + 1 + 1, 2, none⟩ = false := by rw [bf _ _ (by rw [HS0.out]; omega), ← HW0.out]; simp [go_sem]
  clear hb1 bc bf
  rcases h with ⟨a', b', A, n, k, rfl, hM, rfl, rfl, rfl, hl⟩ | ⟨k, rfl, rfl, hM⟩
  · have HL := hidd hl
    have HM := hidd hM
    clear hl hM
    go_wp2_with fail
    refine bodyPost_ret (v := .tuple #[.agg #[.int .i64 a', .int .i64 b', .slice A ws.length k], .int .i64 0]) (by simp [results, Tryz.results76, go_sem, *]) rfl ⟨by have q := HB1.out; (repeat' (first | (with_reducible exact Below.refl _ _) | (with_reducible assumption) | (with_reducible apply Below.setCell) | (with_reducible apply Below.alloc) | (with_reducible apply Below.drew) | (with_reducible apply below_drewN) | (with_reducible refine Below.trans ?_ (Below.mono (by assumption) ?_)) | omega | (simp; done) | (simp; omega))), .inl ⟨HM.out, A, k, rfl, ?_⟩⟩
    exact (((HL.out.low (p := ⟨w.heap.size + 1 + 1, 0, none⟩) (by simp) _).low (p := ⟨w.heap.size + 1 + 1, 1, none⟩) (by simp) _).low (p := ⟨w.heap.size + 1 + 1, 2, none⟩) (by simp) _).to (fun q hq => ⟨⟨by omega, hq.2⟩, rfl⟩)
  · have HM := hidd hM
    clear hM
    go_wp2_with fail
    exact bodyPost_ret (v := .tuple #[.agg #[.int .i64 0, .int .i64 0, .slice none 0 0], .int .i64 2]) (by simp [results, Tryz.results76, go_sem, *]) rfl ⟨by have q := HB1.out; (repeat' (first | (with_reducible exact Below.refl _ _) | (with_reducible assumption) | (with_reducible apply Below.setCell) | (with_reducible apply Below.alloc) | (with_reducible apply Below.drew) | (with_reducible apply below_drewN) | (with_reducible refine Below.trans ?_ (Below.mono (by assumption) ?_)) | omega | (simp; done) | (simp; omega))), .inr ⟨HM.out, rfl⟩⟩

set_option maxHeartbeats 2000000 in
theorem said1P_any (fm fo ft : Nat) (em : ∀ args w, (callFunc fm args).run Tryz.prog w = .ok (.enter fm args) w) (eo : ∀ args w, (callFunc fo args).run Tryz.prog w = .ok (.enter fo args) w) (co : Array Value) (M : Bool) (a b : Int) (ws : List Int) (x0 x1 x2 x3 x4 : Int) (ps px : Nat) (w : World)
    (hs : ps < w.heap.size) (hx : px < w.heap.size) (c0 : w.cell? ⟨ps, 0, none⟩ = some (.func (.func fm) #[] #[])) (c1 : w.cell? ⟨ps, 1, none⟩ = some (.func (.func fo) #[] co)) (c3 : w.cell? ⟨px, 0, none⟩ = some (.int .i64 x0)) (c4 : w.cell? ⟨px, 1, none⟩ = some (.int .i64 x1)) (c5 : w.cell? ⟨px, 2, none⟩ = some (.int .i64 x2)) (c6 : w.cell? ⟨px, 3, none⟩ = some (.int .i64 x3)) (c7 : w.cell? ⟨px, 4, none⟩ = some (.int .i64 x4))
    (cm : ∀ W, Below w.heap.size w W → Calls Tryz.prog fm #[.agg #[.int .i64 x0, .int .i64 x1, .int .i64 x2, .int .i64 x3, .int .i64 x4]] W fun e w' => e = .returned (.bool M) ∧ Below W.heap.size W w')
    (ct : M = true → ∀ W, Below w.heap.size w W → Calls Tryz.prog fo (#[.agg #[.int .i64 x0, .int .i64 x1, .int .i64 x2, .int .i64 x3, .int .i64 x4]] ++ co) W (ObjEnd a b ws W)) :
    Calls Tryz.prog 147 #[.pointer (some ⟨ps, 0, none⟩), .pointer (some ⟨px, 0, none⟩)] w (Said1 M a b ws w) := by
  have CM := hidd cm
  have CT := hidd ct
  have KS := hidd (fun W (h : Below w.heap.size w W) => (show W.cell? ⟨ps, 0, none⟩ = some (.func (.func fm) #[] #[]) ∧ W.cell? ⟨ps, 1, none⟩ = some (.func (.func fo) #[] co) ∧ W.cell? ⟨px, 0, none⟩ = some (.int .i64 x0) ∧ W.cell? ⟨px, 1, none⟩ = some (.int .i64 x1) ∧ W.cell? ⟨px, 2, none⟩ = some (.int .i64 x2) ∧ W.cell? ⟨px, 3, none⟩ = some (.int .i64 x3) ∧ W.cell? ⟨px, 4, none⟩ = some (.int .i64 x4) from ⟨(h.cell (p := ⟨ps, 0, none⟩) hs).trans c0, (h.cell (p := ⟨ps, 1, none⟩) hs).trans c1, (h.cell (p := ⟨px, 0, none⟩) hx).trans c3, (h.cell (p := ⟨px, 1, none⟩) hx).trans c4, (h.cell (p := ⟨px, 2, none⟩) hx).trans c5, (h.cell (p := ⟨px, 3, none⟩) hx).trans c6, (h.cell (p := ⟨px, 4, none⟩) hx).trans c7⟩))
  clear cm ct
  cases M
  · go_enter Tryz.func147, Tryz.ntmps147
    go_wp2_with fail
    refine (CM.out _ (by (repeat' (first | (with_reducible exact Below.refl _ _) | (with_reducible assumption) | (with_reducible apply Below.setCell) | (with_reducible apply Below.alloc) | (with_reducible apply Below.drew) | (with_reducible apply below_drewN) | (with_reducible refine Below.trans ?_ (Below.mono (by assumption) ?_)) | omega | (simp; done) | (simp; omega))))).mono ?_
    rintro e w1 ⟨rfl, hb1⟩
    go_wp2_with fail
    refine (need_no _ _).mono ?_
    rintro e w2 ⟨rfl, rfl⟩
    go_wp2_with fail
    exact ⟨rfl, by (repeat' (first | (with_reducible exact Below.refl _ _) | (with_reducible assumption) | (with_reducible apply Below.setCell) | (with_reducible apply Below.alloc) | (with_reducible apply Below.drew) | (with_reducible apply below_drewN) | (with_reducible refine Below.trans ?_ (Below.mono (by assumption) ?_)) | omega | (simp; done) | (simp; omega))), .inr ⟨rfl, rfl⟩⟩
  · go_enter Tryz.func147, Tryz.ntmps147
    go_wp2_with fail
    refine (CM.out _ (by (repeat' (first | (with_reducible exact Below.refl _ _) | (with_reducible assumption) | (with_reducible apply Below.setCell) | (with_reducible apply Below.alloc) | (with_reducible apply Below.drew) | (with_reducible apply below_drewN) | (with_reducible refine Below.trans ?_ (Below.mono (by assumption) ?_)) | omega | (simp; done) | (simp; omega))))).mono ?_
    rintro e w1 ⟨rfl, hb1⟩
    have hb2 : Below w.heap.size w w1 := below_step (show Below w.heap.size w _ by (repeat' (first | (with_reducible exact Below.refl _ _) | (with_reducible assumption) | (with_reducible apply Below.setCell) | (with_reducible apply Below.alloc) | (with_reducible apply Below.drew) | (with_reducible apply below_drewN) | (with_reducible refine Below.trans ?_ (Below.mono (by assumption) ?_)) | omega | (simp; done) | (simp; omega)))) hb1
    have HB2 := hidd hb2
    obtain ⟨bc, bf⟩ := bcell hb1
    have zz : w.heap.size < w1.heap.size := by have := hb1.size; simp at this; omega
    have r0 : w1.cell? ⟨w.heap.size, 0, none⟩ = some (.int .i64 0) := by rw [bc _ _ (by simp)]; simp [go_sem]
    have r1 : w1.cell? ⟨w.heap.size, 1, none⟩ = some (.int .i64 0) := by rw [bc _ _ (by simp)]; simp [go_sem]
    have r2 : w1.cell? ⟨w.heap.size, 2, none⟩ = some (.slice none 0 0) := by rw [bc _ _ (by simp)]; simp [go_sem]
    have r3 : w1.frozen? ⟨w.heap.size, 0, none⟩ = false := by rw [bf _ _ (by simp)]; simp [go_sem]
    have r4 : w1.frozen? ⟨w.heap.size, 1, none⟩ = false := by rw [bf _ _ (by simp)]; simp [go_sem]
    have r5 : w1.frozen? ⟨w.heap.size, 2, none⟩ = false := by rw [bf _ _ (by simp)]; simp [go_sem]
    obtain ⟨g0, g1, g2, g3, g4, g5, g6⟩ := KS.out _ hb2
    clear hb1 hb2 bc bf
    go_wp2_with fail
    refine (need_yes _ _).mono ?_
    rintro e w2 ⟨rfl, rfl⟩
    go_wp2_with fail
    refine (CT.out (by first | rfl | trivial) _ HB2.out).mono ?_
    rintro e w2 ⟨hb2, A, k, rfl, hl⟩
    have HB3 := hidd (below_step HB2.out hb2)
    have HL := hidd hl
    obtain ⟨bc, bf⟩ := bcell hb2
    have s0 : w2.cell? ⟨w.heap.size, 0, none⟩ = some (.int .i64 0) := by rw [bc _ _ zz]; exact r0
    have s1 : w2.cell? ⟨w.heap.size, 1, none⟩ = some (.int .i64 0) := by rw [bc _ _ zz]; exact r1
    have s2 : w2.cell? ⟨w.heap.size, 2, none⟩ = some (.slice none 0 0) := by rw [bc _ _ zz]; exact r2
    have s3 : w2.frozen? ⟨w.heap.size, 0, none⟩ = false := by rw [bf _ _ zz]; exact r3
    have s4 : w2.frozen? ⟨w.heap.size, 1, none⟩ = false := by rw [bf _ _ zz]; exact r4
    have s5 : w2.frozen? ⟨w.heap.size, 2, none⟩ = false := by rw [bf _ _ zz]; exact r5
    clear hb2 hl bc bf r0 r1 r2 r3 r4 r5
    go_wp2_with fail
    refine bodyPost_ret (v := .agg #[.int .i64 a, .int .i64 b, .slice A ws.length k]) (by simp [results, Tryz.results147, go_sem, *]) rfl ⟨by have q := HB3.out; (repeat' (first | (with_reducible exact Below.refl _ _) | (with_reducible assumption) | (with_reducible apply Below.setCell) | (with_reducible apply Below.alloc) | (with_reducible apply Below.drew) | (with_reducible apply below_drewN) | (with_reducible refine Below.trans ?_ (Below.mono (by assumption) ?_)) | omega | (simp; done) | (simp; omega))), .inl ⟨rfl, a, b, A, ws.length, k, rfl, rfl, rfl, rfl, ?_⟩⟩
    have H := HL.out
    refine (((H.to (p' := fun q => w.heap.size + 1 ≤ q ∧ q < w2.heap.size) (fun q hq => ⟨⟨by omega, hq.2⟩, rfl⟩)).low (p := ⟨w.heap.size, 0, none⟩) (by simp) _).low (p := ⟨w.heap.size, 1, none⟩) (by simp) _).low (p := ⟨w.heap.size, 2, none⟩) (by simp) _
theorem enters_said1P : ∀ args w, (callFunc 147 args).run Tryz.prog w = .ok (.enter 147 args) w := fun args w => by simp [callFunc, Tryz.func147, Tryz.f147, mark]
set_option maxHeartbeats 2000000 in
theorem saidP_any (fm fo ft : Nat) (em : ∀ args w, (callFunc fm args).run Tryz.prog w = .ok (.enter fm args) w) (eo : ∀ args w, (callFunc fo args).run Tryz.prog w = .ok (.enter fo args) w) (co : Array Value) (M : Bool) (a b : Int) (ws : List Int) (x0 x1 x2 x3 x4 : Int) (w : World)
    (cm : ∀ W, Below w.heap.size w W → Calls Tryz.prog fm #[.agg #[.int .i64 x0, .int .i64 x1, .int .i64 x2, .int .i64 x3, .int .i64 x4]] W fun e w' => e = .returned (.bool M) ∧ Below W.heap.size W w')
    (ct : M = true → ∀ W, Below w.heap.size w W → Calls Tryz.prog fo (#[.agg #[.int .i64 x0, .int .i64 x1, .int .i64 x2, .int .i64 x3, .int .i64 x4]] ++ co) W (ObjEnd a b ws W)) :
    Calls Tryz.prog 80 #[.agg #[.func (.func fm) #[] #[], .func (.func fo) #[] co, .func (.func ft) #[] #[]], .agg #[.int .i64 x0, .int .i64 x1, .int .i64 x2, .int .i64 x3, .int .i64 x4]] w (SaidEnd M a b ws w) := by
  have hmf : ∀ (fn : Fn) (first cap : Array Value) (w : World), (Instr.makeFunc fn first cap).run Tryz.prog w = .ok (.func fn first cap) w := fun _ _ _ _ => rfl
  obtain ⟨w0, hw0⟩ : ∃ w0, (((w.alloc (.cells #[.func (.func fm) #[] #[], .func (.func fo) #[] co, .func (.func ft) #[] #[]] 129)).alloc (.cells #[.int .i64 x0, .int .i64 x1, .int .i64 x2, .int .i64 x3, .int .i64 x4] 30)).alloc (.cells #[.int .i64 0, .int .i64 0, .slice none 0 0] 42)) = w0 := ⟨_, rfl⟩
  have hs0 : w0.heap.size = w.heap.size + 3 := by rw [← hw0]; simp
  have hb0 : Below w.heap.size w w0 := by rw [← hw0]; (repeat' (first | (with_reducible exact Below.refl _ _) | (with_reducible assumption) | (with_reducible apply Below.setCell) | (with_reducible apply Below.alloc) | (with_reducible apply Below.drew) | (with_reducible apply below_drewN) | (with_reducible refine Below.trans ?_ (Below.mono (by assumption) ?_)) | omega | (simp; done) | (simp; omega)))
  have d0 : w0.cell? ⟨w.heap.size, 0, none⟩ = some (.func (.func fm) #[] #[]) := by rw [← hw0]; simp [go_sem]
  have d1 : w0.cell? ⟨w.heap.size, 1, none⟩ = some (.func (.func fo) #[] co) := by rw [← hw0]; simp [go_sem]
  have d2 : w0.cell? ⟨w.heap.size + 1, 0, none⟩ = some (.int .i64 x0) := by rw [← hw0]; simp [go_sem]
  have d3 : w0.cell? ⟨w.heap.size + 1, 1, none⟩ = some (.int .i64 x1) := by rw [← hw0]; simp [go_sem]
  have d4 : w0.cell? ⟨w.heap.size + 1, 2, none⟩ = some (.int .i64 x2) := by rw [← hw0]; simp [go_sem]
  have d5 : w0.cell? ⟨w.heap.size + 1, 3, none⟩ = some (.int .i64 x3) := by rw [← hw0]; simp [go_sem]
  have d6 : w0.cell? ⟨w.heap.size + 1, 4, none⟩ = some (.int .i64 x4) := by rw [← hw0]; simp [go_sem]
  have ct := hidd (toldO_any 147 (enters_said1P) #[.pointer (some ⟨w.heap.size, 0, none⟩), .pointer (some ⟨w.heap.size + 1, 0, none⟩)] w0 (fun a' b' A n k X => M = true ∧ a' = a ∧ b' = b ∧ n = ws.length ∧ LieQ wdV 1 X (fun q => w.heap.size + 5 ≤ q ∧ q < X.heap.size) A ws) (fun k => k = 2 ∧ M = false)
    (fun _ _ _ _ _ X p u h1 h2 h3 => ⟨h3.1, h3.2.1, h3.2.2.1, h3.2.2.2.1, h3.2.2.2.2.low (by omega) u⟩)
    (fun W hW hsz => (said1P_any fm fo ft em eo co M a b ws x0 x1 x2 x3 x4 w.heap.size (w.heap.size + 1) W (by omega) (by omega) ((hW.cell (p := ⟨w.heap.size, 0, none⟩) (by rw [hs0]; simp)).trans d0) ((hW.cell (p := ⟨w.heap.size, 1, none⟩) (by rw [hs0]; simp)).trans d1) ((hW.cell (p := ⟨w.heap.size + 1, 0, none⟩) (by rw [hs0]; simp)).trans d2) ((hW.cell (p := ⟨w.heap.size + 1, 1, none⟩) (by rw [hs0]; simp)).trans d3) ((hW.cell (p := ⟨w.heap.size + 1, 2, none⟩) (by rw [hs0]; simp)).trans d4) ((hW.cell (p := ⟨w.heap.size + 1, 3, none⟩) (by rw [hs0]; simp)).trans d5) ((hW.cell (p := ⟨w.heap.size + 1, 4, none⟩) (by rw [hs0]; simp)).trans d6)
      (fun X hX => cm X (below_step (hb0.trans (hW.mono hb0.size)) hX)) (fun hM X hX => ct hM X (below_step (hb0.trans (hW.mono hb0.size)) hX))).mono fun e w' ⟨h1, h2⟩ => ⟨h1, by
      rcases h2 with ⟨hM, a', b', A, n, k, e1, e2, e3, e4, e5⟩ | ⟨e1, e2⟩
      · exact .inl ⟨a', b', A, n, k, e4, hM, e1, e2, e3, e5.to (fun q hq => ⟨⟨by omega, hq.2⟩, rfl⟩)⟩
      · exact .inr ⟨2, e2, rfl, e1⟩⟩))
  have HB0 := hidd hb0
  have HW0 := hidd hw0
  have HS0 := hidd hs0
  clear cm hs0 hb0 hw0 d0 d1 d2 d3 d4 d5 d6
  go_enter Tryz.func80, Tryz.ntmps80
  go_wp2_with fail
  rw [HW0.out]
  refine ct.out.mono ?_
  rintro e w1 ⟨hb1, h⟩
  have HB1 := hidd (below_step HB0.out hb1)
  have hz : w.heap.size + 2 < w1.heap.size := by have := hb1.size; rw [HS0.out] at this; omega
  obtain ⟨bc, bf⟩ := bcell hb1
  have s0 : w1.cell? ⟨w.heap.size + 1 + 1, 0, none⟩ = some (.int .i64 0) := by rw [bc _ _ (by rw [HS0.out]; omega), ← HW0.out]; simp [go_sem]
  have s1 : w1.cell? ⟨w.heap.size + 1 + 1, 1, none⟩ = some (.int .i64 0) := by rw [bc _ _ (by rw [HS0.out]; omega), ← HW0.out]; simp [go_sem]
  have s2 : w1.cell? ⟨w.heap.size + 1 + 1, 2, none⟩ = some (.slice none 0 0) := by rw [bc _ _ (by rw [HS0.out]; omega), ← HW0.out]; simp [go_sem]
  have s3 : w1.frozen? ⟨w.heap.size + 1 + 1, 0, none⟩ = false := by rw [bf _ _ (by rw [HS0.out]; omega), ← HW0.out]; simp [go_sem]
  have s4 : w1.frozen? ⟨w.heap.size + 1 + 1, 1, none⟩ = false := by rw [bf _ _ (by rw [HS0.out]; omega), ← HW0.out]; simp [go_sem]
  have s5 : w1.frozen? ⟨w.heap.size + 1 + 1, 2, none⟩ = false := by rw [bf _ _ (by rw [HS0.out]; omega), ← HW0.out]; simp [go_sem]
  clear hb1 bc bf
  rcases h with ⟨a', b', A, n, k, rfl, hM, rfl, rfl, rfl, hl⟩ | ⟨k, rfl, rfl, hM⟩
  · have HL := hidd hl
    have HM := hidd hM
    clear hl hM
    go_wp2_with fail
    refine bodyPost_ret (v := .tuple #[.agg #[.int .i64 a', .int .i64 b', .slice A ws.length k], .int .i64 0]) (by simp [results, Tryz.results80, go_sem, *]) rfl ⟨by have q := HB1.out; (repeat' (first | (with_reducible exact Below.refl _ _) | (with_reducible assumption) | (with_reducible apply Below.setCell) | (with_reducible apply Below.alloc) | (with_reducible apply Below.drew) | (with_reducible apply below_drewN) | (with_reducible refine Below.trans ?_ (Below.mono (by assumption) ?_)) | omega | (simp; done) | (simp; omega))), .inl ⟨HM.out, A, k, rfl, ?_⟩⟩
    exact (((HL.out.low (p := ⟨w.heap.size + 1 + 1, 0, none⟩) (by simp) _).low (p := ⟨w.heap.size + 1 + 1, 1, none⟩) (by simp) _).low (p := ⟨w.heap.size + 1 + 1, 2, none⟩) (by simp) _).to (fun q hq => ⟨⟨by omega, hq.2⟩, rfl⟩)
  · have HM := hidd hM
    clear hM
    go_wp2_with fail
    exact bodyPost_ret (v := .tuple #[.agg #[.int .i64 0, .int .i64 0, .slice none 0 0], .int .i64 2]) (by simp [results, Tryz.results80, go_sem, *]) rfl ⟨by have q := HB1.out; (repeat' (first | (with_reducible exact Below.refl _ _) | (with_reducible assumption) | (with_reducible apply Below.setCell) | (with_reducible apply Below.alloc) | (with_reducible apply Below.drew) | (with_reducible apply below_drewN) | (with_reducible refine Below.trans ?_ (Below.mono (by assumption) ?_)) | omega | (simp; done) | (simp; omega))), .inr ⟨HM.out, rfl⟩⟩

set_option maxHeartbeats 2000000 in
theorem said1M_any (fm fo ft : Nat) (em : ∀ args w, (callFunc fm args).run Tryz.prog w = .ok (.enter fm args) w) (eo : ∀ args w, (callFunc fo args).run Tryz.prog w = .ok (.enter fo args) w) (co : Array Value) (M : Bool) (a b : Int) (ws : List Int) (x0 x1 : Int) (ps px : Nat) (w : World)
    (hs : ps < w.heap.size) (hx : px < w.heap.size) (c0 : w.cell? ⟨ps, 0, none⟩ = some (.func (.func fm) #[] #[])) (c1 : w.cell? ⟨ps, 1, none⟩ = some (.func (.func fo) #[] co)) (c3 : w.cell? ⟨px, 0, none⟩ = some (.int .i64 x0)) (c4 : w.cell? ⟨px, 1, none⟩ = some (.int .i64 x1))
    (cm : ∀ W, Below w.heap.size w W → Calls Tryz.prog fm #[.agg #[.int .i64 x0, .int .i64 x1]] W fun e w' => e = .returned (.bool M) ∧ Below W.heap.size W w')
    (ct : M = true → ∀ W, Below w.heap.size w W → Calls Tryz.prog fo (#[.agg #[.int .i64 x0, .int .i64 x1]] ++ co) W (ObjEnd a b ws W)) :
    Calls Tryz.prog 154 #[.pointer (some ⟨ps, 0, none⟩), .pointer (some ⟨px, 0, none⟩)] w (Said1 M a b ws w) := by
  have CM := hidd cm
  have CT := hidd ct
  have KS := hidd (fun W (h : Below w.heap.size w W) => (show W.cell? ⟨ps, 0, none⟩ = some (.func (.func fm) #[] #[]) ∧ W.cell? ⟨ps, 1, none⟩ = some (.func (.func fo) #[] co) ∧ W.cell? ⟨px, 0, none⟩ = some (.int .i64 x0) ∧ W.cell? ⟨px, 1, none⟩ = some (.int .i64 x1) from ⟨(h.cell (p := ⟨ps, 0, none⟩) hs).trans c0, (h.cell (p := ⟨ps, 1, none⟩) hs).trans c1, (h.cell (p := ⟨px, 0, none⟩) hx).trans c3, (h.cell (p := ⟨px, 1, none⟩) hx).trans c4⟩))
  clear cm ct
  cases M
  · go_enter Tryz.func154, Tryz.ntmps154
    go_wp2_with fail
    refine (CM.out _ (by (repeat' (first | (with_reducible exact Below.refl _ _) | (with_reducible assumption) | (with_reducible apply Below.setCell) | (with_reducible apply Below.alloc) | (with_reducible apply Below.drew) | (with_reducible apply below_drewN) | (with_reducible refine Below.trans ?_ (Below.mono (by assumption) ?_)) | omega | (simp; done) | (simp; omega))))).mono ?_
    rintro e w1 ⟨rfl, hb1⟩
    go_wp2_with fail
    refine (need_no _ _).mono ?_
    rintro e w2 ⟨rfl, rfl⟩
    go_wp2_with fail
    exact ⟨rfl, by (repeat' (first | (with_reducible exact Below.refl _ _) | (with_reducible assumption) | (with_reducible apply Below.setCell) | (with_reducible apply Below.alloc) | (with_reducible apply Below.drew) | (with_reducible apply below_drewN) | (with_reducible refine Below.trans ?_ (Below.mono (by assumption) ?_)) | omega | (simp; done) | (simp; omega))), .inr ⟨rfl, rfl⟩⟩
  · go_enter Tryz.func154, Tryz.ntmps154
    go_wp2_with fail
    refine (CM.out _ (by (repeat' (first | (with_reducible exact Below.refl _ _) | (with_reducible assumption) | (with_reducible apply Below.setCell) | (with_reducible apply Below.alloc) | (with_reducible apply Below.drew) | (with_reducible apply below_drewN) | (with_reducible refine Below.trans ?_ (Below.mono (by assumption) ?_)) | omega | (simp; done) | (simp; omega))))).mono ?_
    rintro e w1 ⟨rfl, hb1⟩
    have hb2 : Below w.heap.size w w1 := below_step (show Below w.heap.size w _ by (repeat' (first | (with_reducible exact Below.refl _ _) | (with_reducible assumption) | (with_reducible apply Below.setCell) | (with_reducible apply Below.alloc) | (with_reducible apply Below.drew) | (with_reducible apply below_drewN) | (with_reducible refine Below.trans ?_ (Below.mono (by assumption) ?_)) | omega | (simp; done) | (simp; omega)))) hb1
    have HB2 := hidd hb2
    obtain ⟨bc, bf⟩ := bcell hb1
    have zz : w.heap.size < w1.heap.size := by have := hb1.size; simp at this; omega
    have r0 : w1.cell? ⟨w.heap.size, 0, none⟩ = some (.int .i64 0) := by rw [bc _ _ (by simp)]; simp [go_sem]
    have r1 : w1.cell? ⟨w.heap.size, 1, none⟩ = some (.int .i64 0) := by rw [bc _ _ (by simp)]; simp [go_sem]
    have r2 : w1.cell? ⟨w.heap.size, 2, none⟩ = some (.slice none 0 0) := by rw [bc _ _ (by simp)]; simp [go_sem]
    have r3 : w1.frozen? ⟨w.heap.size, 0, none⟩ = false := by rw [bf _ _ (by simp)]; simp [go_sem]
    have r4 : w1.frozen? ⟨w.heap.size, 1, none⟩ = false := by rw [bf _ _ (by simp)]; simp [go_sem]
    have r5 : w1.frozen? ⟨w.heap.size, 2, none⟩ = false := by rw [bf _ _ (by simp)]; simp [go_sem]
    obtain ⟨g0, g1, g2, g3⟩ := KS.out _ hb2
    clear hb1 hb2 bc bf
    go_wp2_with fail
    refine (need_yes _ _).mono ?_
    rintro e w2 ⟨rfl, rfl⟩
    go_wp2_with fail
    refine (CT.out (by first | rfl | trivial) _ HB2.out).mono ?_
    rintro e w2 ⟨hb2, A, k, rfl, hl⟩
    have HB3 := hidd (below_step HB2.out hb2)
    have HL := hidd hl
    obtain ⟨bc, bf⟩ := bcell hb2
    have s0 : w2.cell? ⟨w.heap.size, 0, none⟩ = some (.int .i64 0) := by rw [bc _ _ zz]; exact r0
    have s1 : w2.cell? ⟨w.heap.size, 1, none⟩ = some (.int .i64 0) := by rw [bc _ _ zz]; exact r1
    have s2 : w2.cell? ⟨w.heap.size, 2, none⟩ = some (.slice none 0 0) := by rw [bc _ _ zz]; exact r2
    have s3 : w2.frozen? ⟨w.heap.size, 0, none⟩ = false := by rw [bf _ _ zz]; exact r3
    have s4 : w2.frozen? ⟨w.heap.size, 1, none⟩ = false := by rw [bf _ _ zz]; exact r4
    have s5 : w2.frozen? ⟨w.heap.size, 2, none⟩ = false := by rw [bf _ _ zz]; exact r5
    clear hb2 hl bc bf r0 r1 r2 r3 r4 r5
    go_wp2_with fail
    refine bodyPost_ret (v := .agg #[.int .i64 a, .int .i64 b, .slice A ws.length k]) (by simp [results, Tryz.results154, go_sem, *]) rfl ⟨by have q := HB3.out; (repeat' (first | (with_reducible exact Below.refl _ _) | (with_reducible assumption) | (with_reducible apply Below.setCell) | (with_reducible apply Below.alloc) | (with_reducible apply Below.drew) | (with_reducible apply below_drewN) | (with_reducible refine Below.trans ?_ (Below.mono (by assumption) ?_)) | omega | (simp; done) | (simp; omega))), .inl ⟨rfl, a, b, A, ws.length, k, rfl, rfl, rfl, rfl, ?_⟩⟩
    have H := HL.out
    refine (((H.to (p' := fun q => w.heap.size + 1 ≤ q ∧ q < w2.heap.size) (fun q hq => ⟨⟨by omega, hq.2⟩, rfl⟩)).low (p := ⟨w.heap.size, 0, none⟩) (by simp) _).low (p := ⟨w.heap.size, 1, none⟩) (by simp) _).low (p := ⟨w.heap.size, 2, none⟩) (by simp) _
theorem enters_said1M : ∀ args w, (callFunc 154 args).run Tryz.prog w = .ok (.enter 154 args) w := fun args w => by simp [callFunc, Tryz.func154, Tryz.f154, mark]
set_option maxHeartbeats 2000000 in
theorem saidM_any (fm fo ft : Nat) (em : ∀ args w, (callFunc fm args).run Tryz.prog w = .ok (.enter fm args) w) (eo : ∀ args w, (callFunc fo args).run Tryz.prog w = .ok (.enter fo args) w) (co : Array Value) (M : Bool) (a b : Int) (ws : List Int) (x0 x1 : Int) (w : World)
    (cm : ∀ W, Below w.heap.size w W → Calls Tryz.prog fm #[.agg #[.int .i64 x0, .int .i64 x1]] W fun e w' => e = .returned (.bool M) ∧ Below W.heap.size W w')
    (ct : M = true → ∀ W, Below w.heap.size w W → Calls Tryz.prog fo (#[.agg #[.int .i64 x0, .int .i64 x1]] ++ co) W (ObjEnd a b ws W)) :
    Calls Tryz.prog 83 #[.agg #[.func (.func fm) #[] #[], .func (.func fo) #[] co, .func (.func ft) #[] #[]], .agg #[.int .i64 x0, .int .i64 x1]] w (SaidEnd M a b ws w) := by
  have hmf : ∀ (fn : Fn) (first cap : Array Value) (w : World), (Instr.makeFunc fn first cap).run Tryz.prog w = .ok (.func fn first cap) w := fun _ _ _ _ => rfl
  obtain ⟨w0, hw0⟩ : ∃ w0, (((w.alloc (.cells #[.func (.func fm) #[] #[], .func (.func fo) #[] co, .func (.func ft) #[] #[]] 133)).alloc (.cells #[.int .i64 x0, .int .i64 x1] 35)).alloc (.cells #[.int .i64 0, .int .i64 0, .slice none 0 0] 42)) = w0 := ⟨_, rfl⟩
  have hs0 : w0.heap.size = w.heap.size + 3 := by rw [← hw0]; simp
  have hb0 : Below w.heap.size w w0 := by rw [← hw0]; (repeat' (first | (with_reducible exact Below.refl _ _) | (with_reducible assumption) | (with_reducible apply Below.setCell) | (with_reducible apply Below.alloc) | (with_reducible apply Below.drew) | (with_reducible apply below_drewN) | (with_reducible refine Below.trans ?_ (Below.mono (by assumption) ?_)) | omega | (simp; done) | (simp; omega)))
  have d0 : w0.cell? ⟨w.heap.size, 0, none⟩ = some (.func (.func fm) #[] #[]) := by rw [← hw0]; simp [go_sem]
  have d1 : w0.cell? ⟨w.heap.size, 1, none⟩ = some (.func (.func fo) #[] co) := by rw [← hw0]; simp [go_sem]
  have d2 : w0.cell? ⟨w.heap.size + 1, 0, none⟩ = some (.int .i64 x0) := by rw [← hw0]; simp [go_sem]
  have d3 : w0.cell? ⟨w.heap.size + 1, 1, none⟩ = some (.int .i64 x1) := by rw [← hw0]; simp [go_sem]
  have ct := hidd (toldO_any 154 (enters_said1M) #[.pointer (some ⟨w.heap.size, 0, none⟩), .pointer (some ⟨w.heap.size + 1, 0, none⟩)] w0 (fun a' b' A n k X => M = true ∧ a' = a ∧ b' = b ∧ n = ws.length ∧ LieQ wdV 1 X (fun q => w.heap.size + 5 ≤ q ∧ q < X.heap.size) A ws) (fun k => k = 2 ∧ M = false)
    (fun _ _ _ _ _ X p u h1 h2 h3 => ⟨h3.1, h3.2.1, h3.2.2.1, h3.2.2.2.1, h3.2.2.2.2.low (by omega) u⟩)
    (fun W hW hsz => (said1M_any fm fo ft em eo co M a b ws x0 x1 w.heap.size (w.heap.size + 1) W (by omega) (by omega) ((hW.cell (p := ⟨w.heap.size, 0, none⟩) (by rw [hs0]; simp)).trans d0) ((hW.cell (p := ⟨w.heap.size, 1, none⟩) (by rw [hs0]; simp)).trans d1) ((hW.cell (p := ⟨w.heap.size + 1, 0, none⟩) (by rw [hs0]; simp)).trans d2) ((hW.cell (p := ⟨w.heap.size + 1, 1, none⟩) (by rw [hs0]; simp)).trans d3)
      (fun X hX => cm X (below_step (hb0.trans (hW.mono hb0.size)) hX)) (fun hM X hX => ct hM X (below_step (hb0.trans (hW.mono hb0.size)) hX))).mono fun e w' ⟨h1, h2⟩ => ⟨h1, by
      rcases h2 with ⟨hM, a', b', A, n, k, e1, e2, e3, e4, e5⟩ | ⟨e1, e2⟩
      · exact .inl ⟨a', b', A, n, k, e4, hM, e1, e2, e3, e5.to (fun q hq => ⟨⟨by omega, hq.2⟩, rfl⟩)⟩
      · exact .inr ⟨2, e2, rfl, e1⟩⟩))
  have HB0 := hidd hb0
  have HW0 := hidd hw0
  have HS0 := hidd hs0
  clear cm hs0 hb0 hw0 d0 d1 d2 d3
  go_enter Tryz.func83, Tryz.ntmps83
  go_wp2_with fail
  rw [HW0.out]
  refine ct.out.mono ?_
  rintro e w1 ⟨hb1, h⟩
  have HB1 := hidd (below_step HB0.out hb1)
  have hz : w.heap.size + 2 < w1.heap.size := by have := hb1.size; rw [HS0.out] at this; omega
  obtain ⟨bc, bf⟩ := bcell hb1
  have s0 : w1.cell? ⟨w.heap.size + 1 + 1, 0, none⟩ = some (.int .i64 0) := by rw [bc _ _ (by rw [HS0.out]; omega), ← HW0.out]; simp [go_sem]
  have s1 : w1.cell? ⟨w.heap.size + 1 + 1, 1, none⟩ = some (.int .i64 0) := by rw [bc _ _ (by rw [HS0.out]; omega), ← HW0.out]; simp [go_sem]
  have s2 : w1.cell? ⟨w.heap.size + 1 + 1, 2, none⟩ = some (.slice none 0 0) := by rw [bc _ _ (by rw [HS0.out]; omega), ← HW0.out]; simp [go_sem]
  have s3 : w1.frozen? ⟨w.heap.size + 1 + 1, 0, none⟩ = false := by rw [bf _ _ (by rw [HS0.out]; omega), ← HW0.out]; simp [go_sem]
  have s4 : w1.frozen? ⟨w.heap.size + 1 + 1, 1, none⟩ = false := by rw [bf _ _ (by rw [HS0.out]; omega), ← HW0.out]; simp [go_sem]
  have s5 : w1.frozen? ⟨w.heap.size + 1 + 1, 2, none⟩ = false := by rw [bf _ _ (by rw [HS0.out]; omega), ← HW0.out]; simp [go_sem]
  clear hb1 bc bf
  rcases h with ⟨a', b', A, n, k, rfl, hM, rfl, rfl, rfl, hl⟩ | ⟨k, rfl, rfl, hM⟩
  · have HL := hidd hl
    have HM := hidd hM
    clear hl hM
    go_wp2_with fail
    refine bodyPost_ret (v := .tuple #[.agg #[.int .i64 a', .int .i64 b', .slice A ws.length k], .int .i64 0]) (by simp [results, Tryz.results83, go_sem, *]) rfl ⟨by have q := HB1.out; (repeat' (first | (with_reducible exact Below.refl _ _) | (with_reducible assumption) | (with_reducible apply Below.setCell) | (with_reducible apply Below.alloc) | (with_reducible apply Below.drew) | (with_reducible apply below_drewN) | (with_reducible refine Below.trans ?_ (Below.mono (by assumption) ?_)) | omega | (simp; done) | (simp; omega))), .inl ⟨HM.out, A, k, rfl, ?_⟩⟩
    exact (((HL.out.low (p := ⟨w.heap.size + 1 + 1, 0, none⟩) (by simp) _).low (p := ⟨w.heap.size + 1 + 1, 1, none⟩) (by simp) _).low (p := ⟨w.heap.size + 1 + 1, 2, none⟩) (by simp) _).to (fun q hq => ⟨⟨by omega, hq.2⟩, rfl⟩)
  · have HM := hidd hM
    clear hM
    go_wp2_with fail
    exact bodyPost_ret (v := .tuple #[.agg #[.int .i64 0, .int .i64 0, .slice none 0 0], .int .i64 2]) (by simp [results, Tryz.results83, go_sem, *]) rfl ⟨by have q := HB1.out; (repeat' (first | (with_reducible exact Below.refl _ _) | (with_reducible assumption) | (with_reducible apply Below.setCell) | (with_reducible apply Below.alloc) | (with_reducible apply Below.drew) | (with_reducible apply below_drewN) | (with_reducible refine Below.trans ?_ (Below.mono (by assumption) ?_)) | omega | (simp; done) | (simp; omega))), .inr ⟨HM.out, rfl⟩⟩
end Go.Proofs.YtappmacnoopmkaaGreat
