/- Heaps: the document's Put, Set, Drop, Take. -/
import Derived.Test.YtnjkfpjccedkjaaHpQ
namespace Go.Proofs.Ytnjkfpjccedkjaa.Hp
set_option linter.unusedVariables false
open Go.RowKit Go.Maps Go.Sort Go.Proofs.Ytnjkfpjccedkjaa.Tp

set_option maxRecDepth 100000 in
set_option maxHeartbeats 8000000 in
theorem rput_bad (v : Value) (M : List It) (T id n d : Int) (h0 : -9223372036854775808 ≤ n) (h1 : n ≤ 9223372036854775807) (h2 : -9223372036854775808 ≤ d) (h3 : d ≤ 9223372036854775807) (hb : mayB id n d = false) (w : World) (H : RL w v M) :
    Calls Try.prog 26 #[.agg #[v, .int .i64 T], .int .i64 id, .agg #[.int .i64 n, .int .i64 d]] w fun e w' => e = .returned (.tuple #[.agg #[v, .int .i64 T], .int .i64 2]) ∧ Below w.heap.size w w' := by
  obtain ⟨A, c, hv, _⟩ := OwnL.lie H itV_len
  subst hv
  have cm := hidd (fun W => may_any id n d h0 h1 h2 h3 W)
  rw [hb] at cm
  clear H
  generalize M.length = N at *
  go_enter Try.func26, Try.ntmps26
  go_wp2_with fail
  refine (cm.out _).mono ?_
  rintro e w1 ⟨rfl, hb1⟩
  obtain ⟨bc, bf⟩ := bcell hb1
  have hs := hb1.size
  have l2 : w.heap.size + 1 + 1 < w1.heap.size := by simp at hs; omega
  have l0 : w.heap.size < w1.heap.size := by omega
  have l1 : w.heap.size + 1 < w1.heap.size := by omega
  go_wp2_with fail
  exact bodyPost_ret (v := .tuple #[.agg #[.slice A N c, .int .i64 T], .int .i64 2]) (by simp [results, Try.results26, go_sem, *]) rfl ⟨rfl, by (repeat' (first | (with_reducible exact Below.refl _ _) | (with_reducible assumption) | (with_reducible apply Below.setCell) | (with_reducible apply Below.alloc) | (with_reducible apply Below.drew) | (with_reducible apply below_drewN) | (with_reducible refine Below.trans ?_ (Below.mono (by assumption) ?_)) | omega | (simp; done) | (simp; omega)))⟩
set_option maxRecDepth 100000 in
set_option maxHeartbeats 8000000 in
theorem rput_twice (v : Value) (M : List It) (T id n d : Int) (h0 : -9223372036854775808 ≤ n) (h1 : n ≤ 9223372036854775807) (h2 : -9223372036854775808 ≤ d) (h3 : d ≤ 9223372036854775807) (hb : mayB id n d = true) (hp : 0 ≤ posI M id) (hm : M.length ≤ 1000000) (w : World) (H : RL w v M) :
    Calls Try.prog 26 #[.agg #[v, .int .i64 T], .int .i64 id, .agg #[.int .i64 n, .int .i64 d]] w fun e w' => e = .returned (.tuple #[.agg #[v, .int .i64 T], .int .i64 210]) ∧ Below w.heap.size w w' := by
  obtain ⟨A, c, hv, _⟩ := OwnL.lie H itV_len
  subst hv
  have cm := hidd (fun W => may_any id n d h0 h1 h2 h3 W)
  rw [hb] at cm
  have cF := hidd (fun W H => find11_any (.slice A M.length c) M T id hm W H)
  have HH := hidd H
  clear H
  generalize posI M id = P at *
  generalize hN : M.length = N at *
  clear hN
  go_enter Try.func26, Try.ntmps26
  go_wp2_with fail
  refine (cm.out _).mono ?_
  rintro e w1 ⟨rfl, hb1⟩
  obtain ⟨bc, bf⟩ := bcell hb1
  have hs := hb1.size
  have l2 : w.heap.size + 1 + 1 < w1.heap.size := by simp at hs; omega
  have l0 : w.heap.size < w1.heap.size := by omega
  have l1 : w.heap.size + 1 < w1.heap.size := by omega
  have B1 : Hid (Below w.heap.size w w1) := hidd (by (repeat' (first | (with_reducible exact Below.refl _ _) | (with_reducible assumption) | (with_reducible apply Below.setCell) | (with_reducible apply Below.alloc) | (with_reducible apply Below.drew) | (with_reducible apply below_drewN) | (with_reducible refine Below.trans ?_ (Below.mono (by assumption) ?_)) | omega | (simp; done) | (simp; omega))))
  go_wp2_with fail
  refine (cF.out _ (HH.out.below B1.out)).mono ?_
  rintro e w2 ⟨rfl, hb2⟩
  obtain ⟨bc2, bf2⟩ := bcell hb2
  have hs2 := hb2.size
  have k2 : w.heap.size + 1 + 1 < w2.heap.size := by omega
  have k0 : w.heap.size < w2.heap.size := by omega
  have k1 : w.heap.size + 1 < w2.heap.size := by omega
  have e0 : w2.cell? ⟨w.heap.size, 0, none⟩ = some (.slice A N c) := (bc2 _ _ l0).trans ((bc _ _ (by simp; omega)).trans (by simp [go_sem]))
  have e1 : w2.cell? ⟨w.heap.size, 1, none⟩ = some (.int .i64 T) := (bc2 _ _ l0).trans ((bc _ _ (by simp; omega)).trans (by simp [go_sem]))
  have f0 : w2.cell? ⟨w.heap.size + 1 + 1, 0, none⟩ = some (.slice none 0 0) := (bc2 _ _ l2).trans ((bc _ _ (by simp)).trans (by simp [go_sem]))
  have f1 : w2.cell? ⟨w.heap.size + 1 + 1, 1, none⟩ = some (.int .i64 0) := (bc2 _ _ l2).trans ((bc _ _ (by simp)).trans (by simp [go_sem]))
  have ff : ∀ o, w2.frozen? ⟨w.heap.size + 1 + 1, o, none⟩ = false := fun o => (bf2 _ _ l2).trans ((bf _ _ (by simp)).trans (by simp [go_sem]))
  have B2 : Hid (Below w.heap.size w w2) := hidd (B1.out.trans (hb2.mono B1.out.size))
  clear bc bf bc2 bf2 hb1 hb2
  go_wp2_with fail
  have BB := B2.out
  exact bodyPost_ret (v := .tuple #[.agg #[.slice A N c, .int .i64 T], .int .i64 210]) (by simp [results, Try.results26, go_sem, *]) rfl ⟨rfl, by (repeat' (first | (with_reducible exact Below.refl _ _) | (with_reducible assumption) | (with_reducible apply Below.setCell) | (with_reducible apply Below.alloc) | (with_reducible apply Below.drew) | (with_reducible apply below_drewN) | (with_reducible refine Below.trans ?_ (Below.mono (by assumption) ?_)) | omega | (simp; done) | (simp; omega)))⟩
set_option maxRecDepth 100000 in
set_option maxHeartbeats 8000000 in
theorem rput_ok (v : Value) (M : List It) (T id n d : Int) (h0 : -9223372036854775808 ≤ n) (h1 : n ≤ 9223372036854775807) (h2 : -9223372036854775808 ≤ d) (h3 : d ≤ 9223372036854775807) (hb : mayB id n d = true) (hp : posI M id = -1) (hm : M.length < 100000) (hT0 : 0 ≤ T) (hT1 : T < 1000000) (hM : OkL M) (w : World) (H : RL w v M) :
    Calls Try.prog 26 #[.agg #[v, .int .i64 T], .int .i64 id, .agg #[.int .i64 n, .int .i64 d]] w fun e w' => (∃ v' k, k ≤ M.length ∧ (∀ j, j < k → ¬ Lt (id, n, d, T + 1) (gI M j)) ∧ (k < M.length → Lt (id, n, d, T + 1) (gI M k)) ∧ e = .returned (.tuple #[.agg #[v', .int .i64 (T + 1)], .int .i64 0]) ∧ OwnL itV 4 w' w.heap.size 37 v' (putA M (id, n, d, T + 1) k)) ∧ Below w.heap.size w w' := by
  obtain ⟨A, c, hv, _⟩ := OwnL.lie H itV_len
  subst hv
  have cm := hidd (fun W => may_any id n d h0 h1 h2 h3 W)
  rw [hb] at cm
  have hr := (mayB_iff _ _ _).1 hb
  have okx : OkI (id, n, d, T + 1) := ⟨h0, h1, h2, h3, hr.2.2, hr.1, hr.2.1, by show 0 ≤ T + 1; omega, by show T + 1 ≤ 1000000; omega⟩
  have cF := hidd (fun W H => find11_any (.slice A M.length c) M T id (by omega) W H)
  rw [hp] at cF
  have hw1 : IntKind.i64.wrap (T + 1) = T + 1 := by rw [IntKind.wrap_i64]; omega
  have cL := hidd (fun W H => lay_any (.slice A M.length c) M (T + 1) (id, n, d, T + 1) okx hM (by omega) W H)
  have zl : ¬ (100000 : Int) ≤ (M.length : Int) := by omega
  have zl2 : decide ((100000 : Int) ≤ (M.length : Int)) = false := decide_eq_false zl
  have HH := hidd H
  obtain ⟨T1, hT⟩ : ∃ T1, T + 1 = T1 := ⟨_, rfl⟩
  rw [hT] at hw1 cL ⊢
  have hw2 : IntKind.i64.wrap (T + 1) = T1 := by rw [IntKind.wrap_i64]; omega
  clear H hm zl okx hr hb hp hM hT hw1 hT0 hT1 h0 h1 h2 h3
  unfold iD kN kD tN at cL
  generalize hN : M.length = N at *
  have HN := hidd hN
  clear hN
  go_enter Try.func26, Try.ntmps26
  go_wp2_with fail
  refine (cm.out _).mono ?_
  rintro e w1 ⟨rfl, hb1⟩
  obtain ⟨bc, bf⟩ := bcell hb1
  have hs := hb1.size
  have l2 : w.heap.size + 1 + 1 < w1.heap.size := by simp at hs; omega
  have l0 : w.heap.size < w1.heap.size := by omega
  have l1 : w.heap.size + 1 < w1.heap.size := by omega
  have B1 : Hid (Below w.heap.size w w1) := hidd (by (repeat' (first | (with_reducible exact Below.refl _ _) | (with_reducible assumption) | (with_reducible apply Below.setCell) | (with_reducible apply Below.alloc) | (with_reducible apply Below.drew) | (with_reducible apply below_drewN) | (with_reducible refine Below.trans ?_ (Below.mono (by assumption) ?_)) | omega | (simp; done) | (simp; omega))))
  go_wp2_with fail
  refine (cF.out _ (HH.out.below B1.out)).mono ?_
  rintro e w2 ⟨rfl, hb2⟩
  obtain ⟨bc2, bf2⟩ := bcell hb2
  have hs2 := hb2.size
  have k2 : w.heap.size + 1 + 1 < w2.heap.size := by omega
  have k0 : w.heap.size < w2.heap.size := by omega
  have k1 : w.heap.size + 1 < w2.heap.size := by omega
  have e0 : w2.cell? ⟨w.heap.size, 0, none⟩ = some (.slice A N c) := (bc2 _ _ l0).trans ((bc _ _ (by simp; omega)).trans (by simp [go_sem]))
  have e1 : w2.cell? ⟨w.heap.size, 1, none⟩ = some (.int .i64 T) := (bc2 _ _ l0).trans ((bc _ _ (by simp; omega)).trans (by simp [go_sem]))
  have ef : ∀ o, w2.frozen? ⟨w.heap.size, o, none⟩ = false := fun o => (bf2 _ _ l0).trans ((bf _ _ (by simp; omega)).trans (by simp [go_sem]))
  have g0 : w2.cell? ⟨w.heap.size + 1, 0, none⟩ = some (.int .i64 n) := (bc2 _ _ l1).trans ((bc _ _ (by simp)).trans (by simp [go_sem]))
  have g1 : w2.cell? ⟨w.heap.size + 1, 1, none⟩ = some (.int .i64 d) := (bc2 _ _ l1).trans ((bc _ _ (by simp)).trans (by simp [go_sem]))
  have f0 : w2.cell? ⟨w.heap.size + 1 + 1, 0, none⟩ = some (.slice none 0 0) := (bc2 _ _ l2).trans ((bc _ _ (by simp)).trans (by simp [go_sem]))
  have f1 : w2.cell? ⟨w.heap.size + 1 + 1, 1, none⟩ = some (.int .i64 0) := (bc2 _ _ l2).trans ((bc _ _ (by simp)).trans (by simp [go_sem]))
  have ff : ∀ o, w2.frozen? ⟨w.heap.size + 1 + 1, o, none⟩ = false := fun o => (bf2 _ _ l2).trans ((bf _ _ (by simp)).trans (by simp [go_sem]))
  have B2 : Hid (Below w.heap.size w w2) := hidd (B1.out.trans (hb2.mono B1.out.size))
  clear bc bf bc2 bf2 hb1 hb2
  have B3 : Hid (Below w.heap.size w (w2.setCell ⟨w.heap.size, 1, none⟩ (.int .i64 T1))) := hidd (by have b := B2.out; (repeat' (first | (with_reducible exact Below.refl _ _) | (with_reducible assumption) | (with_reducible apply Below.setCell) | (with_reducible apply Below.alloc) | (with_reducible apply Below.drew) | (with_reducible apply below_drewN) | (with_reducible refine Below.trans ?_ (Below.mono (by assumption) ?_)) | omega | (simp; done) | (simp; omega))))
  have f0' : (w2.setCell ⟨w.heap.size, 1, none⟩ (.int .i64 T1)).cell? ⟨w.heap.size + 1 + 1, 0, none⟩ = some (.slice none 0 0) := by simp [go_sem, f0]
  have f1' : (w2.setCell ⟨w.heap.size, 1, none⟩ (.int .i64 T1)).cell? ⟨w.heap.size + 1 + 1, 1, none⟩ = some (.int .i64 0) := by simp [go_sem, f1]
  have ff' : ∀ o, (w2.setCell ⟨w.heap.size, 1, none⟩ (.int .i64 T1)).frozen? ⟨w.heap.size + 1 + 1, o, none⟩ = false := fun o => by rw [World.frozen?_setCell]; exact ff o
  have k2' : w.heap.size + 1 + 1 < (w2.setCell ⟨w.heap.size, 1, none⟩ (.int .i64 T1)).heap.size := by simp [World.setCell]; omega
  go_wp2_with fail
  refine (cL.out _ (HH.out.below B3.out)).mono ?_
  rintro e w4 ⟨⟨v', k, hk, hno, hyes, rfl, hO⟩, hb4⟩
  obtain ⟨A', c', hv', _⟩ := OwnL.lie hO itV_len
  subst hv'
  have p0 := (hb4.cell (p := ⟨w.heap.size + 1 + 1, 0, none⟩) k2').trans f0'
  have p1 := (hb4.cell (p := ⟨w.heap.size + 1 + 1, 1, none⟩) k2').trans f1'
  have pf := fun o => (hb4.frozen (p := ⟨w.heap.size + 1 + 1, o, none⟩) k2').trans (ff' o)
  have hs4 : w2.heap.size ≤ w4.heap.size := by have := hb4.size; simpa [World.setCell] using this
  have B4 := hidd (B3.out.trans (hb4.mono B3.out.size))
  have HP := hidd (⟨hk, hno, hyes⟩ : k ≤ N ∧ _ ∧ _)
  have hne : ∀ q, (Value.slice A' (putA M (id, n, d, T1) k).length c').ownBlock = some q → w2.heap.size ≤ q := fun q e => by have := (OwnL.lt hO q e).1; simpa [World.setCell] using this
  have HO := hidd hO
  have HNE := hidd hne
  clear hk hno hyes hO hb4 hne e0 e1 ef g0 g1 f0 f1 ff f0' f1' ff' k2'
  generalize hl : (putA M (id, n, d, T1) k).length = l at *
  clear hl
  go_wp2_with fail
  have BW : Below w.heap.size w4 ((w4.setCell ⟨w.heap.size + 1 + 1, 0, none⟩ (.slice A' l c')).setCell ⟨w.heap.size + 1 + 1, 1, none⟩ (.int .i64 T1)) := by (repeat' (first | (with_reducible exact Below.refl _ _) | (with_reducible assumption) | (with_reducible apply Below.setCell) | (with_reducible apply Below.alloc) | (with_reducible apply Below.drew) | (with_reducible apply below_drewN) | (with_reducible refine Below.trans ?_ (Below.mono (by assumption) ?_)) | omega | (simp; done) | (simp; omega)))
  have hO' : OwnL itV 4 ((w4.setCell ⟨w.heap.size + 1 + 1, 0, none⟩ (.slice A' l c')).setCell ⟨w.heap.size + 1 + 1, 1, none⟩ (.int .i64 T1)) w.heap.size 37 (.slice A' l c') (putA M (id, n, d, T1) k) := OwnL.base' (OwnL.to HO.out (fun q e => by have hq := HNE.out q e; rw [Below.heap_setCell _ _ _ _ (by show q ≠ w.heap.size + 1 + 1; omega), Below.heap_setCell _ _ _ _ (by show q ≠ w.heap.size + 1 + 1; omega)])) _ (by simp [World.setCell]; omega)
  exact bodyPost_ret (v := .tuple #[.agg #[.slice A' l c', .int .i64 T1], .int .i64 0]) (by simp [results, Try.results26, go_sem, *]) rfl ⟨⟨_, k, HP.out.1, HP.out.2.1, HP.out.2.2, rfl, hO'⟩, B4.out.trans BW⟩
set_option maxRecDepth 100000 in
set_option maxHeartbeats 8000000 in
theorem rset_bad (v : Value) (M : List It) (T id n d : Int) (h0 : -9223372036854775808 ≤ n) (h1 : n ≤ 9223372036854775807) (h2 : -9223372036854775808 ≤ d) (h3 : d ≤ 9223372036854775807) (hb : mayB id n d = false) (hm : M.length ≤ 1000000) (w : World) (H : RL w v M) :
    Calls Try.prog 27 #[.agg #[v, .int .i64 T], .int .i64 id, .agg #[.int .i64 n, .int .i64 d]] w fun e w' => e = .returned (.tuple #[.agg #[v, .int .i64 T], .int .i64 2]) ∧ Below w.heap.size w w' := by
  obtain ⟨A, c, hv, _⟩ := OwnL.lie H itV_len
  subst hv
  have cm := hidd (fun W => may_any id n d h0 h1 h2 h3 W)
  rw [hb] at cm
  have cF := hidd (fun W H => find11_any (.slice A M.length c) M T id hm W H)
  have HH := hidd (fun W b => H.below (W' := W) b)
  clear H
  generalize posI M id = P at *
  generalize hN : M.length = N at *
  clear hN
  go_enter Try.func27, Try.ntmps27
  go_wp2_with fail
  refine (cF.out _ (HH.out _ (by (repeat' (first | (with_reducible exact Below.refl _ _) | (with_reducible assumption) | (with_reducible apply Below.setCell) | (with_reducible apply Below.alloc) | (with_reducible apply Below.drew) | (with_reducible apply below_drewN) | (with_reducible refine Below.trans ?_ (Below.mono (by assumption) ?_)) | omega | (simp; done) | (simp; omega)))))).mono ?_
  rintro e w1 ⟨rfl, hb1⟩
  obtain ⟨bc, bf⟩ := bcell hb1
  have hs := hb1.size
  have l2 : w.heap.size + 1 + 1 < w1.heap.size := by simp at hs; omega
  have l0 : w.heap.size < w1.heap.size := by omega
  have l1 : w.heap.size + 1 < w1.heap.size := by omega
  have B1 : Hid (Below w.heap.size w w1) := hidd (by (repeat' (first | (with_reducible exact Below.refl _ _) | (with_reducible assumption) | (with_reducible apply Below.setCell) | (with_reducible apply Below.alloc) | (with_reducible apply Below.drew) | (with_reducible apply below_drewN) | (with_reducible refine Below.trans ?_ (Below.mono (by assumption) ?_)) | omega | (simp; done) | (simp; omega))))
  have e00 : w1.cell? ⟨w.heap.size, 0, none⟩ = some (.slice A N c) := (bc _ _ (by first | (simp; done) | (simp; omega))).trans (by simp [go_sem])
  have e01 : w1.cell? ⟨w.heap.size, 1, none⟩ = some (.int .i64 T) := (bc _ _ (by first | (simp; done) | (simp; omega))).trans (by simp [go_sem])
  have e10 : w1.cell? ⟨w.heap.size + 1, 0, none⟩ = some (.int .i64 n) := (bc _ _ (by first | (simp; done) | (simp; omega))).trans (by simp [go_sem])
  have e11 : w1.cell? ⟨w.heap.size + 1, 1, none⟩ = some (.int .i64 d) := (bc _ _ (by first | (simp; done) | (simp; omega))).trans (by simp [go_sem])
  have e20 : w1.cell? ⟨w.heap.size + 1 + 1, 0, none⟩ = some (.slice none 0 0) := (bc _ _ (by first | (simp; done) | (simp; omega))).trans (by simp [go_sem])
  have e21 : w1.cell? ⟨w.heap.size + 1 + 1, 1, none⟩ = some (.int .i64 0) := (bc _ _ (by first | (simp; done) | (simp; omega))).trans (by simp [go_sem])
  have z2 : ∀ o, w1.frozen? ⟨w.heap.size + 1 + 1, o, none⟩ = false := fun o => (bf _ _ (by first | (simp; done) | (simp; omega))).trans (by simp [go_sem])
  clear bc bf hb1 hs
  go_wp2_with fail
  refine (cm.out _).mono ?_
  rintro e w2 ⟨rfl, hb2⟩
  have hs := hb2.size
  replace e00 := (hb2.cell (p := ⟨w.heap.size, 0, none⟩) l0).trans e00
  replace e01 := (hb2.cell (p := ⟨w.heap.size, 1, none⟩) l0).trans e01
  replace e10 := (hb2.cell (p := ⟨w.heap.size + 1, 0, none⟩) l1).trans e10
  replace e11 := (hb2.cell (p := ⟨w.heap.size + 1, 1, none⟩) l1).trans e11
  replace e20 := (hb2.cell (p := ⟨w.heap.size + 1 + 1, 0, none⟩) l2).trans e20
  replace e21 := (hb2.cell (p := ⟨w.heap.size + 1 + 1, 1, none⟩) l2).trans e21
  replace z2 := fun o => (hb2.frozen (p := ⟨w.heap.size + 1 + 1, o, none⟩) l2).trans (z2 o)
  replace l0 : w.heap.size < w2.heap.size := by omega
  replace l1 : w.heap.size + 1 < w2.heap.size := by omega
  replace l2 : w.heap.size + 1 + 1 < w2.heap.size := by omega
  have B2 : Hid (Below w.heap.size w w2) := hidd (B1.out.trans (hb2.mono B1.out.size))
  clear hs hb2
  go_wp2_with fail
  have BB := B2.out
  exact bodyPost_ret (v := .tuple #[.agg #[.slice A N c, .int .i64 T], .int .i64 2]) (by simp [results, Try.results27, go_sem, *]) rfl ⟨rfl, by (repeat' (first | (with_reducible exact Below.refl _ _) | (with_reducible assumption) | (with_reducible apply Below.setCell) | (with_reducible apply Below.alloc) | (with_reducible apply Below.drew) | (with_reducible apply below_drewN) | (with_reducible refine Below.trans ?_ (Below.mono (by assumption) ?_)) | omega | (simp; done) | (simp; omega)))⟩
set_option maxRecDepth 100000 in
set_option maxHeartbeats 8000000 in
theorem rset_none (v : Value) (M : List It) (T id n d : Int) (h0 : -9223372036854775808 ≤ n) (h1 : n ≤ 9223372036854775807) (h2 : -9223372036854775808 ≤ d) (h3 : d ≤ 9223372036854775807) (hb : mayB id n d = true) (hp : posI M id = -1) (hm : M.length ≤ 1000000) (w : World) (H : RL w v M) :
    Calls Try.prog 27 #[.agg #[v, .int .i64 T], .int .i64 id, .agg #[.int .i64 n, .int .i64 d]] w fun e w' => e = .returned (.tuple #[.agg #[v, .int .i64 T], .int .i64 5]) ∧ Below w.heap.size w w' := by
  obtain ⟨A, c, hv, _⟩ := OwnL.lie H itV_len
  subst hv
  have cm := hidd (fun W => may_any id n d h0 h1 h2 h3 W)
  rw [hb] at cm
  have cF := hidd (fun W H => find11_any (.slice A M.length c) M T id hm W H)
  rw [hp] at cF
  have HH := hidd (fun W b => H.below (W' := W) b)
  clear H
  generalize posI M id = P at *
  generalize hN : M.length = N at *
  clear hN
  go_enter Try.func27, Try.ntmps27
  go_wp2_with fail
  refine (cF.out _ (HH.out _ (by (repeat' (first | (with_reducible exact Below.refl _ _) | (with_reducible assumption) | (with_reducible apply Below.setCell) | (with_reducible apply Below.alloc) | (with_reducible apply Below.drew) | (with_reducible apply below_drewN) | (with_reducible refine Below.trans ?_ (Below.mono (by assumption) ?_)) | omega | (simp; done) | (simp; omega)))))).mono ?_
  rintro e w1 ⟨rfl, hb1⟩
  obtain ⟨bc, bf⟩ := bcell hb1
  have hs := hb1.size
  have l2 : w.heap.size + 1 + 1 < w1.heap.size := by simp at hs; omega
  have l0 : w.heap.size < w1.heap.size := by omega
  have l1 : w.heap.size + 1 < w1.heap.size := by omega
  have B1 : Hid (Below w.heap.size w w1) := hidd (by (repeat' (first | (with_reducible exact Below.refl _ _) | (with_reducible assumption) | (with_reducible apply Below.setCell) | (with_reducible apply Below.alloc) | (with_reducible apply Below.drew) | (with_reducible apply below_drewN) | (with_reducible refine Below.trans ?_ (Below.mono (by assumption) ?_)) | omega | (simp; done) | (simp; omega))))
  have e00 : w1.cell? ⟨w.heap.size, 0, none⟩ = some (.slice A N c) := (bc _ _ (by first | (simp; done) | (simp; omega))).trans (by simp [go_sem])
  have e01 : w1.cell? ⟨w.heap.size, 1, none⟩ = some (.int .i64 T) := (bc _ _ (by first | (simp; done) | (simp; omega))).trans (by simp [go_sem])
  have e10 : w1.cell? ⟨w.heap.size + 1, 0, none⟩ = some (.int .i64 n) := (bc _ _ (by first | (simp; done) | (simp; omega))).trans (by simp [go_sem])
  have e11 : w1.cell? ⟨w.heap.size + 1, 1, none⟩ = some (.int .i64 d) := (bc _ _ (by first | (simp; done) | (simp; omega))).trans (by simp [go_sem])
  have e20 : w1.cell? ⟨w.heap.size + 1 + 1, 0, none⟩ = some (.slice none 0 0) := (bc _ _ (by first | (simp; done) | (simp; omega))).trans (by simp [go_sem])
  have e21 : w1.cell? ⟨w.heap.size + 1 + 1, 1, none⟩ = some (.int .i64 0) := (bc _ _ (by first | (simp; done) | (simp; omega))).trans (by simp [go_sem])
  have z2 : ∀ o, w1.frozen? ⟨w.heap.size + 1 + 1, o, none⟩ = false := fun o => (bf _ _ (by first | (simp; done) | (simp; omega))).trans (by simp [go_sem])
  clear bc bf hb1 hs
  go_wp2_with fail
  refine (cm.out _).mono ?_
  rintro e w2 ⟨rfl, hb2⟩
  have hs := hb2.size
  replace e00 := (hb2.cell (p := ⟨w.heap.size, 0, none⟩) l0).trans e00
  replace e01 := (hb2.cell (p := ⟨w.heap.size, 1, none⟩) l0).trans e01
  replace e10 := (hb2.cell (p := ⟨w.heap.size + 1, 0, none⟩) l1).trans e10
  replace e11 := (hb2.cell (p := ⟨w.heap.size + 1, 1, none⟩) l1).trans e11
  replace e20 := (hb2.cell (p := ⟨w.heap.size + 1 + 1, 0, none⟩) l2).trans e20
  replace e21 := (hb2.cell (p := ⟨w.heap.size + 1 + 1, 1, none⟩) l2).trans e21
  replace z2 := fun o => (hb2.frozen (p := ⟨w.heap.size + 1 + 1, o, none⟩) l2).trans (z2 o)
  replace l0 : w.heap.size < w2.heap.size := by omega
  replace l1 : w.heap.size + 1 < w2.heap.size := by omega
  replace l2 : w.heap.size + 1 + 1 < w2.heap.size := by omega
  have B2 : Hid (Below w.heap.size w w2) := hidd (B1.out.trans (hb2.mono B1.out.size))
  clear hs hb2
  go_wp2_with fail
  have BB := B2.out
  exact bodyPost_ret (v := .tuple #[.agg #[.slice A N c, .int .i64 T], .int .i64 5]) (by simp [results, Try.results27, go_sem, *]) rfl ⟨rfl, by (repeat' (first | (with_reducible exact Below.refl _ _) | (with_reducible assumption) | (with_reducible apply Below.setCell) | (with_reducible apply Below.alloc) | (with_reducible apply Below.drew) | (with_reducible apply below_drewN) | (with_reducible refine Below.trans ?_ (Below.mono (by assumption) ?_)) | omega | (simp; done) | (simp; omega)))⟩
set_option maxRecDepth 100000 in
set_option maxHeartbeats 8000000 in
theorem rdrop_none (v : Value) (M : List It) (T id : Int) (hp : posI M id = -1) (hm : M.length ≤ 1000000) (w : World) (H : RL w v M) :
    Calls Try.prog 28 #[.agg #[v, .int .i64 T], .int .i64 id] w fun e w' => e = .returned (.tuple #[.agg #[v, .int .i64 T], .int .i64 5]) ∧ Below w.heap.size w w' := by
  obtain ⟨A, c, hv, _⟩ := OwnL.lie H itV_len
  subst hv
  have cF := hidd (fun W H => find11_any (.slice A M.length c) M T id hm W H)
  rw [hp] at cF
  have HH := hidd (fun W b => H.below (W' := W) b)
  clear H
  generalize hN : M.length = N at *
  clear hN
  go_enter Try.func28, Try.ntmps28
  go_wp2_with fail
  refine (cF.out _ (HH.out _ (by (repeat' (first | (with_reducible exact Below.refl _ _) | (with_reducible assumption) | (with_reducible apply Below.setCell) | (with_reducible apply Below.alloc) | (with_reducible apply Below.drew) | (with_reducible apply below_drewN) | (with_reducible refine Below.trans ?_ (Below.mono (by assumption) ?_)) | omega | (simp; done) | (simp; omega)))))).mono ?_
  rintro e w1 ⟨rfl, hb1⟩
  obtain ⟨bc, bf⟩ := bcell hb1
  have hs := hb1.size
  have l1 : w.heap.size + 1 < w1.heap.size := by simp at hs; omega
  have l0 : w.heap.size < w1.heap.size := by omega
  have B1 : Hid (Below w.heap.size w w1) := hidd (by (repeat' (first | (with_reducible exact Below.refl _ _) | (with_reducible assumption) | (with_reducible apply Below.setCell) | (with_reducible apply Below.alloc) | (with_reducible apply Below.drew) | (with_reducible apply below_drewN) | (with_reducible refine Below.trans ?_ (Below.mono (by assumption) ?_)) | omega | (simp; done) | (simp; omega))))
  have e00 : w1.cell? ⟨w.heap.size, 0, none⟩ = some (.slice A N c) := (bc _ _ (by first | (simp; done) | (simp; omega))).trans (by simp [go_sem])
  have e01 : w1.cell? ⟨w.heap.size, 1, none⟩ = some (.int .i64 T) := (bc _ _ (by first | (simp; done) | (simp; omega))).trans (by simp [go_sem])
  have e10 : w1.cell? ⟨w.heap.size + 1, 0, none⟩ = some (.slice none 0 0) := (bc _ _ (by first | (simp; done) | (simp; omega))).trans (by simp [go_sem])
  have e11 : w1.cell? ⟨w.heap.size + 1, 1, none⟩ = some (.int .i64 0) := (bc _ _ (by first | (simp; done) | (simp; omega))).trans (by simp [go_sem])
  have z1 : ∀ o, w1.frozen? ⟨w.heap.size + 1, o, none⟩ = false := fun o => (bf _ _ (by first | (simp; done) | (simp; omega))).trans (by simp [go_sem])
  clear bc bf hb1 hs
  go_wp2_with fail
  have BB := B1.out
  exact bodyPost_ret (v := .tuple #[.agg #[.slice A N c, .int .i64 T], .int .i64 5]) (by simp [results, Try.results28, go_sem, *]) rfl ⟨rfl, by (repeat' (first | (with_reducible exact Below.refl _ _) | (with_reducible assumption) | (with_reducible apply Below.setCell) | (with_reducible apply Below.alloc) | (with_reducible apply Below.drew) | (with_reducible apply below_drewN) | (with_reducible refine Below.trans ?_ (Below.mono (by assumption) ?_)) | omega | (simp; done) | (simp; omega)))⟩
set_option maxRecDepth 100000 in
set_option maxHeartbeats 8000000 in
theorem rdrop_ok (v : Value) (M : List It) (T id : Int) (i : Nat) (hi : i < M.length) (hp : posI M id = (i : Int)) (hm : M.length ≤ 1000000) (w : World) (H : RL w v M) :
    Calls Try.prog 28 #[.agg #[v, .int .i64 T], .int .i64 id] w fun e w' => (∃ v', e = .returned (.tuple #[.agg #[v', .int .i64 T], .int .i64 0]) ∧ OwnL itV 4 w' w.heap.size 37 v' (wo M i)) ∧ Below w.heap.size w w' := by
  obtain ⟨A, c, hv, _⟩ := OwnL.lie H itV_len
  subst hv
  have cF := hidd (fun W H => find11_any (.slice A M.length c) M T id hm W H)
  rw [hp] at cF
  have cW := hidd (fun W H => without_any (.slice A M.length c) M T i hi hm W H)
  have HH := hidd (fun W b => H.below (W' := W) b)
  have zi : ¬ (i : Int) < 0 := by omega
  clear H
  generalize hN : M.length = N at *
  clear hN
  go_enter Try.func28, Try.ntmps28
  go_wp2_with fail
  refine (cF.out _ (HH.out _ (by (repeat' (first | (with_reducible exact Below.refl _ _) | (with_reducible assumption) | (with_reducible apply Below.setCell) | (with_reducible apply Below.alloc) | (with_reducible apply Below.drew) | (with_reducible apply below_drewN) | (with_reducible refine Below.trans ?_ (Below.mono (by assumption) ?_)) | omega | (simp; done) | (simp; omega)))))).mono ?_
  rintro e w1 ⟨rfl, hb1⟩
  obtain ⟨bc, bf⟩ := bcell hb1
  have hs := hb1.size
  have l1 : w.heap.size + 1 < w1.heap.size := by simp at hs; omega
  have l0 : w.heap.size < w1.heap.size := by omega
  have B1 : Hid (Below w.heap.size w w1) := hidd (by (repeat' (first | (with_reducible exact Below.refl _ _) | (with_reducible assumption) | (with_reducible apply Below.setCell) | (with_reducible apply Below.alloc) | (with_reducible apply Below.drew) | (with_reducible apply below_drewN) | (with_reducible refine Below.trans ?_ (Below.mono (by assumption) ?_)) | omega | (simp; done) | (simp; omega))))
  have e00 : w1.cell? ⟨w.heap.size, 0, none⟩ = some (.slice A N c) := (bc _ _ (by first | (simp; done) | (simp; omega))).trans (by simp [go_sem])
  have e01 : w1.cell? ⟨w.heap.size, 1, none⟩ = some (.int .i64 T) := (bc _ _ (by first | (simp; done) | (simp; omega))).trans (by simp [go_sem])
  have e10 : w1.cell? ⟨w.heap.size + 1, 0, none⟩ = some (.slice none 0 0) := (bc _ _ (by first | (simp; done) | (simp; omega))).trans (by simp [go_sem])
  have e11 : w1.cell? ⟨w.heap.size + 1, 1, none⟩ = some (.int .i64 0) := (bc _ _ (by first | (simp; done) | (simp; omega))).trans (by simp [go_sem])
  have z1 : ∀ o, w1.frozen? ⟨w.heap.size + 1, o, none⟩ = false := fun o => (bf _ _ (by first | (simp; done) | (simp; omega))).trans (by simp [go_sem])
  clear bc bf hb1 hs
  go_wp2_with fail
  refine (cW.out _ (HH.out _ B1.out)).mono ?_
  rintro e w2 ⟨⟨v', rfl, hO⟩, hb2⟩
  have k1 : w.heap.size + 1 < w1.heap.size := l1
  have hs := hb2.size
  replace e00 := (hb2.cell (p := ⟨w.heap.size, 0, none⟩) l0).trans e00
  replace e01 := (hb2.cell (p := ⟨w.heap.size, 1, none⟩) l0).trans e01
  replace e10 := (hb2.cell (p := ⟨w.heap.size + 1, 0, none⟩) l1).trans e10
  replace e11 := (hb2.cell (p := ⟨w.heap.size + 1, 1, none⟩) l1).trans e11
  replace z1 := fun o => (hb2.frozen (p := ⟨w.heap.size + 1, o, none⟩) l1).trans (z1 o)
  replace l0 : w.heap.size < w2.heap.size := by omega
  replace l1 : w.heap.size + 1 < w2.heap.size := by omega
  have B2 : Hid (Below w.heap.size w w2) := hidd (B1.out.trans (hb2.mono B1.out.size))
  clear hs hb2
  obtain ⟨A', c', hv', _⟩ := OwnL.lie hO itV_len
  subst hv'
  have HO := hidd hO
  have HNE := hidd (fun q (e : (Value.slice A' (wo M i).length c').ownBlock = some q) => (OwnL.lt hO q e).1)
  have HS1 := B1.out.size
  have hsz : Hid (w.heap.size + 1 < w1.heap.size) := hidd k1
  clear hO
  generalize hl : (wo M i).length = l at *
  clear hl
  go_wp2_with fail
  have BW : Below w.heap.size w2 ((w2.setCell ⟨w.heap.size + 1, 0, none⟩ (.slice A' l c')).setCell ⟨w.heap.size + 1, 1, none⟩ (.int .i64 T)) := by (repeat' (first | (with_reducible exact Below.refl _ _) | (with_reducible assumption) | (with_reducible apply Below.setCell) | (with_reducible apply Below.alloc) | (with_reducible apply Below.drew) | (with_reducible apply below_drewN) | (with_reducible refine Below.trans ?_ (Below.mono (by assumption) ?_)) | omega | (simp; done) | (simp; omega)))
  have hO' : OwnL itV 4 ((w2.setCell ⟨w.heap.size + 1, 0, none⟩ (.slice A' l c')).setCell ⟨w.heap.size + 1, 1, none⟩ (.int .i64 T)) w.heap.size 37 (.slice A' l c') (wo M i) := OwnL.base' (OwnL.to HO.out (fun q e => by have hq := HNE.out q e; have := hsz.out; rw [Below.heap_setCell _ _ _ _ (by show q ≠ w.heap.size + 1; omega), Below.heap_setCell _ _ _ _ (by show q ≠ w.heap.size + 1; omega)])) _ (by omega)
  exact bodyPost_ret (v := .tuple #[.agg #[.slice A' l c', .int .i64 T], .int .i64 0]) (by simp [results, Try.results28, go_sem, *]) rfl ⟨⟨_, rfl, hO'⟩, B2.out.trans BW⟩
set_option maxRecDepth 100000 in
set_option maxHeartbeats 8000000 in
theorem rtake_nil (v : Value) (T : Int) (w : World) (H : RL w v []) :
    Calls Try.prog 29 #[.agg #[v, .int .i64 T]] w fun e w' => e = .returned (.tuple #[.agg #[v, .int .i64 T], agI zI, .bool false]) ∧ Below w.heap.size w w' := by
  obtain ⟨A, c, hv, _⟩ := OwnL.lie H itV_len
  subst hv
  clear H
  go_enter Try.func29, Try.ntmps29
  go_wp2_with fail
  exact bodyPost_ret (v := .tuple #[.agg #[.slice A 0 c, .int .i64 T], agI zI, .bool false]) (by simp [results, Try.results29, go_sem, agI, zI, iD, kN, kD, tN]) rfl ⟨rfl, by (repeat' (first | (with_reducible exact Below.refl _ _) | (with_reducible assumption) | (with_reducible apply Below.setCell) | (with_reducible apply Below.alloc) | (with_reducible apply Below.drew) | (with_reducible apply below_drewN) | (with_reducible refine Below.trans ?_ (Below.mono (by assumption) ?_)) | omega | (simp; done) | (simp; omega)))⟩
theorem heap_set2 (W : World) (p o o' : Nat) (v v' : Value) {q : Nat} (h : q ≠ p) : ((W.setCell ⟨p, o, none⟩ v).setCell ⟨p, o', none⟩ v').heap[q]? = W.heap[q]? := by
  rw [Below.heap_setCell _ _ _ _ h, Below.heap_setCell _ _ _ _ h]
set_option maxRecDepth 100000 in
set_option maxHeartbeats 8000000 in
theorem rset_ok (v : Value) (M : List It) (T id n d : Int) (h0 : -9223372036854775808 ≤ n) (h1 : n ≤ 9223372036854775807) (h2 : -9223372036854775808 ≤ d) (h3 : d ≤ 9223372036854775807) (hb : mayB id n d = true) (i : Nat) (hi : i < M.length) (hp : posI M id = (i : Int)) (hm : M.length ≤ 1000000) (hM : OkL M) (w : World) (H : RL w v M) :
    Calls Try.prog 27 #[.agg #[v, .int .i64 T], .int .i64 id, .agg #[.int .i64 n, .int .i64 d]] w fun e w' => (∃ v' k, k ≤ (wo M i).length ∧ (∀ j, j < k → ¬ Lt (keyed (gI M i) n d) (gI (wo M i) j)) ∧ (k < (wo M i).length → Lt (keyed (gI M i) n d) (gI (wo M i) k)) ∧ e = .returned (.tuple #[.agg #[v', .int .i64 T], .int .i64 0]) ∧ OwnL itV 4 w' w.heap.size 37 v' (putA (wo M i) (keyed (gI M i) n d) k)) ∧ Below w.heap.size w w' := by
  obtain ⟨g, c, hv, _, hg, _⟩ := OwnL.form H (by omega)
  subst hv
  obtain ⟨i0, i1, i2, i3⟩ := OwnL.item H hi
  have cm := hidd (fun W => may_any id n d h0 h1 h2 h3 W)
  rw [hb] at cm
  have hr := ((mayB_iff _ _ _).1 hb).2.2
  have cF := hidd (fun W H => find11_any (.slice (some ⟨g, 0, none⟩) M.length c) M T id hm W H)
  rw [hp] at cF
  have cW := hidd (fun W H => without_any (.slice (some ⟨g, 0, none⟩) M.length c) M T i hi hm W H)
  have okw : OkL (wo M i) := fun y hy => by
    unfold wo at hy
    rcases List.mem_append.1 hy with q | q
    · exact hM y (List.mem_of_mem_take q)
    · exact hM y (List.mem_of_mem_drop q)
  have cL := hidd (fun v W H => lay_any v (wo M i) T (keyed (gI M i) n d) (keyed_ok (hM.at_ hi) h0 h1 h2 h3 hr) okw (by rw [wo_len hi]; omega) W H)
  rw [show iD (keyed (gI M i) n d) = iD (gI M i) from rfl, show kN (keyed (gI M i) n d) = n from rfl, show kD (keyed (gI M i) n d) = d from rfl, show tN (keyed (gI M i) n d) = tN (gI M i) from rfl] at cL
  have HH := hidd (fun W b => H.below (W' := W) b)
  have zi : ¬ (i : Int) < 0 := by omega
  have z1 : (0 : Int) ≤ (i : Int) := by omega
  have z2 : (i : Int) < (M.length : Int) := by omega
  clear H hb hr hM okw h0 h1 h2 h3
  generalize keyed (gI M i) n d = X at *
  generalize wo M i = MW at *
  generalize iD (gI M i) = y0 at *
  generalize kN (gI M i) = y1 at *
  generalize kD (gI M i) = y2 at *
  generalize tN (gI M i) = y3 at *
  generalize hN : M.length = N at *
  clear hN
  go_enter Try.func27, Try.ntmps27
  go_wp2_with fail
  refine (cF.out _ (HH.out _ (by (repeat' (first | (with_reducible exact Below.refl _ _) | (with_reducible assumption) | (with_reducible apply Below.setCell) | (with_reducible apply Below.alloc) | (with_reducible apply Below.drew) | (with_reducible apply below_drewN) | (with_reducible refine Below.trans ?_ (Below.mono (by assumption) ?_)) | omega | (simp; done) | (simp; omega)))))).mono ?_
  rintro e w1 ⟨rfl, hb1⟩
  obtain ⟨bc, bf⟩ := bcell hb1
  have hs := hb1.size
  have l2 : w.heap.size + 1 + 1 < w1.heap.size := by simp at hs; omega
  have l0 : w.heap.size < w1.heap.size := by omega
  have l1 : w.heap.size + 1 < w1.heap.size := by omega
  have B1 : Hid (Below w.heap.size w w1) := hidd (by (repeat' (first | (with_reducible exact Below.refl _ _) | (with_reducible assumption) | (with_reducible apply Below.setCell) | (with_reducible apply Below.alloc) | (with_reducible apply Below.drew) | (with_reducible apply below_drewN) | (with_reducible refine Below.trans ?_ (Below.mono (by assumption) ?_)) | omega | (simp; done) | (simp; omega))))
  have e00 : w1.cell? ⟨w.heap.size, 0, none⟩ = some (.slice (some ⟨g, 0, none⟩) N c) := (bc _ _ (by first | (simp; done) | (simp; omega))).trans (by simp [go_sem])
  have e01 : w1.cell? ⟨w.heap.size, 1, none⟩ = some (.int .i64 T) := (bc _ _ (by first | (simp; done) | (simp; omega))).trans (by simp [go_sem])
  have e10 : w1.cell? ⟨w.heap.size + 1, 0, none⟩ = some (.int .i64 n) := (bc _ _ (by first | (simp; done) | (simp; omega))).trans (by simp [go_sem])
  have e11 : w1.cell? ⟨w.heap.size + 1, 1, none⟩ = some (.int .i64 d) := (bc _ _ (by first | (simp; done) | (simp; omega))).trans (by simp [go_sem])
  have e20 : w1.cell? ⟨w.heap.size + 1 + 1, 0, none⟩ = some (.slice none 0 0) := (bc _ _ (by first | (simp; done) | (simp; omega))).trans (by simp [go_sem])
  have e21 : w1.cell? ⟨w.heap.size + 1 + 1, 1, none⟩ = some (.int .i64 0) := (bc _ _ (by first | (simp; done) | (simp; omega))).trans (by simp [go_sem])
  have z2 : ∀ o, w1.frozen? ⟨w.heap.size + 1 + 1, o, none⟩ = false := fun o => (bf _ _ (by first | (simp; done) | (simp; omega))).trans (by simp [go_sem])
  clear bc bf hb1 hs
  go_wp2_with fail
  refine (cm.out _).mono ?_
  rintro e w2 ⟨rfl, hb2⟩
  have hs := hb2.size
  replace e00 := (hb2.cell (p := ⟨w.heap.size, 0, none⟩) l0).trans e00
  replace e01 := (hb2.cell (p := ⟨w.heap.size, 1, none⟩) l0).trans e01
  replace e10 := (hb2.cell (p := ⟨w.heap.size + 1, 0, none⟩) l1).trans e10
  replace e11 := (hb2.cell (p := ⟨w.heap.size + 1, 1, none⟩) l1).trans e11
  replace e20 := (hb2.cell (p := ⟨w.heap.size + 1 + 1, 0, none⟩) l2).trans e20
  replace e21 := (hb2.cell (p := ⟨w.heap.size + 1 + 1, 1, none⟩) l2).trans e21
  replace z2 := fun o => (hb2.frozen (p := ⟨w.heap.size + 1 + 1, o, none⟩) l2).trans (z2 o)
  replace l0 : w.heap.size < w2.heap.size := by omega
  replace l1 : w.heap.size + 1 < w2.heap.size := by omega
  replace l2 : w.heap.size + 1 + 1 < w2.heap.size := by omega
  have B2 : Hid (Below w.heap.size w w2) := hidd (B1.out.trans (hb2.mono B1.out.size))
  clear hs hb2
  have z2' := z2
  clear z2
  have j0 := (B2.out.cell (p := ⟨g, i * 4, none⟩) hg).trans i0
  have j1 := (B2.out.cell (p := ⟨g, i * 4 + 1, none⟩) hg).trans i1
  have j2 := (B2.out.cell (p := ⟨g, i * 4 + 2, none⟩) hg).trans i2
  have j3 := (B2.out.cell (p := ⟨g, i * 4 + 3, none⟩) hg).trans i3
  have hgl : g < w2.heap.size := Nat.lt_of_lt_of_le hg B2.out.size
  go_wp2_with fail
  obtain ⟨W3, hW3⟩ : ∃ W3, w2.alloc (.cells #[.int .i64 y0, .int .i64 n, .int .i64 d, .int .i64 y3] 37) = W3 := ⟨_, rfl⟩
  rw [hW3]
  have x0 : W3.cell? ⟨w2.heap.size, 0, none⟩ = some (.int .i64 y0) := by rw [← hW3]; simp [go_sem]
  have x1 : W3.cell? ⟨w2.heap.size, 1, none⟩ = some (.int .i64 n) := by rw [← hW3]; simp [go_sem]
  have x2 : W3.cell? ⟨w2.heap.size, 2, none⟩ = some (.int .i64 d) := by rw [← hW3]; simp [go_sem]
  have x3 : W3.cell? ⟨w2.heap.size, 3, none⟩ = some (.int .i64 y3) := by rw [← hW3]; simp [go_sem]
  have q00 : W3.cell? ⟨w.heap.size, 0, none⟩ = some (.slice (some ⟨g, 0, none⟩) N c) := by rw [← hW3]; simp [go_sem, e00, l0]
  have q01 : W3.cell? ⟨w.heap.size, 1, none⟩ = some (.int .i64 T) := by rw [← hW3]; simp [go_sem, e01, l0]
  have q20 : W3.cell? ⟨w.heap.size + 1 + 1, 0, none⟩ = some (.slice none 0 0) := by rw [← hW3]; simp [go_sem, e20, l2]
  have q21 : W3.cell? ⟨w.heap.size + 1 + 1, 1, none⟩ = some (.int .i64 0) := by rw [← hW3]; simp [go_sem, e21, l2]
  have qz : ∀ o, W3.frozen? ⟨w.heap.size + 1 + 1, o, none⟩ = false := fun o => by rw [← hW3]; simp [go_sem, z2', l2]
  have hs3 : w2.heap.size < W3.heap.size := by rw [← hW3]; simp
  have B3 : Hid (Below w.heap.size w W3) := hidd (by have b := B2.out; rw [← hW3]; (repeat' (first | (with_reducible exact Below.refl _ _) | (with_reducible assumption) | (with_reducible apply Below.setCell) | (with_reducible apply Below.alloc) | (with_reducible apply Below.drew) | (with_reducible apply below_drewN) | (with_reducible refine Below.trans ?_ (Below.mono (by assumption) ?_)) | omega | (simp; done) | (simp; omega))))
  have l23 : w.heap.size + 1 + 1 < W3.heap.size := by omega
  have l03 : w.heap.size < W3.heap.size := by omega
  have HR3 := hidd (HH.out _ B3.out)
  clear hW3 e00 e01 e10 e11 e20 e21 z2' j0 j1 j2 j3 cm cF i0 i1 i2 i3
  go_region_law (first
    | (go_simp; go_at_call 49; refine (cW.out _ (HR3.out.below (by (repeat' (first | (with_reducible exact Below.refl _ _) | (with_reducible assumption) | (with_reducible apply Below.setCell) | (with_reducible apply Below.alloc) | (with_reducible apply Below.drew) | (with_reducible apply below_drewN) | (with_reducible refine Below.trans ?_ (Below.mono (by assumption) ?_)) | omega | (simp; done) | (simp; omega)))))).mono ?_; rintro E w4 ⟨⟨v1, rfl, hO1⟩, hb4⟩; have hs4 : W3.heap.size ≤ w4.heap.size := (by have q := hb4.size; simpa using q); have a0 := (hb4.cell (p := ⟨w2.heap.size, 0, none⟩) (by simpa using hs3)).trans (show _ = some (Value.int .i64 y0) by simp [go_sem, x0]); have a1 := (hb4.cell (p := ⟨w2.heap.size, 1, none⟩) (by simpa using hs3)).trans (show _ = some (Value.int .i64 n) by simp [go_sem, x1]); have a2 := (hb4.cell (p := ⟨w2.heap.size, 2, none⟩) (by simpa using hs3)).trans (show _ = some (Value.int .i64 d) by simp [go_sem, x2]); have a3 := (hb4.cell (p := ⟨w2.heap.size, 3, none⟩) (by simpa using hs3)).trans (show _ = some (Value.int .i64 y3) by simp [go_sem, x3]); have r20 := (hb4.cell (p := ⟨w.heap.size + 1 + 1, 0, none⟩) (by simpa using l23)).trans (show _ = some (Value.slice none 0 0) by simp [go_sem, q20]); have r21 := (hb4.cell (p := ⟨w.heap.size + 1 + 1, 1, none⟩) (by simpa using l23)).trans (show _ = some (Value.int .i64 0) by simp [go_sem, q21]); have rz := fun o => (hb4.frozen (p := ⟨w.heap.size + 1 + 1, o, none⟩) (by simpa using l23)).trans (show _ = false by simp [go_sem, qz]); have B4 := hidd (show Below w.heap.size w w4 by refine Below.trans ?_ (hb4.mono (by simp; omega)); have b := B3.out; (repeat' (first | (with_reducible exact Below.refl _ _) | (with_reducible assumption) | (with_reducible apply Below.setCell) | (with_reducible apply Below.alloc) | (with_reducible apply Below.drew) | (with_reducible apply below_drewN) | (with_reducible refine Below.trans ?_ (Below.mono (by assumption) ?_)) | omega | (simp; done) | (simp; omega)))); have HO1 := hidd hO1; clear hO1 hb4)
    | (go_simp; go_at_call 48; refine (cL.out v1 _ (RL.below (OwnL.base' HO1.out 0 (by omega)) (by (repeat' (first | (with_reducible exact Below.refl _ _) | (with_reducible assumption) | (with_reducible apply Below.setCell) | (with_reducible apply Below.alloc) | (with_reducible apply Below.drew) | (with_reducible apply below_drewN) | (with_reducible refine Below.trans ?_ (Below.mono (by assumption) ?_)) | omega | (simp; done) | (simp; omega)))))).mono ?_; rintro E w5 ⟨⟨v2, k, hk, hno, hyes, rfl, hO2⟩, hb5⟩; have hs5 : w4.heap.size ≤ w5.heap.size := (by have q := hb5.size; simpa using q); have l24 : w.heap.size + 1 + 1 < w4.heap.size := (by omega); have s20 := (hb5.cell (p := ⟨w.heap.size + 1 + 1, 0, none⟩) (by simpa using l24)).trans (show _ = some (Value.slice none 0 0) by simp [go_sem, r20]); have s21 := (hb5.cell (p := ⟨w.heap.size + 1 + 1, 1, none⟩) (by simpa using l24)).trans (show _ = some (Value.int .i64 0) by simp [go_sem, r21]); have sz := fun o => (hb5.frozen (p := ⟨w.heap.size + 1 + 1, o, none⟩) (by simpa using l24)).trans (show _ = false by simp [go_sem, rz]); have B5 := hidd (show Below w.heap.size w w5 by refine Below.trans ?_ (hb5.mono (by first | omega | (simp; omega))); have b := B4.out; (repeat' (first | (with_reducible exact Below.refl _ _) | (with_reducible assumption) | (with_reducible apply Below.setCell) | (with_reducible apply Below.alloc) | (with_reducible apply Below.drew) | (with_reducible apply below_drewN) | (with_reducible refine Below.trans ?_ (Below.mono (by assumption) ?_)) | omega | (simp; done) | (simp; omega)))); obtain ⟨A', c', hv', _⟩ := OwnL.lie hO2 itV_len; subst hv'; have HNE := hidd (fun q (e : (Value.slice A' (putA MW X k).length c').ownBlock = some q) => (show w4.heap.size ≤ q by have := (OwnL.lt hO2 q e).1; simpa using this)); have HO2 := hidd hO2; have HP := hidd (⟨hk, hno, hyes⟩ : k ≤ MW.length ∧ _ ∧ _); clear hO2 hb5 hk hno hyes; obtain ⟨l, hl⟩ : ∃ l, (putA MW X k).length = l := ⟨_, rfl⟩; rw [hl] at HNE HO2 ⊢; clear hl))
  all_goals
    have hl4 : w.heap.size + 1 + 1 < w4.heap.size := by omega
    have hl5 : w.heap.size + 1 + 1 < w5.heap.size := by omega
    clear x0 x1 x2 x3 q00 q01 q20 q21 qz r20 r21 rz a0 a1 a2 a3
    go_wp2_with fail
    refine bodyPost_ret (v := .tuple #[.agg #[.slice A' l c', .int .i64 T], .int .i64 0]) (by simp [results, Try.results27, go_sem, *]) rfl ⟨⟨_, k, HP.out.1, HP.out.2.1, HP.out.2.2, rfl, ?_⟩, ?_⟩
    · exact OwnL.base' (OwnL.to HO2.out (fun q e => heap_set2 _ _ _ _ _ _ (by have := HNE.out q e; omega))) _ (by have := B5.out.size; have := B4.out.size; first | omega | (simp; omega))
    · refine Below.trans B5.out ?_
      (repeat' (first | (with_reducible exact Below.refl _ _) | (with_reducible assumption) | (with_reducible apply Below.setCell) | (with_reducible apply Below.alloc) | (with_reducible apply Below.drew) | (with_reducible apply below_drewN) | (with_reducible refine Below.trans ?_ (Below.mono (by assumption) ?_)) | omega | (simp; done) | (simp; omega)))
theorem heap_set6 (W : World) (p q : Nat) (v0 v1 u0 u1 u2 u3 : Value) {k : Nat} (h : k ≠ p) (h2 : k ≠ q) : ((((((W.setCell ⟨p, 0, none⟩ v0).setCell ⟨p, 1, none⟩ v1).setCell ⟨q, 0, none⟩ u0).setCell ⟨q, 1, none⟩ u1).setCell ⟨q, 2, none⟩ u2).setCell ⟨q, 3, none⟩ u3).heap[k]? = W.heap[k]? := by
  rw [Below.heap_setCell _ _ _ _ h2, Below.heap_setCell _ _ _ _ h2, Below.heap_setCell _ _ _ _ h2, Below.heap_setCell _ _ _ _ h2, Below.heap_setCell _ _ _ _ h, Below.heap_setCell _ _ _ _ h]
set_option maxRecDepth 100000 in
set_option maxHeartbeats 8000000 in
theorem rtake_ok (v : Value) (M : List It) (T : Int) (hn : 0 < M.length) (hm : M.length ≤ 1000000) (w : World) (H : RL w v M) :
    Calls Try.prog 29 #[.agg #[v, .int .i64 T]] w fun e w' => (∃ v', e = .returned (.tuple #[.agg #[v', .int .i64 T], agI (gI M 0), .bool true]) ∧ OwnL itV 4 w' w.heap.size 37 v' (wo M 0)) ∧ Below w.heap.size w w' := by
  obtain ⟨g, c, hv, _, hg, _⟩ := OwnL.form H (by omega)
  subst hv
  obtain ⟨i0, i1, i2, i3⟩ := OwnL.item H hn
  simp only [Nat.zero_mul, Nat.zero_add] at i0 i1 i2 i3
  have cW := hidd (fun W H => without_any (.slice (some ⟨g, 0, none⟩) M.length c) M T 0 hn hm W H)
  have HH := hidd (fun W b => H.below (W' := W) b)
  have z0 : ¬ (M.length : Int) = 0 := by omega
  have z2 : (0 : Int) < (M.length : Int) := by omega
  unfold agI
  clear H
  generalize wo M 0 = MW at *
  generalize iD (gI M 0) = y0 at *
  generalize kN (gI M 0) = y1 at *
  generalize kD (gI M 0) = y2 at *
  generalize tN (gI M 0) = y3 at *
  generalize hN : M.length = N at *
  clear hN
  go_enter Try.func29, Try.ntmps29
  go_wp2_with fail
  obtain ⟨W3, hW3⟩ : ∃ W3, ((w.alloc (.cells #[.slice (some ⟨g, 0, none⟩) N c, .int .i64 T] 28)).alloc (.cells #[.slice none 0 0, .int .i64 0] 28)).alloc (.cells #[.int .i64 0, .int .i64 0, .int .i64 0, .int .i64 0] 37) = W3 := ⟨_, rfl⟩
  rw [hW3]
  have q00 : W3.cell? ⟨w.heap.size, 0, none⟩ = some (.slice (some ⟨g, 0, none⟩) N c) := by rw [← hW3]; simp [go_sem]
  have q01 : W3.cell? ⟨w.heap.size, 1, none⟩ = some (.int .i64 T) := by rw [← hW3]; simp [go_sem]
  have q10 : W3.cell? ⟨w.heap.size + 1, 0, none⟩ = some (.slice none 0 0) := by rw [← hW3]; simp [go_sem]
  have q11 : W3.cell? ⟨w.heap.size + 1, 1, none⟩ = some (.int .i64 0) := by rw [← hW3]; simp [go_sem]
  have q20 : W3.cell? ⟨w.heap.size + 1 + 1, 0, none⟩ = some (.int .i64 0) := by rw [← hW3]; simp [go_sem]
  have q21 : W3.cell? ⟨w.heap.size + 1 + 1, 1, none⟩ = some (.int .i64 0) := by rw [← hW3]; simp [go_sem]
  have q22 : W3.cell? ⟨w.heap.size + 1 + 1, 2, none⟩ = some (.int .i64 0) := by rw [← hW3]; simp [go_sem]
  have q23 : W3.cell? ⟨w.heap.size + 1 + 1, 3, none⟩ = some (.int .i64 0) := by rw [← hW3]; simp [go_sem]
  have qz1 : ∀ o, W3.frozen? ⟨w.heap.size + 1, o, none⟩ = false := fun o => by rw [← hW3]; simp [go_sem]
  have qz2 : ∀ o, W3.frozen? ⟨w.heap.size + 1 + 1, o, none⟩ = false := fun o => by rw [← hW3]; simp [go_sem]
  have l2 : w.heap.size + 1 + 1 < W3.heap.size := by rw [← hW3]; simp
  have l1 : w.heap.size + 1 < W3.heap.size := by omega
  have l0 : w.heap.size < W3.heap.size := by omega
  have B3 : Hid (Below w.heap.size w W3) := hidd (by rw [← hW3]; (repeat' (first | (with_reducible exact Below.refl _ _) | (with_reducible assumption) | (with_reducible apply Below.setCell) | (with_reducible apply Below.alloc) | (with_reducible apply Below.drew) | (with_reducible apply below_drewN) | (with_reducible refine Below.trans ?_ (Below.mono (by assumption) ?_)) | omega | (simp; done) | (simp; omega))))
  have hgl : g < W3.heap.size := Nat.lt_of_lt_of_le hg B3.out.size
  have j0 := (B3.out.cell (p := ⟨g, 0, none⟩) hg).trans i0
  have j1 := (B3.out.cell (p := ⟨g, 1, none⟩) hg).trans i1
  have j2 := (B3.out.cell (p := ⟨g, 2, none⟩) hg).trans i2
  have j3 := (B3.out.cell (p := ⟨g, 3, none⟩) hg).trans i3
  have HR3 := hidd (HH.out _ B3.out)
  clear hW3 i0 i1 i2 i3
  go_region_law (first
    | (go_simp; go_at_call 49; refine (cW.out _ (HR3.out.below (by (repeat' (first | (with_reducible exact Below.refl _ _) | (with_reducible assumption) | (with_reducible apply Below.setCell) | (with_reducible apply Below.alloc) | (with_reducible apply Below.drew) | (with_reducible apply below_drewN) | (with_reducible refine Below.trans ?_ (Below.mono (by assumption) ?_)) | omega | (simp; done) | (simp; omega)))))).mono ?_; rintro E w4 ⟨⟨v1, rfl, hO1⟩, hb4⟩; have hs4 : W3.heap.size ≤ w4.heap.size := (by have q := hb4.size; simpa using q); have r00 := (hb4.cell (p := ⟨w.heap.size, 0, none⟩) (by simpa using l0)).trans (show _ = some (Value.slice (some ⟨g, 0, none⟩) N c) by simp [go_sem, q00]); have r01 := (hb4.cell (p := ⟨w.heap.size, 1, none⟩) (by simpa using l0)).trans (show _ = some (Value.int .i64 T) by simp [go_sem, q01]); have r10 := (hb4.cell (p := ⟨w.heap.size + 1, 0, none⟩) (by simpa using l1)).trans (show _ = some (Value.slice none 0 0) by simp [go_sem, q10]); have r11 := (hb4.cell (p := ⟨w.heap.size + 1, 1, none⟩) (by simpa using l1)).trans (show _ = some (Value.int .i64 0) by simp [go_sem, q11]); have r20 := (hb4.cell (p := ⟨w.heap.size + 1 + 1, 0, none⟩) (by simpa using l2)).trans (show _ = some (Value.int .i64 0) by simp [go_sem, q20]); have r21 := (hb4.cell (p := ⟨w.heap.size + 1 + 1, 1, none⟩) (by simpa using l2)).trans (show _ = some (Value.int .i64 0) by simp [go_sem, q21]); have r22 := (hb4.cell (p := ⟨w.heap.size + 1 + 1, 2, none⟩) (by simpa using l2)).trans (show _ = some (Value.int .i64 0) by simp [go_sem, q22]); have r23 := (hb4.cell (p := ⟨w.heap.size + 1 + 1, 3, none⟩) (by simpa using l2)).trans (show _ = some (Value.int .i64 0) by simp [go_sem, q23]); have k0 := (hb4.cell (p := ⟨g, 0, none⟩) (by simpa using hgl)).trans (show _ = some (Value.int .i64 y0) by simp [go_sem, j0]); have k1 := (hb4.cell (p := ⟨g, 1, none⟩) (by simpa using hgl)).trans (show _ = some (Value.int .i64 y1) by simp [go_sem, j1]); have k2 := (hb4.cell (p := ⟨g, 2, none⟩) (by simpa using hgl)).trans (show _ = some (Value.int .i64 y2) by simp [go_sem, j2]); have k3 := (hb4.cell (p := ⟨g, 3, none⟩) (by simpa using hgl)).trans (show _ = some (Value.int .i64 y3) by simp [go_sem, j3]); have rz1 := fun o => (hb4.frozen (p := ⟨w.heap.size + 1, o, none⟩) (by simpa using l1)).trans (show _ = false by simp [go_sem, qz1]); have rz2 := fun o => (hb4.frozen (p := ⟨w.heap.size + 1 + 1, o, none⟩) (by simpa using l2)).trans (show _ = false by simp [go_sem, qz2]); have m0 : w.heap.size < w4.heap.size := (by omega); have m1 : w.heap.size + 1 < w4.heap.size := (by omega); have m2 : w.heap.size + 1 + 1 < w4.heap.size := (by omega); have B4 := hidd (show Below w.heap.size w w4 by refine Below.trans ?_ (hb4.mono (by first | omega | (simp; omega))); have b := B3.out; (repeat' (first | (with_reducible exact Below.refl _ _) | (with_reducible assumption) | (with_reducible apply Below.setCell) | (with_reducible apply Below.alloc) | (with_reducible apply Below.drew) | (with_reducible apply below_drewN) | (with_reducible refine Below.trans ?_ (Below.mono (by assumption) ?_)) | omega | (simp; done) | (simp; omega)))); have hgl4 : g < w4.heap.size := (by omega); obtain ⟨A', c', hv', _⟩ := OwnL.lie hO1 itV_len; subst hv'; have HNE := hidd (fun q (e : (Value.slice A' MW.length c').ownBlock = some q) => (show W3.heap.size ≤ q by have := (OwnL.lt hO1 q e).1; simpa using this)); have HO1 := hidd hO1; clear hO1 hb4; obtain ⟨l, hl⟩ : ∃ l, MW.length = l := ⟨_, rfl⟩; rw [hl] at HNE HO1 ⊢; clear hl))
  all_goals
    have hl4 : w.heap.size + 1 + 1 < w4.heap.size := by omega
    have BW4 := B4.out.size
    clear q00 q01 q10 q11 q20 q21 q22 q23 qz1 qz2 j0 j1 j2 j3
    go_wp2_with fail
    refine bodyPost_ret (v := .tuple #[.agg #[.slice A' l c', .int .i64 T], .agg #[.int .i64 y0, .int .i64 y1, .int .i64 y2, .int .i64 y3], .bool true]) (by simp [results, Try.results29, go_sem, *]) rfl ⟨⟨_, rfl, ?_⟩, ?_⟩
    · exact OwnL.base' (OwnL.to HO1.out (fun q e => heap_set6 _ _ _ _ _ _ _ _ _ (by have := HNE.out q e; omega) (by have := HNE.out q e; omega))) _ (by first | omega | (simp; omega))
    · refine Below.trans B4.out ?_
      (repeat' (first | (with_reducible exact Below.refl _ _) | (with_reducible assumption) | (with_reducible apply Below.setCell) | (with_reducible apply Below.alloc) | (with_reducible apply Below.drew) | (with_reducible apply below_drewN) | (with_reducible refine Below.trans ?_ (Below.mono (by assumption) ?_)) | omega | (simp; done) | (simp; omega)))
end Go.Proofs.Ytnjkfpjccedkjaa.Hp
