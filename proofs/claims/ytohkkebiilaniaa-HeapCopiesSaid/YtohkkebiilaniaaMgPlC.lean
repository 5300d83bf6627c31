/- Texts that the claim hangs on, in one. -/
import Derived.Test.YtohkkebiilaniaaMgPlA
import Derived.Test.YtohkkebiilaniaaHpQ
/- Heaps: the document's Put, Set, Drop, Take. -/
namespace Go.Proofs.Ytohkkebiilaniaa.Hp
set_option linter.unusedVariables false
open Go.RowKit Go.Maps Go.Sort Go.Proofs.Ytohkkebiilaniaa.Tp

set_option maxRecDepth 100000 in
set_option maxHeartbeats 8000000 in
theorem rput_bad (v : Value) (M : List It) (T id n d : Int) (h0 : -9223372036854775808 ≤ n) (h1 : n ≤ 9223372036854775807) (h2 : -9223372036854775808 ≤ d) (h3 : d ≤ 9223372036854775807) (hb : mayB id n d = false) (w : World) (H : RL w v M) :
    Calls Try.prog 21 #[.agg #[v, .int .i64 T], .int .i64 id, .agg #[.int .i64 n, .int .i64 d]] w fun e w' => e = .returned (.tuple #[.agg #[v, .int .i64 T], .int .i64 2]) ∧ Below w.heap.size w w' := by
  obtain ⟨A, c, hv, _⟩ := OwnL.lie H itV_len
  subst hv
  have cm := hidd (fun W => may_any id n d h0 h1 h2 h3 W)
  rw [hb] at cm
  clear H
  generalize M.length = N at *
  go_enter Try.func21, Try.ntmps21
  go_wp2_with fail
  refine (cm.out _).mono ?_
  rintro e w1 ⟨rfl, hb1⟩
  obtain ⟨bc, bf⟩ := bcell hb1
  have hs := hb1.size
  have l2 : w.heap.size + 1 + 1 < w1.heap.size := by simp at hs; omega
  have l0 : w.heap.size < w1.heap.size := by omega
  have l1 : w.heap.size + 1 < w1.heap.size := by omega
  go_wp2_with fail
  exact bodyPost_ret (v := .tuple #[.agg #[.slice A N c, .int .i64 T], .int .i64 2]) (by simp [results, Try.results21, go_sem, *]) rfl ⟨rfl, by (repeat' (first | (with_reducible exact Below.refl _ _) | (with_reducible assumption) | (with_reducible apply Below.setCell) | (with_reducible apply Below.alloc) | (with_reducible apply Below.drew) | (with_reducible apply below_drewN) | (with_reducible refine Below.trans ?_ (Below.mono (by assumption) ?_)) | omega | (simp; done) | (simp; omega)))⟩
set_option maxRecDepth 100000 in
set_option maxHeartbeats 8000000 in
theorem rput_twice (v : Value) (M : List It) (T id n d : Int) (h0 : -9223372036854775808 ≤ n) (h1 : n ≤ 9223372036854775807) (h2 : -9223372036854775808 ≤ d) (h3 : d ≤ 9223372036854775807) (hb : mayB id n d = true) (hp : 0 ≤ posI M id) (hm : M.length ≤ 1000000) (w : World) (H : RL w v M) :
    Calls Try.prog 21 #[.agg #[v, .int .i64 T], .int .i64 id, .agg #[.int .i64 n, .int .i64 d]] w fun e w' => e = .returned (.tuple #[.agg #[v, .int .i64 T], .int .i64 210]) ∧ Below w.heap.size w w' := by
  obtain ⟨A, c, hv, _⟩ := OwnL.lie H itV_len
  subst hv
  have cm := hidd (fun W => may_any id n d h0 h1 h2 h3 W)
  rw [hb] at cm
  have cF := hidd (fun W H => find11_any (.slice A M.length c) M T id hm W H)
  have HH := hidd H
  clear H
  generalize posI M id = P at *
  generalize hN : M.length = N at *
  clear hN
  go_enter Try.func21, Try.ntmps21
  go_wp2_with fail
  refine (cm.out _).mono ?_
  rintro e w1 ⟨rfl, hb1⟩
  obtain ⟨bc, bf⟩ := bcell hb1
  have hs := hb1.size
  have l2 : w.heap.size + 1 + 1 < w1.heap.size := by simp at hs; omega
  have l0 : w.heap.size < w1.heap.size := by omega
  have l1 : w.heap.size + 1 < w1.heap.size := by omega
  have B1 : Hid (Below w.heap.size w w1) := hidd (by (repeat' (first | (with_reducible exact Below.refl _ _) | (with_reducible assumption) | (with_reducible apply Below.setCell) | (with_reducible apply Below.alloc) | (with_reducible apply Below.drew) | (with_reducible apply below_drewN) | (with_reducible refine Below.trans ?_ (Below.mono (by assumption) ?_)) | omega | (simp; done) | (simp; omega))))
  go_wp2_with fail
  refine (cF.out _ (HH.out.below B1.out)).mono ?_
  rintro e w2 ⟨rfl, hb2⟩
  obtain ⟨bc2, bf2⟩ := bcell hb2
  have hs2 := hb2.size
  have k2 : w.heap.size + 1 + 1 < w2.heap.size := by omega
  have k0 : w.heap.size < w2.heap.size := by omega
  have k1 : w.heap.size + 1 < w2.heap.size := by omega
  have e0 : w2.cell? ⟨w.heap.size, 0, none⟩ = some (.slice A N c) := (bc2 _ _ l0).trans ((bc _ _ (by simp; omega)).trans (by simp [go_sem]))
  have e1 : w2.cell? ⟨w.heap.size, 1, none⟩ = some (.int .i64 T) := (bc2 _ _ l0).trans ((bc _ _ (by simp; omega)).trans (by simp [go_sem]))
  have f0 : w2.cell? ⟨w.heap.size + 1 + 1, 0, none⟩ = some (.slice none 0 0) := (bc2 _ _ l2).trans ((bc _ _ (by simp)).trans (by simp [go_sem]))
  have f1 : w2.cell? ⟨w.heap.size + 1 + 1, 1, none⟩ = some (.int .i64 0) := (bc2 _ _ l2).trans ((bc _ _ (by simp)).trans (by simp [go_sem]))
  have ff : ∀ o, w2.frozen? ⟨w.heap.size + 1 + 1, o, none⟩ = false := fun o => (bf2 _ _ l2).trans ((bf _ _ (by simp)).trans (by simp [go_sem]))
  have B2 : Hid (Below w.heap.size w w2) := hidd (B1.out.trans (hb2.mono B1.out.size))
  clear bc bf bc2 bf2 hb1 hb2
  go_wp2_with fail
  have BB := B2.out
  exact bodyPost_ret (v := .tuple #[.agg #[.slice A N c, .int .i64 T], .int .i64 210]) (by simp [results, Try.results21, go_sem, *]) rfl ⟨rfl, by (repeat' (first | (with_reducible exact Below.refl _ _) | (with_reducible assumption) | (with_reducible apply Below.setCell) | (with_reducible apply Below.alloc) | (with_reducible apply Below.drew) | (with_reducible apply below_drewN) | (with_reducible refine Below.trans ?_ (Below.mono (by assumption) ?_)) | omega | (simp; done) | (simp; omega)))⟩
set_option maxRecDepth 100000 in
set_option maxHeartbeats 8000000 in
theorem rput_ok (v : Value) (M : List It) (T id n d : Int) (h0 : -9223372036854775808 ≤ n) (h1 : n ≤ 9223372036854775807) (h2 : -9223372036854775808 ≤ d) (h3 : d ≤ 9223372036854775807) (hb : mayB id n d = true) (hp : posI M id = -1) (hm : M.length < 100000) (hT0 : 0 ≤ T) (hT1 : T < 1000000) (hM : OkL M) (w : World) (H : RL w v M) :
    Calls Try.prog 21 #[.agg #[v, .int .i64 T], .int .i64 id, .agg #[.int .i64 n, .int .i64 d]] w fun e w' => (∃ v' k, k ≤ M.length ∧ (∀ j, j < k → ¬ Lt (id, n, d, T + 1) (gI M j)) ∧ (k < M.length → Lt (id, n, d, T + 1) (gI M k)) ∧ e = .returned (.tuple #[.agg #[v', .int .i64 (T + 1)], .int .i64 0]) ∧ OwnL itV 4 w' w.heap.size 37 v' (putA M (id, n, d, T + 1) k)) ∧ Below w.heap.size w w' := by
  obtain ⟨A, c, hv, _⟩ := OwnL.lie H itV_len
  subst hv
  have cm := hidd (fun W => may_any id n d h0 h1 h2 h3 W)
  rw [hb] at cm
  have hr := (mayB_iff _ _ _).1 hb
  have okx : OkI (id, n, d, T + 1) := ⟨h0, h1, h2, h3, hr.2.2, hr.1, hr.2.1, by show 0 ≤ T + 1; omega, by show T + 1 ≤ 1000000; omega⟩
  have cF := hidd (fun W H => find11_any (.slice A M.length c) M T id (by omega) W H)
  rw [hp] at cF
  have hw1 : IntKind.i64.wrap (T + 1) = T + 1 := by rw [IntKind.wrap_i64]; omega
  have cL := hidd (fun W H => lay_any (.slice A M.length c) M (T + 1) (id, n, d, T + 1) okx hM (by omega) W H)
  have zl : ¬ (100000 : Int) ≤ (M.length : Int) := by omega
  have zl2 : decide ((100000 : Int) ≤ (M.length : Int)) = false := decide_eq_false zl
  have HH := hidd H
  obtain ⟨T1, hT⟩ : ∃ T1, T + 1 = T1 := ⟨_, rfl⟩
  rw [hT] at hw1 cL ⊢
  have hw2 : IntKind.i64.wrap (T + 1) = T1 := by rw [IntKind.wrap_i64]; omega
  clear H hm zl okx hr hb hp hM hT hw1 hT0 hT1 h0 h1 h2 h3
  unfold iD kN kD tN at cL
  generalize hN : M.length = N at *
  have HN := hidd hN
  clear hN
  go_enter Try.func21, Try.ntmps21
  go_wp2_with fail
  refine (cm.out _).mono ?_
  rintro e w1 ⟨rfl, hb1⟩
  obtain ⟨bc, bf⟩ := bcell hb1
  have hs := hb1.size
  have l2 : w.heap.size + 1 + 1 < w1.heap.size := by simp at hs; omega
  have l0 : w.heap.size < w1.heap.size := by omega
  have l1 : w.heap.size + 1 < w1.heap.size := by omega
  have B1 : Hid (Below w.heap.size w w1) := hidd (by (repeat' (first | (with_reducible exact Below.refl _ _) | (with_reducible assumption) | (with_reducible apply Below.setCell) | (with_reducible apply Below.alloc) | (with_reducible apply Below.drew) | (with_reducible apply below_drewN) | (with_reducible refine Below.trans ?_ (Below.mono (by assumption) ?_)) | omega | (simp; done) | (simp; omega))))
  go_wp2_with fail
  refine (cF.out _ (HH.out.below B1.out)).mono ?_
  rintro e w2 ⟨rfl, hb2⟩
  obtain ⟨bc2, bf2⟩ := bcell hb2
  have hs2 := hb2.size
  have k2 : w.heap.size + 1 + 1 < w2.heap.size := by omega
  have k0 : w.heap.size < w2.heap.size := by omega
  have k1 : w.heap.size + 1 < w2.heap.size := by omega
  have e0 : w2.cell? ⟨w.heap.size, 0, none⟩ = some (.slice A N c) := (bc2 _ _ l0).trans ((bc _ _ (by simp; omega)).trans (by simp [go_sem]))
  have e1 : w2.cell? ⟨w.heap.size, 1, none⟩ = some (.int .i64 T) := (bc2 _ _ l0).trans ((bc _ _ (by simp; omega)).trans (by simp [go_sem]))
  have ef : ∀ o, w2.frozen? ⟨w.heap.size, o, none⟩ = false := fun o => (bf2 _ _ l0).trans ((bf _ _ (by simp; omega)).trans (by simp [go_sem]))
  have g0 : w2.cell? ⟨w.heap.size + 1, 0, none⟩ = some (.int .i64 n) := (bc2 _ _ l1).trans ((bc _ _ (by simp)).trans (by simp [go_sem]))
  have g1 : w2.cell? ⟨w.heap.size + 1, 1, none⟩ = some (.int .i64 d) := (bc2 _ _ l1).trans ((bc _ _ (by simp)).trans (by simp [go_sem]))
  have f0 : w2.cell? ⟨w.heap.size + 1 + 1, 0, none⟩ = some (.slice none 0 0) := (bc2 _ _ l2).trans ((bc _ _ (by simp)).trans (by simp [go_sem]))
  have f1 : w2.cell? ⟨w.heap.size + 1 + 1, 1, none⟩ = some (.int .i64 0) := (bc2 _ _ l2).trans ((bc _ _ (by simp)).trans (by simp [go_sem]))
  have ff : ∀ o, w2.frozen? ⟨w.heap.size + 1 + 1, o, none⟩ = false := fun o => (bf2 _ _ l2).trans ((bf _ _ (by simp)).trans (by simp [go_sem]))
  have B2 : Hid (Below w.heap.size w w2) := hidd (B1.out.trans (hb2.mono B1.out.size))
  clear bc bf bc2 bf2 hb1 hb2
  have B3 : Hid (Below w.heap.size w (w2.setCell ⟨w.heap.size, 1, none⟩ (.int .i64 T1))) := hidd (by have b := B2.out; (repeat' (first | (with_reducible exact Below.refl _ _) | (with_reducible assumption) | (with_reducible apply Below.setCell) | (with_reducible apply Below.alloc) | (with_reducible apply Below.drew) | (with_reducible apply below_drewN) | (with_reducible refine Below.trans ?_ (Below.mono (by assumption) ?_)) | omega | (simp; done) | (simp; omega))))
  have f0' : (w2.setCell ⟨w.heap.size, 1, none⟩ (.int .i64 T1)).cell? ⟨w.heap.size + 1 + 1, 0, none⟩ = some (.slice none 0 0) := by simp [go_sem, f0]
  have f1' : (w2.setCell ⟨w.heap.size, 1, none⟩ (.int .i64 T1)).cell? ⟨w.heap.size + 1 + 1, 1, none⟩ = some (.int .i64 0) := by simp [go_sem, f1]
  have ff' : ∀ o, (w2.setCell ⟨w.heap.size, 1, none⟩ (.int .i64 T1)).frozen? ⟨w.heap.size + 1 + 1, o, none⟩ = false := fun o => by rw [World.frozen?_setCell]; exact ff o
  have k2' : w.heap.size + 1 + 1 < (w2.setCell ⟨w.heap.size, 1, none⟩ (.int .i64 T1)).heap.size := by simp [World.setCell]; omega
  go_wp2_with fail
  refine (cL.out _ (HH.out.below B3.out)).mono ?_
  rintro e w4 ⟨⟨v', k, hk, hno, hyes, rfl, hO⟩, hb4⟩
  obtain ⟨A', c', hv', _⟩ := OwnL.lie hO itV_len
  subst hv'
  have p0 := (hb4.cell (p := ⟨w.heap.size + 1 + 1, 0, none⟩) k2').trans f0'
  have p1 := (hb4.cell (p := ⟨w.heap.size + 1 + 1, 1, none⟩) k2').trans f1'
  have pf := fun o => (hb4.frozen (p := ⟨w.heap.size + 1 + 1, o, none⟩) k2').trans (ff' o)
  have hs4 : w2.heap.size ≤ w4.heap.size := by have := hb4.size; simpa [World.setCell] using this
  have B4 := hidd (B3.out.trans (hb4.mono B3.out.size))
  have HP := hidd (⟨hk, hno, hyes⟩ : k ≤ N ∧ _ ∧ _)
  have hne : ∀ q, (Value.slice A' (putA M (id, n, d, T1) k).length c').ownBlock = some q → w2.heap.size ≤ q := fun q e => by have := (OwnL.lt hO q e).1; simpa [World.setCell] using this
  have HO := hidd hO
  have HNE := hidd hne
  clear hk hno hyes hO hb4 hne e0 e1 ef g0 g1 f0 f1 ff f0' f1' ff' k2'
  generalize hl : (putA M (id, n, d, T1) k).length = l at *
  clear hl
  go_wp2_with fail
  have BW : Below w.heap.size w4 ((w4.setCell ⟨w.heap.size + 1 + 1, 0, none⟩ (.slice A' l c')).setCell ⟨w.heap.size + 1 + 1, 1, none⟩ (.int .i64 T1)) := by (repeat' (first | (with_reducible exact Below.refl _ _) | (with_reducible assumption) | (with_reducible apply Below.setCell) | (with_reducible apply Below.alloc) | (with_reducible apply Below.drew) | (with_reducible apply below_drewN) | (with_reducible refine Below.trans ?_ (Below.mono (by assumption) ?_)) | omega | (simp; done) | (simp; omega)))
  have hO' : OwnL itV 4 ((w4.setCell ⟨w.heap.size + 1 + 1, 0, none⟩ (.slice A' l c')).setCell ⟨w.heap.size + 1 + 1, 1, none⟩ (.int .i64 T1)) w.heap.size 37 (.slice A' l c') (putA M (id, n, d, T1) k) := OwnL.base' (OwnL.to HO.out (fun q e => by have hq := HNE.out q e; rw [Below.heap_setCell _ _ _ _ (by show q ≠ w.heap.size + 1 + 1; omega), Below.heap_setCell _ _ _ _ (by show q ≠ w.heap.size + 1 + 1; omega)])) _ (by simp [World.setCell]; omega)
  exact bodyPost_ret (v := .tuple #[.agg #[.slice A' l c', .int .i64 T1], .int .i64 0]) (by simp [results, Try.results21, go_sem, *]) rfl ⟨⟨_, k, HP.out.1, HP.out.2.1, HP.out.2.2, rfl, hO'⟩, B4.out.trans BW⟩
set_option maxRecDepth 100000 in
set_option maxHeartbeats 8000000 in
theorem rset_bad (v : Value) (M : List It) (T id n d : Int) (h0 : -9223372036854775808 ≤ n) (h1 : n ≤ 9223372036854775807) (h2 : -9223372036854775808 ≤ d) (h3 : d ≤ 9223372036854775807) (hb : mayB id n d = false) (hm : M.length ≤ 1000000) (w : World) (H : RL w v M) :
    Calls Try.prog 22 #[.agg #[v, .int .i64 T], .int .i64 id, .agg #[.int .i64 n, .int .i64 d]] w fun e w' => e = .returned (.tuple #[.agg #[v, .int .i64 T], .int .i64 2]) ∧ Below w.heap.size w w' := by
  obtain ⟨A, c, hv, _⟩ := OwnL.lie H itV_len
  subst hv
  have cm := hidd (fun W => may_any id n d h0 h1 h2 h3 W)
  rw [hb] at cm
  have cF := hidd (fun W H => find11_any (.slice A M.length c) M T id hm W H)
  have HH := hidd (fun W b => H.below (W' := W) b)
  clear H
  generalize posI M id = P at *
  generalize hN : M.length = N at *
  clear hN
  go_enter Try.func22, Try.ntmps22
  go_wp2_with fail
  refine (cF.out _ (HH.out _ (by (repeat' (first | (with_reducible exact Below.refl _ _) | (with_reducible assumption) | (with_reducible apply Below.setCell) | (with_reducible apply Below.alloc) | (with_reducible apply Below.drew) | (with_reducible apply below_drewN) | (with_reducible refine Below.trans ?_ (Below.mono (by assumption) ?_)) | omega | (simp; done) | (simp; omega)))))).mono ?_
  rintro e w1 ⟨rfl, hb1⟩
  obtain ⟨bc, bf⟩ := bcell hb1
  have hs := hb1.size
  have l2 : w.heap.size + 1 + 1 < w1.heap.size := by simp at hs; omega
  have l0 : w.heap.size < w1.heap.size := by omega
  have l1 : w.heap.size + 1 < w1.heap.size := by omega
  have B1 : Hid (Below w.heap.size w w1) := hidd (by (repeat' (first | (with_reducible exact Below.refl _ _) | (with_reducible assumption) | (with_reducible apply Below.setCell) | (with_reducible apply Below.alloc) | (with_reducible apply Below.drew) | (with_reducible apply below_drewN) | (with_reducible refine Below.trans ?_ (Below.mono (by assumption) ?_)) | omega | (simp; done) | (simp; omega))))
  have e00 : w1.cell? ⟨w.heap.size, 0, none⟩ = some (.slice A N c) := (bc _ _ (by first | (simp; done) | (simp; omega))).trans (by simp [go_sem])
  have e01 : w1.cell? ⟨w.heap.size, 1, none⟩ = some (.int .i64 T) := (bc _ _ (by first | (simp; done) | (simp; omega))).trans (by simp [go_sem])
  have e10 : w1.cell? ⟨w.heap.size + 1, 0, none⟩ = some (.int .i64 n) := (bc _ _ (by first | (simp; done) | (simp; omega))).trans (by simp [go_sem])
  have e11 : w1.cell? ⟨w.heap.size + 1, 1, none⟩ = some (.int .i64 d) := (bc _ _ (by first | (simp; done) | (simp; omega))).trans (by simp [go_sem])
  have e20 : w1.cell? ⟨w.heap.size + 1 + 1, 0, none⟩ = some (.slice none 0 0) := (bc _ _ (by first | (simp; done) | (simp; omega))).trans (by simp [go_sem])
  have e21 : w1.cell? ⟨w.heap.size + 1 + 1, 1, none⟩ = some (.int .i64 0) := (bc _ _ (by first | (simp; done) | (simp; omega))).trans (by simp [go_sem])
  have z2 : ∀ o, w1.frozen? ⟨w.heap.size + 1 + 1, o, none⟩ = false := fun o => (bf _ _ (by first | (simp; done) | (simp; omega))).trans (by simp [go_sem])
  clear bc bf hb1 hs
  go_wp2_with fail
  refine (cm.out _).mono ?_
  rintro e w2 ⟨rfl, hb2⟩
  have hs := hb2.size
  replace e00 := (hb2.cell (p := ⟨w.heap.size, 0, none⟩) l0).trans e00
  replace e01 := (hb2.cell (p := ⟨w.heap.size, 1, none⟩) l0).trans e01
  replace e10 := (hb2.cell (p := ⟨w.heap.size + 1, 0, none⟩) l1).trans e10
  replace e11 := (hb2.cell (p := ⟨w.heap.size + 1, 1, none⟩) l1).trans e11
  replace e20 := (hb2.cell (p := ⟨w.heap.size + 1 + 1, 0, none⟩) l2).trans e20
  replace e21 := (hb2.cell (p := ⟨w.heap.size + 1 + 1, 1, none⟩) l2).trans e21
  replace z2 := fun o => (hb2.frozen (p := ⟨w.heap.size + 1 + 1, o, none⟩) l2).trans (z2 o)
  replace l0 : w.heap.size < w2.heap.size := by omega
  replace l1 : w.heap.size + 1 < w2.heap.size := by omega
  replace l2 : w.heap.size + 1 + 1 < w2.heap.size := by omega
  have B2 : Hid (Below w.heap.size w w2) := hidd (B1.out.trans (hb2.mono B1.out.size))
  clear hs hb2
  go_wp2_with fail
  have BB := B2.out
  exact bodyPost_ret (v := .tuple #[.agg #[.slice A N c, .int .i64 T], .int .i64 2]) (by simp [results, Try.results22, go_sem, *]) rfl ⟨rfl, by (repeat' (first | (with_reducible exact Below.refl _ _) | (with_reducible assumption) | (with_reducible apply Below.setCell) | (with_reducible apply Below.alloc) | (with_reducible apply Below.drew) | (with_reducible apply below_drewN) | (with_reducible refine Below.trans ?_ (Below.mono (by assumption) ?_)) | omega | (simp; done) | (simp; omega)))⟩
set_option maxRecDepth 100000 in
set_option maxHeartbeats 8000000 in
theorem rset_none (v : Value) (M : List It) (T id n d : Int) (h0 : -9223372036854775808 ≤ n) (h1 : n ≤ 9223372036854775807) (h2 : -9223372036854775808 ≤ d) (h3 : d ≤ 9223372036854775807) (hb : mayB id n d = true) (hp : posI M id = -1) (hm : M.length ≤ 1000000) (w : World) (H : RL w v M) :
    Calls Try.prog 22 #[.agg #[v, .int .i64 T], .int .i64 id, .agg #[.int .i64 n, .int .i64 d]] w fun e w' => e = .returned (.tuple #[.agg #[v, .int .i64 T], .int .i64 5]) ∧ Below w.heap.size w w' := by
  obtain ⟨A, c, hv, _⟩ := OwnL.lie H itV_len
  subst hv
  have cm := hidd (fun W => may_any id n d h0 h1 h2 h3 W)
  rw [hb] at cm
  have cF := hidd (fun W H => find11_any (.slice A M.length c) M T id hm W H)
  rw [hp] at cF
  have HH := hidd (fun W b => H.below (W' := W) b)
  clear H
  generalize posI M id = P at *
  generalize hN : M.length = N at *
  clear hN
  go_enter Try.func22, Try.ntmps22
  go_wp2_with fail
  refine (cF.out _ (HH.out _ (by (repeat' (first | (with_reducible exact Below.refl _ _) | (with_reducible assumption) | (with_reducible apply Below.setCell) | (with_reducible apply Below.alloc) | (with_reducible apply Below.drew) | (with_reducible apply below_drewN) | (with_reducible refine Below.trans ?_ (Below.mono (by assumption) ?_)) | omega | (simp; done) | (simp; omega)))))).mono ?_
  rintro e w1 ⟨rfl, hb1⟩
  obtain ⟨bc, bf⟩ := bcell hb1
  have hs := hb1.size
  have l2 : w.heap.size + 1 + 1 < w1.heap.size := by simp at hs; omega
  have l0 : w.heap.size < w1.heap.size := by omega
  have l1 : w.heap.size + 1 < w1.heap.size := by omega
  have B1 : Hid (Below w.heap.size w w1) := hidd (by (repeat' (first | (with_reducible exact Below.refl _ _) | (with_reducible assumption) | (with_reducible apply Below.setCell) | (with_reducible apply Below.alloc) | (with_reducible apply Below.drew) | (with_reducible apply below_drewN) | (with_reducible refine Below.trans ?_ (Below.mono (by assumption) ?_)) | omega | (simp; done) | (simp; omega))))
  have e00 : w1.cell? ⟨w.heap.size, 0, none⟩ = some (.slice A N c) := (bc _ _ (by first | (simp; done) | (simp; omega))).trans (by simp [go_sem])
  have e01 : w1.cell? ⟨w.heap.size, 1, none⟩ = some (.int .i64 T) := (bc _ _ (by first | (simp; done) | (simp; omega))).trans (by simp [go_sem])
  have e10 : w1.cell? ⟨w.heap.size + 1, 0, none⟩ = some (.int .i64 n) := (bc _ _ (by first | (simp; done) | (simp; omega))).trans (by simp [go_sem])
  have e11 : w1.cell? ⟨w.heap.size + 1, 1, none⟩ = some (.int .i64 d) := (bc _ _ (by first | (simp; done) | (simp; omega))).trans (by simp [go_sem])
  have e20 : w1.cell? ⟨w.heap.size + 1 + 1, 0, none⟩ = some (.slice none 0 0) := (bc _ _ (by first | (simp; done) | (simp; omega))).trans (by simp [go_sem])
  have e21 : w1.cell? ⟨w.heap.size + 1 + 1, 1, none⟩ = some (.int .i64 0) := (bc _ _ (by first | (simp; done) | (simp; omega))).trans (by simp [go_sem])
  have z2 : ∀ o, w1.frozen? ⟨w.heap.size + 1 + 1, o, none⟩ = false := fun o => (bf _ _ (by first | (simp; done) | (simp; omega))).trans (by simp [go_sem])
  clear bc bf hb1 hs
  go_wp2_with fail
  refine (cm.out _).mono ?_
  rintro e w2 ⟨rfl, hb2⟩
  have hs := hb2.size
  replace e00 := (hb2.cell (p := ⟨w.heap.size, 0, none⟩) l0).trans e00
  replace e01 := (hb2.cell (p := ⟨w.heap.size, 1, none⟩) l0).trans e01
  replace e10 := (hb2.cell (p := ⟨w.heap.size + 1, 0, none⟩) l1).trans e10
  replace e11 := (hb2.cell (p := ⟨w.heap.size + 1, 1, none⟩) l1).trans e11
  replace e20 := (hb2.cell (p := ⟨w.heap.size + 1 + 1, 0, none⟩) l2).trans e20
  replace e21 := (hb2.cell (p := ⟨w.heap.size + 1 + 1, 1, none⟩) l2).trans e21
  replace z2 := fun o => (hb2.frozen (p := ⟨w.heap.size + 1 + 1, o, none⟩) l2).trans (z2 o)
  replace l0 : w.heap.size < w2.heap.size := by omega
  replace l1 : w.heap.size + 1 < w2.heap.size := by omega
  replace l2 : w.heap.size + 1 + 1 < w2.heap.size := by omega
  have B2 : Hid (Below w.heap.size w w2) := hidd (B1.out.trans (hb2.mono B1.out.size))
  clear hs hb2
  go_wp2_with fail
  have BB := B2.out
  exact bodyPost_ret (v := .tuple #[.agg #[.slice A N c, .int .i64 T], .int .i64 5]) (by simp [results, Try.results22, go_sem, *]) rfl ⟨rfl, by (repeat' (first | (with_reducible exact Below.refl _ _) | (with_reducible assumption) | (with_reducible apply Below.setCell) | (with_reducible apply Below.alloc) | (with_reducible apply Below.drew) | (with_reducible apply below_drewN) | (with_reducible refine Below.trans ?_ (Below.mono (by assumption) ?_)) | omega | (simp; done) | (simp; omega)))⟩
set_option maxRecDepth 100000 in
set_option maxHeartbeats 8000000 in
theorem rdrop_none (v : Value) (M : List It) (T id : Int) (hp : posI M id = -1) (hm : M.length ≤ 1000000) (w : World) (H : RL w v M) :
    Calls Try.prog 23 #[.agg #[v, .int .i64 T], .int .i64 id] w fun e w' => e = .returned (.tuple #[.agg #[v, .int .i64 T], .int .i64 5]) ∧ Below w.heap.size w w' := by
  obtain ⟨A, c, hv, _⟩ := OwnL.lie H itV_len
  subst hv
  have cF := hidd (fun W H => find11_any (.slice A M.length c) M T id hm W H)
  rw [hp] at cF
  have HH := hidd (fun W b => H.below (W' := W) b)
  clear H
  generalize hN : M.length = N at *
  clear hN
  go_enter Try.func23, Try.ntmps23
  go_wp2_with fail
  refine (cF.out _ (HH.out _ (by (repeat' (first | (with_reducible exact Below.refl _ _) | (with_reducible assumption) | (with_reducible apply Below.setCell) | (with_reducible apply Below.alloc) | (with_reducible apply Below.drew) | (with_reducible apply below_drewN) | (with_reducible refine Below.trans ?_ (Below.mono (by assumption) ?_)) | omega | (simp; done) | (simp; omega)))))).mono ?_
  rintro e w1 ⟨rfl, hb1⟩
  obtain ⟨bc, bf⟩ := bcell hb1
  have hs := hb1.size
  have l1 : w.heap.size + 1 < w1.heap.size := by simp at hs; omega
  have l0 : w.heap.size < w1.heap.size := by omega
  have B1 : Hid (Below w.heap.size w w1) := hidd (by (repeat' (first | (with_reducible exact Below.refl _ _) | (with_reducible assumption) | (with_reducible apply Below.setCell) | (with_reducible apply Below.alloc) | (with_reducible apply Below.drew) | (with_reducible apply below_drewN) | (with_reducible refine Below.trans ?_ (Below.mono (by assumption) ?_)) | omega | (simp; done) | (simp; omega))))
  have e00 : w1.cell? ⟨w.heap.size, 0, none⟩ = some (.slice A N c) := (bc _ _ (by first | (simp; done) | (simp; omega))).trans (by simp [go_sem])
  have e01 : w1.cell? ⟨w.heap.size, 1, none⟩ = some (.int .i64 T) := (bc _ _ (by first | (simp; done) | (simp; omega))).trans (by simp [go_sem])
  have e10 : w1.cell? ⟨w.heap.size + 1, 0, none⟩ = some (.slice none 0 0) := (bc _ _ (by first | (simp; done) | (simp; omega))).trans (by simp [go_sem])
  have e11 : w1.cell? ⟨w.heap.size + 1, 1, none⟩ = some (.int .i64 0) := (bc _ _ (by first | (simp; done) | (simp; omega))).trans (by simp [go_sem])
  have z1 : ∀ o, w1.frozen? ⟨w.heap.size + 1, o, none⟩ = false := fun o => (bf _ _ (by first | (simp; done) | (simp; omega))).trans (by simp [go_sem])
  clear bc bf hb1 hs
  go_wp2_with fail
  have BB := B1.out
  exact bodyPost_ret (v := .tuple #[.agg #[.slice A N c, .int .i64 T], .int .i64 5]) (by simp [results, Try.results23, go_sem, *]) rfl ⟨rfl, by (repeat' (first | (with_reducible exact Below.refl _ _) | (with_reducible assumption) | (with_reducible apply Below.setCell) | (with_reducible apply Below.alloc) | (with_reducible apply Below.drew) | (with_reducible apply below_drewN) | (with_reducible refine Below.trans ?_ (Below.mono (by assumption) ?_)) | omega | (simp; done) | (simp; omega)))⟩
set_option maxRecDepth 100000 in
set_option maxHeartbeats 8000000 in
theorem rdrop_ok (v : Value) (M : List It) (T id : Int) (i : Nat) (hi : i < M.length) (hp : posI M id = (i : Int)) (hm : M.length ≤ 1000000) (w : World) (H : RL w v M) :
    Calls Try.prog 23 #[.agg #[v, .int .i64 T], .int .i64 id] w fun e w' => (∃ v', e = .returned (.tuple #[.agg #[v', .int .i64 T], .int .i64 0]) ∧ OwnL itV 4 w' w.heap.size 37 v' (wo M i)) ∧ Below w.heap.size w w' := by
  obtain ⟨A, c, hv, _⟩ := OwnL.lie H itV_len
  subst hv
  have cF := hidd (fun W H => find11_any (.slice A M.length c) M T id hm W H)
  rw [hp] at cF
  have cW := hidd (fun W H => without_any (.slice A M.length c) M T i hi hm W H)
  have HH := hidd (fun W b => H.below (W' := W) b)
  have zi : ¬ (i : Int) < 0 := by omega
  clear H
  generalize hN : M.length = N at *
  clear hN
  go_enter Try.func23, Try.ntmps23
  go_wp2_with fail
  refine (cF.out _ (HH.out _ (by (repeat' (first | (with_reducible exact Below.refl _ _) | (with_reducible assumption) | (with_reducible apply Below.setCell) | (with_reducible apply Below.alloc) | (with_reducible apply Below.drew) | (with_reducible apply below_drewN) | (with_reducible refine Below.trans ?_ (Below.mono (by assumption) ?_)) | omega | (simp; done) | (simp; omega)))))).mono ?_
  rintro e w1 ⟨rfl, hb1⟩
  obtain ⟨bc, bf⟩ := bcell hb1
  have hs := hb1.size
  have l1 : w.heap.size + 1 < w1.heap.size := by simp at hs; omega
  have l0 : w.heap.size < w1.heap.size := by omega
  have B1 : Hid (Below w.heap.size w w1) := hidd (by (repeat' (first | (with_reducible exact Below.refl _ _) | (with_reducible assumption) | (with_reducible apply Below.setCell) | (with_reducible apply Below.alloc) | (with_reducible apply Below.drew) | (with_reducible apply below_drewN) | (with_reducible refine Below.trans ?_ (Below.mono (by assumption) ?_)) | omega | (simp; done) | (simp; omega))))
  have e00 : w1.cell? ⟨w.heap.size, 0, none⟩ = some (.slice A N c) := (bc _ _ (by first | (simp; done) | (simp; omega))).trans (by simp [go_sem])
  have e01 : w1.cell? ⟨w.heap.size, 1, none⟩ = some (.int .i64 T) := (bc _ _ (by first | (simp; done) | (simp; omega))).trans (by simp [go_sem])
  have e10 : w1.cell? ⟨w.heap.size + 1, 0, none⟩ = some (.slice none 0 0) := (bc _ _ (by first | (simp; done) | (simp; omega))).trans (by simp [go_sem])
  have e11 : w1.cell? ⟨w.heap.size + 1, 1, none⟩ = some (.int .i64 0) := (bc _ _ (by first | (simp; done) | (simp; omega))).trans (by simp [go_sem])
  have z1 : ∀ o, w1.frozen? ⟨w.heap.size + 1, o, none⟩ = false := fun o => (bf _ _ (by first | (simp; done) | (simp; omega))).trans (by simp [go_sem])
  clear bc bf hb1 hs
  go_wp2_with fail
  refine (cW.out _ (HH.out _ B1.out)).mono ?_
  rintro e w2 ⟨⟨v', rfl, hO⟩, hb2⟩
  have k1 : w.heap.size + 1 < w1.heap.size := l1
  have hs := hb2.size
  replace e00 := (hb2.cell (p := ⟨w.heap.size, 0, none⟩) l0).trans e00
  replace e01 := (hb2.cell (p := ⟨w.heap.size, 1, none⟩) l0).trans e01
  replace e10 := (hb2.cell (p := ⟨w.heap.size + 1, 0, none⟩) l1).trans e10
  replace e11 := (hb2.cell (p := ⟨w.heap.size + 1, 1, none⟩) l1).trans e11
  replace z1 := fun o => (hb2.frozen (p := ⟨w.heap.size + 1, o, none⟩) l1).trans (z1 o)
  replace l0 : w.heap.size < w2.heap.size := by omega
  replace l1 : w.heap.size + 1 < w2.heap.size := by omega
  have B2 : Hid (Below w.heap.size w w2) := hidd (B1.out.trans (hb2.mono B1.out.size))
  clear hs hb2
  obtain ⟨A', c', hv', _⟩ := OwnL.lie hO itV_len
  subst hv'
  have HO := hidd hO
  have HNE := hidd (fun q (e : (Value.slice A' (wo M i).length c').ownBlock = some q) => (OwnL.lt hO q e).1)
  have HS1 := B1.out.size
  have hsz : Hid (w.heap.size + 1 < w1.heap.size) := hidd k1
  clear hO
  generalize hl : (wo M i).length = l at *
  clear hl
  go_wp2_with fail
  have BW : Below w.heap.size w2 ((w2.setCell ⟨w.heap.size + 1, 0, none⟩ (.slice A' l c')).setCell ⟨w.heap.size + 1, 1, none⟩ (.int .i64 T)) := by (repeat' (first | (with_reducible exact Below.refl _ _) | (with_reducible assumption) | (with_reducible apply Below.setCell) | (with_reducible apply Below.alloc) | (with_reducible apply Below.drew) | (with_reducible apply below_drewN) | (with_reducible refine Below.trans ?_ (Below.mono (by assumption) ?_)) | omega | (simp; done) | (simp; omega)))
  have hO' : OwnL itV 4 ((w2.setCell ⟨w.heap.size + 1, 0, none⟩ (.slice A' l c')).setCell ⟨w.heap.size + 1, 1, none⟩ (.int .i64 T)) w.heap.size 37 (.slice A' l c') (wo M i) := OwnL.base' (OwnL.to HO.out (fun q e => by have hq := HNE.out q e; have := hsz.out; rw [Below.heap_setCell _ _ _ _ (by show q ≠ w.heap.size + 1; omega), Below.heap_setCell _ _ _ _ (by show q ≠ w.heap.size + 1; omega)])) _ (by omega)
  exact bodyPost_ret (v := .tuple #[.agg #[.slice A' l c', .int .i64 T], .int .i64 0]) (by simp [results, Try.results23, go_sem, *]) rfl ⟨⟨_, rfl, hO'⟩, B2.out.trans BW⟩
set_option maxRecDepth 100000 in
set_option maxHeartbeats 8000000 in
theorem rtake_nil (v : Value) (T : Int) (w : World) (H : RL w v []) :
    Calls Try.prog 25 #[.agg #[v, .int .i64 T]] w fun e w' => e = .returned (.tuple #[.agg #[v, .int .i64 T], agI zI, .bool false]) ∧ Below w.heap.size w w' := by
  obtain ⟨A, c, hv, _⟩ := OwnL.lie H itV_len
  subst hv
  clear H
  go_enter Try.func25, Try.ntmps25
  go_wp2_with fail
  exact bodyPost_ret (v := .tuple #[.agg #[.slice A 0 c, .int .i64 T], agI zI, .bool false]) (by simp [results, Try.results25, go_sem, agI, zI, iD, kN, kD, tN]) rfl ⟨rfl, by (repeat' (first | (with_reducible exact Below.refl _ _) | (with_reducible assumption) | (with_reducible apply Below.setCell) | (with_reducible apply Below.alloc) | (with_reducible apply Below.drew) | (with_reducible apply below_drewN) | (with_reducible refine Below.trans ?_ (Below.mono (by assumption) ?_)) | omega | (simp; done) | (simp; omega)))⟩
theorem heap_set2 (W : World) (p o o' : Nat) (v v' : Value) {q : Nat} (h : q ≠ p) : ((W.setCell ⟨p, o, none⟩ v).setCell ⟨p, o', none⟩ v').heap[q]? = W.heap[q]? := by
  rw [Below.heap_setCell _ _ _ _ h, Below.heap_setCell _ _ _ _ h]
set_option maxRecDepth 100000 in
set_option maxHeartbeats 8000000 in
theorem rset_ok (v : Value) (M : List It) (T id n d : Int) (h0 : -9223372036854775808 ≤ n) (h1 : n ≤ 9223372036854775807) (h2 : -9223372036854775808 ≤ d) (h3 : d ≤ 9223372036854775807) (hb : mayB id n d = true) (i : Nat) (hi : i < M.length) (hp : posI M id = (i : Int)) (hm : M.length ≤ 1000000) (hM : OkL M) (w : World) (H : RL w v M) :
    Calls Try.prog 22 #[.agg #[v, .int .i64 T], .int .i64 id, .agg #[.int .i64 n, .int .i64 d]] w fun e w' => (∃ v' k, k ≤ (wo M i).length ∧ (∀ j, j < k → ¬ Lt (keyed (gI M i) n d) (gI (wo M i) j)) ∧ (k < (wo M i).length → Lt (keyed (gI M i) n d) (gI (wo M i) k)) ∧ e = .returned (.tuple #[.agg #[v', .int .i64 T], .int .i64 0]) ∧ OwnL itV 4 w' w.heap.size 37 v' (putA (wo M i) (keyed (gI M i) n d) k)) ∧ Below w.heap.size w w' := by
  obtain ⟨g, c, hv, _, hg, _⟩ := OwnL.form H (by omega)
  subst hv
  obtain ⟨i0, i1, i2, i3⟩ := OwnL.item H hi
  have cm := hidd (fun W => may_any id n d h0 h1 h2 h3 W)
  rw [hb] at cm
  have hr := ((mayB_iff _ _ _).1 hb).2.2
  have cF := hidd (fun W H => find11_any (.slice (some ⟨g, 0, none⟩) M.length c) M T id hm W H)
  rw [hp] at cF
  have cW := hidd (fun W H => without_any (.slice (some ⟨g, 0, none⟩) M.length c) M T i hi hm W H)
  have okw : OkL (wo M i) := fun y hy => by
    unfold wo at hy
    rcases List.mem_append.1 hy with q | q
    · exact hM y (List.mem_of_mem_take q)
    · exact hM y (List.mem_of_mem_drop q)
  have cL := hidd (fun v W H => lay_any v (wo M i) T (keyed (gI M i) n d) (keyed_ok (hM.at_ hi) h0 h1 h2 h3 hr) okw (by rw [wo_len hi]; omega) W H)
  rw [show iD (keyed (gI M i) n d) = iD (gI M i) from rfl, show kN (keyed (gI M i) n d) = n from rfl, show kD (keyed (gI M i) n d) = d from rfl, show tN (keyed (gI M i) n d) = tN (gI M i) from rfl] at cL
  have HH := hidd (fun W b => H.below (W' := W) b)
  have zi : ¬ (i : Int) < 0 := by omega
  have z1 : (0 : Int) ≤ (i : Int) := by omega
  have z2 : (i : Int) < (M.length : Int) := by omega
  clear H hb hr hM okw h0 h1 h2 h3
  generalize keyed (gI M i) n d = X at *
  generalize wo M i = MW at *
  generalize iD (gI M i) = y0 at *
  generalize kN (gI M i) = y1 at *
  generalize kD (gI M i) = y2 at *
  generalize tN (gI M i) = y3 at *
  generalize hN : M.length = N at *
  clear hN
  go_enter Try.func22, Try.ntmps22
  go_wp2_with fail
  refine (cF.out _ (HH.out _ (by (repeat' (first | (with_reducible exact Below.refl _ _) | (with_reducible assumption) | (with_reducible apply Below.setCell) | (with_reducible apply Below.alloc) | (with_reducible apply Below.drew) | (with_reducible apply below_drewN) | (with_reducible refine Below.trans ?_ (Below.mono (by assumption) ?_)) | omega | (simp; done) | (simp; omega)))))).mono ?_
  rintro e w1 ⟨rfl, hb1⟩
  obtain ⟨bc, bf⟩ := bcell hb1
  have hs := hb1.size
  have l2 : w.heap.size + 1 + 1 < w1.heap.size := by simp at hs; omega
  have l0 : w.heap.size < w1.heap.size := by omega
  have l1 : w.heap.size + 1 < w1.heap.size := by omega
  have B1 : Hid (Below w.heap.size w w1) := hidd (by (repeat' (first | (with_reducible exact Below.refl _ _) | (with_reducible assumption) | (with_reducible apply Below.setCell) | (with_reducible apply Below.alloc) | (with_reducible apply Below.drew) | (with_reducible apply below_drewN) | (with_reducible refine Below.trans ?_ (Below.mono (by assumption) ?_)) | omega | (simp; done) | (simp; omega))))
  have e00 : w1.cell? ⟨w.heap.size, 0, none⟩ = some (.slice (some ⟨g, 0, none⟩) N c) := (bc _ _ (by first | (simp; done) | (simp; omega))).trans (by simp [go_sem])
  have e01 : w1.cell? ⟨w.heap.size, 1, none⟩ = some (.int .i64 T) := (bc _ _ (by first | (simp; done) | (simp; omega))).trans (by simp [go_sem])
  have e10 : w1.cell? ⟨w.heap.size + 1, 0, none⟩ = some (.int .i64 n) := (bc _ _ (by first | (simp; done) | (simp; omega))).trans (by simp [go_sem])
  have e11 : w1.cell? ⟨w.heap.size + 1, 1, none⟩ = some (.int .i64 d) := (bc _ _ (by first | (simp; done) | (simp; omega))).trans (by simp [go_sem])
  have e20 : w1.cell? ⟨w.heap.size + 1 + 1, 0, none⟩ = some (.slice none 0 0) := (bc _ _ (by first | (simp; done) | (simp; omega))).trans (by simp [go_sem])
  have e21 : w1.cell? ⟨w.heap.size + 1 + 1, 1, none⟩ = some (.int .i64 0) := (bc _ _ (by first | (simp; done) | (simp; omega))).trans (by simp [go_sem])
  have z2 : ∀ o, w1.frozen? ⟨w.heap.size + 1 + 1, o, none⟩ = false := fun o => (bf _ _ (by first | (simp; done) | (simp; omega))).trans (by simp [go_sem])
  clear bc bf hb1 hs
  go_wp2_with fail
  refine (cm.out _).mono ?_
  rintro e w2 ⟨rfl, hb2⟩
  have hs := hb2.size
  replace e00 := (hb2.cell (p := ⟨w.heap.size, 0, none⟩) l0).trans e00
  replace e01 := (hb2.cell (p := ⟨w.heap.size, 1, none⟩) l0).trans e01
  replace e10 := (hb2.cell (p := ⟨w.heap.size + 1, 0, none⟩) l1).trans e10
  replace e11 := (hb2.cell (p := ⟨w.heap.size + 1, 1, none⟩) l1).trans e11
  replace e20 := (hb2.cell (p := ⟨w.heap.size + 1 + 1, 0, none⟩) l2).trans e20
  replace e21 := (hb2.cell (p := ⟨w.heap.size + 1 + 1, 1, none⟩) l2).trans e21
  replace z2 := fun o => (hb2.frozen (p := ⟨w.heap.size + 1 + 1, o, none⟩) l2).trans (z2 o)
  replace l0 : w.heap.size < w2.heap.size := by omega
  replace l1 : w.heap.size + 1 < w2.heap.size := by omega
  replace l2 : w.heap.size + 1 + 1 < w2.heap.size := by omega
  have B2 : Hid (Below w.heap.size w w2) := hidd (B1.out.trans (hb2.mono B1.out.size))
  clear hs hb2
  have z2' := z2
  clear z2
  have j0 := (B2.out.cell (p := ⟨g, i * 4, none⟩) hg).trans i0
  have j1 := (B2.out.cell (p := ⟨g, i * 4 + 1, none⟩) hg).trans i1
  have j2 := (B2.out.cell (p := ⟨g, i * 4 + 2, none⟩) hg).trans i2
  have j3 := (B2.out.cell (p := ⟨g, i * 4 + 3, none⟩) hg).trans i3
  have hgl : g < w2.heap.size := Nat.lt_of_lt_of_le hg B2.out.size
  go_wp2_with fail
  obtain ⟨W3, hW3⟩ : ∃ W3, w2.alloc (.cells #[.int .i64 y0, .int .i64 n, .int .i64 d, .int .i64 y3] 37) = W3 := ⟨_, rfl⟩
  rw [hW3]
  have x0 : W3.cell? ⟨w2.heap.size, 0, none⟩ = some (.int .i64 y0) := by rw [← hW3]; simp [go_sem]
  have x1 : W3.cell? ⟨w2.heap.size, 1, none⟩ = some (.int .i64 n) := by rw [← hW3]; simp [go_sem]
  have x2 : W3.cell? ⟨w2.heap.size, 2, none⟩ = some (.int .i64 d) := by rw [← hW3]; simp [go_sem]
  have x3 : W3.cell? ⟨w2.heap.size, 3, none⟩ = some (.int .i64 y3) := by rw [← hW3]; simp [go_sem]
  have q00 : W3.cell? ⟨w.heap.size, 0, none⟩ = some (.slice (some ⟨g, 0, none⟩) N c) := by rw [← hW3]; simp [go_sem, e00, l0]
  have q01 : W3.cell? ⟨w.heap.size, 1, none⟩ = some (.int .i64 T) := by rw [← hW3]; simp [go_sem, e01, l0]
  have q20 : W3.cell? ⟨w.heap.size + 1 + 1, 0, none⟩ = some (.slice none 0 0) := by rw [← hW3]; simp [go_sem, e20, l2]
  have q21 : W3.cell? ⟨w.heap.size + 1 + 1, 1, none⟩ = some (.int .i64 0) := by rw [← hW3]; simp [go_sem, e21, l2]
  have qz : ∀ o, W3.frozen? ⟨w.heap.size + 1 + 1, o, none⟩ = false := fun o => by rw [← hW3]; simp [go_sem, z2', l2]
  have hs3 : w2.heap.size < W3.heap.size := by rw [← hW3]; simp
  have B3 : Hid (Below w.heap.size w W3) := hidd (by have b := B2.out; rw [← hW3]; (repeat' (first | (with_reducible exact Below.refl _ _) | (with_reducible assumption) | (with_reducible apply Below.setCell) | (with_reducible apply Below.alloc) | (with_reducible apply Below.drew) | (with_reducible apply below_drewN) | (with_reducible refine Below.trans ?_ (Below.mono (by assumption) ?_)) | omega | (simp; done) | (simp; omega))))
  have l23 : w.heap.size + 1 + 1 < W3.heap.size := by omega
  have l03 : w.heap.size < W3.heap.size := by omega
  have HR3 := hidd (HH.out _ B3.out)
  clear hW3 e00 e01 e10 e11 e20 e21 z2' j0 j1 j2 j3 cm cF i0 i1 i2 i3
  go_region_law (first
    | (go_simp; go_at_call 41; refine (cW.out _ (HR3.out.below (by (repeat' (first | (with_reducible exact Below.refl _ _) | (with_reducible assumption) | (with_reducible apply Below.setCell) | (with_reducible apply Below.alloc) | (with_reducible apply Below.drew) | (with_reducible apply below_drewN) | (with_reducible refine Below.trans ?_ (Below.mono (by assumption) ?_)) | omega | (simp; done) | (simp; omega)))))).mono ?_; rintro E w4 ⟨⟨v1, rfl, hO1⟩, hb4⟩; have hs4 : W3.heap.size ≤ w4.heap.size := (by have q := hb4.size; simpa using q); have a0 := (hb4.cell (p := ⟨w2.heap.size, 0, none⟩) (by simpa using hs3)).trans (show _ = some (Value.int .i64 y0) by simp [go_sem, x0]); have a1 := (hb4.cell (p := ⟨w2.heap.size, 1, none⟩) (by simpa using hs3)).trans (show _ = some (Value.int .i64 n) by simp [go_sem, x1]); have a2 := (hb4.cell (p := ⟨w2.heap.size, 2, none⟩) (by simpa using hs3)).trans (show _ = some (Value.int .i64 d) by simp [go_sem, x2]); have a3 := (hb4.cell (p := ⟨w2.heap.size, 3, none⟩) (by simpa using hs3)).trans (show _ = some (Value.int .i64 y3) by simp [go_sem, x3]); have r20 := (hb4.cell (p := ⟨w.heap.size + 1 + 1, 0, none⟩) (by simpa using l23)).trans (show _ = some (Value.slice none 0 0) by simp [go_sem, q20]); have r21 := (hb4.cell (p := ⟨w.heap.size + 1 + 1, 1, none⟩) (by simpa using l23)).trans (show _ = some (Value.int .i64 0) by simp [go_sem, q21]); have rz := fun o => (hb4.frozen (p := ⟨w.heap.size + 1 + 1, o, none⟩) (by simpa using l23)).trans (show _ = false by simp [go_sem, qz]); have B4 := hidd (show Below w.heap.size w w4 by refine Below.trans ?_ (hb4.mono (by simp; omega)); have b := B3.out; (repeat' (first | (with_reducible exact Below.refl _ _) | (with_reducible assumption) | (with_reducible apply Below.setCell) | (with_reducible apply Below.alloc) | (with_reducible apply Below.drew) | (with_reducible apply below_drewN) | (with_reducible refine Below.trans ?_ (Below.mono (by assumption) ?_)) | omega | (simp; done) | (simp; omega)))); have HO1 := hidd hO1; clear hO1 hb4)
    | (go_simp; go_at_call 40; refine (cL.out v1 _ (RL.below (OwnL.base' HO1.out 0 (by omega)) (by (repeat' (first | (with_reducible exact Below.refl _ _) | (with_reducible assumption) | (with_reducible apply Below.setCell) | (with_reducible apply Below.alloc) | (with_reducible apply Below.drew) | (with_reducible apply below_drewN) | (with_reducible refine Below.trans ?_ (Below.mono (by assumption) ?_)) | omega | (simp; done) | (simp; omega)))))).mono ?_; rintro E w5 ⟨⟨v2, k, hk, hno, hyes, rfl, hO2⟩, hb5⟩; have hs5 : w4.heap.size ≤ w5.heap.size := (by have q := hb5.size; simpa using q); have l24 : w.heap.size + 1 + 1 < w4.heap.size := (by omega); have s20 := (hb5.cell (p := ⟨w.heap.size + 1 + 1, 0, none⟩) (by simpa using l24)).trans (show _ = some (Value.slice none 0 0) by simp [go_sem, r20]); have s21 := (hb5.cell (p := ⟨w.heap.size + 1 + 1, 1, none⟩) (by simpa using l24)).trans (show _ = some (Value.int .i64 0) by simp [go_sem, r21]); have sz := fun o => (hb5.frozen (p := ⟨w.heap.size + 1 + 1, o, none⟩) (by simpa using l24)).trans (show _ = false by simp [go_sem, rz]); have B5 := hidd (show Below w.heap.size w w5 by refine Below.trans ?_ (hb5.mono (by first | omega | (simp; omega))); have b := B4.out; (repeat' (first | (with_reducible exact Below.refl _ _) | (with_reducible assumption) | (with_reducible apply Below.setCell) | (with_reducible apply Below.alloc) | (with_reducible apply Below.drew) | (with_reducible apply below_drewN) | (with_reducible refine Below.trans ?_ (Below.mono (by assumption) ?_)) | omega | (simp; done) | (simp; omega)))); obtain ⟨A', c', hv', _⟩ := OwnL.lie hO2 itV_len; subst hv'; have HNE := hidd (fun q (e : (Value.slice A' (putA MW X k).length c').ownBlock = some q) => (show w4.heap.size ≤ q by have := (OwnL.lt hO2 q e).1; simpa using this)); have HO2 := hidd hO2; have HP := hidd (⟨hk, hno, hyes⟩ : k ≤ MW.length ∧ _ ∧ _); clear hO2 hb5 hk hno hyes; obtain ⟨l, hl⟩ : ∃ l, (putA MW X k).length = l := ⟨_, rfl⟩; rw [hl] at HNE HO2 ⊢; clear hl))
  all_goals
    have hl4 : w.heap.size + 1 + 1 < w4.heap.size := by omega
    have hl5 : w.heap.size + 1 + 1 < w5.heap.size := by omega
    clear x0 x1 x2 x3 q00 q01 q20 q21 qz r20 r21 rz a0 a1 a2 a3
    go_wp2_with fail
    refine bodyPost_ret (v := .tuple #[.agg #[.slice A' l c', .int .i64 T], .int .i64 0]) (by simp [results, Try.results22, go_sem, *]) rfl ⟨⟨_, k, HP.out.1, HP.out.2.1, HP.out.2.2, rfl, ?_⟩, ?_⟩
    · exact OwnL.base' (OwnL.to HO2.out (fun q e => heap_set2 _ _ _ _ _ _ (by have := HNE.out q e; omega))) _ (by have := B5.out.size; have := B4.out.size; first | omega | (simp; omega))
    · refine Below.trans B5.out ?_
      (repeat' (first | (with_reducible exact Below.refl _ _) | (with_reducible assumption) | (with_reducible apply Below.setCell) | (with_reducible apply Below.alloc) | (with_reducible apply Below.drew) | (with_reducible apply below_drewN) | (with_reducible refine Below.trans ?_ (Below.mono (by assumption) ?_)) | omega | (simp; done) | (simp; omega)))
theorem heap_set6 (W : World) (p q : Nat) (v0 v1 u0 u1 u2 u3 : Value) {k : Nat} (h : k ≠ p) (h2 : k ≠ q) : ((((((W.setCell ⟨p, 0, none⟩ v0).setCell ⟨p, 1, none⟩ v1).setCell ⟨q, 0, none⟩ u0).setCell ⟨q, 1, none⟩ u1).setCell ⟨q, 2, none⟩ u2).setCell ⟨q, 3, none⟩ u3).heap[k]? = W.heap[k]? := by
  rw [Below.heap_setCell _ _ _ _ h2, Below.heap_setCell _ _ _ _ h2, Below.heap_setCell _ _ _ _ h2, Below.heap_setCell _ _ _ _ h2, Below.heap_setCell _ _ _ _ h, Below.heap_setCell _ _ _ _ h]
set_option maxRecDepth 100000 in
set_option maxHeartbeats 8000000 in
theorem rtake_ok (v : Value) (M : List It) (T : Int) (hn : 0 < M.length) (hm : M.length ≤ 1000000) (w : World) (H : RL w v M) :
    Calls Try.prog 25 #[.agg #[v, .int .i64 T]] w fun e w' => (∃ v', e = .returned (.tuple #[.agg #[v', .int .i64 T], agI (gI M 0), .bool true]) ∧ OwnL itV 4 w' w.heap.size 37 v' (wo M 0)) ∧ Below w.heap.size w w' := by
  obtain ⟨g, c, hv, _, hg, _⟩ := OwnL.form H (by omega)
  subst hv
  obtain ⟨i0, i1, i2, i3⟩ := OwnL.item H hn
  simp only [Nat.zero_mul, Nat.zero_add] at i0 i1 i2 i3
  have cW := hidd (fun W H => without_any (.slice (some ⟨g, 0, none⟩) M.length c) M T 0 hn hm W H)
  have HH := hidd (fun W b => H.below (W' := W) b)
  have z0 : ¬ (M.length : Int) = 0 := by omega
  have z2 : (0 : Int) < (M.length : Int) := by omega
  unfold agI
  clear H
  generalize wo M 0 = MW at *
  generalize iD (gI M 0) = y0 at *
  generalize kN (gI M 0) = y1 at *
  generalize kD (gI M 0) = y2 at *
  generalize tN (gI M 0) = y3 at *
  generalize hN : M.length = N at *
  clear hN
  go_enter Try.func25, Try.ntmps25
  go_wp2_with fail
  obtain ⟨W3, hW3⟩ : ∃ W3, ((w.alloc (.cells #[.slice (some ⟨g, 0, none⟩) N c, .int .i64 T] 28)).alloc (.cells #[.slice none 0 0, .int .i64 0] 28)).alloc (.cells #[.int .i64 0, .int .i64 0, .int .i64 0, .int .i64 0] 37) = W3 := ⟨_, rfl⟩
  rw [hW3]
  have q00 : W3.cell? ⟨w.heap.size, 0, none⟩ = some (.slice (some ⟨g, 0, none⟩) N c) := by rw [← hW3]; simp [go_sem]
  have q01 : W3.cell? ⟨w.heap.size, 1, none⟩ = some (.int .i64 T) := by rw [← hW3]; simp [go_sem]
  have q10 : W3.cell? ⟨w.heap.size + 1, 0, none⟩ = some (.slice none 0 0) := by rw [← hW3]; simp [go_sem]
  have q11 : W3.cell? ⟨w.heap.size + 1, 1, none⟩ = some (.int .i64 0) := by rw [← hW3]; simp [go_sem]
  have q20 : W3.cell? ⟨w.heap.size + 1 + 1, 0, none⟩ = some (.int .i64 0) := by rw [← hW3]; simp [go_sem]
  have q21 : W3.cell? ⟨w.heap.size + 1 + 1, 1, none⟩ = some (.int .i64 0) := by rw [← hW3]; simp [go_sem]
  have q22 : W3.cell? ⟨w.heap.size + 1 + 1, 2, none⟩ = some (.int .i64 0) := by rw [← hW3]; simp [go_sem]
  have q23 : W3.cell? ⟨w.heap.size + 1 + 1, 3, none⟩ = some (.int .i64 0) := by rw [← hW3]; simp [go_sem]
  have qz1 : ∀ o, W3.frozen? ⟨w.heap.size + 1, o, none⟩ = false := fun o => by rw [← hW3]; simp [go_sem]
  have qz2 : ∀ o, W3.frozen? ⟨w.heap.size + 1 + 1, o, none⟩ = false := fun o => by rw [← hW3]; simp [go_sem]
  have l2 : w.heap.size + 1 + 1 < W3.heap.size := by rw [← hW3]; simp
  have l1 : w.heap.size + 1 < W3.heap.size := by omega
  have l0 : w.heap.size < W3.heap.size := by omega
  have B3 : Hid (Below w.heap.size w W3) := hidd (by rw [← hW3]; (repeat' (first | (with_reducible exact Below.refl _ _) | (with_reducible assumption) | (with_reducible apply Below.setCell) | (with_reducible apply Below.alloc) | (with_reducible apply Below.drew) | (with_reducible apply below_drewN) | (with_reducible refine Below.trans ?_ (Below.mono (by assumption) ?_)) | omega | (simp; done) | (simp; omega))))
  have hgl : g < W3.heap.size := Nat.lt_of_lt_of_le hg B3.out.size
  have j0 := (B3.out.cell (p := ⟨g, 0, none⟩) hg).trans i0
  have j1 := (B3.out.cell (p := ⟨g, 1, none⟩) hg).trans i1
  have j2 := (B3.out.cell (p := ⟨g, 2, none⟩) hg).trans i2
  have j3 := (B3.out.cell (p := ⟨g, 3, none⟩) hg).trans i3
  have HR3 := hidd (HH.out _ B3.out)
  clear hW3 i0 i1 i2 i3
  go_region_law (first
    | (go_simp; go_at_call 41; refine (cW.out _ (HR3.out.below (by (repeat' (first | (with_reducible exact Below.refl _ _) | (with_reducible assumption) | (with_reducible apply Below.setCell) | (with_reducible apply Below.alloc) | (with_reducible apply Below.drew) | (with_reducible apply below_drewN) | (with_reducible refine Below.trans ?_ (Below.mono (by assumption) ?_)) | omega | (simp; done) | (simp; omega)))))).mono ?_; rintro E w4 ⟨⟨v1, rfl, hO1⟩, hb4⟩; have hs4 : W3.heap.size ≤ w4.heap.size := (by have q := hb4.size; simpa using q); have r00 := (hb4.cell (p := ⟨w.heap.size, 0, none⟩) (by simpa using l0)).trans (show _ = some (Value.slice (some ⟨g, 0, none⟩) N c) by simp [go_sem, q00]); have r01 := (hb4.cell (p := ⟨w.heap.size, 1, none⟩) (by simpa using l0)).trans (show _ = some (Value.int .i64 T) by simp [go_sem, q01]); have r10 := (hb4.cell (p := ⟨w.heap.size + 1, 0, none⟩) (by simpa using l1)).trans (show _ = some (Value.slice none 0 0) by simp [go_sem, q10]); have r11 := (hb4.cell (p := ⟨w.heap.size + 1, 1, none⟩) (by simpa using l1)).trans (show _ = some (Value.int .i64 0) by simp [go_sem, q11]); have r20 := (hb4.cell (p := ⟨w.heap.size + 1 + 1, 0, none⟩) (by simpa using l2)).trans (show _ = some (Value.int .i64 0) by simp [go_sem, q20]); have r21 := (hb4.cell (p := ⟨w.heap.size + 1 + 1, 1, none⟩) (by simpa using l2)).trans (show _ = some (Value.int .i64 0) by simp [go_sem, q21]); have r22 := (hb4.cell (p := ⟨w.heap.size + 1 + 1, 2, none⟩) (by simpa using l2)).trans (show _ = some (Value.int .i64 0) by simp [go_sem, q22]); have r23 := (hb4.cell (p := ⟨w.heap.size + 1 + 1, 3, none⟩) (by simpa using l2)).trans (show _ = some (Value.int .i64 0) by simp [go_sem, q23]); have k0 := (hb4.cell (p := ⟨g, 0, none⟩) (by simpa using hgl)).trans (show _ = some (Value.int .i64 y0) by simp [go_sem, j0]); have k1 := (hb4.cell (p := ⟨g, 1, none⟩) (by simpa using hgl)).trans (show _ = some (Value.int .i64 y1) by simp [go_sem, j1]); have k2 := (hb4.cell (p := ⟨g, 2, none⟩) (by simpa using hgl)).trans (show _ = some (Value.int .i64 y2) by simp [go_sem, j2]); have k3 := (hb4.cell (p := ⟨g, 3, none⟩) (by simpa using hgl)).trans (show _ = some (Value.int .i64 y3) by simp [go_sem, j3]); have rz1 := fun o => (hb4.frozen (p := ⟨w.heap.size + 1, o, none⟩) (by simpa using l1)).trans (show _ = false by simp [go_sem, qz1]); have rz2 := fun o => (hb4.frozen (p := ⟨w.heap.size + 1 + 1, o, none⟩) (by simpa using l2)).trans (show _ = false by simp [go_sem, qz2]); have m0 : w.heap.size < w4.heap.size := (by omega); have m1 : w.heap.size + 1 < w4.heap.size := (by omega); have m2 : w.heap.size + 1 + 1 < w4.heap.size := (by omega); have B4 := hidd (show Below w.heap.size w w4 by refine Below.trans ?_ (hb4.mono (by first | omega | (simp; omega))); have b := B3.out; (repeat' (first | (with_reducible exact Below.refl _ _) | (with_reducible assumption) | (with_reducible apply Below.setCell) | (with_reducible apply Below.alloc) | (with_reducible apply Below.drew) | (with_reducible apply below_drewN) | (with_reducible refine Below.trans ?_ (Below.mono (by assumption) ?_)) | omega | (simp; done) | (simp; omega)))); have hgl4 : g < w4.heap.size := (by omega); obtain ⟨A', c', hv', _⟩ := OwnL.lie hO1 itV_len; subst hv'; have HNE := hidd (fun q (e : (Value.slice A' MW.length c').ownBlock = some q) => (show W3.heap.size ≤ q by have := (OwnL.lt hO1 q e).1; simpa using this)); have HO1 := hidd hO1; clear hO1 hb4; obtain ⟨l, hl⟩ : ∃ l, MW.length = l := ⟨_, rfl⟩; rw [hl] at HNE HO1 ⊢; clear hl))
  all_goals
    have hl4 : w.heap.size + 1 + 1 < w4.heap.size := by omega
    have BW4 := B4.out.size
    clear q00 q01 q10 q11 q20 q21 q22 q23 qz1 qz2 j0 j1 j2 j3
    go_wp2_with fail
    refine bodyPost_ret (v := .tuple #[.agg #[.slice A' l c', .int .i64 T], .agg #[.int .i64 y0, .int .i64 y1, .int .i64 y2, .int .i64 y3], .bool true]) (by simp [results, Try.results25, go_sem, *]) rfl ⟨⟨_, rfl, ?_⟩, ?_⟩
    · exact OwnL.base' (OwnL.to HO1.out (fun q e => heap_set6 _ _ _ _ _ _ _ _ _ (by have := HNE.out q e; omega) (by have := HNE.out q e; omega))) _ (by first | omega | (simp; omega))
    · refine Below.trans B4.out ?_
      (repeat' (first | (with_reducible exact Below.refl _ _) | (with_reducible assumption) | (with_reducible apply Below.setCell) | (with_reducible apply Below.alloc) | (with_reducible apply Below.drew) | (with_reducible apply below_drewN) | (with_reducible refine Below.trans ?_ (Below.mono (by assumption) ?_)) | omega | (simp; done) | (simp; omega)))
end Go.Proofs.Ytohkkebiilaniaa.Hp

/- Heaps: each call of the law's, of the heap and of the document's list, in one contract each. -/
namespace Go.Proofs.Ytohkkebiilaniaa.Hp
set_option linter.unusedVariables false
open Go.RowKit Go.Maps Go.Sort Go.Proofs.Ytohkkebiilaniaa.Tp

def Has (M : List It) (id : Int) : Prop := ∃ x ∈ M, iD x = id
def HPut (M : List It) (T id n d : Int) (M' : List It) (T' er : Int) : Prop :=
  (mayB id n d = false ∧ M' = M ∧ T' = T ∧ er = 2) ∨ (mayB id n d = true ∧ Has M id ∧ M' = M ∧ T' = T ∧ er = 210) ∨ (mayB id n d = true ∧ ¬ Has M id ∧ M' = M ++ [(id, n, d, T + 1)] ∧ T' = T + 1 ∧ er = 0)
def HSet (M : List It) (id n d : Int) (M' : List It) (er : Int) : Prop :=
  (mayB id n d = false ∧ M' = M ∧ er = 2) ∨ (mayB id n d = true ∧ ¬ Has M id ∧ M' = M ∧ er = 5) ∨ (mayB id n d = true ∧ ∃ x ∈ M, iD x = id ∧ M' = M.erase x ++ [keyed x n d] ∧ er = 0)
def HDrop (M : List It) (id : Int) (M' : List It) (er : Int) : Prop :=
  (¬ Has M id ∧ M' = M ∧ er = 5) ∨ (∃ x ∈ M, iD x = id ∧ M' = M.erase x ∧ er = 0)
def HTake (M : List It) (M' : List It) (y : It) (is : Bool) : Prop :=
  (M = [] ∧ M' = [] ∧ y = zI ∧ is = false) ∨ (MinOf M y ∧ M' = M.erase y ∧ is = true)
/-- where an item is laid. -/
def At (G : List It) (x : It) (k : Nat) : Prop := k ≤ G.length ∧ (∀ j, j < k → ¬ Lt x (gI G j)) ∧ (k < G.length → Lt x (gI G k))
def RPut (G : List It) (T id n d : Int) (G' : List It) (T' er : Int) : Prop :=
  (mayB id n d = false ∧ G' = G ∧ T' = T ∧ er = 2) ∨ (mayB id n d = true ∧ Has G id ∧ G' = G ∧ T' = T ∧ er = 210) ∨ (mayB id n d = true ∧ ¬ Has G id ∧ (∃ k, At G (id, n, d, T + 1) k ∧ G' = putA G (id, n, d, T + 1) k) ∧ T' = T + 1 ∧ er = 0)
def RSet (G : List It) (id n d : Int) (G' : List It) (er : Int) : Prop :=
  (mayB id n d = false ∧ G' = G ∧ er = 2) ∨ (mayB id n d = true ∧ ¬ Has G id ∧ G' = G ∧ er = 5) ∨ (mayB id n d = true ∧ (∃ i k, i < G.length ∧ iD (gI G i) = id ∧ At (wo G i) (keyed (gI G i) n d) k ∧ G' = putA (wo G i) (keyed (gI G i) n d) k) ∧ er = 0)
def RDrop (G : List It) (id : Int) (G' : List It) (er : Int) : Prop :=
  (¬ Has G id ∧ G' = G ∧ er = 5) ∨ ((∃ i, i < G.length ∧ iD (gI G i) = id ∧ G' = wo G i) ∧ er = 0)
def RTake (G : List It) (G' : List It) (y : It) (is : Bool) : Prop :=
  (G = [] ∧ G' = [] ∧ y = zI ∧ is = false) ∨ (0 < G.length ∧ y = gI G 0 ∧ G' = wo G 0 ∧ is = true)
theorem posI_neg {G : List It} {id : Int} (h : ¬ Has G id) : posI G id = -1 := by exact if_neg h
theorem posI_pos {G : List It} {id : Int} (h : Has G id) : ∃ i : Nat, i < G.length ∧ iD (gI G i) = id ∧ posI G id = (i : Int) := by
  obtain ⟨x, hx, e⟩ := h
  have hlt : G.findIdx (fun x => decide (iD x = id)) < G.length := List.findIdx_lt_length_of_exists ⟨x, hx, by simp [e]⟩
  refine ⟨_, hlt, ?_, by unfold posI; rw [if_pos ⟨x, hx, e⟩]⟩
  have := List.findIdx_getElem (xs := G) (p := fun x => decide (iD x = id)) (w := hlt)
  rw [gI_at hlt]
  simpa using this
section
variable {R : Nat → Prop} {w : World} {h : Nat} {M : List It} {T : Int}
theorem hr_same (H : HR R w h M T) {w' : World} (hb : Below w.heap.size w w') : HR R w' h M T ∧ Sav R w w' ∧ Nxt R R w := ⟨H.below hb, Sav.of hb, Nxt.refl R w⟩
theorem putH (H : HR R w h M T) {id n d : Int} (h0 : -9223372036854775808 ≤ n) (h1 : n ≤ 9223372036854775807) (h2 : -9223372036854775808 ≤ d) (h3 : d ≤ 9223372036854775807) (hL : M.length < 100000) (hT0 : 0 ≤ T) (hT1 : T < 1000000) :
    Calls Try.prog 15 #[.pointer (some ⟨h, 0, none⟩), .int .i64 id, .agg #[.int .i64 n, .int .i64 d]] w fun e w' => ∃ er R' M' T', e = .returned (.int .i64 er) ∧ HPut M T id n d M' T' er ∧ HR R' w' h M' T' ∧ Sav R w w' ∧ Nxt R R' w := by
  by_cases hb : mayB id n d = true
  · by_cases hi : Has M id
    · exact (putR_twice H h0 h1 h2 h3 hb hi).mono fun e w' ⟨he, hbl⟩ => ⟨_, R, M, T, he, .inr (.inl ⟨hb, hi, rfl, rfl, rfl⟩), hr_same H hbl⟩
    · exact (putR_ok H h0 h1 h2 h3 hb hi hL hT0 hT1).mono fun e w' ⟨he, R', hR, hS, hN⟩ => ⟨_, R', _, _, he, .inr (.inr ⟨hb, hi, rfl, rfl, rfl⟩), hR, hS, hN⟩
  · have hb' : mayB id n d = false := by simpa using hb
    exact (putR_bad H h0 h1 h2 h3 hb').mono fun e w' ⟨he, hbl⟩ => ⟨_, R, M, T, he, .inl ⟨hb', rfl, rfl, rfl⟩, hr_same H hbl⟩
theorem setH (H : HR R w h M T) {id n d : Int} (h0 : -9223372036854775808 ≤ n) (h1 : n ≤ 9223372036854775807) (h2 : -9223372036854775808 ≤ d) (h3 : d ≤ 9223372036854775807) :
    Calls Try.prog 17 #[.pointer (some ⟨h, 0, none⟩), .int .i64 id, .agg #[.int .i64 n, .int .i64 d]] w fun e w' => ∃ er R' M', e = .returned (.int .i64 er) ∧ HSet M id n d M' er ∧ HR R' w' h M' T ∧ Sav R w w' ∧ Nxt R R' w := by
  by_cases hb : mayB id n d = true
  · by_cases hi : Has M id
    · obtain ⟨x, hx, rfl⟩ := hi
      exact (setR_ok H hx h0 h1 h2 h3 ((mayB_iff _ _ _).1 hb).2.2).mono fun e w' ⟨he, R', hR, hS, hN⟩ => ⟨_, R', _, he, .inr (.inr ⟨hb, x, hx, rfl, rfl, rfl⟩), hR, hS, hN⟩
    · exact (setR_none H h0 h1 h2 h3 hb hi).mono fun e w' ⟨he, hbl⟩ => ⟨_, R, M, he, .inr (.inl ⟨hb, hi, rfl, rfl⟩), hr_same H hbl⟩
  · have hb' : mayB id n d = false := by simpa using hb
    exact (setR_bad H h0 h1 h2 h3 hb').mono fun e w' ⟨he, hbl⟩ => ⟨_, R, M, he, .inl ⟨hb', rfl, rfl⟩, hr_same H hbl⟩
theorem dropH (H : HR R w h M T) {id : Int} (i0 : -9223372036854775808 ≤ id) (i1 : id ≤ 9223372036854775807) :
    Calls Try.prog 24 #[.pointer (some ⟨h, 0, none⟩), .int .i64 id] w fun e w' => ∃ er R' M', e = .returned (.int .i64 er) ∧ HDrop M id M' er ∧ HR R' w' h M' T ∧ Sav R w w' ∧ Nxt R R' w := by
  by_cases hi : Has M id
  · obtain ⟨x, hx, rfl⟩ := hi
    exact (dropR_ok H hx).mono fun e w' ⟨he, R', hR, hS, hN⟩ => ⟨_, R', _, he, .inr ⟨x, hx, rfl, rfl, rfl⟩, hR, hS, hN⟩
  · exact (dropR_none H i0 i1 hi).mono fun e w' ⟨he, hw⟩ => ⟨_, R, M, he, .inl ⟨hi, rfl, rfl⟩, hr_same H (hw ▸ Below.refl _ _)⟩
theorem HR.min_ex (H : HR R w h M T) (hM : M ≠ []) : ∃ x, MinOf M x := by
  obtain ⟨ht, mb, v, L, D, q, hH, hR⟩ := H
  have hl : 0 < L.length := by rw [q.length_eq]; exact List.length_pos_iff.2 hM
  exact ⟨_, Hp.min q hH hl⟩
theorem takeH (H : HR R w h M T) :
    Calls Try.prog 18 #[.pointer (some ⟨h, 0, none⟩)] w fun e w' => ∃ y is R' M', e = .returned (.tuple #[agI y, .bool is]) ∧ HTake M M' y is ∧ HR R' w' h M' T ∧ Sav R w w' ∧ Nxt R R' w := by
  by_cases hM : M = []
  · subst hM
    exact (takeR_nil H).mono fun e w' ⟨he, hbl⟩ => ⟨zI, false, R, [], he, .inl ⟨rfl, rfl, rfl, rfl⟩, hr_same H hbl⟩
  · obtain ⟨x, hx⟩ := H.min_ex hM
    exact (takeR H hx).mono fun e w' ⟨he, R', hR, hS, hN⟩ => ⟨x, true, R', _, he, .inr ⟨hx, rfl, rfl⟩, hR, hS, hN⟩
theorem leastH (H : HR R w h M T) :
    Calls Try.prog 16 #[.pointer (some ⟨h, 0, none⟩)] w fun e w' => (∃ y is M', e = .returned (.tuple #[agI y, .bool is]) ∧ HTake M M' y is) ∧ Below w.heap.size w w' := by
  by_cases hM : M = []
  · subst hM
    exact (leastR_nil H).mono fun e w' ⟨he, hbl⟩ => ⟨⟨zI, false, [], he, .inl ⟨rfl, rfl, rfl, rfl⟩⟩, hbl⟩
  · obtain ⟨x, hx⟩ := H.min_ex hM
    exact (leastR H hx).mono fun e w' ⟨he, hbl⟩ => ⟨⟨x, true, _, he, .inr ⟨hx, rfl, rfl⟩⟩, hbl⟩
theorem getH (H : HR R w h M T) {id : Int} (i0 : -9223372036854775808 ≤ id) (i1 : id ≤ 9223372036854775807) :
    Calls Try.prog 9 #[.pointer (some ⟨h, 0, none⟩), .int .i64 id] w fun e w' => (∃ y is, e = .returned (.tuple #[agI y, .bool is]) ∧ ((is = true ∧ y ∈ M ∧ iD y = id) ∨ (is = false ∧ y = zI ∧ ¬ Has M id))) ∧ Below w.heap.size w w' := by
  by_cases hi : Has M id
  · obtain ⟨x, hx, rfl⟩ := hi
    exact (getR H hx).mono fun e w' ⟨he, hbl⟩ => ⟨⟨x, true, he, .inl ⟨rfl, hx, rfl⟩⟩, hbl⟩
  · exact (getR_none H i0 i1 hi).mono fun e w' ⟨he, hbl⟩ => ⟨⟨zI, false, he, .inr ⟨rfl, rfl, hi⟩⟩, hbl⟩
end
/-- what the document's call hands back: an elder list, or a new one. -/
def New (w : World) (v v' : Value) : Prop := ∀ q, v'.ownBlock = some q → v.ownBlock = some q ∨ w.heap.size ≤ q
section
variable {w : World} {v : Value} {G : List It} {T : Int}
theorem new_own {w' : World} {v' : Value} {G' : List It} (hO : OwnL itV 4 w' w.heap.size 37 v' G') : RL w' v' G' ∧ New w v v' := ⟨OwnL.base' hO 0 (Nat.zero_le _), fun q e => .inr (OwnL.lt hO q e).1⟩
theorem putG (H : RL w v G) (hO : OkL G) {id n d : Int} (h0 : -9223372036854775808 ≤ n) (h1 : n ≤ 9223372036854775807) (h2 : -9223372036854775808 ≤ d) (h3 : d ≤ 9223372036854775807) (hL : G.length < 100000) (hT0 : 0 ≤ T) (hT1 : T < 1000000) :
    Calls Try.prog 21 #[.agg #[v, .int .i64 T], .int .i64 id, .agg #[.int .i64 n, .int .i64 d]] w fun e w' => (∃ v' T' er G', e = .returned (.tuple #[.agg #[v', .int .i64 T'], .int .i64 er]) ∧ RPut G T id n d G' T' er ∧ RL w' v' G' ∧ New w v v') ∧ Below w.heap.size w w' := by
  by_cases hb : mayB id n d = true
  · by_cases hi : Has G id
    · obtain ⟨i, hil, _, hp⟩ := posI_pos hi
      exact (rput_twice v G T id n d h0 h1 h2 h3 hb (by omega) (by omega) w H).mono fun e w' ⟨he, hbl⟩ => ⟨⟨v, T, _, G, he, .inr (.inl ⟨hb, hi, rfl, rfl, rfl⟩), H.below hbl, fun q e => .inl e⟩, hbl⟩
    · exact (rput_ok v G T id n d h0 h1 h2 h3 hb (posI_neg hi) hL hT0 hT1 hO w H).mono fun e w' ⟨⟨v', k, a, b, c, he, hO'⟩, hbl⟩ => ⟨⟨v', T + 1, _, _, he, .inr (.inr ⟨hb, hi, ⟨k, ⟨a, b, c⟩, rfl⟩, rfl, rfl⟩), new_own hO'⟩, hbl⟩
  · have hb' : mayB id n d = false := by simpa using hb
    exact (rput_bad v G T id n d h0 h1 h2 h3 hb' w H).mono fun e w' ⟨he, hbl⟩ => ⟨⟨v, T, _, G, he, .inl ⟨hb', rfl, rfl, rfl⟩, H.below hbl, fun q e => .inl e⟩, hbl⟩
theorem setG (H : RL w v G) (hO : OkL G) {id n d : Int} (h0 : -9223372036854775808 ≤ n) (h1 : n ≤ 9223372036854775807) (h2 : -9223372036854775808 ≤ d) (h3 : d ≤ 9223372036854775807) (hL : G.length ≤ 1000000) :
    Calls Try.prog 22 #[.agg #[v, .int .i64 T], .int .i64 id, .agg #[.int .i64 n, .int .i64 d]] w fun e w' => (∃ v' er G', e = .returned (.tuple #[.agg #[v', .int .i64 T], .int .i64 er]) ∧ RSet G id n d G' er ∧ RL w' v' G' ∧ New w v v') ∧ Below w.heap.size w w' := by
  by_cases hb : mayB id n d = true
  · by_cases hi : Has G id
    · obtain ⟨i, hil, hid, hp⟩ := posI_pos hi
      exact (rset_ok v G T id n d h0 h1 h2 h3 hb i hil hp hL hO w H).mono fun e w' ⟨⟨v', k, a, b, c, he, hO'⟩, hbl⟩ => ⟨⟨v', _, _, he, .inr (.inr ⟨hb, ⟨i, k, hil, hid, ⟨a, b, c⟩, rfl⟩, rfl⟩), new_own hO'⟩, hbl⟩
    · exact (rset_none v G T id n d h0 h1 h2 h3 hb (posI_neg hi) hL w H).mono fun e w' ⟨he, hbl⟩ => ⟨⟨v, _, G, he, .inr (.inl ⟨hb, hi, rfl, rfl⟩), H.below hbl, fun q e => .inl e⟩, hbl⟩
  · have hb' : mayB id n d = false := by simpa using hb
    exact (rset_bad v G T id n d h0 h1 h2 h3 hb' hL w H).mono fun e w' ⟨he, hbl⟩ => ⟨⟨v, _, G, he, .inl ⟨hb', rfl, rfl⟩, H.below hbl, fun q e => .inl e⟩, hbl⟩
theorem dropG (H : RL w v G) {id : Int} (hL : G.length ≤ 1000000) :
    Calls Try.prog 23 #[.agg #[v, .int .i64 T], .int .i64 id] w fun e w' => (∃ v' er G', e = .returned (.tuple #[.agg #[v', .int .i64 T], .int .i64 er]) ∧ RDrop G id G' er ∧ RL w' v' G' ∧ New w v v') ∧ Below w.heap.size w w' := by
  by_cases hi : Has G id
  · obtain ⟨i, hil, hid, hp⟩ := posI_pos hi
    exact (rdrop_ok v G T id i hil hp hL w H).mono fun e w' ⟨⟨v', he, hO'⟩, hbl⟩ => ⟨⟨v', _, _, he, .inr ⟨⟨i, hil, hid, rfl⟩, rfl⟩, new_own hO'⟩, hbl⟩
  · exact (rdrop_none v G T id (posI_neg hi) hL w H).mono fun e w' ⟨he, hbl⟩ => ⟨⟨v, _, G, he, .inl ⟨hi, rfl, rfl⟩, H.below hbl, fun q e => .inl e⟩, hbl⟩
theorem takeG (H : RL w v G) (hL : G.length ≤ 1000000) :
    Calls Try.prog 25 #[.agg #[v, .int .i64 T]] w fun e w' => (∃ v' y is G', e = .returned (.tuple #[.agg #[v', .int .i64 T], agI y, .bool is]) ∧ RTake G G' y is ∧ RL w' v' G' ∧ New w v v') ∧ Below w.heap.size w w' := by
  by_cases hG : G = []
  · subst hG
    exact (rtake_nil v T w H).mono fun e w' ⟨he, hbl⟩ => ⟨⟨v, zI, false, [], he, .inl ⟨rfl, rfl, rfl, rfl⟩, H.below hbl, fun q e => .inl e⟩, hbl⟩
  · have hl : 0 < G.length := List.length_pos_iff.2 hG
    exact (rtake_ok v G T hl hL w H).mono fun e w' ⟨⟨v', he, hO'⟩, hbl⟩ => ⟨⟨v', _, true, _, he, .inr ⟨hl, rfl, rfl, rfl⟩, new_own hO'⟩, hbl⟩
end
end Go.Proofs.Ytohkkebiilaniaa.Hp

/- Heaps: one call of the law's, of the heap and of the document's list. -/
namespace Go.Proofs.Ytohkkebiilaniaa.Hp
set_option linter.unusedVariables false
open Go.RowKit Go.Maps Go.Sort Go.Proofs.Ytohkkebiilaniaa.Tp

def Step1 (id n d : Int) (M : List It) (T : Int) (M' : List It) (T' : Int) (G : List It) (TG : Int) (G' : List It) (TG' : Int) (B : Bool) : Prop := ∃ er eg, HPut M T id n d M' T' er ∧ RPut G TG id n d G' TG' eg ∧ B = (er == eg)
def Step2 (id n d : Int) (M : List It) (T : Int) (M' : List It) (T' : Int) (G : List It) (TG : Int) (G' : List It) (TG' : Int) (B : Bool) : Prop := T' = T ∧ TG' = TG ∧ ∃ er eg, HSet M id n d M' er ∧ RSet G id n d G' eg ∧ B = (er == eg)
def Step3 (id : Int) (M : List It) (T : Int) (M' : List It) (T' : Int) (G : List It) (TG : Int) (G' : List It) (TG' : Int) (B : Bool) : Prop := T' = T ∧ TG' = TG ∧ ∃ er eg, HDrop M id M' er ∧ RDrop G id G' eg ∧ B = (er == eg)
def Step4 (M : List It) (T : Int) (M' : List It) (T' : Int) (G : List It) (TG : Int) (G' : List It) (TG' : Int) (B : Bool) : Prop := T' = T ∧ TG' = TG ∧ ∃ y is z it, HTake M M' y is ∧ RTake G G' z it ∧ (B = true ↔ y = z ∧ is = it)
def StepK (kind id n d : Int) (M : List It) (T : Int) (M' : List It) (T' : Int) (G : List It) (TG : Int) (G' : List It) (TG' : Int) (B : Bool) : Prop :=
  (kind = 1 ∧ Step1 id n d M T M' T' G TG G' TG' B) ∨ (kind = 2 ∧ Step2 id n d M T M' T' G TG G' TG' B) ∨ (kind = 3 ∧ Step3 id M T M' T' G TG G' TG' B) ∨ (kind = 4 ∧ Step4 M T M' T' G TG G' TG' B) ∨ (¬ (kind = 1 ∨ kind = 2 ∨ kind = 3 ∨ kind = 4) ∧ M' = M ∧ T' = T ∧ G' = G ∧ TG' = TG ∧ B = true)
/-- what stands behind a call. -/
structure Behind (R : Nat → Prop) (w : World) (h : Nat) (v : Value) (R' : Nat → Prop) (w' : World) (M' : List It) (T' : Int) (v' : Value) (G' : List It) : Prop where
  hr : HR R' w' h M' T'
  rl : RL w' v' G'
  sav : Sav R w w'
  nxt : Nxt R R' w
  new : New w v v'
  sep : ∀ q, v'.ownBlock = some q → ¬ R' q
theorem heap_setb (W : World) (p o : Nat) (v : Value) {k : Nat} (h : k ≠ p) : (W.setCell ⟨p, o, none⟩ v).heap[k]? = W.heap[k]? := Below.heap_setCell _ _ _ _ h
set_option maxRecDepth 100000 in
set_option maxHeartbeats 8000000 in
theorem does_1 {R : Nat → Prop} {w : World} {h : Nat} {M : List It} {T : Int} (H : HR R w h M T) {v : Value} {G : List It} {TG : Int} (HG : RL w v G) (hO : OkL G) (hsep : ∀ q, v.ownBlock = some q → ¬ R q) {id n d : Int} (i0 : -9223372036854775808 ≤ id) (i1 : id ≤ 9223372036854775807) (h0 : -9223372036854775808 ≤ n) (h1 : n ≤ 9223372036854775807) (h2 : -9223372036854775808 ≤ d) (h3 : d ≤ 9223372036854775807)
    (hL : M.length < 100000) (hT0 : 0 ≤ T) (hT1 : T < 1000000) (hLG : G.length < 100000) (hG0 : 0 ≤ TG) (hG1 : TG < 1000000) :
    Calls Try.prog 7 #[.pointer (some ⟨h, 0, none⟩), .agg #[v, .int .i64 TG], .agg #[.int .i64 1, .int .i64 id, .int .i64 n, .int .i64 d]] w fun e w' => ∃ R' M' T' v' G' TG' B, e = .returned (.tuple #[.agg #[v', .int .i64 TG'], .bool B]) ∧ Step1 id n d M T M' T' G TG G' TG' B ∧ Behind R w h v R' w' M' T' v' G' := by
  obtain ⟨A, c, hv, _⟩ := OwnL.lie HG itV_len
  have cG := hidd (fun W H' => putG (w := W) (v := v) (G := G) (T := TG) (id := id) H' hO h0 h1 h2 h3 hLG hG0 hG1)
  have cH := hidd (fun W (H' : HR R W h M T) => putH (id := id) H' h0 h1 h2 h3 hL hT0 hT1)
  have HL := hidd H.lt
  have HH := hidd (fun W (b : Below w.heap.size w W) => H.below b)
  have HHG := hidd (fun W (b : Below w.heap.size w W) => HG.below b)
  have HSEP := hidd hsep
  clear H HG hO hsep hL hLG hT0 hT1 hG0 hG1 i0 i1 h0 h1 h2 h3
  subst hv
  generalize hN : G.length = N at *
  clear hN
  go_enter Try.func7, Try.ntmps7
  go_wp2_with fail
  refine (cG.out _ (HHG.out _ (by (repeat' (first | (with_reducible exact Below.refl _ _) | (with_reducible assumption) | (with_reducible apply Below.setCell) | (with_reducible apply Below.alloc) | (with_reducible apply Below.drew) | (with_reducible apply below_drewN) | (with_reducible refine Below.trans ?_ (Below.mono (by assumption) ?_)) | omega | (simp; done) | (simp; omega)))))).mono ?_
  rintro e w1 ⟨⟨v1, T1, eg, G1, rfl, hstep, hRL, hnew⟩, hb1⟩
  obtain ⟨A1, c1, hv1, _⟩ := OwnL.lie hRL itV_len
  subst hv1
  generalize hl1 : G1.length = N1 at *
  clear hl1
  obtain ⟨bc, bf⟩ := bcell hb1
  have hs := hb1.size
  have l2 : w.heap.size + 1 + 1 < w1.heap.size := by simp at hs; omega
  have l1 : w.heap.size + 1 < w1.heap.size := by omega
  have l0 : w.heap.size < w1.heap.size := by omega
  have e00 : w1.cell? ⟨w.heap.size, 0, none⟩ = some (.slice A N c) := (bc _ _ (by first | (simp; done) | (simp; omega))).trans (by simp [go_sem])
  have e01 : w1.cell? ⟨w.heap.size, 1, none⟩ = some (.int .i64 TG) := (bc _ _ (by first | (simp; done) | (simp; omega))).trans (by simp [go_sem])
  have e0f : ∀ o, w1.frozen? ⟨w.heap.size, o, none⟩ = false := fun o => (bf _ _ (by first | (simp; done) | (simp; omega))).trans (by simp [go_sem])
  have e10 : w1.cell? ⟨w.heap.size + 1, 0, none⟩ = some (.int .i64 1) := (bc _ _ (by first | (simp; done) | (simp; omega))).trans (by simp [go_sem])
  have e11 : w1.cell? ⟨w.heap.size + 1, 1, none⟩ = some (.int .i64 id) := (bc _ _ (by first | (simp; done) | (simp; omega))).trans (by simp [go_sem])
  have e12 : w1.cell? ⟨w.heap.size + 1, 2, none⟩ = some (.int .i64 n) := (bc _ _ (by first | (simp; done) | (simp; omega))).trans (by simp [go_sem])
  have e13 : w1.cell? ⟨w.heap.size + 1, 3, none⟩ = some (.int .i64 d) := (bc _ _ (by first | (simp; done) | (simp; omega))).trans (by simp [go_sem])
  have e20 : w1.cell? ⟨w.heap.size + 1 + 1, 0, none⟩ = some (.slice none 0 0) := (bc _ _ (by first | (simp; done) | (simp; omega))).trans (by simp [go_sem])
  have e21 : w1.cell? ⟨w.heap.size + 1 + 1, 1, none⟩ = some (.int .i64 0) := (bc _ _ (by first | (simp; done) | (simp; omega))).trans (by simp [go_sem])
  have e2f : ∀ o, w1.frozen? ⟨w.heap.size + 1 + 1, o, none⟩ = false := fun o => (bf _ _ (by first | (simp; done) | (simp; omega))).trans (by simp [go_sem])
  have B1 : Hid (Below w.heap.size w w1) := hidd (by (repeat' (first | (with_reducible exact Below.refl _ _) | (with_reducible assumption) | (with_reducible apply Below.setCell) | (with_reducible apply Below.alloc) | (with_reducible apply Below.drew) | (with_reducible apply below_drewN) | (with_reducible refine Below.trans ?_ (Below.mono (by assumption) ?_)) | omega | (simp; done) | (simp; omega))))
  have HRL := hidd hRL
  have HNEW := hidd hnew
  have HSTEP := hidd hstep
  have hbx : Hid (∀ q, (Value.slice A1 N1 c1).ownBlock = some q → q < w1.heap.size ∧ (q < w.heap.size ∨ w.heap.size + 1 + 1 < q)) := hidd (fun q e => ⟨(OwnL.lt hRL q e).2, by
    rcases hnew q e with r | r
    · exact .inl (OwnL.lt (HHG.out w (Below.refl _ _)) q r).2
    · exact .inr (by simp at r; omega)⟩)
  clear bc bf hb1 hs hRL hnew hstep
  go_wp2_with fail
  obtain ⟨W2, hW2⟩ : ∃ W2, (w1.setCell ⟨w.heap.size, 0, none⟩ (.slice A1 N1 c1)).setCell ⟨w.heap.size, 1, none⟩ (.int .i64 T1) = W2 := ⟨_, rfl⟩
  rw [hW2]
  have x00 : W2.cell? ⟨w.heap.size, 0, none⟩ = some (.slice A1 N1 c1) := by rw [← hW2]; rw [set_other _ (by omega)]; exact World.cell?_setCell_same' _ _ _ (by rw [e00]; rfl)
  have x01 : W2.cell? ⟨w.heap.size, 1, none⟩ = some (.int .i64 T1) := by rw [← hW2]; exact World.cell?_setCell_same' _ _ _ (by rw [set_other _ (by omega), e01]; rfl)
  have x20 : W2.cell? ⟨w.heap.size + 1 + 1, 0, none⟩ = some (.slice none 0 0) := by rw [← hW2]; simp [go_sem, e20]
  have x21 : W2.cell? ⟨w.heap.size + 1 + 1, 1, none⟩ = some (.int .i64 0) := by rw [← hW2]; simp [go_sem, e21]
  have x2f : ∀ o, W2.frozen? ⟨w.heap.size + 1 + 1, o, none⟩ = false := fun o => by rw [← hW2, World.frozen?_setCell, World.frozen?_setCell]; exact e2f o
  have B2 : Hid (Below w.heap.size w W2) := hidd (by have b := B1.out; rw [← hW2]; (repeat' (first | (with_reducible exact Below.refl _ _) | (with_reducible assumption) | (with_reducible apply Below.setCell) | (with_reducible apply Below.alloc) | (with_reducible apply Below.drew) | (with_reducible apply below_drewN) | (with_reducible refine Below.trans ?_ (Below.mono (by assumption) ?_)) | omega | (simp; done) | (simp; omega))))
  have hs2 : W2.heap.size = w1.heap.size := by rw [← hW2]; simp [World.setCell]
  have HRL2 : Hid (RL W2 (.slice A1 N1 c1) G1) := hidd (by rw [← hW2]; exact OwnL.to HRL.out (fun q e => by have := hbx.out q e; exact heap_set2 _ _ _ _ _ _ (by omega)))
  have m2 : w.heap.size + 1 + 1 < W2.heap.size := by omega
  have m0 : w.heap.size < W2.heap.size := by omega
  have hbx2 : Hid (∀ q, (Value.slice A1 N1 c1).ownBlock = some q → q < W2.heap.size ∧ (q < w.heap.size ∨ w.heap.size + 1 + 1 < q)) := hidd (fun q e => by have := hbx.out q e; omega)
  clear hW2 hs2 e00 e01 e0f e10 e11 e12 e13 e20 e21 e2f hbx HRL
  refine (cH.out _ (HH.out _ B2.out)).mono ?_
  rintro e w3 ⟨er, R3, M3, T3, rfl, hst, hHR, hS, hN⟩
  have nR : ∀ k, w.heap.size ≤ k → ¬ R k := fun k hk q => by have := HL.out k q; omega
  have y00 := (hS.cell (p := ⟨w.heap.size, 0, none⟩) m0 (nR _ (Nat.le_refl _))).trans x00
  have y01 := (hS.cell (p := ⟨w.heap.size, 1, none⟩) m0 (nR _ (Nat.le_refl _))).trans x01
  have y20 := (hS.cell (p := ⟨w.heap.size + 1 + 1, 0, none⟩) m2 (nR _ (by show w.heap.size ≤ w.heap.size + 1 + 1; omega))).trans x20
  have y21 := (hS.cell (p := ⟨w.heap.size + 1 + 1, 1, none⟩) m2 (nR _ (by show w.heap.size ≤ w.heap.size + 1 + 1; omega))).trans x21
  have y2f := fun o => (World.frozen?_of_block (a := ⟨w.heap.size + 1 + 1, o, none⟩) (hS.block (w.heap.size + 1 + 1) m2 (nR _ (by omega)))).trans (x2f o)
  have hs3 := hS.size
  have q2 : w.heap.size + 1 + 1 < w3.heap.size := by omega
  have q0 : w.heap.size < w3.heap.size := by omega
  have S3 : Hid (Sav R w w3) := hidd ((Sav.of B2.out).tr hS)
  have N3 : Hid (Nxt R R3 w) := hidd (fun k hk e => hN k (by have := B2.out.size; omega) e)
  have SEP : Hid (∀ q, (Value.slice A1 N1 c1).ownBlock = some q → ¬ R3 q) := hidd (fun q e r => by
    have r' := hN q (hbx2.out q e).1 r
    rcases HNEW.out q e with z | z
    · exact HSEP.out q z r'
    · have := HL.out q r'; simp at z; omega)
  have RL3 : Hid (RL w3 (.slice A1 N1 c1) G1) := hidd (OwnL.to HRL2.out (fun q e => hS.block q (hbx2.out q e).1 (fun r => by
    rcases HNEW.out q e with z | z
    · exact HSEP.out q z r
    · have := HL.out q r; simp at z; omega)))
  have HNEW2 : Hid (New w (.slice A N c) (.slice A1 N1 c1)) := hidd (fun q e => by
    rcases HNEW.out q e with z | z
    · exact .inl z
    · exact .inr (by simp at z; omega))
  have NR3 : Hid (R3 (w.heap.size + 1 + 1) → False) := hidd (fun r => nR _ (by omega) (hN _ m2 r))
  have HST := hidd hst
  have HHR := hidd hHR
  clear hS hN hst hHR x00 x01 x20 x21 x2f nR
  go_wp2_with fail
  refine bodyPost_ret (v := .tuple #[.agg #[.slice A1 N1 c1, .int .i64 T1], .bool (er == eg)]) (by simp [results, Try.results7, go_sem, *]) rfl ⟨R3, M3, T3, _, G1, T1, _, rfl, ⟨er, eg, HST.out, HSTEP.out, by first | rfl | simp⟩, ?_⟩
  obtain ⟨W4, hW4⟩ : ∃ W4, (w3.setCell ⟨w.heap.size + 1 + 1, 0, none⟩ (.slice A1 N1 c1)).setCell ⟨w.heap.size + 1 + 1, 1, none⟩ (.int .i64 T1) = W4 := ⟨_, rfl⟩
  have hk : ∀ k, k ≠ w.heap.size + 1 + 1 → W4.heap[k]? = w3.heap[k]? := fun k hk => by rw [← hW4]; exact heap_set2 _ _ _ _ _ _ hk
  have hz : w3.heap.size = W4.heap.size := by rw [← hW4]; simp [World.setCell]
  have BB : Below w.heap.size w3 W4 := by rw [← hW4]; (repeat' (first | (with_reducible exact Below.refl _ _) | (with_reducible assumption) | (with_reducible apply Below.setCell) | (with_reducible apply Below.alloc) | (with_reducible apply Below.drew) | (with_reducible apply below_drewN) | (with_reducible refine Below.trans ?_ (Below.mono (by assumption) ?_)) | omega | (simp; done) | (simp; omega)))
  show Behind R w h _ R3 ((w3.setCell ⟨w.heap.size + 1 + 1, 0, none⟩ (.slice A1 N1 c1)).setCell ⟨w.heap.size + 1 + 1, 1, none⟩ (.int .i64 T1)) M3 T3 _ G1
  rw [hW4]
  refine ⟨HHR.out.keep (fun k hk' => hk k (fun e => ?_)), OwnL.to RL3.out (fun q e => hk q ?_), S3.out.trans (Sav.mk BB.os BB.tape BB.output BB.size (fun k hk' hn => ?_) : Sav (fun k => w.heap.size ≤ k) w3 W4) (fun j hj e => by omega), N3.out, HNEW2.out, SEP.out⟩
  · subst e
    exact NR3.out hk'
  · have := hbx2.out q e; omega
  · exact BB.block k (by omega)
set_option maxRecDepth 100000 in
set_option maxHeartbeats 8000000 in
theorem does_2 {R : Nat → Prop} {w : World} {h : Nat} {M : List It} {T : Int} (H : HR R w h M T) {v : Value} {G : List It} {TG : Int} (HG : RL w v G) (hO : OkL G) (hsep : ∀ q, v.ownBlock = some q → ¬ R q) {id n d : Int} (i0 : -9223372036854775808 ≤ id) (i1 : id ≤ 9223372036854775807) (h0 : -9223372036854775808 ≤ n) (h1 : n ≤ 9223372036854775807) (h2 : -9223372036854775808 ≤ d) (h3 : d ≤ 9223372036854775807)
    (hL : M.length < 100000) (hT0 : 0 ≤ T) (hT1 : T < 1000000) (hLG : G.length < 100000) (hG0 : 0 ≤ TG) (hG1 : TG < 1000000) :
    Calls Try.prog 7 #[.pointer (some ⟨h, 0, none⟩), .agg #[v, .int .i64 TG], .agg #[.int .i64 2, .int .i64 id, .int .i64 n, .int .i64 d]] w fun e w' => ∃ R' M' T' v' G' TG' B, e = .returned (.tuple #[.agg #[v', .int .i64 TG'], .bool B]) ∧ Step2 id n d M T M' T' G TG G' TG' B ∧ Behind R w h v R' w' M' T' v' G' := by
  obtain ⟨A, c, hv, _⟩ := OwnL.lie HG itV_len
  have cG := hidd (fun W H' => setG (w := W) (v := v) (G := G) (T := TG) (id := id) H' hO h0 h1 h2 h3 (by omega))
  have cH := hidd (fun W (H' : HR R W h M T) => setH (id := id) H' h0 h1 h2 h3)
  have HL := hidd H.lt
  have HH := hidd (fun W (b : Below w.heap.size w W) => H.below b)
  have HHG := hidd (fun W (b : Below w.heap.size w W) => HG.below b)
  have HSEP := hidd hsep
  clear H HG hO hsep hL hLG hT0 hT1 hG0 hG1 i0 i1 h0 h1 h2 h3
  subst hv
  generalize hN : G.length = N at *
  clear hN
  go_enter Try.func7, Try.ntmps7
  go_wp2_with fail
  refine (cG.out _ (HHG.out _ (by (repeat' (first | (with_reducible exact Below.refl _ _) | (with_reducible assumption) | (with_reducible apply Below.setCell) | (with_reducible apply Below.alloc) | (with_reducible apply Below.drew) | (with_reducible apply below_drewN) | (with_reducible refine Below.trans ?_ (Below.mono (by assumption) ?_)) | omega | (simp; done) | (simp; omega)))))).mono ?_
  rintro e w1 ⟨⟨v1, eg, G1, rfl, hstep, hRL, hnew⟩, hb1⟩
  obtain ⟨A1, c1, hv1, _⟩ := OwnL.lie hRL itV_len
  subst hv1
  generalize hl1 : G1.length = N1 at *
  clear hl1
  obtain ⟨bc, bf⟩ := bcell hb1
  have hs := hb1.size
  have l2 : w.heap.size + 1 + 1 < w1.heap.size := by simp at hs; omega
  have l1 : w.heap.size + 1 < w1.heap.size := by omega
  have l0 : w.heap.size < w1.heap.size := by omega
  have e00 : w1.cell? ⟨w.heap.size, 0, none⟩ = some (.slice A N c) := (bc _ _ (by first | (simp; done) | (simp; omega))).trans (by simp [go_sem])
  have e01 : w1.cell? ⟨w.heap.size, 1, none⟩ = some (.int .i64 TG) := (bc _ _ (by first | (simp; done) | (simp; omega))).trans (by simp [go_sem])
  have e0f : ∀ o, w1.frozen? ⟨w.heap.size, o, none⟩ = false := fun o => (bf _ _ (by first | (simp; done) | (simp; omega))).trans (by simp [go_sem])
  have e10 : w1.cell? ⟨w.heap.size + 1, 0, none⟩ = some (.int .i64 2) := (bc _ _ (by first | (simp; done) | (simp; omega))).trans (by simp [go_sem])
  have e11 : w1.cell? ⟨w.heap.size + 1, 1, none⟩ = some (.int .i64 id) := (bc _ _ (by first | (simp; done) | (simp; omega))).trans (by simp [go_sem])
  have e12 : w1.cell? ⟨w.heap.size + 1, 2, none⟩ = some (.int .i64 n) := (bc _ _ (by first | (simp; done) | (simp; omega))).trans (by simp [go_sem])
  have e13 : w1.cell? ⟨w.heap.size + 1, 3, none⟩ = some (.int .i64 d) := (bc _ _ (by first | (simp; done) | (simp; omega))).trans (by simp [go_sem])
  have e20 : w1.cell? ⟨w.heap.size + 1 + 1, 0, none⟩ = some (.slice none 0 0) := (bc _ _ (by first | (simp; done) | (simp; omega))).trans (by simp [go_sem])
  have e21 : w1.cell? ⟨w.heap.size + 1 + 1, 1, none⟩ = some (.int .i64 0) := (bc _ _ (by first | (simp; done) | (simp; omega))).trans (by simp [go_sem])
  have e2f : ∀ o, w1.frozen? ⟨w.heap.size + 1 + 1, o, none⟩ = false := fun o => (bf _ _ (by first | (simp; done) | (simp; omega))).trans (by simp [go_sem])
  have B1 : Hid (Below w.heap.size w w1) := hidd (by (repeat' (first | (with_reducible exact Below.refl _ _) | (with_reducible assumption) | (with_reducible apply Below.setCell) | (with_reducible apply Below.alloc) | (with_reducible apply Below.drew) | (with_reducible apply below_drewN) | (with_reducible refine Below.trans ?_ (Below.mono (by assumption) ?_)) | omega | (simp; done) | (simp; omega))))
  have HRL := hidd hRL
  have HNEW := hidd hnew
  have HSTEP := hidd hstep
  have hbx : Hid (∀ q, (Value.slice A1 N1 c1).ownBlock = some q → q < w1.heap.size ∧ (q < w.heap.size ∨ w.heap.size + 1 + 1 < q)) := hidd (fun q e => ⟨(OwnL.lt hRL q e).2, by
    rcases hnew q e with r | r
    · exact .inl (OwnL.lt (HHG.out w (Below.refl _ _)) q r).2
    · exact .inr (by simp at r; omega)⟩)
  clear bc bf hb1 hs hRL hnew hstep
  go_wp2_with fail
  obtain ⟨W2, hW2⟩ : ∃ W2, (w1.setCell ⟨w.heap.size, 0, none⟩ (.slice A1 N1 c1)).setCell ⟨w.heap.size, 1, none⟩ (.int .i64 TG) = W2 := ⟨_, rfl⟩
  rw [hW2]
  have x00 : W2.cell? ⟨w.heap.size, 0, none⟩ = some (.slice A1 N1 c1) := by rw [← hW2]; rw [set_other _ (by omega)]; exact World.cell?_setCell_same' _ _ _ (by rw [e00]; rfl)
  have x01 : W2.cell? ⟨w.heap.size, 1, none⟩ = some (.int .i64 TG) := by rw [← hW2]; exact World.cell?_setCell_same' _ _ _ (by rw [set_other _ (by omega), e01]; rfl)
  have x20 : W2.cell? ⟨w.heap.size + 1 + 1, 0, none⟩ = some (.slice none 0 0) := by rw [← hW2]; simp [go_sem, e20]
  have x21 : W2.cell? ⟨w.heap.size + 1 + 1, 1, none⟩ = some (.int .i64 0) := by rw [← hW2]; simp [go_sem, e21]
  have x2f : ∀ o, W2.frozen? ⟨w.heap.size + 1 + 1, o, none⟩ = false := fun o => by rw [← hW2, World.frozen?_setCell, World.frozen?_setCell]; exact e2f o
  have B2 : Hid (Below w.heap.size w W2) := hidd (by have b := B1.out; rw [← hW2]; (repeat' (first | (with_reducible exact Below.refl _ _) | (with_reducible assumption) | (with_reducible apply Below.setCell) | (with_reducible apply Below.alloc) | (with_reducible apply Below.drew) | (with_reducible apply below_drewN) | (with_reducible refine Below.trans ?_ (Below.mono (by assumption) ?_)) | omega | (simp; done) | (simp; omega))))
  have hs2 : W2.heap.size = w1.heap.size := by rw [← hW2]; simp [World.setCell]
  have HRL2 : Hid (RL W2 (.slice A1 N1 c1) G1) := hidd (by rw [← hW2]; exact OwnL.to HRL.out (fun q e => by have := hbx.out q e; exact heap_set2 _ _ _ _ _ _ (by omega)))
  have m2 : w.heap.size + 1 + 1 < W2.heap.size := by omega
  have m0 : w.heap.size < W2.heap.size := by omega
  have hbx2 : Hid (∀ q, (Value.slice A1 N1 c1).ownBlock = some q → q < W2.heap.size ∧ (q < w.heap.size ∨ w.heap.size + 1 + 1 < q)) := hidd (fun q e => by have := hbx.out q e; omega)
  clear hW2 hs2 e00 e01 e0f e10 e11 e12 e13 e20 e21 e2f hbx HRL
  refine (cH.out _ (HH.out _ B2.out)).mono ?_
  rintro e w3 ⟨er, R3, M3, rfl, hst, hHR, hS, hN⟩
  have nR : ∀ k, w.heap.size ≤ k → ¬ R k := fun k hk q => by have := HL.out k q; omega
  have y00 := (hS.cell (p := ⟨w.heap.size, 0, none⟩) m0 (nR _ (Nat.le_refl _))).trans x00
  have y01 := (hS.cell (p := ⟨w.heap.size, 1, none⟩) m0 (nR _ (Nat.le_refl _))).trans x01
  have y20 := (hS.cell (p := ⟨w.heap.size + 1 + 1, 0, none⟩) m2 (nR _ (by show w.heap.size ≤ w.heap.size + 1 + 1; omega))).trans x20
  have y21 := (hS.cell (p := ⟨w.heap.size + 1 + 1, 1, none⟩) m2 (nR _ (by show w.heap.size ≤ w.heap.size + 1 + 1; omega))).trans x21
  have y2f := fun o => (World.frozen?_of_block (a := ⟨w.heap.size + 1 + 1, o, none⟩) (hS.block (w.heap.size + 1 + 1) m2 (nR _ (by omega)))).trans (x2f o)
  have hs3 := hS.size
  have q2 : w.heap.size + 1 + 1 < w3.heap.size := by omega
  have q0 : w.heap.size < w3.heap.size := by omega
  have S3 : Hid (Sav R w w3) := hidd ((Sav.of B2.out).tr hS)
  have N3 : Hid (Nxt R R3 w) := hidd (fun k hk e => hN k (by have := B2.out.size; omega) e)
  have SEP : Hid (∀ q, (Value.slice A1 N1 c1).ownBlock = some q → ¬ R3 q) := hidd (fun q e r => by
    have r' := hN q (hbx2.out q e).1 r
    rcases HNEW.out q e with z | z
    · exact HSEP.out q z r'
    · have := HL.out q r'; simp at z; omega)
  have RL3 : Hid (RL w3 (.slice A1 N1 c1) G1) := hidd (OwnL.to HRL2.out (fun q e => hS.block q (hbx2.out q e).1 (fun r => by
    rcases HNEW.out q e with z | z
    · exact HSEP.out q z r
    · have := HL.out q r; simp at z; omega)))
  have HNEW2 : Hid (New w (.slice A N c) (.slice A1 N1 c1)) := hidd (fun q e => by
    rcases HNEW.out q e with z | z
    · exact .inl z
    · exact .inr (by simp at z; omega))
  have NR3 : Hid (R3 (w.heap.size + 1 + 1) → False) := hidd (fun r => nR _ (by omega) (hN _ m2 r))
  have HST := hidd hst
  have HHR := hidd hHR
  clear hS hN hst hHR x00 x01 x20 x21 x2f nR
  go_wp2_with fail
  refine bodyPost_ret (v := .tuple #[.agg #[.slice A1 N1 c1, .int .i64 TG], .bool (er == eg)]) (by simp [results, Try.results7, go_sem, *]) rfl ⟨R3, M3, T, _, G1, TG, _, rfl, ⟨rfl, rfl, er, eg, HST.out, HSTEP.out, by first | rfl | simp⟩, ?_⟩
  obtain ⟨W4, hW4⟩ : ∃ W4, (w3.setCell ⟨w.heap.size + 1 + 1, 0, none⟩ (.slice A1 N1 c1)).setCell ⟨w.heap.size + 1 + 1, 1, none⟩ (.int .i64 TG) = W4 := ⟨_, rfl⟩
  have hk : ∀ k, k ≠ w.heap.size + 1 + 1 → W4.heap[k]? = w3.heap[k]? := fun k hk => by rw [← hW4]; exact heap_set2 _ _ _ _ _ _ hk
  have hz : w3.heap.size = W4.heap.size := by rw [← hW4]; simp [World.setCell]
  have BB : Below w.heap.size w3 W4 := by rw [← hW4]; (repeat' (first | (with_reducible exact Below.refl _ _) | (with_reducible assumption) | (with_reducible apply Below.setCell) | (with_reducible apply Below.alloc) | (with_reducible apply Below.drew) | (with_reducible apply below_drewN) | (with_reducible refine Below.trans ?_ (Below.mono (by assumption) ?_)) | omega | (simp; done) | (simp; omega)))
  show Behind R w h _ R3 ((w3.setCell ⟨w.heap.size + 1 + 1, 0, none⟩ (.slice A1 N1 c1)).setCell ⟨w.heap.size + 1 + 1, 1, none⟩ (.int .i64 TG)) M3 T _ G1
  rw [hW4]
  refine ⟨HHR.out.keep (fun k hk' => hk k (fun e => ?_)), OwnL.to RL3.out (fun q e => hk q ?_), S3.out.trans (Sav.mk BB.os BB.tape BB.output BB.size (fun k hk' hn => ?_) : Sav (fun k => w.heap.size ≤ k) w3 W4) (fun j hj e => by omega), N3.out, HNEW2.out, SEP.out⟩
  · subst e
    exact NR3.out hk'
  · have := hbx2.out q e; omega
  · exact BB.block k (by omega)
set_option maxRecDepth 100000 in
set_option maxHeartbeats 8000000 in
theorem does_3 {R : Nat → Prop} {w : World} {h : Nat} {M : List It} {T : Int} (H : HR R w h M T) {v : Value} {G : List It} {TG : Int} (HG : RL w v G) (hO : OkL G) (hsep : ∀ q, v.ownBlock = some q → ¬ R q) {id n d : Int} (i0 : -9223372036854775808 ≤ id) (i1 : id ≤ 9223372036854775807) (h0 : -9223372036854775808 ≤ n) (h1 : n ≤ 9223372036854775807) (h2 : -9223372036854775808 ≤ d) (h3 : d ≤ 9223372036854775807)
    (hL : M.length < 100000) (hT0 : 0 ≤ T) (hT1 : T < 1000000) (hLG : G.length < 100000) (hG0 : 0 ≤ TG) (hG1 : TG < 1000000) :
    Calls Try.prog 7 #[.pointer (some ⟨h, 0, none⟩), .agg #[v, .int .i64 TG], .agg #[.int .i64 3, .int .i64 id, .int .i64 n, .int .i64 d]] w fun e w' => ∃ R' M' T' v' G' TG' B, e = .returned (.tuple #[.agg #[v', .int .i64 TG'], .bool B]) ∧ Step3 id M T M' T' G TG G' TG' B ∧ Behind R w h v R' w' M' T' v' G' := by
  obtain ⟨A, c, hv, _⟩ := OwnL.lie HG itV_len
  have cG := hidd (fun W H' => dropG (w := W) (v := v) (G := G) (T := TG) (id := id) H' (by omega))
  have cH := hidd (fun W (H' : HR R W h M T) => dropH H' i0 i1)
  have HL := hidd H.lt
  have HH := hidd (fun W (b : Below w.heap.size w W) => H.below b)
  have HHG := hidd (fun W (b : Below w.heap.size w W) => HG.below b)
  have HSEP := hidd hsep
  clear H HG hO hsep hL hLG hT0 hT1 hG0 hG1 i0 i1 h0 h1 h2 h3
  subst hv
  generalize hN : G.length = N at *
  clear hN
  go_enter Try.func7, Try.ntmps7
  go_wp2_with fail
  refine (cG.out _ (HHG.out _ (by (repeat' (first | (with_reducible exact Below.refl _ _) | (with_reducible assumption) | (with_reducible apply Below.setCell) | (with_reducible apply Below.alloc) | (with_reducible apply Below.drew) | (with_reducible apply below_drewN) | (with_reducible refine Below.trans ?_ (Below.mono (by assumption) ?_)) | omega | (simp; done) | (simp; omega)))))).mono ?_
  rintro e w1 ⟨⟨v1, eg, G1, rfl, hstep, hRL, hnew⟩, hb1⟩
  obtain ⟨A1, c1, hv1, _⟩ := OwnL.lie hRL itV_len
  subst hv1
  generalize hl1 : G1.length = N1 at *
  clear hl1
  obtain ⟨bc, bf⟩ := bcell hb1
  have hs := hb1.size
  have l2 : w.heap.size + 1 + 1 < w1.heap.size := by simp at hs; omega
  have l1 : w.heap.size + 1 < w1.heap.size := by omega
  have l0 : w.heap.size < w1.heap.size := by omega
  have e00 : w1.cell? ⟨w.heap.size, 0, none⟩ = some (.slice A N c) := (bc _ _ (by first | (simp; done) | (simp; omega))).trans (by simp [go_sem])
  have e01 : w1.cell? ⟨w.heap.size, 1, none⟩ = some (.int .i64 TG) := (bc _ _ (by first | (simp; done) | (simp; omega))).trans (by simp [go_sem])
  have e0f : ∀ o, w1.frozen? ⟨w.heap.size, o, none⟩ = false := fun o => (bf _ _ (by first | (simp; done) | (simp; omega))).trans (by simp [go_sem])
  have e10 : w1.cell? ⟨w.heap.size + 1, 0, none⟩ = some (.int .i64 3) := (bc _ _ (by first | (simp; done) | (simp; omega))).trans (by simp [go_sem])
  have e11 : w1.cell? ⟨w.heap.size + 1, 1, none⟩ = some (.int .i64 id) := (bc _ _ (by first | (simp; done) | (simp; omega))).trans (by simp [go_sem])
  have e12 : w1.cell? ⟨w.heap.size + 1, 2, none⟩ = some (.int .i64 n) := (bc _ _ (by first | (simp; done) | (simp; omega))).trans (by simp [go_sem])
  have e13 : w1.cell? ⟨w.heap.size + 1, 3, none⟩ = some (.int .i64 d) := (bc _ _ (by first | (simp; done) | (simp; omega))).trans (by simp [go_sem])
  have e20 : w1.cell? ⟨w.heap.size + 1 + 1, 0, none⟩ = some (.slice none 0 0) := (bc _ _ (by first | (simp; done) | (simp; omega))).trans (by simp [go_sem])
  have e21 : w1.cell? ⟨w.heap.size + 1 + 1, 1, none⟩ = some (.int .i64 0) := (bc _ _ (by first | (simp; done) | (simp; omega))).trans (by simp [go_sem])
  have e2f : ∀ o, w1.frozen? ⟨w.heap.size + 1 + 1, o, none⟩ = false := fun o => (bf _ _ (by first | (simp; done) | (simp; omega))).trans (by simp [go_sem])
  have B1 : Hid (Below w.heap.size w w1) := hidd (by (repeat' (first | (with_reducible exact Below.refl _ _) | (with_reducible assumption) | (with_reducible apply Below.setCell) | (with_reducible apply Below.alloc) | (with_reducible apply Below.drew) | (with_reducible apply below_drewN) | (with_reducible refine Below.trans ?_ (Below.mono (by assumption) ?_)) | omega | (simp; done) | (simp; omega))))
  have HRL := hidd hRL
  have HNEW := hidd hnew
  have HSTEP := hidd hstep
  have hbx : Hid (∀ q, (Value.slice A1 N1 c1).ownBlock = some q → q < w1.heap.size ∧ (q < w.heap.size ∨ w.heap.size + 1 + 1 < q)) := hidd (fun q e => ⟨(OwnL.lt hRL q e).2, by
    rcases hnew q e with r | r
    · exact .inl (OwnL.lt (HHG.out w (Below.refl _ _)) q r).2
    · exact .inr (by simp at r; omega)⟩)
  clear bc bf hb1 hs hRL hnew hstep
  go_wp2_with fail
  obtain ⟨W2, hW2⟩ : ∃ W2, (w1.setCell ⟨w.heap.size, 0, none⟩ (.slice A1 N1 c1)).setCell ⟨w.heap.size, 1, none⟩ (.int .i64 TG) = W2 := ⟨_, rfl⟩
  rw [hW2]
  have x00 : W2.cell? ⟨w.heap.size, 0, none⟩ = some (.slice A1 N1 c1) := by rw [← hW2]; rw [set_other _ (by omega)]; exact World.cell?_setCell_same' _ _ _ (by rw [e00]; rfl)
  have x01 : W2.cell? ⟨w.heap.size, 1, none⟩ = some (.int .i64 TG) := by rw [← hW2]; exact World.cell?_setCell_same' _ _ _ (by rw [set_other _ (by omega), e01]; rfl)
  have x20 : W2.cell? ⟨w.heap.size + 1 + 1, 0, none⟩ = some (.slice none 0 0) := by rw [← hW2]; simp [go_sem, e20]
  have x21 : W2.cell? ⟨w.heap.size + 1 + 1, 1, none⟩ = some (.int .i64 0) := by rw [← hW2]; simp [go_sem, e21]
  have x2f : ∀ o, W2.frozen? ⟨w.heap.size + 1 + 1, o, none⟩ = false := fun o => by rw [← hW2, World.frozen?_setCell, World.frozen?_setCell]; exact e2f o
  have B2 : Hid (Below w.heap.size w W2) := hidd (by have b := B1.out; rw [← hW2]; (repeat' (first | (with_reducible exact Below.refl _ _) | (with_reducible assumption) | (with_reducible apply Below.setCell) | (with_reducible apply Below.alloc) | (with_reducible apply Below.drew) | (with_reducible apply below_drewN) | (with_reducible refine Below.trans ?_ (Below.mono (by assumption) ?_)) | omega | (simp; done) | (simp; omega))))
  have hs2 : W2.heap.size = w1.heap.size := by rw [← hW2]; simp [World.setCell]
  have HRL2 : Hid (RL W2 (.slice A1 N1 c1) G1) := hidd (by rw [← hW2]; exact OwnL.to HRL.out (fun q e => by have := hbx.out q e; exact heap_set2 _ _ _ _ _ _ (by omega)))
  have m2 : w.heap.size + 1 + 1 < W2.heap.size := by omega
  have m0 : w.heap.size < W2.heap.size := by omega
  have hbx2 : Hid (∀ q, (Value.slice A1 N1 c1).ownBlock = some q → q < W2.heap.size ∧ (q < w.heap.size ∨ w.heap.size + 1 + 1 < q)) := hidd (fun q e => by have := hbx.out q e; omega)
  clear hW2 hs2 e00 e01 e0f e10 e11 e12 e13 e20 e21 e2f hbx HRL
  refine (cH.out _ (HH.out _ B2.out)).mono ?_
  rintro e w3 ⟨er, R3, M3, rfl, hst, hHR, hS, hN⟩
  have nR : ∀ k, w.heap.size ≤ k → ¬ R k := fun k hk q => by have := HL.out k q; omega
  have y00 := (hS.cell (p := ⟨w.heap.size, 0, none⟩) m0 (nR _ (Nat.le_refl _))).trans x00
  have y01 := (hS.cell (p := ⟨w.heap.size, 1, none⟩) m0 (nR _ (Nat.le_refl _))).trans x01
  have y20 := (hS.cell (p := ⟨w.heap.size + 1 + 1, 0, none⟩) m2 (nR _ (by show w.heap.size ≤ w.heap.size + 1 + 1; omega))).trans x20
  have y21 := (hS.cell (p := ⟨w.heap.size + 1 + 1, 1, none⟩) m2 (nR _ (by show w.heap.size ≤ w.heap.size + 1 + 1; omega))).trans x21
  have y2f := fun o => (World.frozen?_of_block (a := ⟨w.heap.size + 1 + 1, o, none⟩) (hS.block (w.heap.size + 1 + 1) m2 (nR _ (by omega)))).trans (x2f o)
  have hs3 := hS.size
  have q2 : w.heap.size + 1 + 1 < w3.heap.size := by omega
  have q0 : w.heap.size < w3.heap.size := by omega
  have S3 : Hid (Sav R w w3) := hidd ((Sav.of B2.out).tr hS)
  have N3 : Hid (Nxt R R3 w) := hidd (fun k hk e => hN k (by have := B2.out.size; omega) e)
  have SEP : Hid (∀ q, (Value.slice A1 N1 c1).ownBlock = some q → ¬ R3 q) := hidd (fun q e r => by
    have r' := hN q (hbx2.out q e).1 r
    rcases HNEW.out q e with z | z
    · exact HSEP.out q z r'
    · have := HL.out q r'; simp at z; omega)
  have RL3 : Hid (RL w3 (.slice A1 N1 c1) G1) := hidd (OwnL.to HRL2.out (fun q e => hS.block q (hbx2.out q e).1 (fun r => by
    rcases HNEW.out q e with z | z
    · exact HSEP.out q z r
    · have := HL.out q r; simp at z; omega)))
  have HNEW2 : Hid (New w (.slice A N c) (.slice A1 N1 c1)) := hidd (fun q e => by
    rcases HNEW.out q e with z | z
    · exact .inl z
    · exact .inr (by simp at z; omega))
  have NR3 : Hid (R3 (w.heap.size + 1 + 1) → False) := hidd (fun r => nR _ (by omega) (hN _ m2 r))
  have HST := hidd hst
  have HHR := hidd hHR
  clear hS hN hst hHR x00 x01 x20 x21 x2f nR
  go_wp2_with fail
  refine bodyPost_ret (v := .tuple #[.agg #[.slice A1 N1 c1, .int .i64 TG], .bool (er == eg)]) (by simp [results, Try.results7, go_sem, *]) rfl ⟨R3, M3, T, _, G1, TG, _, rfl, ⟨rfl, rfl, er, eg, HST.out, HSTEP.out, by first | rfl | simp⟩, ?_⟩
  obtain ⟨W4, hW4⟩ : ∃ W4, (w3.setCell ⟨w.heap.size + 1 + 1, 0, none⟩ (.slice A1 N1 c1)).setCell ⟨w.heap.size + 1 + 1, 1, none⟩ (.int .i64 TG) = W4 := ⟨_, rfl⟩
  have hk : ∀ k, k ≠ w.heap.size + 1 + 1 → W4.heap[k]? = w3.heap[k]? := fun k hk => by rw [← hW4]; exact heap_set2 _ _ _ _ _ _ hk
  have hz : w3.heap.size = W4.heap.size := by rw [← hW4]; simp [World.setCell]
  have BB : Below w.heap.size w3 W4 := by rw [← hW4]; (repeat' (first | (with_reducible exact Below.refl _ _) | (with_reducible assumption) | (with_reducible apply Below.setCell) | (with_reducible apply Below.alloc) | (with_reducible apply Below.drew) | (with_reducible apply below_drewN) | (with_reducible refine Below.trans ?_ (Below.mono (by assumption) ?_)) | omega | (simp; done) | (simp; omega)))
  show Behind R w h _ R3 ((w3.setCell ⟨w.heap.size + 1 + 1, 0, none⟩ (.slice A1 N1 c1)).setCell ⟨w.heap.size + 1 + 1, 1, none⟩ (.int .i64 TG)) M3 T _ G1
  rw [hW4]
  refine ⟨HHR.out.keep (fun k hk' => hk k (fun e => ?_)), OwnL.to RL3.out (fun q e => hk q ?_), S3.out.trans (Sav.mk BB.os BB.tape BB.output BB.size (fun k hk' hn => ?_) : Sav (fun k => w.heap.size ≤ k) w3 W4) (fun j hj e => by omega), N3.out, HNEW2.out, SEP.out⟩
  · subst e
    exact NR3.out hk'
  · have := hbx2.out q e; omega
  · exact BB.block k (by omega)
end Go.Proofs.Ytohkkebiilaniaa.Hp

/- Heaps: one call of the law's: Take, and what is no call. -/
namespace Go.Proofs.Ytohkkebiilaniaa.Hp
set_option linter.unusedVariables false
open Go.RowKit Go.Maps Go.Sort Go.Proofs.Ytohkkebiilaniaa.Tp

/-- are two items the same. -/
def eqB (x y : It) : Bool := iD x == iD y && kN x == kN y && kD x == kD y && tN x == tN y
theorem eqB_iff {x y : It} : eqB x y = true ↔ x = y := by
  unfold eqB iD kN kD tN
  constructor
  · intro h
    simp at h
    exact Prod.ext h.1.1.1 (Prod.ext h.1.1.2 (Prod.ext h.1.2 h.2))
  · rintro rfl; simp
theorem item_run (a0 a1 a2 a3 b0 b1 b2 b3 : Int) (w : World) :
    (Op.equalIn 10000 37 (.agg #[.int .i64 a0, .int .i64 a1, .int .i64 a2, .int .i64 a3]) (.agg #[.int .i64 b0, .int .i64 b1, .int .i64 b2, .int .i64 b3])).run Try.prog w = .ok (eqB (a0, a1, a2, a3) (b0, b1, b2, b3)) w := by
  unfold eqB iD kN kD tN
  by_cases h0 : a0 = b0 <;> by_cases h1 : a1 = b1 <;> by_cases h2 : a2 = b2 <;> by_cases h3 : a3 = b3 <;> simp [go_sem, Op.eqFields, *]
theorem item_bin (a0 a1 a2 a3 b0 b1 b2 b3 : Int) (w : World) :
    (binOp .eql 37 (.agg #[.int .i64 a0, .int .i64 a1, .int .i64 a2, .int .i64 a3]) (.agg #[.int .i64 b0, .int .i64 b1, .int .i64 b2, .int .i64 b3])).run Try.prog w = .ok (.bool (eqB (a0, a1, a2, a3) (b0, b1, b2, b3))) w := by
  rw [run_eql_struct, item_run]; rfl
set_option maxRecDepth 100000 in
set_option maxHeartbeats 8000000 in
theorem does_other {R : Nat → Prop} {w : World} {h : Nat} {M : List It} {T : Int} (H : HR R w h M T) {v : Value} {G : List It} {TG : Int} (HG : RL w v G) (hO : OkL G) (hsep : ∀ q, v.ownBlock = some q → ¬ R q) {id n d : Int} (i0 : -9223372036854775808 ≤ id) (i1 : id ≤ 9223372036854775807) (h0 : -9223372036854775808 ≤ n) (h1 : n ≤ 9223372036854775807) (h2 : -9223372036854775808 ≤ d) (h3 : d ≤ 9223372036854775807)
    (hL : M.length < 100000) (hT0 : 0 ≤ T) (hT1 : T < 1000000) (hLG : G.length < 100000) (hG0 : 0 ≤ TG) (hG1 : TG < 1000000) (kind : Int) (hk : ¬ (kind = 1 ∨ kind = 2 ∨ kind = 3 ∨ kind = 4)) :
    Calls Try.prog 7 #[.pointer (some ⟨h, 0, none⟩), .agg #[v, .int .i64 TG], .agg #[.int .i64 kind, .int .i64 id, .int .i64 n, .int .i64 d]] w fun e w' => e = .returned (.tuple #[.agg #[v, .int .i64 TG], .bool true]) ∧ Below w.heap.size w w' := by
  obtain ⟨A, c, hv, _⟩ := OwnL.lie HG itV_len
  subst hv
  have k1 : ¬ kind = 1 := fun e => hk (.inl e)
  have k2 : ¬ kind = 2 := fun e => hk (.inr (.inl e))
  have k3 : ¬ kind = 3 := fun e => hk (.inr (.inr (.inl e)))
  have k4 : ¬ kind = 4 := fun e => hk (.inr (.inr (.inr e)))
  clear H HG hO hsep hL hLG hT0 hT1 hG0 hG1 i0 i1 h0 h1 h2 h3 hk
  generalize hN : G.length = N at *
  clear hN
  go_enter Try.func7, Try.ntmps7
  go_wp2_with fail
  exact bodyPost_ret (v := .tuple #[.agg #[.slice A N c, .int .i64 TG], .bool true]) (by simp [results, Try.results7, go_sem, *]) rfl ⟨rfl, by (repeat' (first | (with_reducible exact Below.refl _ _) | (with_reducible assumption) | (with_reducible apply Below.setCell) | (with_reducible apply Below.alloc) | (with_reducible apply Below.drew) | (with_reducible apply below_drewN) | (with_reducible refine Below.trans ?_ (Below.mono (by assumption) ?_)) | omega | (simp; done) | (simp; omega)))⟩
def P4 (R : Nat → Prop) (w : World) (h : Nat) (M : List It) (T : Int) (G : List It) (TG : Int) (v : Value) (e : Ending) (w' : World) : Prop := ∃ R' M' T' v' G' TG' B, e = .returned (.tuple #[.agg #[v', .int .i64 TG'], .bool B]) ∧ Step4 M T M' T' G TG G' TG' B ∧ Behind R w h v R' w' M' T' v' G'
set_option maxRecDepth 100000 in
set_option maxHeartbeats 8000000 in
theorem does_4' {R : Nat → Prop} {w : World} {h : Nat} {M : List It} {T : Int} (H : HR R w h M T) {v : Value} {G : List It} {TG : Int} (HG : RL w v G) (hO : OkL G) (hsep : ∀ q, v.ownBlock = some q → ¬ R q) {id n d : Int} (i0 : -9223372036854775808 ≤ id) (i1 : id ≤ 9223372036854775807) (h0 : -9223372036854775808 ≤ n) (h1 : n ≤ 9223372036854775807) (h2 : -9223372036854775808 ≤ d) (h3 : d ≤ 9223372036854775807)
    (hL : M.length < 100000) (hT0 : 0 ≤ T) (hT1 : T < 1000000) (hLG : G.length < 100000) (hG0 : 0 ≤ TG) (hG1 : TG < 1000000) :
    Calls Try.prog 7 #[.pointer (some ⟨h, 0, none⟩), .agg #[v, .int .i64 TG], .agg #[.int .i64 4, .int .i64 id, .int .i64 n, .int .i64 d]] w fun e w' => P4 R w h M T G TG v e w' := by
  obtain ⟨A, c, hv, _⟩ := OwnL.lie HG itV_len
  have cG := hidd (fun W H' => takeG (w := W) (v := v) (G := G) (T := TG) H' (by omega))
  have cH := hidd (fun W (H' : HR R W h M T) => takeH H')
  have HL := hidd H.lt
  have HH := hidd (fun W (b : Below w.heap.size w W) => H.below b)
  have HHG := hidd (fun W (b : Below w.heap.size w W) => HG.below b)
  have HSEP := hidd hsep
  have HLV := hidd (OwnL.lt HG)
  clear H HG hO hsep hL hLG hT0 hT1 hG0 hG1 i0 i1 h0 h1 h2 h3
  subst hv
  generalize hN : G.length = N at *
  clear hN
  go_enter Try.func7, Try.ntmps7
  go_wp2_with fail
  obtain ⟨W0, hW0⟩ : ∃ W0, ((w.alloc (.cells #[.slice A N c, .int .i64 TG] 28)).alloc (.cells #[.int .i64 4, .int .i64 id, .int .i64 n, .int .i64 d] 34)).alloc (.cells #[.slice none 0 0, .int .i64 0] 28) = W0 := ⟨_, rfl⟩
  rw [hW0]
  have e00 : W0.cell? ⟨w.heap.size, 0, none⟩ = some (.slice A N c) := by rw [← hW0]; simp [go_sem]
  have e01 : W0.cell? ⟨w.heap.size, 1, none⟩ = some (.int .i64 TG) := by rw [← hW0]; simp [go_sem]
  have e20 : W0.cell? ⟨w.heap.size + 1 + 1, 0, none⟩ = some (.slice none 0 0) := by rw [← hW0]; simp [go_sem]
  have e21 : W0.cell? ⟨w.heap.size + 1 + 1, 1, none⟩ = some (.int .i64 0) := by rw [← hW0]; simp [go_sem]
  have e2f : ∀ o, W0.frozen? ⟨w.heap.size + 1 + 1, o, none⟩ = false := fun o => by rw [← hW0]; simp [go_sem]
  have m2 : w.heap.size + 1 + 1 < W0.heap.size := by rw [← hW0]; simp
  have m0 : w.heap.size < W0.heap.size := by omega
  have B0 : Hid (Below w.heap.size w W0) := hidd (by rw [← hW0]; (repeat' (first | (with_reducible exact Below.refl _ _) | (with_reducible assumption) | (with_reducible apply Below.setCell) | (with_reducible apply Below.alloc) | (with_reducible apply Below.drew) | (with_reducible apply below_drewN) | (with_reducible refine Below.trans ?_ (Below.mono (by assumption) ?_)) | omega | (simp; done) | (simp; omega))))
  clear hW0
  refine (cH.out _ (HH.out _ B0.out)).mono ?_
  rintro e w1 ⟨y, is, R3, M3, rfl, hst, hHR, hS, hN⟩
  have nR : ∀ k, w.heap.size ≤ k → ¬ R k := fun k hk q => by have := HL.out k q; omega
  have y00 := (hS.cell (p := ⟨w.heap.size, 0, none⟩) m0 (nR _ (Nat.le_refl _))).trans e00
  have y01 := (hS.cell (p := ⟨w.heap.size, 1, none⟩) m0 (nR _ (Nat.le_refl _))).trans e01
  have y20 := (hS.cell (p := ⟨w.heap.size + 1 + 1, 0, none⟩) m2 (nR _ (by show w.heap.size ≤ w.heap.size + 1 + 1; omega))).trans e20
  have y21 := (hS.cell (p := ⟨w.heap.size + 1 + 1, 1, none⟩) m2 (nR _ (by show w.heap.size ≤ w.heap.size + 1 + 1; omega))).trans e21
  have y2f := fun o => (World.frozen?_of_block (a := ⟨w.heap.size + 1 + 1, o, none⟩) (hS.block (w.heap.size + 1 + 1) m2 (nR _ (by omega)))).trans (e2f o)
  have q2 : w.heap.size + 1 + 1 < w1.heap.size := by have := hS.size; omega
  have q0 : w.heap.size < w1.heap.size := by omega
  have S1 : Hid (Sav R w w1) := hidd ((Sav.of B0.out).tr hS)
  have N1 : Hid (Nxt R R3 w) := hidd (fun k hk e => hN k (by have := B0.out.size; omega) e)
  have NR3 : Hid (∀ k, w.heap.size ≤ k → k < W0.heap.size → ¬ R3 k) := hidd (fun k a b r => nR k a (hN k b r))
  have RL1 : Hid (RL w1 (.slice A N c) G) := hidd (OwnL.to (HHG.out _ B0.out) (fun q e => hS.block q (by have := HLV.out q e; have := B0.out.size; omega) (HSEP.out q e)))
  have HST := hidd hst
  have HHR := hidd hHR
  have HL3 := hidd hHR.lt
  clear hS hN hst hHR e00 e01 e20 e21 e2f nR
  unfold agI at *
  generalize hy0 : iD y = a0 at *
  generalize hy1 : kN y = a1 at *
  generalize hy2 : kD y = a2 at *
  generalize hy3 : tN y = a3 at *
  have HY := hidd (⟨hy0, hy1, hy2, hy3⟩ : iD y = a0 ∧ kN y = a1 ∧ kD y = a2 ∧ tN y = a3)
  clear hy0 hy1 hy2 hy3
  go_wp2_with fail
  have hRLc := hidd (RL1.out.below (below_new (Below.refl _ _) (.cells #[.int .i64 a0, .int .i64 a1, .int .i64 a2, .int .i64 a3] 37)))
  refine (cG.out _ hRLc.out).mono ?_
  rintro e w2 ⟨⟨v2, z, it, G1, rfl, hrt, hRL, hnew⟩, hb2⟩
  obtain ⟨A1, c1, hv1, _⟩ := OwnL.lie hRL itV_len
  subst hv1
  generalize hl1 : G1.length = N1' at *
  clear hl1
  have hs2 := hb2.size
  have p1 : w1.heap.size < w2.heap.size := by simp at hs2; omega
  have p2 : w.heap.size + 1 + 1 < w2.heap.size := by omega
  have p0 : w.heap.size < w2.heap.size := by omega
  have x20 := (hb2.cell (p := ⟨w.heap.size + 1 + 1, 0, none⟩) (by simp; omega)).trans (show _ = some (Value.slice none 0 0) by simp [go_sem, y20, q2])
  have x21 := (hb2.cell (p := ⟨w.heap.size + 1 + 1, 1, none⟩) (by simp; omega)).trans (show _ = some (Value.int .i64 0) by simp [go_sem, y21, q2])
  have x2f := fun o => (hb2.frozen (p := ⟨w.heap.size + 1 + 1, o, none⟩) (by simp; omega)).trans (show _ = false by simp [go_sem, y2f, q2])
  have u0 := (hb2.cell (p := ⟨w1.heap.size, 0, none⟩) (by simp)).trans (show _ = some (Value.int .i64 a0) by simp [go_sem])
  have u1 := (hb2.cell (p := ⟨w1.heap.size, 1, none⟩) (by simp)).trans (show _ = some (Value.int .i64 a1) by simp [go_sem])
  have u2 := (hb2.cell (p := ⟨w1.heap.size, 2, none⟩) (by simp)).trans (show _ = some (Value.int .i64 a2) by simp [go_sem])
  have u3 := (hb2.cell (p := ⟨w1.heap.size, 3, none⟩) (by simp)).trans (show _ = some (Value.int .i64 a3) by simp [go_sem])
  have B2 : Hid (Below w1.heap.size w1 w2) := hidd (below_step (below_new (Below.refl _ _) _) hb2)
  have HRL := hidd hRL
  have HNEW := hidd hnew
  have HRT := hidd hrt
  clear hb2 hs2 hRL hnew hrt y00 y01 y20 y21 y2f
  have eqq := fun W => item_run a0 a1 a2 a3 (iD z) (kN z) (kD z) (tN z) W
  have eqb := fun W => item_bin a0 a1 a2 a3 (iD z) (kN z) (kD z) (tN z) W
  have EB : Hid (eqB (a0, a1, a2, a3) (iD z, kN z, kD z, tN z) = true ↔ y = z) := hidd (by
    obtain ⟨q0, q1, q2, q3⟩ := HY.out
    subst q0 q1 q2 q3
    rw [← it_eta, ← it_eta]; exact eqB_iff)
  unfold agI at *
  generalize eqB (a0, a1, a2, a3) (iD z, kN z, kD z, tN z) = EQ at *
  generalize iD z = b0 at *
  generalize kN z = b1 at *
  generalize kD z = b2 at *
  generalize tN z = b3 at *
  go_wp2_with fail
  obtain ⟨W4, hW4⟩ : ∃ W4, (w2.alloc (.cells #[.slice A1 N1' c1, .int .i64 TG] 28)).alloc (.cells #[.int .i64 b0, .int .i64 b1, .int .i64 b2, .int .i64 b3] 37) = W4 := ⟨_, rfl⟩
  rw [hW4]
  have z0 : W4.cell? ⟨w2.heap.size, 0, none⟩ = some (.slice A1 N1' c1) := by rw [← hW4]; simp [go_sem]
  have z1 : W4.cell? ⟨w2.heap.size, 1, none⟩ = some (.int .i64 TG) := by rw [← hW4]; simp [go_sem]
  have z2 : W4.cell? ⟨w2.heap.size + 1, 0, none⟩ = some (.int .i64 b0) := by rw [← hW4]; simp [go_sem]
  have z3 : W4.cell? ⟨w2.heap.size + 1, 1, none⟩ = some (.int .i64 b1) := by rw [← hW4]; simp [go_sem]
  have z4 : W4.cell? ⟨w2.heap.size + 1, 2, none⟩ = some (.int .i64 b2) := by rw [← hW4]; simp [go_sem]
  have z5 : W4.cell? ⟨w2.heap.size + 1, 3, none⟩ = some (.int .i64 b3) := by rw [← hW4]; simp [go_sem]
  have B4 : Hid (Below w2.heap.size w2 W4) := hidd (by rw [← hW4]; (repeat' (first | (with_reducible exact Below.refl _ _) | (with_reducible assumption) | (with_reducible apply Below.setCell) | (with_reducible apply Below.alloc) | (with_reducible apply Below.drew) | (with_reducible apply below_drewN) | (with_reducible refine Below.trans ?_ (Below.mono (by assumption) ?_)) | omega | (simp; done) | (simp; omega))))
  have v20 := (B4.out.cell (p := ⟨w.heap.size + 1 + 1, 0, none⟩) p2).trans x20
  have v21 := (B4.out.cell (p := ⟨w.heap.size + 1 + 1, 1, none⟩) p2).trans x21
  have v2f := fun o => (B4.out.frozen (p := ⟨w.heap.size + 1 + 1, o, none⟩) p2).trans (x2f o)
  have v0 := (B4.out.cell (p := ⟨w1.heap.size, 0, none⟩) p1).trans u0
  have v1 := (B4.out.cell (p := ⟨w1.heap.size, 1, none⟩) p1).trans u1
  have v2 := (B4.out.cell (p := ⟨w1.heap.size, 2, none⟩) p1).trans u2
  have v3 := (B4.out.cell (p := ⟨w1.heap.size, 3, none⟩) p1).trans u3
  clear hW4 x20 x21 x2f u0 u1 u2 u3
  have FIN : Hid (∀ W6 : World, (∀ k, k ≠ w.heap.size + 1 + 1 → W6.heap[k]? = W4.heap[k]?) → W6.heap.size = W4.heap.size → W6.os = W4.os → W6.tape = W4.tape → W6.output = W4.output → Behind R w h (.slice A N c) R3 W6 M3 T (.slice A1 N1' c1) G1) := hidd (fun W6 hk hz ho ht hu => by
    have b2 := B2.out
    have b4 := B4.out
    have l4 := b4.size
    have b24 : Below w1.heap.size w1 W4 := b2.trans (b4.mono (by omega))
    have hbox : ∀ q, (Value.slice A1 N1' c1).ownBlock = some q → q ≠ w.heap.size + 1 + 1 := fun q e => by
      rcases HNEW.out q e with r | r
      · have := HLV.out q r; omega
      · simp at r; omega
    refine ⟨HHR.out.keep (fun k hk' => ?_), OwnL.to HRL.out (fun q e => ?_), S1.out.trans (Sav.mk (ho.trans b24.os) (ht.trans b24.tape) (hu.trans b24.output) (by have := b24.size; omega) (fun k hk' hn => ?_) : Sav (fun k => w.heap.size ≤ k) w1 W6) (fun j hj e => by omega), N1.out, fun q e => ?_, fun q e r => ?_⟩
    · have a1 : k < w1.heap.size := HL3.out k hk'
      rw [hk k (fun e => NR3.out _ (by omega) m2 (e ▸ hk')), b24.block k a1]
    · have := OwnL.lt HRL.out q e
      rw [hk q (hbox q e), b4.block q (by omega)]
    · rw [hk k (by omega), b24.block k (by omega)]
    · rcases HNEW.out q e with z | z
      · exact .inl z
      · exact .inr (by simp at z; omega)
    · rcases HNEW.out q e with z | z
      · have := N1.out q (by have := HLV.out q z; omega) r
        exact HSEP.out q z this
      · have := HL3.out q r
        simp at z
        omega)
  clear N1 NR3 S1 HNEW HRL HHR B2 B4 HL3 HLV HSEP HL HH HHG cG cH
  cases EQ
  case true =>
    go_region_law (fail)
    all_goals
      go_wp2_with fail
      exact bodyPost_ret (v := .tuple #[.agg #[.slice A1 N1' c1, .int .i64 TG], .bool (is == it)]) (by simp [results, Try.results7, go_sem, *]) rfl ⟨R3, M3, T, _, G1, TG, _, rfl, ⟨rfl, rfl, y, is, z, it, HST.out, HRT.out, by have := EB.out; simp at this; simp [this]⟩, FIN.out _ (fun k hk => heap_set2 _ _ _ _ _ _ hk) (by simp [World.setCell]) rfl rfl rfl⟩
  case false =>
    go_region
    go_wp2_with fail
    exact bodyPost_ret (v := .tuple #[.agg #[.slice A1 N1' c1, .int .i64 TG], .bool false]) (by simp [results, Try.results7, go_sem, *]) rfl ⟨R3, M3, T, _, G1, TG, _, rfl, ⟨rfl, rfl, y, is, z, it, HST.out, HRT.out, by have := EB.out; simp at this; simp [this]⟩, FIN.out _ (fun k hk => heap_set2 _ _ _ _ _ _ hk) (by simp [World.setCell]) rfl rfl rfl⟩
theorem does_4 {R : Nat → Prop} {w : World} {h : Nat} {M : List It} {T : Int} (H : HR R w h M T) {v : Value} {G : List It} {TG : Int} (HG : RL w v G) (hO : OkL G) (hsep : ∀ q, v.ownBlock = some q → ¬ R q) {id n d : Int} (i0 : -9223372036854775808 ≤ id) (i1 : id ≤ 9223372036854775807) (h0 : -9223372036854775808 ≤ n) (h1 : n ≤ 9223372036854775807) (h2 : -9223372036854775808 ≤ d) (h3 : d ≤ 9223372036854775807)
    (hL : M.length < 100000) (hT0 : 0 ≤ T) (hT1 : T < 1000000) (hLG : G.length < 100000) (hG0 : 0 ≤ TG) (hG1 : TG < 1000000) :
    Calls Try.prog 7 #[.pointer (some ⟨h, 0, none⟩), .agg #[v, .int .i64 TG], .agg #[.int .i64 4, .int .i64 id, .int .i64 n, .int .i64 d]] w fun e w' => ∃ R' M' T' v' G' TG' B, e = .returned (.tuple #[.agg #[v', .int .i64 TG'], .bool B]) ∧ Step4 M T M' T' G TG G' TG' B ∧ Behind R w h v R' w' M' T' v' G' := (does_4' H HG hO hsep i0 i1 h0 h1 h2 h3 hL hT0 hT1 hLG hG0 hG1).mono fun e w' h => h
end Go.Proofs.Ytohkkebiilaniaa.Hp

/- Heaps: HeapDrains' walk. -/
namespace Go.Proofs.Ytohkkebiilaniaa.Hp
set_option linter.unusedVariables false
open Go.RowKit Go.Maps Go.Sort Go.Proofs.Ytohkkebiilaniaa.Tp

theorem len1 {id n d : Int} {M M' : List It} {T T' er : Int} (h : HPut M T id n d M' T' er) : M'.length ≤ M.length + 1 ∧ T ≤ T' ∧ T' ≤ T + 1 := by
  rcases h with ⟨_, rfl, rfl, _⟩ | ⟨_, _, rfl, rfl, _⟩ | ⟨_, _, rfl, rfl, _⟩ <;> (try rw [List.length_append]) <;> refine ⟨?_, ?_, ?_⟩ <;> first | omega | (simp; done)
theorem len2 {id n d : Int} {M M' : List It} {er : Int} (h : HSet M id n d M' er) : M'.length ≤ M.length + 1 := by
  rcases h with ⟨_, rfl, _⟩ | ⟨_, _, rfl, _⟩ | ⟨_, x, hx, _, rfl, _⟩
  · omega
  · omega
  · have := List.length_pos_of_mem hx
    rw [List.length_append, List.length_erase_of_mem hx, List.length_singleton]; omega
theorem len_er (M : List It) (x : It) : (M.erase x).length ≤ M.length := List.length_erase_le
theorem len3 {id : Int} {M M' : List It} {er : Int} (h : HDrop M id M' er) : M'.length ≤ M.length + 1 := by
  rcases h with ⟨_, rfl, _⟩ | ⟨x, hx, _, rfl, _⟩
  · omega
  · have := len_er M x; omega
theorem len4 {M M' : List It} {y : It} {is : Bool} (h : HTake M M' y is) : M'.length ≤ M.length + 1 := by
  rcases h with ⟨rfl, rfl, _⟩ | ⟨_, rfl, _⟩
  · simp
  · have := len_er M y; omega
def D0 (R : Nat → Prop) (w : World) (h : Nat) (M : List It) (T : Int) (e : Ending) (w' : World) : Prop :=
  ∃ v R' M' T', e = .returned v ∧ HR R' w' h M' T' ∧ Sav R w w' ∧ Nxt R R' w ∧ M'.length ≤ M.length + 1 ∧ 0 ≤ T' ∧ T' ≤ T + 1
theorem does_0 {R : Nat → Prop} {w : World} {h : Nat} {M : List It} {T : Int} (H : HR R w h M T) (x : Int × Int × Int × Int) (hx : WdA x) (hL : M.length < 100000) (hT0 : 0 ≤ T) (hT1 : T < 1000000) :
    Calls Try.prog 7 #[.pointer (some ⟨h, 0, none⟩), .agg #[.slice none 0 0, .int .i64 0], .agg #[.int .i64 x.1, .int .i64 x.2.1, .int .i64 x.2.2.1, .int .i64 x.2.2.2]] w fun e w' => D0 R w h M T e w' := by
  obtain ⟨kind, id, n, d⟩ := x
  obtain ⟨i0, i1, h0, h1, h2, h3⟩ := hx
  have HG : RL w (.slice none 0 0) [] := OwnL.nil w 0 _
  have hO : OkL [] := fun x hx => by simp at hx
  have hsep : ∀ q, (Value.slice none 0 0).ownBlock = some q → ¬ R q := fun q e => by cases e
  by_cases k1 : kind = 1
  · subst k1
    refine (does_1 H HG hO hsep i0 i1 h0 h1 h2 h3 hL hT0 hT1 (by simp) (by omega) (by omega)).mono ?_
    rintro e w' ⟨R', M', T', v', G', TG', B, he, ⟨er, eg, p, _, _⟩, hb⟩
    have := len1 p
    exact ⟨_, R', M', T', he, hb.hr, hb.sav, hb.nxt, this.1, by omega, this.2.2⟩
  by_cases k2 : kind = 2
  · subst k2
    refine (does_2 H HG hO hsep i0 i1 h0 h1 h2 h3 hL hT0 hT1 (by simp) (by omega) (by omega)).mono ?_
    rintro e w' ⟨R', M', T', v', G', TG', B, he, ⟨rfl, _, er, eg, p, _, _⟩, hb⟩
    exact ⟨_, R', M', T', he, hb.hr, hb.sav, hb.nxt, len2 p, by omega, by omega⟩
  by_cases k3 : kind = 3
  · subst k3
    refine (does_3 H HG hO hsep i0 i1 h0 h1 h2 h3 hL hT0 hT1 (by simp) (by omega) (by omega)).mono ?_
    rintro e w' ⟨R', M', T', v', G', TG', B, he, ⟨rfl, _, er, eg, p, _, _⟩, hb⟩
    exact ⟨_, R', M', T', he, hb.hr, hb.sav, hb.nxt, len3 p, by omega, by omega⟩
  by_cases k4 : kind = 4
  · subst k4
    refine (does_4 H HG hO hsep i0 i1 h0 h1 h2 h3 hL hT0 hT1 (by simp) (by omega) (by omega)).mono ?_
    rintro e w' ⟨R', M', T', v', G', TG', B, he, ⟨rfl, _, y, is, z, it, p, _, _⟩, hb⟩
    exact ⟨_, R', M', T', he, hb.hr, hb.sav, hb.nxt, len4 p, by omega, by omega⟩
  refine (does_other H HG hO hsep i0 i1 h0 h1 h2 h3 hL hT0 hT1 (by simp) (by omega) (by omega) kind (by simp [k1, k2, k3, k4])).mono ?_
  rintro e w' ⟨he, hb⟩
  exact ⟨_, R, M, T, he, H.below hb, Sav.of hb, Nxt.refl R w, by omega, by omega, by omega⟩
def aA (L : List (Int × Int × Int × Int)) (i : Nat) : Int × Int × Int × Int := L.getD i (0, 0, 0, 0)
theorem aA_at {L : List (Int × Int × Int × Int)} {i : Nat} (h : i < L.length) : aA L i = L[i] := by simp [aA, h]
theorem Lie.act {w : World} {B : Nat} {A : Option Addr} {l : List (Int × Int × Int × Int)} (h : Lie actV 4 w B A l) (i : Nat) (hi : i < l.length) :
    ∃ ad, A = some ad ∧ (ad.add (i * 4)).block < B ∧ w.cell? (ad.add (i * 4)) = some (.int .i64 (aA l i).1) ∧ w.cell? ⟨(ad.add (i * 4)).block, (ad.add (i * 4)).off + 1, none⟩ = some (.int .i64 (aA l i).2.1) ∧ w.cell? ⟨(ad.add (i * 4)).block, (ad.add (i * 4)).off + 1 + 1, none⟩ = some (.int .i64 (aA l i).2.2.1) ∧ w.cell? ⟨(ad.add (i * 4)).block, (ad.add (i * 4)).off + 1 + 1 + 1, none⟩ = some (.int .i64 (aA l i).2.2.2) := by
  obtain ⟨ad, e, hB, hc⟩ := h (by omega)
  have hx : l[i]? = some l[i] := List.getElem?_eq_getElem hi
  rw [aA_at hi]
  have h0 := hc i _ hx 0 _ rfl
  have h1 := hc i _ hx 1 _ rfl
  have h2 := hc i _ hx 2 _ rfl
  have h3 := hc i _ hx 3 _ rfl
  rw [← add_of_add] at h1 h2 h3
  exact ⟨ad, e, by rw [block_of_add]; exact hB, h0, h1, h2, h3⟩
theorem erase_none {R : Nat → Prop} {W : World} {h : Nat} {M : List It} {T : Int} (H : HR R W h M T) {x : It} (hx : x ∈ M) : x ∉ M.erase x := by
  have hn : M.Nodup := by
    have := H.1.nd
    exact (List.pairwise_map.1 this).imp (fun h e => h (by rw [e]))
  intro hm
  exact ((List.Nodup.mem_erase_iff hn).1 hm).1 rfl
theorem erase_id {R : Nat → Prop} {W : World} {h : Nat} {M : List It} {T : Int} (H : HR R W h M T) {x : It} (hx : x ∈ M) : ¬ ∃ y ∈ M.erase x, iD y = iD x := by
  rintro ⟨y, hy, e⟩
  have := H.ids (List.mem_of_mem_erase hy) hx e
  subst this
  exact erase_none H hx hy
theorem erase_lt {R : Nat → Prop} {W : World} {h : Nat} {M : List It} {T : Int} (H : HR R W h M T) {x : It} (hx : MinOf M x) : ∀ y ∈ M.erase x, Lt x y := by
  intro y hy
  have hm := List.mem_of_mem_erase hy
  have a := hx.2 y hm
  rw [le_iff] at a
  have ne : tN x ≠ tN y := fun e => by
    have := H.1.uniq hx.1 hm e
    subst this
    exact erase_none H hx.1 hy
  unfold Lt
  omega
theorem setFour {W W' : World} {b : Nat} {o0 o1 o2 o3 v0 v1 v2 v3 : Value} (c0 : W.cell? ⟨b, 0, none⟩ = some o0) (c1 : W.cell? ⟨b, 1, none⟩ = some o1) (c2 : W.cell? ⟨b, 2, none⟩ = some o2) (c3 : W.cell? ⟨b, 3, none⟩ = some o3) (cf : ∀ o, W.frozen? ⟨b, o, none⟩ = false) (e : (((W.setCell ⟨b, 0, none⟩ v0).setCell ⟨b, 1, none⟩ v1).setCell ⟨b, 2, none⟩ v2).setCell ⟨b, 3, none⟩ v3 = W') :
    W'.cell? ⟨b, 0, none⟩ = some v0 ∧ W'.cell? ⟨b, 1, none⟩ = some v1 ∧ W'.cell? ⟨b, 2, none⟩ = some v2 ∧ W'.cell? ⟨b, 3, none⟩ = some v3 ∧ (∀ o, W'.frozen? ⟨b, o, none⟩ = false) ∧ (∀ k, k ≠ b → W'.heap[k]? = W.heap[k]?) ∧ W'.heap.size = W.heap.size ∧ W'.os = W.os ∧ W'.tape = W.tape ∧ W'.output = W.output := by
  subst e
  refine ⟨?_, ?_, ?_, ?_, fun o => ?_, fun k hk => ?_, by simp [World.setCell], rfl, rfl, rfl⟩
  · rw [set_other _ (by omega), set_other _ (by omega), set_other _ (by omega)]; exact World.cell?_setCell_same' _ _ _ (by rw [c0]; rfl)
  · rw [set_other _ (by omega), set_other _ (by omega)]; exact World.cell?_setCell_same' _ _ _ (by rw [set_other _ (by omega), c1]; rfl)
  · rw [set_other _ (by omega)]; exact World.cell?_setCell_same' _ _ _ (by rw [set_other _ (by omega), set_other _ (by omega), c2]; rfl)
  · exact World.cell?_setCell_same' _ _ _ (by rw [set_other _ (by omega), set_other _ (by omega), set_other _ (by omega), c3]; rfl)
  · rw [World.frozen?_setCell, World.frozen?_setCell, World.frozen?_setCell, World.frozen?_setCell]; exact cf o
  · rw [heap_set2 _ _ _ _ _ _ hk, heap_set2 _ _ _ _ _ _ hk]
def Cells4 (W : World) (b : Nat) (x : It) : Prop := W.cell? ⟨b, 0, none⟩ = some (.int .i64 (iD x)) ∧ W.cell? ⟨b, 1, none⟩ = some (.int .i64 (kN x)) ∧ W.cell? ⟨b, 2, none⟩ = some (.int .i64 (kD x)) ∧ W.cell? ⟨b, 3, none⟩ = some (.int .i64 (tN x))
end Go.Proofs.Ytohkkebiilaniaa.Hp

