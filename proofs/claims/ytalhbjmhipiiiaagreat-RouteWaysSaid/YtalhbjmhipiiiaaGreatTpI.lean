/- Maps: what is told of one: isNone, Nodes, Len, Link, Between. -/
import Derived.Test.YtalhbjmhipiiiaaGreatTpH
namespace Go.Proofs.YtalhbjmhipiiiaaGreat.Tp
set_option linter.unusedVariables false
open Go.RowKit Go.Maps

/-- no map: nil, or a zero one. -/
def NoneV (w : World) (v : Value) : Prop := v = .pointer none ∨ ∃ z, v = .pointer (some ⟨z, 0, none⟩) ∧ z < w.heap.size ∧ w.cell? ⟨z, 0, none⟩ = some (.int .i64 0)
theorem NoneV.below {w w' : World} {v : Value} (h : NoneV w v) (hb : Below w.heap.size w w') : NoneV w' v := by
  rcases h with rfl | ⟨z, rfl, hz, hc⟩
  · exact .inl rfl
  · exact .inr ⟨z, rfl, Nat.lt_of_lt_of_le hz hb.size, (hb.cell (p := ⟨z, 0, none⟩) hz).trans hc⟩
theorem isNone_no (v : Value) (w : World) (h : NoneV w v) : Calls Tryz.prog 36 #[v] w fun e w' => e = .returned (.bool true) ∧ w = w' := by
  rcases h with rfl | ⟨z, rfl, hz, hc⟩
  · go_enter Tryz.func36, Tryz.ntmps36
    go_wp2
    go_ret
    exact ⟨by first | rfl | simp, rfl⟩
  · go_enter Tryz.func36, Tryz.ntmps36
    go_wp2
    go_ret
    exact ⟨by first | rfl | simp, rfl⟩
theorem isNone_yes (m : Nat) (n : Int) (hn : 1 ≤ n) (w : World) (hc : w.cell? ⟨m, 0, none⟩ = some (.int .i64 n)) : Calls Tryz.prog 36 #[.pointer (some ⟨m, 0, none⟩)] w fun e w' => e = .returned (.bool false) ∧ w = w' := by
  have h0 : decide (n = 0) = false := decide_eq_false (by omega)
  have h1 : ¬ n = 0 := by omega
  go_enter Tryz.func36, Tryz.ntmps36
  go_wp2
  go_ret
  exact ⟨by first | rfl | simp [h1], rfl⟩
theorem Nodes_no (v : Value) (w : World) (h : NoneV w v) : Calls Tryz.prog 67 #[v] w fun e w' => e = .returned (.int .i64 0) ∧ w = w' := by
  have c := hidd (isNone_no v w h)
  clear h
  go_enter Tryz.func67, Tryz.ntmps67
  go_wp2_with fail
  refine c.out.mono ?_
  rintro e w' ⟨rfl, rfl⟩
  go_wp2_with fail
  go_ret
  exact ⟨rfl, rfl⟩
theorem Nodes_yes (m : Nat) (n : Int) (hn : 1 ≤ n) (L : List Lk) (w : World) (h : MapAt w m n L) : Calls Tryz.prog 67 #[.pointer (some ⟨m, 0, none⟩)] w fun e w' => e = .returned (.int .i64 n) ∧ w = w' := by
  obtain ⟨A, c, b, h1, h2, h3, h4, h5, h6⟩ := h
  have c := hidd (isNone_yes m n hn w h2)
  clear h4 h5 h6
  go_enter Tryz.func67, Tryz.ntmps67
  go_wp2_with fail
  refine c.out.mono ?_
  rintro e w' ⟨rfl, rfl⟩
  go_wp2_with fail
  go_ret
  exact ⟨rfl, rfl⟩
set_option maxHeartbeats 2000000 in
theorem Link_no (v : Value) (i : Int) (w : World) (h : NoneV w v) : Calls Tryz.prog 21 #[v, .int .i64 i] w fun e w' => e = .returned (.tuple #[.agg #[.int .i64 0, .int .i64 0, .int .i64 0, .int .i64 0, .int .i64 0, .int .i64 0, .int .i64 0, .int .i64 0], .int .i64 1]) ∧ Below w.heap.size w w' := by
  have c := hidd (fun W (hW : Below w.heap.size w W) => isNone_no v W (h.below hW))
  clear h
  go_enter Tryz.func21, Tryz.ntmps21
  go_wp2_with fail
  refine (c.out _ (by (repeat' (first | (with_reducible exact Below.refl _ _) | (with_reducible assumption) | (with_reducible apply Below.setCell) | (with_reducible apply Below.alloc) | (with_reducible apply Below.drew) | (with_reducible apply below_drewN) | (with_reducible refine Below.trans ?_ (Below.mono (by assumption) ?_)) | omega | (simp; done) | (simp; omega))))).mono ?_
  rintro e w' ⟨rfl, rfl⟩
  go_wp2_with fail
  exact bodyPost_ret (v := .tuple #[.agg #[.int .i64 0, .int .i64 0, .int .i64 0, .int .i64 0, .int .i64 0, .int .i64 0, .int .i64 0, .int .i64 0], .int .i64 1]) (by simp [results, Tryz.results21, go_sem]) rfl ⟨rfl, by (repeat' (first | (with_reducible exact Below.refl _ _) | (with_reducible assumption) | (with_reducible apply Below.setCell) | (with_reducible apply Below.alloc) | (with_reducible apply Below.drew) | (with_reducible apply below_drewN) | (with_reducible refine Below.trans ?_ (Below.mono (by assumption) ?_)) | omega | (simp; done) | (simp; omega)))⟩
set_option maxHeartbeats 2000000 in
theorem Link_out (m : Nat) (n : Int) (hn : 1 ≤ n) (L : List Lk) (hL : L.length ≤ 1000000) (i : Int) (hi : inB 0 i ((L.length : Int) - 1) = false) (w : World) (h : MapAt w m n L) : Calls Tryz.prog 21 #[.pointer (some ⟨m, 0, none⟩), .int .i64 i] w fun e w' => e = .returned (.tuple #[.agg #[.int .i64 0, .int .i64 0, .int .i64 0, .int .i64 0, .int .i64 0, .int .i64 0, .int .i64 0, .int .i64 0], .int .i64 4]) ∧ Below w.heap.size w w' := by
  obtain ⟨A, c, b, h1, h2, h3, h4, h5, h6⟩ := h
  have hb : Below w.heap.size w (w.alloc (.cells #[.int .i64 0, .int .i64 0, .int .i64 0, .int .i64 0, .int .i64 0, .int .i64 0, .int .i64 0, .int .i64 0] 51)) := by (repeat' (first | (with_reducible exact Below.refl _ _) | (with_reducible assumption) | (with_reducible apply Below.setCell) | (with_reducible apply Below.alloc) | (with_reducible apply Below.drew) | (with_reducible apply below_drewN) | (with_reducible refine Below.trans ?_ (Below.mono (by assumption) ?_)) | omega | (simp; done) | (simp; omega)))
  have c := hidd (isNone_yes m n hn (w.alloc (.cells #[.int .i64 0, .int .i64 0, .int .i64 0, .int .i64 0, .int .i64 0, .int .i64 0, .int .i64 0, .int .i64 0] 51)) ((hb.cell (p := ⟨m, 0, none⟩) h1).trans h2))
  have cf := hidd (fun W => isFromI_any 0 i ((L.length : Int) - 1) W)
  rw [hi] at cf
  have h3' := (hb.cell (p := ⟨m, 1, none⟩) h1).trans h3
  clear h4 h5 h6 hi h2 hb
  go_enter Tryz.func21, Tryz.ntmps21
  go_wp2_with fail
  refine c.out.mono ?_
  rintro e w' ⟨rfl, rfl⟩
  go_wp2_with fail
  refine (cf.out _).mono ?_
  rintro e w' ⟨rfl, rfl⟩
  go_wp2_with fail
  exact bodyPost_ret (v := .tuple #[.agg #[.int .i64 0, .int .i64 0, .int .i64 0, .int .i64 0, .int .i64 0, .int .i64 0, .int .i64 0, .int .i64 0], .int .i64 4]) (by simp [results, Tryz.results21, go_sem]) rfl ⟨rfl, by (repeat' (first | (with_reducible exact Below.refl _ _) | (with_reducible assumption) | (with_reducible apply Below.setCell) | (with_reducible apply Below.alloc) | (with_reducible apply Below.drew) | (with_reducible apply below_drewN) | (with_reducible refine Below.trans ?_ (Below.mono (by assumption) ?_)) | omega | (simp; done) | (simp; omega)))⟩
set_option maxRecDepth 100000 in
set_option maxHeartbeats 2000000 in
theorem Link_in (m : Nat) (n : Int) (hn : 1 ≤ n) (L : List Lk) (hL : L.length ≤ 1000000) (i : Nat) (hi : i < L.length) (w : World) (h : MapAt w m n L) : Calls Tryz.prog 21 #[.pointer (some ⟨m, 0, none⟩), .int .i64 (i : Int)] w fun e w' => e = .returned (.tuple #[linkA (lkAt L i), .int .i64 0]) ∧ Below w.heap.size w w' := by
  obtain ⟨A, c, b, h1, h2, h3, h4, h5, h6⟩ := h
  have hin : inB 0 (i : Int) ((L.length : Int) - 1) = true := inB_iff.2 (by omega)
  have hb : Below w.heap.size w (w.alloc (.cells #[.int .i64 0, .int .i64 0, .int .i64 0, .int .i64 0, .int .i64 0, .int .i64 0, .int .i64 0, .int .i64 0] 51)) := by (repeat' (first | (with_reducible exact Below.refl _ _) | (with_reducible assumption) | (with_reducible apply Below.setCell) | (with_reducible apply Below.alloc) | (with_reducible apply Below.drew) | (with_reducible apply below_drewN) | (with_reducible refine Below.trans ?_ (Below.mono (by assumption) ?_)) | omega | (simp; done) | (simp; omega)))
  have c := hidd (isNone_yes m n hn (w.alloc (.cells #[.int .i64 0, .int .i64 0, .int .i64 0, .int .i64 0, .int .i64 0, .int .i64 0, .int .i64 0, .int .i64 0] 51)) ((hb.cell (p := ⟨m, 0, none⟩) h1).trans h2))
  have cf := hidd (fun W => isFromI_any 0 (i : Int) ((L.length : Int) - 1) W)
  rw [hin] at cf
  have h3' := (hb.cell (p := ⟨m, 1, none⟩) h1).trans h3
  obtain ⟨ad, rfl, ha, x0, x1, x2, x3, x4, x5, x6, x7⟩ := (h5.below hb).link i hi
  have hin2 : (i : Int) < (L.length : Int) := by omega
  have hi0 : (0 : Int) ≤ (i : Int) := by omega
  have hbl : ¬ (ad.add (i * 8)).block = w.heap.size := by
    obtain ⟨ad', e', hB', _⟩ := h5 (by omega)
    cases e'
    rw [block_of_add]
    omega
  unfold linkA
  generalize fr (lkAt L i) = a0 at *
  generalize tw (lkAt L i) = a1 at *
  generalize rt (lkAt L i) = a2 at *
  generalize sh (lkAt L i) = a3 at *
  generalize fa (lkAt L i) = a4 at *
  generalize mo (lkAt L i) = a5 at *
  generalize ro (lkAt L i) = a6 at *
  generalize fi (lkAt L i) = a7 at *
  clear h4 h5 h6 hin h2 hb h3
  go_enter Tryz.func21, Tryz.ntmps21
  go_wp2_with fail
  refine c.out.mono ?_
  rintro e w' ⟨rfl, rfl⟩
  go_wp2_with fail
  refine (cf.out _).mono ?_
  rintro e w' ⟨rfl, rfl⟩
  go_wp2_with fail
  exact bodyPost_ret (v := .tuple #[.agg #[.int .i64 a0, .int .i64 a1, .int .i64 a2, .int .i64 a3, .int .i64 a4, .int .i64 a5, .int .i64 a6, .int .i64 a7], .int .i64 0]) (by simp [results, Tryz.results21, go_sem]) rfl ⟨rfl, by (repeat' (first | (with_reducible exact Below.refl _ _) | (with_reducible assumption) | (with_reducible apply Below.setCell) | (with_reducible apply Below.alloc) | (with_reducible apply Below.drew) | (with_reducible apply below_drewN) | (with_reducible refine Below.trans ?_ (Below.mono (by assumption) ?_)) | omega | (simp; done) | (simp; omega)))⟩
end Go.Proofs.YtalhbjmhipiiiaaGreat.Tp
