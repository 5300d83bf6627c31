/- Maps: the links of a node, put in order: what the order asks for, and the library's sort of them. -/
import Derived.Test.YtalhbjmhipiiiaaGreatTpH
import Derived.Test.YtalhbjmhipiiiaaGreatShelfS
import Derived.Shelf.SlSortCmp.NoneTotal
import Derived.Sort.LotA
namespace Go.Proofs.YtalhbjmhipiiiaaGreat.Tp
set_option linter.unusedVariables false
open Go.RowKit Go.Shelf Go.Sort Go.Lib

theorem still_quiet {P : Program} {f : FuncId} {args : Array Value} {w : World} {n : Nat} {v : Value}
    (h : Calls P f args (w.drewN n) fun e w' => e = .returned v ∧ w.drewN n = w') : Calls P f args (w.drewN n) fun e w' => e = .returned v ∧ ∃ m, w' = w.drewN m :=
  h.mono fun _ _ ⟨he, hw⟩ => ⟨he, n, hw.symm⟩
def cmpV (x y : Int) : Int := if x < y then -1 else if y < x then 1 else 0
theorem isNaN_any (x : Int) (w : World) : Calls Tryz.prog 151 #[.int .i64 x] w fun e w' => e = .returned (.bool false) ∧ w = w' := by
  go_enter Tryz.func151, Tryz.ntmps151
  go_wp2
  go_ret
  exact ⟨by simp, rfl⟩
theorem Compare_any (x y : Int) (w : World) : Calls Tryz.prog 148 #[.int .i64 x, .int .i64 y] w fun e w' => e = .returned (.int .i64 (cmpV x y)) ∧ w = w' := by
  have cx := hidd (fun W => isNaN_any x W)
  have cy := hidd (fun W => isNaN_any y W)
  unfold cmpV
  by_cases h : x < y
  · rw [if_pos h]
    go_enter Tryz.func148, Tryz.ntmps148
    go_wp2_with fail
    refine (cx.out _).mono ?_
    rintro e w' ⟨rfl, rfl⟩
    go_wp2_with fail
    refine (cy.out _).mono ?_
    rintro e w' ⟨rfl, rfl⟩
    go_wp2_with fail
    go_ret
    exact ⟨rfl, rfl⟩
  · rw [if_neg h]
    by_cases h2 : y < x
    · rw [if_pos h2]
      go_enter Tryz.func148, Tryz.ntmps148
      go_wp2_with fail
      refine (cx.out _).mono ?_
      rintro e w' ⟨rfl, rfl⟩
      go_wp2_with fail
      refine (cy.out _).mono ?_
      rintro e w' ⟨rfl, rfl⟩
      go_wp2_with fail
      go_ret
      exact ⟨rfl, rfl⟩
    · rw [if_neg h2]
      go_enter Tryz.func148, Tryz.ntmps148
      go_wp2_with fail
      refine (cx.out _).mono ?_
      rintro e w' ⟨rfl, rfl⟩
      go_wp2_with fail
      refine (cy.out _).mono ?_
      rintro e w' ⟨rfl, rfl⟩
      go_wp2_with fail
      go_ret
      exact ⟨rfl, rfl⟩
/-- a box with a map, whose links lie at Ad. -/
structure FromBox (W : World) (q m : Nat) (L : List Lk) (Ad : Addr) : Prop where
  box : W.cell? ⟨q, 0, none⟩ = some (.pointer (some ⟨m, 0, none⟩))
  row : ∃ c, W.cell? ⟨m, 1, none⟩ = some (.slice (some Ad) L.length c)
  at_ : ∀ i, i < L.length → W.cell? ⟨(Ad.add (i * 8)).block, (Ad.add (i * 8)).off + 1, none⟩ = some (.int .i64 (tw (lkAt L i)))
theorem FromBox.drewN {W : World} {q m : Nat} {L : List Lk} {Ad : Addr} (h : FromBox W q m L Ad) (n : Nat) : FromBox (W.drewN n) q m L Ad := ⟨h.box, h.row, h.at_⟩
theorem FromBox.kept {W W' : World} {q m g : Nat} {L : List Lk} {Ad : Addr} (h : FromBox W q m L Ad) (hq : q ≠ g) (hm : m ≠ g) (hA : Ad.block ≠ g) (hk : ∀ k, k < W.heap.size → k ≠ g → W'.heap[k]? = W.heap[k]?) : FromBox W' q m L Ad := by
  obtain ⟨h1, ⟨c, h2⟩, h3⟩ := h
  have go : ∀ (a : Addr) v, W.cell? a = some v → a.block ≠ g → W'.cell? a = some v := fun a v hv hne => (World.cell?_of_block (hk a.block (World.block_lt_of_cell? _ _ hv) hne)).trans hv
  exact ⟨go _ _ h1 hq, ⟨c, go _ _ h2 hm⟩, fun i hi => go _ _ (h3 i hi) (by show (Ad.add (i * 8)).block ≠ g; rw [block_of_add]; exact hA)⟩
set_option maxHeartbeats 2000000 in
theorem from1_any (q m : Nat) (L : List Lk) (hL : L.length ≤ 1000000) (Ad : Addr) (i : Nat) (hi : i < L.length) (W : World) (h : FromBox W q m L Ad) :
    Calls Tryz.prog 142 #[.int .i64 (i : Int), .pointer (some ⟨q, 0, none⟩)] W fun e w' => e = .returned (.int .i64 (tw (lkAt L i))) ∧ W = w' := by
  obtain ⟨h1, ⟨c, h2⟩, h3⟩ := h
  have h4 := h3 i hi
  have hi0 : (0 : Int) ≤ (i : Int) := by omega
  have hi1 : (i : Int) < (L.length : Int) := by omega
  generalize tw (lkAt L i) = t at *
  clear h3
  go_enter Tryz.func142, Tryz.ntmps142
  go_wp2
  go_ret
  exact ⟨rfl, rfl⟩
theorem enters_from1 : ∀ args w, (callFunc 142 args).run Tryz.prog w = .ok (.enter 142 args) w := fun args w => by simp [callFunc, Tryz.func142, Tryz.f142, mark]
set_option maxHeartbeats 2000000 in
theorem rising1_any (bb q m : Nat) (L : List Lk) (hL : L.length ≤ 1000000) (Ad : Addr) (i j : Nat) (hi : i < L.length) (hj : j < L.length) (W : World) (hb : W.cell? ⟨bb, 0, none⟩ = some (.func (.func 142) #[] #[.pointer (some ⟨q, 0, none⟩)])) (h : FromBox W q m L Ad) :
    Calls Tryz.prog 147 #[.int .i64 (i : Int), .int .i64 (j : Int), .pointer (some ⟨bb, 0, none⟩)] W fun e w' => e = .returned (.int .i64 (cmpV (tw (lkAt L i)) (tw (lkAt L j)))) ∧ ∃ n, w' = W.drewN n := by
  have ci := hidd (fun n => from1_any q m L hL Ad i hi (W.drewN n) (h.drewN n))
  have cj := hidd (fun n => from1_any q m L hL Ad j hj (W.drewN n) (h.drewN n))
  have cc := hidd (fun W => Compare_any (tw (lkAt L i)) (tw (lkAt L j)) W)
  generalize tw (lkAt L i) = x at *
  generalize tw (lkAt L j) = y at *
  generalize cmpV x y = z at *
  have he := enters_from1
  obtain ⟨I, hI⟩ : ∃ I : Int, (i : Int) = I := ⟨_, rfl⟩
  obtain ⟨J, hJ⟩ : ∃ J : Int, (j : Int) = J := ⟨_, rfl⟩
  rw [hI] at ci ⊢
  rw [hJ] at cj ⊢
  clear h hi hj hI hJ
  go_enter Tryz.func147, Tryz.ntmps147
  go_wp2_with fail
  go_quiet ((first
    | (go_at_call 148; exact still_quiet (cc.out _))
    | (go_at_call_of 142 (Value.int IntKind.i64 I); exact still_quiet (ci.out _))
    | (go_at_call_of 142 (Value.int IntKind.i64 J); exact still_quiet (cj.out _))))
  go_wp2_with fail
  go_ret
  exact ⟨rfl, _, rfl⟩
end Go.Proofs.YtalhbjmhipiiiaaGreat.Tp
