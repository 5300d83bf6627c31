/- Texts that the claim hangs on, in one. -/
import Derived.Test.YtgeankdimknmiaaGreatMgVcB
import Derived.Test.YtgeankdimknmiaaGreatMgVcA
import Derived.RangeFuncNested
import Derived.RangeFuncBound
import Derived.RangeFuncCalls
import Derived.RangeFuncLeaves
import Derived.RangeFuncBox
import Derived.Shelf.RegionOpen
import Derived.OwnWalkIn
import Derived.TacticsInMore
import Derived.LoopNIn
import Derived.LoopIn
import Derived.Test.YtgeankdimknmiaaGreatRows
import Derived.OpenShut
import Derived.ProofKit
import Derived.ChangeSame
import Derived.JoinedOf
import Derived.JoinedAt
import Derived.Carry
import Derived.Deep.Slices
import Derived.Deep.Fields
import Derived.Lib.SmallJoins
import Derived.Laws.Rows
/- Clocks: calls of a queue that is not there. -/
namespace Go.Proofs.YtgeankdimknmiaaGreat.Hp
set_option linter.unusedVariables false
open Go.RowKit Go.Maps Go.Sort Go.Proofs.YtgeankdimknmiaaGreat.Tp
attribute [local go_sem] Oper.semAt_some
set_option maxRecDepth 100000
set_option maxHeartbeats 4000000
theorem put_vn (i fl z now : Int) (w : World) : Calls Tryz.prog 11 #[.pointer none, .agg #[.int .i64 i, .int .i64 fl, .int .i64 z], .int .i64 now] w fun e w' => e = .returned (.tuple #[.agg #[.int .i64 0, .int .i64 0], .int .i64 1]) ∧ Below w.heap.size w w' := by
  have c := hidd (fun W (hb : Below w.heap.size w W) => vNone_nil W)
  go_enter Tryz.func11, Tryz.ntmps11
  go_wp2_with fail
  refine (c.out _ (by (repeat' (first | (with_reducible exact Below.refl _ _) | (with_reducible assumption) | (with_reducible apply Below.setCell) | (with_reducible apply Below.alloc) | (with_reducible apply Below.drew) | (with_reducible apply below_drewN) | (with_reducible refine Below.trans ?_ (Below.mono (by assumption) ?_)) | omega | (simp; done) | (simp; omega))))).mono ?_
  rintro e w' ⟨rfl, rfl⟩
  go_wp2_with fail
  first | (go_ret; exact ⟨rfl, by (repeat' (first | (with_reducible exact Below.refl _ _) | (with_reducible assumption) | (with_reducible apply Below.setCell) | (with_reducible apply Below.alloc) | (with_reducible apply Below.drew) | (with_reducible apply below_drewN) | (with_reducible refine Below.trans ?_ (Below.mono (by assumption) ?_)) | omega | (simp; done) | (simp; omega)))⟩) | exact bodyPost_ret (v := .tuple #[.agg #[.int .i64 0, .int .i64 0], .int .i64 1]) (by simp [results, Tryz.results11, go_sem]) rfl ⟨rfl, by (repeat' (first | (with_reducible exact Below.refl _ _) | (with_reducible assumption) | (with_reducible apply Below.setCell) | (with_reducible apply Below.alloc) | (with_reducible apply Below.drew) | (with_reducible apply below_drewN) | (with_reducible refine Below.trans ?_ (Below.mono (by assumption) ?_)) | omega | (simp; done) | (simp; omega)))⟩
theorem drop_vz {h : Nat} (fl : Int) {w : World} (hz : w.cell? ⟨h, 0, none⟩ = some (.pointer none)) : Calls Tryz.prog 12 #[.pointer (some ⟨h, 0, none⟩), .int .i64 fl] w fun e w' => e = .returned (.tuple #[.slice none 0 0, .int .i64 1]) ∧ Below w.heap.size w w' := by
  have hlt : h < w.heap.size := World.block_lt_of_cell? w _ hz
  have c := hidd (fun W (hb : Below w.heap.size w W) => vNone_zero ((hb.cell (p := ⟨h, 0, none⟩) hlt).trans hz))
  clear hz hlt
  go_enter Tryz.func12, Tryz.ntmps12
  go_wp2_with fail
  refine (c.out _ (by (repeat' (first | (with_reducible exact Below.refl _ _) | (with_reducible assumption) | (with_reducible apply Below.setCell) | (with_reducible apply Below.alloc) | (with_reducible apply Below.drew) | (with_reducible apply below_drewN) | (with_reducible refine Below.trans ?_ (Below.mono (by assumption) ?_)) | omega | (simp; done) | (simp; omega))))).mono ?_
  rintro e w' ⟨rfl, rfl⟩
  go_wp2_with fail
  first | (go_ret; exact ⟨rfl, by (repeat' (first | (with_reducible exact Below.refl _ _) | (with_reducible assumption) | (with_reducible apply Below.setCell) | (with_reducible apply Below.alloc) | (with_reducible apply Below.drew) | (with_reducible apply below_drewN) | (with_reducible refine Below.trans ?_ (Below.mono (by assumption) ?_)) | omega | (simp; done) | (simp; omega)))⟩) | exact bodyPost_ret (v := .tuple #[.slice none 0 0, .int .i64 1]) (by simp [results, Tryz.results12, go_sem]) rfl ⟨rfl, by (repeat' (first | (with_reducible exact Below.refl _ _) | (with_reducible assumption) | (with_reducible apply Below.setCell) | (with_reducible apply Below.alloc) | (with_reducible apply Below.drew) | (with_reducible apply below_drewN) | (with_reducible refine Below.trans ?_ (Below.mono (by assumption) ?_)) | omega | (simp; done) | (simp; omega)))⟩
theorem take_vn (w : World) : Calls Tryz.prog 13 #[.pointer none] w fun e w' => e = .returned (.tuple #[.agg #[.int .i64 0, .int .i64 0, .int .i64 0], .agg #[.int .i64 0, .int .i64 0], .bool false]) ∧ Below w.heap.size w w' := by
  have c := hidd (fun W (hb : Below w.heap.size w W) => vNone_nil W)
  go_enter Tryz.func13, Tryz.ntmps13
  go_wp2_with fail
  refine (c.out _ (by (repeat' (first | (with_reducible exact Below.refl _ _) | (with_reducible assumption) | (with_reducible apply Below.setCell) | (with_reducible apply Below.alloc) | (with_reducible apply Below.drew) | (with_reducible apply below_drewN) | (with_reducible refine Below.trans ?_ (Below.mono (by assumption) ?_)) | omega | (simp; done) | (simp; omega))))).mono ?_
  rintro e w' ⟨rfl, rfl⟩
  go_wp2_with fail
  first | (go_ret; exact ⟨rfl, by (repeat' (first | (with_reducible exact Below.refl _ _) | (with_reducible assumption) | (with_reducible apply Below.setCell) | (with_reducible apply Below.alloc) | (with_reducible apply Below.drew) | (with_reducible apply below_drewN) | (with_reducible refine Below.trans ?_ (Below.mono (by assumption) ?_)) | omega | (simp; done) | (simp; omega)))⟩) | exact bodyPost_ret (v := .tuple #[.agg #[.int .i64 0, .int .i64 0, .int .i64 0], .agg #[.int .i64 0, .int .i64 0], .bool false]) (by simp [results, Tryz.results13, go_sem]) rfl ⟨rfl, by (repeat' (first | (with_reducible exact Below.refl _ _) | (with_reducible assumption) | (with_reducible apply Below.setCell) | (with_reducible apply Below.alloc) | (with_reducible apply Below.drew) | (with_reducible apply below_drewN) | (with_reducible refine Below.trans ?_ (Below.mono (by assumption) ?_)) | omega | (simp; done) | (simp; omega)))⟩
theorem flow_vz {h : Nat} (fl : Int) {w : World} (hz : w.cell? ⟨h, 0, none⟩ = some (.pointer none)) : Calls Tryz.prog 9 #[.pointer (some ⟨h, 0, none⟩), .int .i64 fl] w fun e w' => e = .returned (.tuple #[.agg #[.int .i64 0, .int .i64 0, .int .i64 0, .int .i64 0, .int .i64 0, .int .i64 0], .bool false]) ∧ Below w.heap.size w w' := by
  have hlt : h < w.heap.size := World.block_lt_of_cell? w _ hz
  have c := hidd (fun W (hb : Below w.heap.size w W) => vNone_zero ((hb.cell (p := ⟨h, 0, none⟩) hlt).trans hz))
  clear hz hlt
  go_enter Tryz.func9, Tryz.ntmps9
  go_wp2_with fail
  refine (c.out _ (by (repeat' (first | (with_reducible exact Below.refl _ _) | (with_reducible assumption) | (with_reducible apply Below.setCell) | (with_reducible apply Below.alloc) | (with_reducible apply Below.drew) | (with_reducible apply below_drewN) | (with_reducible refine Below.trans ?_ (Below.mono (by assumption) ?_)) | omega | (simp; done) | (simp; omega))))).mono ?_
  rintro e w' ⟨rfl, rfl⟩
  go_wp2_with fail
  first | (go_ret; exact ⟨rfl, by (repeat' (first | (with_reducible exact Below.refl _ _) | (with_reducible assumption) | (with_reducible apply Below.setCell) | (with_reducible apply Below.alloc) | (with_reducible apply Below.drew) | (with_reducible apply below_drewN) | (with_reducible refine Below.trans ?_ (Below.mono (by assumption) ?_)) | omega | (simp; done) | (simp; omega)))⟩) | exact bodyPost_ret (v := .tuple #[.agg #[.int .i64 0, .int .i64 0, .int .i64 0, .int .i64 0, .int .i64 0, .int .i64 0], .bool false]) (by simp [results, Tryz.results9, go_sem]) rfl ⟨rfl, by (repeat' (first | (with_reducible exact Below.refl _ _) | (with_reducible assumption) | (with_reducible apply Below.setCell) | (with_reducible apply Below.alloc) | (with_reducible apply Below.drew) | (with_reducible apply below_drewN) | (with_reducible refine Below.trans ?_ (Below.mono (by assumption) ?_)) | omega | (simp; done) | (simp; omega)))⟩
theorem add_vn (a b c d : Int) (w : World) : Calls Tryz.prog 15 #[.pointer none, .int .i64 a, .int .i64 b, .int .i64 c, .int .i64 d] w fun e w' => e = .returned (.int .i64 1) ∧ Below w.heap.size w w' := by
  have c := hidd (fun W (hb : Below w.heap.size w W) => vNone_nil W)
  go_enter Tryz.func15, Tryz.ntmps15
  go_wp2_with fail
  refine (c.out _ (by (repeat' (first | (with_reducible exact Below.refl _ _) | (with_reducible assumption) | (with_reducible apply Below.setCell) | (with_reducible apply Below.alloc) | (with_reducible apply Below.drew) | (with_reducible apply below_drewN) | (with_reducible refine Below.trans ?_ (Below.mono (by assumption) ?_)) | omega | (simp; done) | (simp; omega))))).mono ?_
  rintro e w' ⟨rfl, rfl⟩
  go_wp2_with fail
  first | (go_ret; exact ⟨rfl, by (repeat' (first | (with_reducible exact Below.refl _ _) | (with_reducible assumption) | (with_reducible apply Below.setCell) | (with_reducible apply Below.alloc) | (with_reducible apply Below.drew) | (with_reducible apply below_drewN) | (with_reducible refine Below.trans ?_ (Below.mono (by assumption) ?_)) | omega | (simp; done) | (simp; omega)))⟩) | exact bodyPost_ret (v := .int .i64 1) (by simp [results, Tryz.results15, go_sem]) rfl ⟨rfl, by (repeat' (first | (with_reducible exact Below.refl _ _) | (with_reducible assumption) | (with_reducible apply Below.setCell) | (with_reducible apply Below.alloc) | (with_reducible apply Below.drew) | (with_reducible apply below_drewN) | (with_reducible refine Below.trans ?_ (Below.mono (by assumption) ?_)) | omega | (simp; done) | (simp; omega)))⟩
theorem set_vz {h : Nat} (a b c : Int) {w : World} (hz : w.cell? ⟨h, 0, none⟩ = some (.pointer none)) : Calls Tryz.prog 16 #[.pointer (some ⟨h, 0, none⟩), .int .i64 a, .int .i64 b, .int .i64 c] w fun e w' => e = .returned (.int .i64 1) ∧ Below w.heap.size w w' := by
  have hlt : h < w.heap.size := World.block_lt_of_cell? w _ hz
  have c := hidd (fun W (hb : Below w.heap.size w W) => vNone_zero ((hb.cell (p := ⟨h, 0, none⟩) hlt).trans hz))
  clear hz hlt
  go_enter Tryz.func16, Tryz.ntmps16
  go_wp2_with fail
  refine (c.out _ (by (repeat' (first | (with_reducible exact Below.refl _ _) | (with_reducible assumption) | (with_reducible apply Below.setCell) | (with_reducible apply Below.alloc) | (with_reducible apply Below.drew) | (with_reducible apply below_drewN) | (with_reducible refine Below.trans ?_ (Below.mono (by assumption) ?_)) | omega | (simp; done) | (simp; omega))))).mono ?_
  rintro e w' ⟨rfl, rfl⟩
  go_wp2_with fail
  first | (go_ret; exact ⟨rfl, by (repeat' (first | (with_reducible exact Below.refl _ _) | (with_reducible assumption) | (with_reducible apply Below.setCell) | (with_reducible apply Below.alloc) | (with_reducible apply Below.drew) | (with_reducible apply below_drewN) | (with_reducible refine Below.trans ?_ (Below.mono (by assumption) ?_)) | omega | (simp; done) | (simp; omega)))⟩) | exact bodyPost_ret (v := .int .i64 1) (by simp [results, Tryz.results16, go_sem]) rfl ⟨rfl, by (repeat' (first | (with_reducible exact Below.refl _ _) | (with_reducible assumption) | (with_reducible apply Below.setCell) | (with_reducible apply Below.alloc) | (with_reducible apply Below.drew) | (with_reducible apply below_drewN) | (with_reducible refine Below.trans ?_ (Below.mono (by assumption) ?_)) | omega | (simp; done) | (simp; omega)))⟩
theorem flows_vn (w : World) : Calls Tryz.prog 17 #[.pointer none] w fun e w' => e = .returned (.slice none 0 0) ∧ Below w.heap.size w w' := by
  have c := hidd (fun W (hb : Below w.heap.size w W) => vNone_nil W)
  go_enter Tryz.func17, Tryz.ntmps17
  go_wp2_with fail
  refine (c.out _ (by (repeat' (first | (with_reducible exact Below.refl _ _) | (with_reducible assumption) | (with_reducible apply Below.setCell) | (with_reducible apply Below.alloc) | (with_reducible apply Below.drew) | (with_reducible apply below_drewN) | (with_reducible refine Below.trans ?_ (Below.mono (by assumption) ?_)) | omega | (simp; done) | (simp; omega))))).mono ?_
  rintro e w' ⟨rfl, rfl⟩
  go_wp2_with fail
  first | (go_ret; exact ⟨rfl, by (repeat' (first | (with_reducible exact Below.refl _ _) | (with_reducible assumption) | (with_reducible apply Below.setCell) | (with_reducible apply Below.alloc) | (with_reducible apply Below.drew) | (with_reducible apply below_drewN) | (with_reducible refine Below.trans ?_ (Below.mono (by assumption) ?_)) | omega | (simp; done) | (simp; omega)))⟩) | exact bodyPost_ret (v := .slice none 0 0) (by simp [results, Tryz.results17, go_sem]) rfl ⟨rfl, by (repeat' (first | (with_reducible exact Below.refl _ _) | (with_reducible assumption) | (with_reducible apply Below.setCell) | (with_reducible apply Below.alloc) | (with_reducible apply Below.drew) | (with_reducible apply below_drewN) | (with_reducible refine Below.trans ?_ (Below.mono (by assumption) ?_)) | omega | (simp; done) | (simp; omega)))⟩
theorem len_vz {h : Nat} {w : World} (hz : w.cell? ⟨h, 0, none⟩ = some (.pointer none)) : Calls Tryz.prog 18 #[.pointer (some ⟨h, 0, none⟩)] w fun e w' => e = .returned (.int .i64 0) ∧ Below w.heap.size w w' := by
  have hlt : h < w.heap.size := World.block_lt_of_cell? w _ hz
  have c := hidd (fun W (hb : Below w.heap.size w W) => vNone_zero ((hb.cell (p := ⟨h, 0, none⟩) hlt).trans hz))
  clear hz hlt
  go_enter Tryz.func18, Tryz.ntmps18
  go_wp2_with fail
  refine (c.out _ (by (repeat' (first | (with_reducible exact Below.refl _ _) | (with_reducible assumption) | (with_reducible apply Below.setCell) | (with_reducible apply Below.alloc) | (with_reducible apply Below.drew) | (with_reducible apply below_drewN) | (with_reducible refine Below.trans ?_ (Below.mono (by assumption) ?_)) | omega | (simp; done) | (simp; omega))))).mono ?_
  rintro e w' ⟨rfl, rfl⟩
  go_wp2_with fail
  first | (go_ret; exact ⟨rfl, by (repeat' (first | (with_reducible exact Below.refl _ _) | (with_reducible assumption) | (with_reducible apply Below.setCell) | (with_reducible apply Below.alloc) | (with_reducible apply Below.drew) | (with_reducible apply below_drewN) | (with_reducible refine Below.trans ?_ (Below.mono (by assumption) ?_)) | omega | (simp; done) | (simp; omega)))⟩) | exact bodyPost_ret (v := .int .i64 0) (by simp [results, Tryz.results18, go_sem]) rfl ⟨rfl, by (repeat' (first | (with_reducible exact Below.refl _ _) | (with_reducible assumption) | (with_reducible apply Below.setCell) | (with_reducible apply Below.alloc) | (with_reducible apply Below.drew) | (with_reducible apply below_drewN) | (with_reducible refine Below.trans ?_ (Below.mono (by assumption) ?_)) | omega | (simp; done) | (simp; omega)))⟩
theorem copy_vn (w : World) : Calls Tryz.prog 19 #[.pointer none] w fun e w' => e = .returned (.pointer none) ∧ Below w.heap.size w w' := by
  have c := hidd (fun W (hb : Below w.heap.size w W) => vNone_nil W)
  go_enter Tryz.func19, Tryz.ntmps19
  go_wp2_with fail
  refine (c.out _ (by (repeat' (first | (with_reducible exact Below.refl _ _) | (with_reducible assumption) | (with_reducible apply Below.setCell) | (with_reducible apply Below.alloc) | (with_reducible apply Below.drew) | (with_reducible apply below_drewN) | (with_reducible refine Below.trans ?_ (Below.mono (by assumption) ?_)) | omega | (simp; done) | (simp; omega))))).mono ?_
  rintro e w' ⟨rfl, rfl⟩
  go_wp2_with fail
  first | (go_ret; exact ⟨rfl, by (repeat' (first | (with_reducible exact Below.refl _ _) | (with_reducible assumption) | (with_reducible apply Below.setCell) | (with_reducible apply Below.alloc) | (with_reducible apply Below.drew) | (with_reducible apply below_drewN) | (with_reducible refine Below.trans ?_ (Below.mono (by assumption) ?_)) | omega | (simp; done) | (simp; omega)))⟩) | exact bodyPost_ret (v := .pointer none) (by simp [results, Tryz.results19, go_sem]) rfl ⟨rfl, by (repeat' (first | (with_reducible exact Below.refl _ _) | (with_reducible assumption) | (with_reducible apply Below.setCell) | (with_reducible apply Below.alloc) | (with_reducible apply Below.drew) | (with_reducible apply below_drewN) | (with_reducible refine Below.trans ?_ (Below.mono (by assumption) ?_)) | omega | (simp; done) | (simp; omega)))⟩
theorem same_vn {h : Nat} {w : World} (b : Bool) (hn : ∀ W, Below w.heap.size w W → Calls Tryz.prog 30 #[.pointer (some ⟨h, 0, none⟩)] W fun e w' => e = .returned (.bool b) ∧ W = w') : Calls Tryz.prog 20 #[.pointer none, .pointer (some ⟨h, 0, none⟩)] w fun e w' => e = .returned (.bool b) ∧ Below w.heap.size w w' := by
  have c := hidd (fun W => vNone_nil W)
  have c2 := hidd hn
  clear hn
  go_enter Tryz.func20, Tryz.ntmps20
  go_wp2_with fail
  refine (c.out _).mono ?_
  rintro e w' ⟨rfl, rfl⟩
  go_wp2_with fail
  refine (c.out _).mono ?_
  rintro e w' ⟨rfl, rfl⟩
  go_wp2_with fail
  refine (c2.out _ (by (repeat' (first | (with_reducible exact Below.refl _ _) | (with_reducible assumption) | (with_reducible apply Below.setCell) | (with_reducible apply Below.alloc) | (with_reducible apply Below.drew) | (with_reducible apply below_drewN) | (with_reducible refine Below.trans ?_ (Below.mono (by assumption) ?_)) | omega | (simp; done) | (simp; omega))))).mono ?_
  rintro e w' ⟨rfl, rfl⟩
  go_wp2_with fail
  go_ret
  exact ⟨rfl, by (repeat' (first | (with_reducible exact Below.refl _ _) | (with_reducible assumption) | (with_reducible apply Below.setCell) | (with_reducible apply Below.alloc) | (with_reducible apply Below.drew) | (with_reducible apply below_drewN) | (with_reducible refine Below.trans ?_ (Below.mono (by assumption) ?_)) | omega | (simp; done) | (simp; omega)))⟩
theorem all_vz {h : Nat} {w : World} (hz : w.cell? ⟨h, 0, none⟩ = some (.pointer none)) : Calls Tryz.prog 14 #[.pointer (some ⟨h, 0, none⟩)] w fun e w' => ∃ q, e = .returned (.func (.func 40) #[] #[.pointer (some ⟨q, 0, none⟩)]) ∧ Below w.heap.size w w' ∧ q < w'.heap.size ∧ w'.cell? ⟨q, 0, none⟩ = some (.slice none 0 0) := by
  have hmf : ∀ (fn : Fn) (first cap : Array Value) (w : World), (Instr.makeFunc fn first cap).run Tryz.prog w = .ok (.func fn first cap) w := fun _ _ _ _ => rfl
  have hlt : h < w.heap.size := World.block_lt_of_cell? w _ hz
  have c := hidd (fun W (hb : Below w.heap.size w W) => vNone_zero ((hb.cell (p := ⟨h, 0, none⟩) hlt).trans hz))
  clear hz hlt
  go_enter Tryz.func14, Tryz.ntmps14
  go_wp2_with fail
  refine (c.out _ (by (repeat' (first | (with_reducible exact Below.refl _ _) | (with_reducible assumption) | (with_reducible apply Below.setCell) | (with_reducible apply Below.alloc) | (with_reducible apply Below.drew) | (with_reducible apply below_drewN) | (with_reducible refine Below.trans ?_ (Below.mono (by assumption) ?_)) | omega | (simp; done) | (simp; omega))))).mono ?_
  rintro e w' ⟨rfl, rfl⟩
  go_wp2_with fail
  go_ret
  exact ⟨_, rfl, by (repeat' (first | (with_reducible exact Below.refl _ _) | (with_reducible assumption) | (with_reducible apply Below.setCell) | (with_reducible apply Below.alloc) | (with_reducible apply Below.drew) | (with_reducible apply below_drewN) | (with_reducible refine Below.trans ?_ (Below.mono (by assumption) ?_)) | omega | (simp; done) | (simp; omega))), by simp, by simp [go_sem]⟩
theorem all1_none {α : Type} (encs : α → Array Value) (n n₀ N : Nat) (hn : 1 ≤ n) (q : Nat) (w : World) (hq : q < w.heap.size) (hc : w.cell? ⟨q, 0, none⟩ = some (.slice none 0 0)) :
    SeqStopsK Fence.wide n Tryz.prog 40 #[.pointer (some ⟨q, 0, none⟩)] encs (Below n₀) (fun xs => xs = []) (fun _ => False) N w := by
  intro l J Jx W hW hJ hJx hY h0
  have hc1 := (hW.cell (p := ⟨q, 0, none⟩) hq).trans hc
  have HJ := hidd h0
  clear hW hJ hJx hY h0 hc
  refine callsIn_of_wp Tryz.func40 rfl trivial ?_ rfl
  simp only [Tryz.ntmps40, List.size_toArray, List.length_cons, List.length_nil, Nat.reduceAdd, Nat.reduceSub, Array.replicate_succ, Array.replicate_zero, List.push_toArray, List.append_toArray, List.nil_append, List.cons_append]
  refine wpIn_wide.2 ?_
  go_wp2_with fail
  refine wp_loop_rounds 1 ?_
  rw [rounds_succ]
  go_wp2_with fail
  exact ⟨rfl, _, results_none rfl _ _ _, ⟨_, rfl⟩, .inl ⟨_, rfl, HJ.out⟩⟩
end Go.Proofs.YtgeankdimknmiaaGreat.Hp

/- Clocks: ClockNil's walk. -/
namespace Go.Proofs.YtgeankdimknmiaaGreat.Hp
set_option linter.unusedVariables false
open Go.RowKit Go.Maps Go.Sort Go.Proofs.YtgeankdimknmiaaGreat.Tp
attribute [local go_sem] Oper.semAt_some
theorem eqIn_nilFunc14 (f : Fn) (fs cs : Array Value) (d : Nat) (w : World) : (Op.equalIn (d + 1) 57 (.func f fs cs) .nilFunc).run Tryz.prog w = .ok false w := by
  simp [Op.equalIn, run_underlying Tryz.underlying57]
theorem eq_nilFunc14 (f : Fn) (fs cs : Array Value) (w : World) : (binOp .eql 57 (.func f fs cs) .nilFunc).run Tryz.prog w = .ok (.bool false) w := by
  simp only [binOp]
  simp [Op.equal, Op.maxDepth, eqIn_nilFunc14 f fs cs 9999 w]
/-- the law's own boxes: the packet, what is answered, a queue of nothing. -/
structure NilV (w : World) (Z : Nat) (i f z : Int) (W : World) : Prop where
  x0 : W.cell? ⟨w.heap.size, 0, none⟩ = some (.int .i64 i)
  x1 : W.cell? ⟨w.heap.size, 1, none⟩ = some (.int .i64 f)
  x2 : W.cell? ⟨w.heap.size, 2, none⟩ = some (.int .i64 z)
  r0 : W.cell? ⟨w.heap.size + 1, 0, none⟩ = some (.bool false)
  r1 : W.frozen? ⟨w.heap.size + 1, 0, none⟩ = false
  z0 : W.cell? ⟨Z, 0, none⟩ = some (.pointer none)
  bel : Below w.heap.size w W
theorem NilV.below {w W W' : World} {Z : Nat} {i f z : Int} (h : NilV w Z i f z W) (hb : Below W.heap.size W W') : NilV w Z i f z W' :=
  ⟨(hb.cell (p := ⟨w.heap.size, 0, none⟩) (World.block_lt_of_cell? W _ h.x0)).trans h.x0, (hb.cell (p := ⟨w.heap.size, 1, none⟩) (World.block_lt_of_cell? W _ h.x1)).trans h.x1, (hb.cell (p := ⟨w.heap.size, 2, none⟩) (World.block_lt_of_cell? W _ h.x2)).trans h.x2, (hb.cell (p := ⟨w.heap.size + 1, 0, none⟩) (World.block_lt_of_cell? W _ h.r0)).trans h.r0, (hb.frozen (p := ⟨w.heap.size + 1, 0, none⟩) (World.block_lt_of_cell? W _ h.r0)).trans h.r1, (hb.cell (p := ⟨Z, 0, none⟩) (World.block_lt_of_cell? W _ h.z0)).trans h.z0, below_step h.bel hb⟩
set_option maxRecDepth 100000 in
set_option maxHeartbeats 8000000 in
theorem nil14_walk (i f z n : Int) (w : World) :
    Calls Tryz.prog 4 #[.agg #[.int .i64 i, .int .i64 f, .int .i64 z], .int .i64 n] w fun e w' => e = .returned (.bool true) ∧ Below w.heap.size w w' := by
  have hqn := fun f fs cs w => eq_nilFunc14 f fs cs w
  have cK := hidd (fun W => known14_any W)
  have cP := hidd (fun W => put_vn i f z n W)
  have cD := hidd (fun (W : World) Z (hz : W.cell? ⟨Z, 0, none⟩ = some (.pointer none)) => drop_vz f hz)
  have cT := hidd (fun W => take_vn W)
  have cF := hidd (fun (W : World) Z (hz : W.cell? ⟨Z, 0, none⟩ = some (.pointer none)) => flow_vz f hz)
  have cA := hidd (fun (W : World) Z (hz : W.cell? ⟨Z, 0, none⟩ = some (.pointer none)) => all_vz hz)
  have cQ := hidd (fun W => add_vn 1 1 1 n W)
  have cS := hidd (fun (W : World) Z (hz : W.cell? ⟨Z, 0, none⟩ = some (.pointer none)) => set_vz 1 1 1 hz)
  have cG := hidd (fun W => flows_vn W)
  have cL := hidd (fun (W : World) Z (hz : W.cell? ⟨Z, 0, none⟩ = some (.pointer none)) => len_vz hz)
  have cC := hidd (fun W => copy_vn W)
  have cE := hidd (fun (W : World) Z (hz : W.cell? ⟨Z, 0, none⟩ = some (.pointer none)) => same_vn (h := Z) (w := W) true (fun W' hb => vNone_zero ((hb.cell (p := ⟨Z, 0, none⟩) (World.block_lt_of_cell? W _ hz)).trans hz)))
  have cM := hidd (fun (W : World) q (hq : ∃ S F M T X, Qu S W q F M T X) => same_vn (h := q) (w := W) false (fun W' hb => by
    obtain ⟨S, F, M, T, X, hq⟩ := hq
    obtain ⟨tb, h, pb, fb, R, np, HA, -⟩ := hq.below hb
    obtain ⟨x0, -⟩ := HA.qc
    exact vNone_yes x0))
  have cN := hidd (fun W => newQ W)
  refine (callsIn_wide (n := 6)).1 ?_
  refine callsIn_of_wp_marks Tryz.func4 rfl trivial ?_ rfl
  simp only [Tryz.ntmps4, List.size_toArray, List.length_cons, List.length_nil, Nat.reduceAdd, Nat.reduceSub, Array.replicate_succ, Array.replicate_zero, List.push_toArray, List.append_toArray, List.nil_append, List.cons_append]
  refine wpIn_wide.2 ?_
  go_wp2_with fail
  obtain ⟨W1, hW1⟩ : ∃ W1, ((w.alloc (.cells #[.int .i64 i, .int .i64 f, .int .i64 z] 33)).alloc (.cells #[.bool false] 4)).alloc (.cells #[.pointer none] 47) = W1 := ⟨_, rfl⟩
  have K1 : Hid (NilV w (w.heap.size + 1 + 1) i f z W1) := hidd (by rw [← hW1]; exact ⟨by simp [go_sem], by simp [go_sem], by simp [go_sem], by simp [go_sem], by simp [go_sem], by simp [go_sem], by (repeat' (first | (with_reducible exact Below.refl _ _) | (with_reducible assumption) | (with_reducible apply Below.setCell) | (with_reducible apply Below.alloc) | (with_reducible apply Below.drew) | (with_reducible apply below_drewN) | (with_reducible refine Below.trans ?_ (Below.mono (by assumption) ?_)) | omega | (simp; done) | (simp; omega)))⟩)
  rw [hW1]
  clear hW1
  generalize w.heap.size + 1 + 1 = Z at *
  refine (cP.out _).mono ?_
  rintro e w2 ⟨rfl, hb⟩
  have K2 := hidd ((K1.out.below (by (repeat' (first | (with_reducible exact Below.refl _ _) | (with_reducible assumption) | (with_reducible apply Below.setCell) | (with_reducible apply Below.alloc) | (with_reducible apply Below.drew) | (with_reducible apply below_drewN) | (with_reducible refine Below.trans ?_ (Below.mono (by assumption) ?_)) | omega | (simp; done) | (simp; omega))))).below hb)
  clear hb
  have x0 := K2.out.x0
  have x1 := K2.out.x1
  have x2 := K2.out.x2
  have l0 : w.heap.size < w2.heap.size := World.block_lt_of_cell? _ _ x0
  go_wp2_with fail
  refine (cD.out _ _ (K2.out.below (by (repeat' (first | (with_reducible exact Below.refl _ _) | (with_reducible assumption) | (with_reducible apply Below.setCell) | (with_reducible apply Below.alloc) | (with_reducible apply Below.drew) | (with_reducible apply below_drewN) | (with_reducible refine Below.trans ?_ (Below.mono (by assumption) ?_)) | omega | (simp; done) | (simp; omega))))).z0).mono ?_
  rintro e w3 ⟨rfl, hb⟩
  have K3 := hidd ((K2.out.below (by (repeat' (first | (with_reducible exact Below.refl _ _) | (with_reducible assumption) | (with_reducible apply Below.setCell) | (with_reducible apply Below.alloc) | (with_reducible apply Below.drew) | (with_reducible apply below_drewN) | (with_reducible refine Below.trans ?_ (Below.mono (by assumption) ?_)) | omega | (simp; done) | (simp; omega))))).below hb)
  clear hb
  have x0 := K3.out.x0
  have x1 := K3.out.x1
  have x2 := K3.out.x2
  have l0 : w.heap.size < w3.heap.size := World.block_lt_of_cell? _ _ x0
  go_wp2_with fail
  refine (cT.out _).mono ?_
  rintro e w4 ⟨rfl, hb⟩
  have K4 := hidd ((K3.out.below (by (repeat' (first | (with_reducible exact Below.refl _ _) | (with_reducible assumption) | (with_reducible apply Below.setCell) | (with_reducible apply Below.alloc) | (with_reducible apply Below.drew) | (with_reducible apply below_drewN) | (with_reducible refine Below.trans ?_ (Below.mono (by assumption) ?_)) | omega | (simp; done) | (simp; omega))))).below hb)
  clear hb
  have x0 := K4.out.x0
  have x1 := K4.out.x1
  have x2 := K4.out.x2
  have l0 : w.heap.size < w4.heap.size := World.block_lt_of_cell? _ _ x0
  go_wp2_with fail
  refine (cF.out _ _ (K4.out.below (by (repeat' (first | (with_reducible exact Below.refl _ _) | (with_reducible assumption) | (with_reducible apply Below.setCell) | (with_reducible apply Below.alloc) | (with_reducible apply Below.drew) | (with_reducible apply below_drewN) | (with_reducible refine Below.trans ?_ (Below.mono (by assumption) ?_)) | omega | (simp; done) | (simp; omega))))).z0).mono ?_
  rintro e w5 ⟨rfl, hb⟩
  have K5 := hidd ((K4.out.below (by (repeat' (first | (with_reducible exact Below.refl _ _) | (with_reducible assumption) | (with_reducible apply Below.setCell) | (with_reducible apply Below.alloc) | (with_reducible apply Below.drew) | (with_reducible apply below_drewN) | (with_reducible refine Below.trans ?_ (Below.mono (by assumption) ?_)) | omega | (simp; done) | (simp; omega))))).below hb)
  clear hb
  have x0 := K5.out.x0
  have x1 := K5.out.x1
  have x2 := K5.out.x2
  have l0 : w.heap.size < w5.heap.size := World.block_lt_of_cell? _ _ x0
  go_wp2_with fail
  refine (cA.out _ _ (K5.out.below (by (repeat' (first | (with_reducible exact Below.refl _ _) | (with_reducible assumption) | (with_reducible apply Below.setCell) | (with_reducible apply Below.alloc) | (with_reducible apply Below.drew) | (with_reducible apply below_drewN) | (with_reducible refine Below.trans ?_ (Below.mono (by assumption) ?_)) | omega | (simp; done) | (simp; omega))))).z0).mono ?_
  rintro e w6 ⟨q, rfl, hb, hq6, hc6⟩
  have K6 := hidd ((K5.out.below (by (repeat' (first | (with_reducible exact Below.refl _ _) | (with_reducible assumption) | (with_reducible apply Below.setCell) | (with_reducible apply Below.alloc) | (with_reducible apply Below.drew) | (with_reducible apply below_drewN) | (with_reducible refine Below.trans ?_ (Below.mono (by assumption) ?_)) | omega | (simp; done) | (simp; omega))))).below hb)
  clear hb x0 x1 x2 l0
  go_wp2_with fail
  refine (wpIn_wide (n := 6)).1 ?_
  refine wpIn_rangeFunc_ownF rfl (by omega) (gf := 40) (lb := #[.pointer (some ⟨q, 0, none⟩)]) rfl trivial (enters_of Tryz.func40 (by kernel_rfl) rfl)
    (all1_none (α := Empty) (fun x => x.elim) (6 - 1) 0 0 (by omega) q w6 hq6 hc6) belowK_t (belowK_b (by omega)) (Below.refl _ _) (fun x => x.elim)
    (fun pre W => Below w6.heap.size w6 W) (fun _ _ _ => False) (ownFrom_below (Nat.le_refl _) (Nat.le_refl _)) (fun _ _ _ _ _ hs _ _ => hs)
    (Below.refl _ _)
    ?a1 ?assign ?body ?done ?stop
  case a1 => exact fun x => x.elim
  case assign => exact fun l x => x.elim
  case body => exact fun l pre x => x.elim
  case stop =>
    intro D c pre W _ _ h _
    exact h.elim
  case done =>
    rintro D xs w7 hD rfl hb hK
    have K7 := hidd (K6.out.below hb)
    have HK7 := hidd hK
    clear hb hK hq6 hc6
    go_wp2_with fail
    refine (cQ.out _).mono ?_
    rintro e w8 ⟨rfl, hb⟩
    have K8 := hidd ((K7.out.below (by (repeat' (first | (with_reducible exact Below.refl _ _) | (with_reducible assumption) | (with_reducible apply Below.setCell) | (with_reducible apply Below.alloc) | (with_reducible apply Below.drew) | (with_reducible apply below_drewN) | (with_reducible refine Below.trans ?_ (Below.mono (by assumption) ?_)) | omega | (simp; done) | (simp; omega))))).below hb)
    have HK8 := hidd ((hb.block _ (Array.getElem?_eq_some_iff.1 HK7.out).1).trans HK7.out)
    clear hb
    have x0 := K8.out.x0
    have x1 := K8.out.x1
    have x2 := K8.out.x2
    have l0 : w.heap.size < w8.heap.size := World.block_lt_of_cell? _ _ x0
    go_wp2_with fail
    refine (cS.out _ _ (K8.out.below (by (repeat' (first | (with_reducible exact Below.refl _ _) | (with_reducible assumption) | (with_reducible apply Below.setCell) | (with_reducible apply Below.alloc) | (with_reducible apply Below.drew) | (with_reducible apply below_drewN) | (with_reducible refine Below.trans ?_ (Below.mono (by assumption) ?_)) | omega | (simp; done) | (simp; omega))))).z0).mono ?_
    rintro e w9 ⟨rfl, hb⟩
    have K9 := hidd ((K8.out.below (by (repeat' (first | (with_reducible exact Below.refl _ _) | (with_reducible assumption) | (with_reducible apply Below.setCell) | (with_reducible apply Below.alloc) | (with_reducible apply Below.drew) | (with_reducible apply below_drewN) | (with_reducible refine Below.trans ?_ (Below.mono (by assumption) ?_)) | omega | (simp; done) | (simp; omega))))).below hb)
    have HK9 := hidd ((hb.block _ (Array.getElem?_eq_some_iff.1 HK8.out).1).trans HK8.out)
    clear hb
    have x0 := K9.out.x0
    have x1 := K9.out.x1
    have x2 := K9.out.x2
    have l0 : w.heap.size < w9.heap.size := World.block_lt_of_cell? _ _ x0
    go_wp2_with fail
    refine (cG.out _).mono ?_
    rintro e w10 ⟨rfl, hb⟩
    have K10 := hidd ((K9.out.below (by (repeat' (first | (with_reducible exact Below.refl _ _) | (with_reducible assumption) | (with_reducible apply Below.setCell) | (with_reducible apply Below.alloc) | (with_reducible apply Below.drew) | (with_reducible apply below_drewN) | (with_reducible refine Below.trans ?_ (Below.mono (by assumption) ?_)) | omega | (simp; done) | (simp; omega))))).below hb)
    have HK10 := hidd ((hb.block _ (Array.getElem?_eq_some_iff.1 HK9.out).1).trans HK9.out)
    clear hb
    have x0 := K10.out.x0
    have x1 := K10.out.x1
    have x2 := K10.out.x2
    have l0 : w.heap.size < w10.heap.size := World.block_lt_of_cell? _ _ x0
    go_wp2_with fail
    refine (cL.out _ _ (K10.out.below (by (repeat' (first | (with_reducible exact Below.refl _ _) | (with_reducible assumption) | (with_reducible apply Below.setCell) | (with_reducible apply Below.alloc) | (with_reducible apply Below.drew) | (with_reducible apply below_drewN) | (with_reducible refine Below.trans ?_ (Below.mono (by assumption) ?_)) | omega | (simp; done) | (simp; omega))))).z0).mono ?_
    rintro e w11 ⟨rfl, hb⟩
    have K11 := hidd ((K10.out.below (by (repeat' (first | (with_reducible exact Below.refl _ _) | (with_reducible assumption) | (with_reducible apply Below.setCell) | (with_reducible apply Below.alloc) | (with_reducible apply Below.drew) | (with_reducible apply below_drewN) | (with_reducible refine Below.trans ?_ (Below.mono (by assumption) ?_)) | omega | (simp; done) | (simp; omega))))).below hb)
    have HK11 := hidd ((hb.block _ (Array.getElem?_eq_some_iff.1 HK10.out).1).trans HK10.out)
    clear hb
    have x0 := K11.out.x0
    have x1 := K11.out.x1
    have x2 := K11.out.x2
    have l0 : w.heap.size < w11.heap.size := World.block_lt_of_cell? _ _ x0
    go_wp2_with fail
    refine (cC.out _).mono ?_
    rintro e w12 ⟨rfl, hb⟩
    have K12 := hidd ((K11.out.below (by (repeat' (first | (with_reducible exact Below.refl _ _) | (with_reducible assumption) | (with_reducible apply Below.setCell) | (with_reducible apply Below.alloc) | (with_reducible apply Below.drew) | (with_reducible apply below_drewN) | (with_reducible refine Below.trans ?_ (Below.mono (by assumption) ?_)) | omega | (simp; done) | (simp; omega))))).below hb)
    have HK12 := hidd ((hb.block _ (Array.getElem?_eq_some_iff.1 HK11.out).1).trans HK11.out)
    clear hb
    have x0 := K12.out.x0
    have x1 := K12.out.x1
    have x2 := K12.out.x2
    have l0 : w.heap.size < w12.heap.size := World.block_lt_of_cell? _ _ x0
    go_wp2_with fail
    refine (cE.out _ _ (K12.out.below (by (repeat' (first | (with_reducible exact Below.refl _ _) | (with_reducible assumption) | (with_reducible apply Below.setCell) | (with_reducible apply Below.alloc) | (with_reducible apply Below.drew) | (with_reducible apply below_drewN) | (with_reducible refine Below.trans ?_ (Below.mono (by assumption) ?_)) | omega | (simp; done) | (simp; omega))))).z0).mono ?_
    rintro e w13 ⟨rfl, hb⟩
    have K13 := hidd ((K12.out.below (by (repeat' (first | (with_reducible exact Below.refl _ _) | (with_reducible assumption) | (with_reducible apply Below.setCell) | (with_reducible apply Below.alloc) | (with_reducible apply Below.drew) | (with_reducible apply below_drewN) | (with_reducible refine Below.trans ?_ (Below.mono (by assumption) ?_)) | omega | (simp; done) | (simp; omega))))).below hb)
    have HK13 := hidd ((hb.block _ (Array.getElem?_eq_some_iff.1 HK12.out).1).trans HK12.out)
    clear hb
    have x0 := K13.out.x0
    have x1 := K13.out.x1
    have x2 := K13.out.x2
    have l0 : w.heap.size < w13.heap.size := World.block_lt_of_cell? _ _ x0
    go_wp2_with fail
    refine (cN.out _).mono ?_
    rintro e w14 ⟨q2, SQ, rfl, hQ, -, hb⟩
    have K14 := hidd ((K13.out.below (by (repeat' (first | (with_reducible exact Below.refl _ _) | (with_reducible assumption) | (with_reducible apply Below.setCell) | (with_reducible apply Below.alloc) | (with_reducible apply Below.drew) | (with_reducible apply below_drewN) | (with_reducible refine Below.trans ?_ (Below.mono (by assumption) ?_)) | omega | (simp; done) | (simp; omega))))).below hb)
    have HK14 := hidd ((hb.block _ (Array.getElem?_eq_some_iff.1 HK13.out).1).trans HK13.out)
    have HQ := hidd hQ
    clear hb hQ x0 x1 x2 l0
    go_wp2_with fail
    refine (cM.out _ _ ⟨_, _, _, _, _, HQ.out.below (by (repeat' (first | (with_reducible exact Below.refl _ _) | (with_reducible assumption) | (with_reducible apply Below.setCell) | (with_reducible apply Below.alloc) | (with_reducible apply Below.drew) | (with_reducible apply below_drewN) | (with_reducible refine Below.trans ?_ (Below.mono (by assumption) ?_)) | omega | (simp; done) | (simp; omega))))⟩).mono ?_
    rintro e w15 ⟨rfl, hb⟩
    have K15 := hidd ((K14.out.below (by (repeat' (first | (with_reducible exact Below.refl _ _) | (with_reducible assumption) | (with_reducible apply Below.setCell) | (with_reducible apply Below.alloc) | (with_reducible apply Below.drew) | (with_reducible apply below_drewN) | (with_reducible refine Below.trans ?_ (Below.mono (by assumption) ?_)) | omega | (simp; done) | (simp; omega))))).below hb)
    have HK15 := hidd ((hb.block _ (Array.getElem?_eq_some_iff.1 HK14.out).1).trans HK14.out)
    clear hb
    go_wp2_with fail
    refine (cK.out _).mono ?_
    rintro e w16 ⟨rfl, hb⟩
    have K16 := hidd ((K15.out.below (by (repeat' (first | (with_reducible exact Below.refl _ _) | (with_reducible assumption) | (with_reducible apply Below.setCell) | (with_reducible apply Below.alloc) | (with_reducible apply Below.drew) | (with_reducible apply below_drewN) | (with_reducible refine Below.trans ?_ (Below.mono (by assumption) ?_)) | omega | (simp; done) | (simp; omega))))).below hb)
    have HK16 := hidd ((hb.block _ (Array.getElem?_eq_some_iff.1 HK15.out).1).trans HK15.out)
    clear hb
    have r0 := K16.out.r0
    have r1 := K16.out.r1
    go_wp2_with fail
    have hne : w6.heap.size ≠ w.heap.size + 1 := by have := World.block_lt_of_cell? w6 _ K6.out.r0; have h2 : w.heap.size + 1 < w6.heap.size := this; omega
    have hl6 : w.heap.size + 1 < w6.heap.size := World.block_lt_of_cell? w6 _ K6.out.r0
    have hKS : (w16.setCell ⟨w.heap.size + 1, 0, none⟩ (.bool true)).heap[D]? = some (.deferred (some [])) := (Below.heap_setCell _ _ _ _ (by show D ≠ w.heap.size + 1; omega)).trans HK16.out
    have hrc : (w16.setCell ⟨w.heap.size + 1, 0, none⟩ (.bool true)).cell? ⟨w.heap.size + 1, 0, none⟩ = some (.bool true) := World.cell?_setCell_same' w16 ⟨w.heap.size + 1, 0, none⟩ (.bool true) (by rw [r0]; rfl)
    have hgp := grownBy_putObj' (w16.setCell ⟨w.heap.size + 1, 0, none⟩ (.bool true)) D (.deferred none)
    have hrp := cell_kept hrc hgp (fun r e => by cases e; exact ⟨_, hKS, rfl⟩)
    refine ⟨by simp, .inl ⟨_, _, rfl, run_takeDeferred hKS, ?_⟩⟩
    refine ⟨.bool true, ?_, rfl, ?_⟩
    · simp [results, Tryz.results4, go_sem, hrp]
    · exact (K16.out.bel.setCell (p := ⟨w.heap.size + 1, 0, none⟩) (by show w.heap.size ≤ w.heap.size + 1; omega) (.bool true)).grown hgp (K16.out.bel.setCell (p := ⟨w.heap.size + 1, 0, none⟩) (by show w.heap.size ≤ w.heap.size + 1; omega) (.bool true)).size (fun k e => by cases e; have := K6.out.bel.size; omega)
end Go.Proofs.YtgeankdimknmiaaGreat.Hp

/- The row's frame, for clocks: arguments are opened to numbers and lists (out of the heaps' frame). -/
namespace Go.Proofs.YtgeankdimknmiaaGreat.Hp
set_option linter.unusedVariables false
namespace RowK
open Go.ChangeShapes Go.WideShapes Go.ChangeAt Go.RowKit Go.Joins Go.Deep Go.Proofs.YtgeankdimknmiaaGreat.Tp

theorem own : ownKnob Tryz.prog.godebug = none := by kernel_rfl
theorem laidOut : laidOutB Tryz.prog = true := by kernel_rfl
theorem i64_bounds {n : Int} (h : (Lit.int .i64 n).wf = true) : -9223372036854775808 ≤ n ∧ n ≤ 9223372036854775807 := by
  simp only [Lit.wf, Bool.and_eq_true, decide_eq_true_eq] at h
  have a : IntKind.i64.min = -9223372036854775808 := rfl
  have b : IntKind.i64.max = 9223372036854775807 := rfl
  omega
section
variable {H : Type} {enc : TypeId × Value → H} {P : Program}
theorem all_stays (hl : laidOutB P = true) {W W' : World} (hb : Below W.heap.size W W') : ∀ {ts : List TypeId} {vs : List Value} {ds : List (DataW H)} {ps : List MemPlace},
    (∀ t ∈ ts, P.readableRec t = true ∧ t < P.types.size) → DataW.TrodAll enc P W 0 (fun _ => true) true ts vs ds ps → (∀ x ∈ ps, x.block < W.heap.size) → ∀ sp : Nat → Bool, (∀ x ∈ ps, sp x.block = true) → DataW.TrodAll enc P W' 0 sp true ts vs ds ps
  | [], vs, ds, ps, _, h, _, sp, _ => by
    obtain ⟨rfl, rfl, rfl⟩ := trodAll_nil h
    exact trodAll_mk0
  | t :: ts, vs, ds, ps, hr, h, hlt, sp, hsp => by
    obtain ⟨v, vs', d, ds', p, p', rfl, rfl, rfl, h0, h1⟩ := trodAll_cons h
    refine trodAll_cons_mk (WideElems.Trod_stays hl (hr t (by simp)).1 (hr t (by simp)).2 h0 (fun x hx => hb.same (hlt x (by simp [hx]))) (fun x hx => hsp x (by simp [hx]))) ?_
    exact all_stays hl hb (fun t ht => hr t (by simp [ht])) h1 (fun x hx => hlt x (by simp [hx])) sp (fun x hx => hsp x (by simp [hx]))

theorem post_law {f : Func} {s : ChangeSpec} {apart fresh handsOn again : Bool} {W W' : World} {args : Array Value} {v : Value} {ds gs : List (DataW H)} {before pv : List MemPlace}
    (hl : laidOutB P = true) (hr : ∀ t ∈ f.params.toList, P.readableRec t = true ∧ t < P.types.size)
    (hW : DataW.Whole enc P f.params.toList s.vars apart W args.toList ds gs (before ++ pv))
    (hA : DataW.TrodAll enc P W 0 (fun _ => true) true f.params.toList args.toList ds before)
    (hs : (s.fn H (ds ++ gs)).args = ds)
    (hres : ∀ (b : Nat) (sp : Nat → Bool) (hd : Bool), DataW.TrodAll enc P W' b sp hd f.resultTypes.toList (v.resultList f.resultTypes.size) (s.fn H (ds ++ gs)).results [])
    (hvars : ∀ sp : Nat → Bool, DataW.TrodVars enc P W' sp s.vars (s.fn H (ds ++ gs)).vars pv)
    (hb : Below W.heap.size W W')
    (hok : ∀ (j : Nat) (t : TypeId) (r : Value), f.resultTypes[j]? = some t → (v.resultList f.resultTypes.size)[j]? = some r → Value.okWide P W' .any 0 t r) :
    s.post enc P f apart fresh handsOn again W args v W' := by
  have hlt : ∀ p ∈ before ++ pv, p.block < W.heap.size := fun p hp => hW.lt p hp
  have hargs : ∀ sp : Nat → Bool, (∀ p ∈ before ++ pv, sp p.block = true) → DataW.TrodAll enc P W' 0 sp true f.params.toList args.toList (s.fn H (ds ++ gs)).args before := fun sp hsp => by
    rw [hs]
    exact all_stays hl hb hr hA (fun x hx => hlt x (by simp [hx])) sp (fun x hx => hsp x (by simp [hx]))
  have hold : ∀ p ∈ before ++ pv, (fun b => decide (b < W.heap.size)) p.block = true := fun p hp => by simpa using hlt p hp
  refine ⟨ds, gs, before ++ pv, [], before, pv, hW, hres _ _ _, hargs _ hold, hvars _, World.keptBut_mono (fun p hp => ⟨hp, ?_⟩) (hb.frame (· ∈ before ++ pv)), fun _ => ?_⟩
  · rw [List.mem_append] at hp
    exact Or.inr hp
  · obtain ⟨_, _, _, _, _, hz, hn⟩ := hW
    refine ⟨hok, _, _, ([] ++ before) ++ pv, ⟨[] ++ before, pv, trodAll_append (hargs _ (fun _ _ => rfl)) (hres _ _ _), hvars _, rfl, ?_, ?_⟩, ?_⟩
    · intro b off hp
      have hin : MemPlace.cell b off ∈ before ++ pv := by simpa using hp
      rw [hb.frozen (hlt _ hin)]
      exact hz b off hin
    · intro ha
      have := hn ha
      simpa using this
    · intro p hp _
      simpa using hp
end

section
variable {H : Type} {enc : TypeId × Value → H} {P : Program} {w : World} {base : Nat} {spare : Nat → Bool} {held : Bool}
theorem open_slice_fields {t e : TypeId} {fs : Array Field} {fuel : Nat} {cs : List Value} {x : DataW H × List MemPlace} (ht : P.underlying t = some (.slice e)) (he : P.underlying e = some (.struct fs))
    (hone : oneCellFields P fs = true) (hC : P.cellsOf e = fs.size) (h : DataW.trod enc P w base spare held fuel t cs = some x) :
    cs = [.slice none 0 0] ∨
    ∃ (a : Addr) (len cap : Nat), cs = [.slice (some a) len cap] ∧ len ≤ cap ∧ cap ≤ maxLen ∧
      ∀ i, i < len → ∀ (j : Nat) (f : Field), fs[j]? = some f → ∃ (v : Value) (n : Nat) (y : DataW H × List MemPlace), w.cell? (a.add (i * fs.size + j)) = some v ∧ DataW.trod enc P w base spare held n f.type [v] = some y := by
  rcases open_slice ht h with h0 | ⟨a, len, cap, m, n, D, Pl, hcs, hb, hl, hm, hmm, hx, hi⟩
  · exact .inl h0.1
  · refine .inr ⟨a, len, cap, hcs, hl, hm, fun i hil j f hj => ?_⟩
    have him : i < m := by rw [hmm]; split <;> omega
    obtain ⟨cs', hc, ht'⟩ := hi i him
    rw [hC] at hc
    obtain ⟨ys, n', hn', hy, hlen, hyl, hf⟩ := DataW.trod_struct he ht'
    obtain ⟨_, hcl, hat⟩ := World.cells?_some hc
    obtain ⟨ho, hk⟩ := hone_of hone j f hj
    have hjl : j < fs.size := (Array.getElem?_eq_some_iff.1 hj).1
    have hcell := hat j hjl
    have hv : cs'[j]? = some (cs'[j]'(by omega)) := List.getElem?_eq_getElem (by omega)
    have h1 := hf j f hj
    rw [ho, hk] at h1
    have hone' : (cs'.drop j).take 1 = [cs'[j]'(by omega)] := by
      rw [List.drop_eq_getElem_cons (by omega)]
      rfl
    rw [hone'] at h1
    have hys : ys[j]? = some (ys[j]'(by omega)) := List.getElem?_eq_getElem (by omega)
    refine ⟨_, n', _, ?_, h1.trans hys⟩
    rw [← Go.Deep.add_add, hcell, hv]
theorem list_of {α : Type} {Q : Nat → α → Prop} : ∀ {n : Nat}, (∀ i, i < n → ∃ x, Q i x) → ∃ L : List α, L.length = n ∧ ∀ i x, L[i]? = some x → Q i x
  | 0, _ => ⟨[], rfl, fun i x h => by simp at h⟩
  | n + 1, h => by
    obtain ⟨L, hL, hQ⟩ := list_of (n := n) (fun i hi => h i (by omega))
    obtain ⟨x, hx⟩ := h n (by omega)
    refine ⟨L ++ [x], by simp [hL], fun i y hy => ?_⟩
    rw [List.getElem?_append] at hy
    split at hy
    · exact hQ i y hy
    · have : i = n := by
        have := (List.getElem?_eq_some_iff.1 hy).1
        simp at this
        omega
      subst this
      rw [hL] at hy
      simp at hy
      exact hy ▸ hx
end

section
variable {H : Type} {enc : TypeId × Value → H} {P : Program} {w : World} {base : Nat} {spare : Nat → Bool} {held : Bool}
theorem open_ints3 {r : Reach} {b0 : Nat} {t : TypeId} {f0 f1 f2 : Field} {v : Value} {d : DataW H} {p : List MemPlace} (hs : P.underlying t = some (.struct #[f0, f1, f2])) (hone : oneCellFields P #[f0, f1, f2] = true) (hC : P.cellsOf t = 3)
    (i0 : P.underlying f0.type = some (.int .i64)) (i1 : P.underlying f1.type = some (.int .i64)) (i2 : P.underlying f2.type = some (.int .i64))
    (hv : Value.okWide P w r b0 t v) (h : DataW.Trod enc P w base spare held t v d p) :
    ∃ a0 a1 a2 : Int, v = .agg #[.int .i64 a0, .int .i64 a1, .int .i64 a2] ∧ (-9223372036854775808 ≤ a0 ∧ a0 ≤ 9223372036854775807) ∧ (-9223372036854775808 ≤ a1 ∧ a1 ≤ 9223372036854775807) ∧ (-9223372036854775808 ≤ a2 ∧ a2 ≤ 9223372036854775807) := by
  obtain ⟨cs, rfl, hsz⟩ := okWide_struct hs hv
  obtain ⟨l⟩ := cs
  match l, hsz.trans hC with
  | [c0, c1, c2], _ =>
    obtain ⟨fuel, hf⟩ := h
    obtain ⟨xs, n, _, hx, _, hlen, hg⟩ := DataW.trod_struct hs hf
    obtain ⟨o0, k0⟩ := hone_of hone 0 f0 rfl
    obtain ⟨o1, k1⟩ := hone_of hone 1 f1 rfl
    obtain ⟨o2, k2⟩ := hone_of hone 2 f2 rfl
    match xs, hlen with
    | [y0, y1, y2], _ =>
      have g0 : DataW.trod enc P w base spare held n f0.type [c0] = some y0 := by simpa [Value.cells, o0, k0] using hg 0 f0 rfl
      have g1 : DataW.trod enc P w base spare held n f1.type [c1] = some y1 := by simpa [Value.cells, o1, k1] using hg 1 f1 rfl
      have g2 : DataW.trod enc P w base spare held n f2.type [c2] = some y2 := by simpa [Value.cells, o2, k2] using hg 2 f2 rfl
      obtain ⟨a0, e0, -, z0⟩ := DataW.trod_int i0 g0
      obtain ⟨a1, e1, -, z1⟩ := DataW.trod_int i1 g1
      obtain ⟨a2, e2, -, z2⟩ := DataW.trod_int i2 g2
      simp at e0 e1 e2
      exact ⟨a0, a1, a2, by rw [e0, e1, e2], i64_bounds z0, i64_bounds z1, i64_bounds z2⟩
theorem open_ints2 {r : Reach} {b0 : Nat} {t : TypeId} {f0 f1 : Field} {v : Value} {d : DataW H} {p : List MemPlace} (hs : P.underlying t = some (.struct #[f0, f1])) (hone : oneCellFields P #[f0, f1] = true) (hC : P.cellsOf t = 2)
    (i0 : P.underlying f0.type = some (.int .i64)) (i1 : P.underlying f1.type = some (.int .i64))
    (hv : Value.okWide P w r b0 t v) (h : DataW.Trod enc P w base spare held t v d p) :
    ∃ a0 a1 : Int, v = .agg #[.int .i64 a0, .int .i64 a1] ∧ (-9223372036854775808 ≤ a0 ∧ a0 ≤ 9223372036854775807) ∧ (-9223372036854775808 ≤ a1 ∧ a1 ≤ 9223372036854775807) := by
  obtain ⟨cs, rfl, hsz⟩ := okWide_struct hs hv
  obtain ⟨l⟩ := cs
  match l, hsz.trans hC with
  | [c0, c1], _ =>
    obtain ⟨fuel, hf⟩ := h
    obtain ⟨xs, n, _, hx, _, hlen, hg⟩ := DataW.trod_struct hs hf
    obtain ⟨o0, k0⟩ := hone_of hone 0 f0 rfl
    obtain ⟨o1, k1⟩ := hone_of hone 1 f1 rfl
    match xs, hlen with
    | [y0, y1], _ =>
      have g0 : DataW.trod enc P w base spare held n f0.type [c0] = some y0 := by simpa [Value.cells, o0, k0] using hg 0 f0 rfl
      have g1 : DataW.trod enc P w base spare held n f1.type [c1] = some y1 := by simpa [Value.cells, o1, k1] using hg 1 f1 rfl
      obtain ⟨a0, e0, -, z0⟩ := DataW.trod_int i0 g0
      obtain ⟨a1, e1, -, z1⟩ := DataW.trod_int i1 g1
      simp at e0 e1
      exact ⟨a0, a1, by rw [e0, e1], i64_bounds z0, i64_bounds z1⟩
end
end RowK
end Go.Proofs.YtgeankdimknmiaaGreat.Hp

/- Whatever the packet and the tick, ClockNil answers true: a queue that is not there answers ErrNil; no conditions. -/
namespace Go.Proofs.YtgeankdimknmiaaGreat.clockNil
open Go.ChangeShapes Go.WideShapes Go.ChangeAt Go.RowKit Go.Joins Go.Proofs.YtgeankdimknmiaaGreat.Tp Go.Proofs.YtgeankdimknmiaaGreat.Hp Go.Proofs.YtgeankdimknmiaaGreat.Hp.RowK
set_option linter.unusedVariables false
set_option maxRecDepth 100000 in
theorem lifted (os : Os) (started : os.Started) (H : Type) (enc : TypeId × Value → H) :
    ReturnsInHanded {} Tryz.checked os 4 .any (Rows.clockNilSpec.pre6 enc Tryz.prog Tryz.f4 Rows.clockNilRow.domain false) (Rows.clockNilSpec.post enc Tryz.prog Tryz.f4 false true false false) := by
  refine returnsInHanded_of_change (C := Tryz.checked) own started (by kernel_rfl) Tryz.func4
    (ChangeSpec.witness6 (enc := enc) (C := Tryz.checked) false ⟨#[], #[.agg #[.int .i64 0, .int .i64 0, .int .i64 0], .int .i64 0], []⟩ 8 (by kernel_rfl) (by kernel_rfl) (by kernel_rfl) (by kernel_rfl)) ?_
  intro W base args ds gs before hval0 hW hcnd _
  have hval : ∀ (j : Nat) t v, Tryz.f4.params[j]? = some t → args[j]? = some v → Value.okWide Tryz.prog W .any base t v := hval0
  have hW' := hW
  obtain ⟨p, q, hA0, hV, rfl, hfz, hnd⟩ := hW
  have hA : DataW.TrodAll enc Tryz.prog W 0 (fun _ => true) true Tryz.f4.params.toList args.toList ds p := hA0
  rw [Tryz.params4] at hA hval
  obtain ⟨v0, vs0, d0, ds0, p0, q0, hargs, rfl, rfl, h0, r0⟩ := trodAll_cons hA
  obtain ⟨v1, vs1, d1, ds1, p1, q1, rfl, rfl, rfl, h1, r1⟩ := trodAll_cons r0
  obtain ⟨rfl, rfl, rfl⟩ := trodAll_nil r1
  obtain rfl : args = #[v0, v1] := by cases args; simp_all
  obtain ⟨rfl, rfl⟩ := trodVars_none hV
  obtain ⟨a0, b0, c0, rfl, -, -, -⟩ := open_ints3 Tryz.underlying33 (by kernel_rfl) (by kernel_rfl) Tryz.underlying2 Tryz.underlying2 Tryz.underlying2 (hval 0 33 v0 rfl rfl) h0
  obtain ⟨a1, rfl, e1, f1, w1⟩ := open_int Tryz.underlying2 (hval 1 2 v1 rfl rfl) h1
  refine (YtgeankdimknmiaaGreat.Hp.nil14_walk a0 b0 c0 a1 W ).mono fun e W' ⟨he, hg⟩ => ?_
  subst he
  exact ⟨_, rfl, post_law laidOut (by rw [Tryz.params4]; intro t ht; simp at ht; rcases ht with rfl | rfl <;> exact ⟨by kernel_rfl, of_decide_eq_true (by kernel_rfl)⟩) hW' hA0 rfl (fun _ _ _ => (trodAll_cons_mk (shut_bool Tryz.underlying4 _) trodAll_mk0)) (fun _ => rfl) hg (ok_one (by kernel_rfl) rfl (okWide_bool_mk Tryz.underlying4 _))⟩

theorem over : Rows.clockNilRow.holds Tryz.pinned (OpenSpec.ofChange Rows.clockNilSpec) :=
  OpenClaim.holds_of_wide 4 Tryz.f4 rfl rfl rfl rfl rfl rfl rfl ⟨rfl, rfl, rfl, rfl, rfl⟩ rfl rfl rfl rfl rfl (by kernel_rfl) Tryz.func4 (by kernel_rfl)
    (of_decide_eq_true (by kernel_rfl)) (by unfold Func.isWrapper; first | (rw [if_pos (by decide +kernel)]; kernel_rfl) | (rw [if_neg (by decide +kernel)]; exact ⟨rfl, rfl⟩))
    (fun os started H enc _ => lifted os started H enc)
end Go.Proofs.YtgeankdimknmiaaGreat.clockNil
namespace Go.Proofs.YtgeankdimknmiaaGreat
/-- the given statement. -/
theorem clockNil_proved : Rows.ClockNilSaid := clockNil.over
end Go.Proofs.YtgeankdimknmiaaGreat

