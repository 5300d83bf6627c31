/- Maps: the links of a node, put in order: the library's sort of their numbers. -/
import Derived.Test.YtalhbjmhipiiiaaGreatTpL
namespace Go.Proofs.YtalhbjmhipiiiaaGreat.Tp
set_option linter.unusedVariables false
open Go.RowKit Go.Shelf Go.Sort Go.Lib

/-- a number in memory. -/
def intV (x : Int) : List Value := [.int .i64 x]
theorem intV_len (x : Int) : (intV x).length = 1 := rfl
theorem intV_one (x : Int) : ∀ u ∈ intV x, u.oneCell' = true := fun u hu => by
  simp [intV] at hu; subst hu; rfl
/-- the number of a link of a node. -/
abbrev NodeIx (L : List Lk) (node : Int) := { i : Nat // i < L.length ∧ fr (lkAt L i) = node }
section
variable {L : List Lk} {node : Int}
def ixV (x : NodeIx L node) : Value := .int .i64 (x.1 : Int)
theorem ixV_one : OneCell (ixV (L := L) (node := node)) := fun _ => rfl
def ixC (x y : NodeIx L node) : Int := cmpV (tw (lkAt L x.1)) (tw (lkAt L y.1))
theorem ltC (x y : NodeIx L node) : ltOf ixC x y = decide (tw (lkAt L x.1) < tw (lkAt L y.1)) := by
  unfold ltOf ixC cmpV
  by_cases h : tw (lkAt L x.1) < tw (lkAt L y.1)
  · simp [h]
  · by_cases h2 : tw (lkAt L y.1) < tw (lkAt L x.1)
    · simp [h, h2]
    · simp [h, h2]
theorem ixO : SWO (ltOf (ixC (L := L) (node := node))) where
  irrefl x := by rw [ltC]; simp
  trans x y z h1 h2 := by rw [ltC] at *; simp at *; omega
  ntrans x y z h1 h2 := by rw [ltC] at *; simp at *; omega
def ixL (d : List (NodeIx L node)) : List Int := d.map fun x => (x.1 : Int)
theorem ixL_len (d : List (NodeIx L node)) : (ixL d).length = d.length := by simp [ixL]
theorem row_ix (d : List (NodeIx L node)) : rowOf intV (ixL d) = d.map ixV := by
  induction d with
  | nil => rfl
  | cons x d ih =>
    simp only [ixL, rowOf, List.map_cons, List.flatMap_cons] at *
    rw [ih]
    rfl
/-- put in order. -/
def ixSort (d : List (NodeIx L node)) : List (NodeIx L node) := d.mergeSort fun x y => !(ltOf ixC) y x
theorem ixSort_perm (d : List (NodeIx L node)) : (ixSort d).Perm d := List.mergeSort_perm _ _
theorem ixSort_len (d : List (NodeIx L node)) : (ixSort d).length = d.length := (ixSort_perm d).length_eq
variable [Inhabited (NodeIx L node)]
theorem holds_ix {w : World} {g : Nat} {cur : Array Value} {e : TypeId} {d : Array (NodeIx L node)} (hb : w.heap[g]? = some (.cells cur e (0, 0))) (ht : cur.toList.take (d.size * 1) = rowOf intV (ixL d.toList)) : Holds ixV w g 0 d := by
  intro j hj
  refine ⟨?_, by simp [World.frozen?, hb]⟩
  have h1 : (cur.toList.take (d.size * 1))[j]? = (d.toList.map ixV)[j]? := by rw [ht, row_ix]
  rw [List.getElem?_take_of_lt (by omega)] at h1
  simp only [World.cell?, hb, Nat.zero_add, Option.isSome_none, Bool.false_eq_true, if_false]
  rw [← Array.getElem?_toList, h1, List.getElem?_map, Array.getElem?_toList, Array.getElem?_eq_getElem hj, getElem!_pos d j hj]
  rfl
theorem heap_sorted1 {w : World} {g n : Nat} {os : Array Obj} {cur : Array Value} {e : TypeId} {f : Nat × Nat} (d : Array (NodeIx L node)) (hb : w.heap[g]? = some (.cells cur e f)) :
    (sortWorld ixV w g 0 n d os).heap[g]? = some (.cells (putCells ixV 0 d cur) e f) := by
  have hg : g < w.heap.size := (Array.getElem?_eq_some_iff.1 hb).1
  unfold sortWorld
  rw [heap_grow_old _ _ (by simp [putRow, mapBlock, Sort.ahead]; exact hg)]
  simp [putRow, mapBlock, Sort.ahead, Array.getElem?_modify, hb, onCells]
theorem heap_other1 {w : World} {g n : Nat} {os : Array Obj} (d : Array (NodeIx L node)) {k : Nat} (hk : k < w.heap.size) (hne : k ≠ g) : (sortWorld ixV w g 0 n d os).heap[k]? = w.heap[k]? := by
  unfold sortWorld
  rw [heap_grow_old _ _ (by simp [putRow, mapBlock, Sort.ahead]; exact hk)]
  have : g ≠ k := fun e => hne e.symm
  simp [putRow, mapBlock, Sort.ahead, Array.getElem?_modify, this]
theorem grownBy_sorted1 {w : World} {g n : Nat} {os : Array Obj} (d : Array (NodeIx L node)) : w.grownBy (sortWorld ixV w g 0 n d os) (some g) :=
  ⟨rfl, rfl, rfl, by unfold sortWorld; simp [putRow, mapBlock, Sort.ahead], fun k hk hne => heap_other1 d hk (fun e => hne (by rw [e]))⟩
theorem take_put1 (cur : Array Value) (d : Array (NodeIx L node)) (h : d.size ≤ cur.size) : (putCells ixV 0 d cur).toList.take d.size = d.toList.map ixV := by
  apply List.ext_getElem?
  intro j
  by_cases hj : j < d.size
  · rw [List.getElem?_take_of_lt hj, Array.getElem?_toList, List.getElem?_map, Array.getElem?_toList, Array.getElem?_eq_getElem hj]
    simp [putCells, hj, show j < cur.size by omega]
  · rw [List.getElem?_take_eq_none (by omega), List.getElem?_eq_none (by simp; omega)]
theorem OwnL.sorted1 {w : World} {base g cap n : Nat} {e : TypeId} {os : Array Obj} {d : Array (NodeIx L node)} (h : OwnL intV 1 w base e (.slice (some ⟨g, 0, none⟩) d.size cap) (ixL d.toList)) :
    OwnL intV 1 (sortWorld ixV w g 0 n (ixSort d.toList).toArray os) base e (.slice (some ⟨g, 0, none⟩) d.size cap) (ixL (ixSort d.toList)) := by
  obtain ⟨h0, h1⟩ := h
  have hs : (ixSort d.toList).toArray.size = d.size := by simp [ixSort_len]
  rcases h1 with ⟨hv, _⟩ | ⟨g', cap', cur, hv, hb, hh, hn, hm, hc, ht⟩
  · cases hv
  simp only [Value.slice.injEq, Option.some.injEq, Addr.mk.injEq] at hv
  obtain ⟨⟨rfl, _, _⟩, _, rfl⟩ := hv
  rw [ixL_len, Array.length_toList] at hn ht
  refine ⟨by rw [row_len intV_len], .inr ⟨g, cap, _, by rw [ixL_len, ixSort_len, Array.length_toList], hb, heap_sorted1 _ hh, by rw [ixL_len, ixSort_len, Array.length_toList]; exact hn, hm, by simp [putCells, hc], ?_⟩⟩
  rw [ixL_len, ixSort_len, Array.length_toList, Nat.mul_one, row_ix]
  have := take_put1 cur (ixSort d.toList).toArray (by rw [hs, hc]; omega)
  rw [hs] at this
  rw [this]
theorem sortsInts (hnd : ∀ x y : NodeIx L node, tw (lkAt L x.1) = tw (lkAt L y.1) → x = y) (hL : L.length ≤ 1000000) (bb q m g cap base : Nat) (Ad : Addr) (d : Array (NodeIx L node)) (hd : d.size ≤ 1000000) (W : World)
    (hO : OwnL intV 1 W base 3 (.slice (some ⟨g, 0, none⟩) d.size cap) (ixL d.toList)) (hb : W.cell? ⟨bb, 0, none⟩ = some (.func (.func 142) #[] #[.pointer (some ⟨q, 0, none⟩)])) (hbg : bb ≠ g) (h : FromBox W q m L Ad) (hq : q ≠ g) (hm : m ≠ g) (hA : Ad.block ≠ g) :
    Calls Tryz.prog 146 #[.slice (some ⟨g, 0, none⟩) d.size cap, .func (.func 147) #[] #[.pointer (some ⟨bb, 0, none⟩)]] W fun e w' =>
      e = .returned (.tuple #[]) ∧ OwnL intV 1 w' base 3 (.slice (some ⟨g, 0, none⟩) d.size cap) (ixL (ixSort d.toList)) ∧ W.grownBy w' (some g) := by
  have hH : Holds ixV W g 0 d ∧ g < W.heap.size := by
    obtain ⟨_, h1⟩ := hO
    rcases h1 with ⟨hv, _⟩ | ⟨g', cap', cur, hv, _, hh, hn, hm', hc, ht⟩
    · cases hv
    simp only [Value.slice.injEq, Option.some.injEq, Addr.mk.injEq] at hv
    obtain ⟨⟨rfl, _, _⟩, _, rfl⟩ := hv
    rw [ixL_len, Array.length_toList] at ht
    exact ⟨holds_ix hh ht, (Array.getElem?_eq_some_iff.1 hh).1⟩
  have eg : ∀ args w, (callFunc 147 args).run Tryz.prog w = .ok (.enter 147 args) w := enters_of Tryz.func147 (by kernel_rfl) rfl
  have hcmp : CmpReads Tryz.prog 147 #[.pointer (some ⟨bb, 0, none⟩)] (ixV (L := L) (node := node)) ixC g 0 d.size W := by
    intro mm os dk hs x y
    have hbb := World.block_lt_of_cell? _ _ hb
    refine rising1_any bb q m L hL Ad x.1 y.1 x.2.1 y.2.1 _ ?_ (h.kept hq hm hA (fun k hk hne => heap_other1 (L := L) (node := node) dk hk hne))
    exact (World.cell?_of_block (heap_other1 (L := L) (node := node) dk hbb hbg)).trans hb
  have hT : ∀ x y : NodeIx L node, ltOf ixC x y = false → ltOf ixC y x = false → x = y := fun x y h1 h2 => by
    rw [ltC] at h1 h2
    simp at h1 h2
    exact hnd x y (by omega)
  have hfin := Any.slices_SortFunc_total Tryz.sortInt ixV ixV_one ixC ixO 147 #[.pointer (some ⟨bb, 0, none⟩)] g 0 cap d W eg hcmp.lays hH.1 hH.2 (by omega) hT
  change Calls Tryz.prog 146 _ _ _ at hfin
  refine hfin.mono ?_
  rintro e w' ⟨rfl, n, os, rfl⟩
  exact ⟨rfl, hO.sorted1, grownBy_sorted1 _⟩
end
theorem sortsNone (A : Option Addr) (cap : Nat) (fv : Value) (W : World) : Calls Tryz.prog 146 #[.slice A 0 cap, fv] W fun e w' => e = .returned (.tuple #[]) ∧ w' = W := by
  have h := AnyF.slices_SortFunc_none Tryz.sortInt0 A cap fv W
  change Calls Tryz.prog 146 _ _ _ at h
  exact h
end Go.Proofs.YtalhbjmhipiiiaaGreat.Tp
