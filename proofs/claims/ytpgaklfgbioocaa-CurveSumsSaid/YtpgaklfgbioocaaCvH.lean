/- Curves: lines in order: what the order asks for, what a sorted list of the call's own holds. -/
import Derived.Test.YtpgaklfgbioocaaCvG
import Derived.Shelf.SlSortCmp.InsertionK
import Derived.Sort.LotA
namespace Go.Proofs.Ytpgaklfgbioocaa
set_option linter.unusedVariables false
open Go.RowKit RowK Go.Shelf Go.Sort Go.Lib

/-- draws and new blocks alone. -/
def Grew (w w' : World) : Prop := ∃ q os, w' = grow (w.drewN q) os
theorem Grew.refl (w : World) : Grew w w := ⟨0, #[], by simp [World.drewN]⟩
theorem Grew.alloc {w W : World} (h : Grew w W) (o : Obj) : Grew w (W.alloc o) := by
  obtain ⟨q, os, rfl⟩ := h
  exact ⟨q, os ++ #[o], by rw [alloc_eq_grow, grow_grow]⟩
theorem Grew.drewN {w W : World} (h : Grew w W) (n : Nat) : Grew w (W.drewN n) := by
  obtain ⟨q, os, rfl⟩ := h
  exact ⟨q + n, os, by show grow ((w.drewN q).drewN n) os = _; rw [World.drewN_drewN]⟩
theorem Grew.drew {w W : World} (h : Grew w W) : Grew w W.drew := h.drewN 1
theorem lineC_le (a b : Int × Int) : (!ltOf lineC b a) = CM.le a b := by
  unfold ltOf lineC orV cmpV CM.le
  rcases Int.lt_trichotomy a.1 b.1 with h | h | h
  · have h1 : ¬ b.1 < a.1 := by omega
    simp [h, h1]
  · rcases Int.lt_trichotomy a.2 b.2 with g | g | g
    · have g1 : ¬ b.2 < a.2 := by omega
      have g2 : a.2 ≤ b.2 := by omega
      simp [h, g, g1, g2]
    · simp [h, g]
    · have g2 : ¬ a.2 ≤ b.2 := by omega
      simp [h, g, g2]
  · have h1 : ¬ a.1 < b.1 := by omega
    have h2 : ¬ a.1 = b.1 := by omega
    simp [h, h1, h2]
theorem lineC_lt (a b : Int × Int) : ltOf lineC a b = decide (a.1 < b.1 ∨ a.1 = b.1 ∧ a.2 < b.2) := by
  have h := lineC_le b a
  have e : ltOf lineC a b = !CM.le b a := by rw [← h]; simp
  rw [e]
  unfold CM.le
  rw [Bool.eq_iff_iff]
  simp
  omega
theorem lineO : SWO (ltOf lineC) where
  irrefl x := by rw [lineC_lt]; simp
  trans x y z h1 h2 := by rw [lineC_lt] at *; simp at *; omega
  ntrans x y z h1 h2 := by rw [lineC_lt] at *; simp at *; omega
theorem line_sorted (d d' : Array (Int × Int)) (hp : PermIn 0 d.size d d') (hs : SortedIn (ltOf lineC) 0 d.size d') : d'.toList = CM.sortL d.toList := by
  have h := sorted_unique_holds (lt := ltOf lineC) lineO (fun x y h1 h2 => by rw [lineC_lt] at *; simp at *; exact Prod.ext (by omega) (by omega)) d d' hp hs
  have e : (fun x y : Int × Int => !ltOf lineC y x) = CM.le := by funext x y; exact lineC_le x y
  rw [e] at h
  exact h
theorem flat_row (d : Array (Int × Int)) : (flatK sendV 2 d).toList = rowOf sendV d.toList := by
  apply List.ext_getElem?
  intro t
  have hl : (rowOf sendV d.toList).length = d.size * 2 := by rw [row_len sendV_len]; simp
  by_cases ht : t < d.size * 2
  · have h1 : t / 2 < d.size := by omega
    have e1 := row_at sendV_len d.toList (t / 2) d[t / 2] (by simp [h1])
    have e2 : t / 2 * 2 + t % 2 = t := by omega
    have h2 : t % 2 < (sendV d[t / 2]).length := by rw [sendV_len]; omega
    have e3 := e1 (t % 2) (sendV d[t / 2])[t % 2] (by simp [h2])
    rw [e2] at e3
    rw [e3, Array.getElem?_toList, Array.getElem?_eq_getElem (by simpa using ht)]
    have := get_flatK sendV 2 d t ht
    rw [getElem!_pos _ t (by simpa using ht), getElem!_pos d (t / 2) h1, getElem!_pos (sendV d[t / 2]) (t % 2) h2] at this
    rw [this]
  · rw [List.getElem?_eq_none (by simp; omega), List.getElem?_eq_none (by omega)]
theorem holds_own {w : World} {g : Nat} {cur : Array Value} {e : TypeId} {L : List (Int × Int)} (hb : w.heap[g]? = some (.cells cur e (0, 0))) (ht : cur.toList.take (L.length * 2) = rowOf sendV L) : HoldsK sendV 2 w g 0 L.toArray := by
  intro j hj
  have hj' : j < L.length * 2 := by simpa using hj
  refine ⟨?_, by simp [World.frozen?, hb]⟩
  have h1 : (cur.toList.take (L.length * 2))[j]? = (rowOf sendV L)[j]? := by rw [ht]
  rw [List.getElem?_take_of_lt hj'] at h1
  have h2 : (flatK sendV 2 L.toArray).toList[j]? = (rowOf sendV L)[j]? := by rw [flat_row]
  rw [Array.getElem?_toList, Array.getElem?_eq_getElem (by simpa using hj')] at h2
  simp only [World.cell?, hb, Nat.zero_add, Option.isSome_none, Bool.false_eq_true, if_false]
  rw [← Array.getElem?_toList, h1, ← h2, getElem!_pos _ j hj]
  rfl
theorem heap_sortedK {w : World} {g n : Nat} {os : Array Obj} {cur : Array Value} {e : TypeId} {fr : Nat × Nat} (d : Array (Int × Int)) (hb : w.heap[g]? = some (.cells cur e fr)) :
    (sortWorldK sendV 2 w g 0 n d os).heap[g]? = some (.cells (putCells id 0 (flatK sendV 2 d) cur) e fr) := by
  have hg : g < w.heap.size := (Array.getElem?_eq_some_iff.1 hb).1
  unfold sortWorldK
  rw [heap_grow_old _ _ (by rw [size_putRowK]; simpa using hg)]
  simp [putRowK, putRow, mapBlock, Sort.ahead, Array.getElem?_modify, hb, onCells]
theorem grownBy_sortedK {w : World} {g n : Nat} {os : Array Obj} (d : Array (Int × Int)) : w.grownBy (sortWorldK sendV 2 w g 0 n d os) (some g) := by
  refine ⟨rfl, rfl, rfl, by unfold sortWorldK; simp [size_putRowK, Sort.ahead], fun k hk hne => ?_⟩
  unfold sortWorldK
  rw [heap_grow_old _ _ (by rw [size_putRowK]; simpa using hk)]
  have : g ≠ k := fun e => hne (by rw [e])
  simp [putRowK, putRow, mapBlock, Sort.ahead, Array.getElem?_modify, this]
theorem take_putK (cur F : Array Value) (h : F.size ≤ cur.size) : (putCells id 0 F cur).toList.take F.size = F.toList := by
  apply List.ext_getElem?
  intro j
  by_cases hj : j < F.size
  · rw [List.getElem?_take_of_lt hj, Array.getElem?_toList]
    simp [putCells, hj, show j < cur.size by omega]
  · rw [List.getElem?_take_eq_none (by omega), List.getElem?_eq_none (by simp; omega)]
theorem OwnL.sorted {w : World} {base g cap n : Nat} {e : TypeId} {os : Array Obj} {L : List (Int × Int)} (h : OwnL sendV 2 w base e (.slice (some ⟨g, 0, none⟩) L.length cap) L) (d' : Array (Int × Int)) (hd : d'.toList = CM.sortL L) :
    OwnL sendV 2 (sortWorldK sendV 2 w g 0 n d' os) base e (.slice (some ⟨g, 0, none⟩) L.length cap) (CM.sortL L) := by
  have hl : (CM.sortL L).length = L.length := (CM.sortL_perm L).length_eq
  have hs : d'.size = L.length := by rw [← hl, ← hd]; simp
  obtain ⟨h0, h1⟩ := h
  rcases h1 with ⟨hv, _⟩ | ⟨g', cap', cur, hv, hb, hh, hn, hm, hc, ht⟩
  · cases hv
  cases hv
  refine ⟨by rw [row_len sendV_len], .inr ⟨g, cap, _, by rw [hl], hb, heap_sortedK d' hh, by omega, hm, by simp [putCells, hc], ?_⟩⟩
  have e1 : (CM.sortL L).length * 2 = (flatK sendV 2 d').size := by rw [size_flatK, hs, hl]
  rw [e1, take_putK _ _ (by rw [size_flatK, hs, hc]; exact Nat.mul_le_mul_right 2 hn), flat_row, hd]
theorem OwnL.holds {w : World} {base g cap : Nat} {e : TypeId} {L : List (Int × Int)} (h : OwnL sendV 2 w base e (.slice (some ⟨g, 0, none⟩) L.length cap) L) : HoldsK sendV 2 w g 0 L.toArray ∧ g < w.heap.size := by
  obtain ⟨_, h1⟩ := h
  rcases h1 with ⟨hv, _⟩ | ⟨g', cap', cur, hv, hb, hh, hn, hm, hc, ht⟩
  · cases hv
  cases hv
  exact ⟨holds_own hh ht, (Array.getElem?_eq_some_iff.1 hh).1⟩
end Go.Proofs.Ytpgaklfgbioocaa
