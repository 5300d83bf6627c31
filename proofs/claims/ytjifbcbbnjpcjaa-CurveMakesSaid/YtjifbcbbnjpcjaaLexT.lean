/- A region that draws its order, of many operations: that the order of the text serves, found out by a table of what each operation writes, looks at and waits for. -/
import Derived.Deep.Quiet
import Derived.KernelRfl
import Derived.Test.YtjifbcbbnjpcjaaProg
namespace Go.Proofs.Ytjifbcbbnjpcjaa
open Go
abbrev LexRow : Type := Option Nat × List Nat × List Nat
def lexRow (ops : Array Oper) (o : Oper) : LexRow := (o.dst, o.looksAt ops, (o.after.toList.filter fun e => Region.binds .any e).map (·.on))
def apartT (x y : LexRow) : Bool :=
  (match x.1 with
   | some d => !(y.2.1.contains d) && y.1 != some d
   | none => true) &&
  (match y.1 with
   | some d => !(x.2.1.contains d)
   | none => true)
def lexTab : Nat → List LexRow → Bool
  | _, [] => true
  | k, s :: rest => (s.2.2.all fun j => Nat.blt j k) && (rest.all fun t => t.2.2.contains k || apartT s t) && lexTab (k + 1) rest
theorem apartT_eq (ops : Array Oper) (x y : Oper) : apartT (lexRow ops x) (lexRow ops y) = x.apart ops y := by
  unfold apartT Oper.apart lexRow
  rfl
theorem waits_any (ops : Array Oper) (o : Oper) (k : Nat) : (lexRow ops o).2.2.contains k = true → o.after.any (fun e => Region.binds .any e && e.on == k) = true := by
  intro h
  simp only [lexRow, List.contains_iff_mem, List.mem_map, List.mem_filter] at h
  obtain ⟨e, ⟨he, hb⟩, rfl⟩ := h
  rw [← Array.any_toList, List.any_eq_true]
  exact ⟨e, he, by simp [hb]⟩
theorem lexFrom_tab (ops : Array Oper) : ∀ (l : List Oper) (k : Nat) (listed : Array Bool), k + l.length = ops.size → (∀ j, l[j]? = ops[k + j]?) → listed.size = ops.size →
    (∀ j, j < ops.size → listed.getD j true = decide (j < k)) → lexTab k (l.map (lexRow ops)) = true → Region.lexFrom .any ops l.length k listed = true
  | [], k, listed, hk, _, hs, hd, _ => by
    unfold Region.lexFrom
    simp only [List.length_nil, Region.ready, List.isEmpty_iff, List.filter_eq_nil_iff]
    intro i hi
    have := hd i (by simpa using hi)
    rw [this]
    have hlt : i < k := by have := List.mem_range.1 hi; simp at hk; omega
    simp [hlt]
  | o :: l, k, listed, hk, hl, hs, hd, ht => by
    simp only [List.map_cons, lexTab, Bool.and_eq_true, List.all_eq_true] at ht
    obtain ⟨⟨h1, h2⟩, h3⟩ := ht
    have h0 : ops[k]? = some o := by simpa using (hl 0).symm
    have hkl : k < ops.size := by simp at hk; omega
    simp only [List.length_cons, Region.lexFrom, Bool.and_eq_true]
    refine ⟨⟨?_, ?_⟩, lexFrom_tab ops l (k + 1) _ (by simp at hk; omega) (fun j => by have := hl (j + 1); simpa [Nat.add_assoc, Nat.add_comm 1 j] using this) (by simpa using hs) (fun j hj => ?_) h3⟩
    · rw [List.contains_iff_mem, mem_ready]
      refine ⟨by rw [hd k hkl]; simp, o, h0, fun e he hb => ?_⟩
      have hw : e.on ∈ (lexRow ops o).2.2 := List.mem_map.2 ⟨e, List.mem_filter.2 ⟨by simpa using he, hb⟩, rfl⟩
      have hlt : e.on < k := by have := h1 _ hw; simpa [Nat.blt_eq] using this
      have := hd e.on (by omega)
      have hsz : e.on < listed.size := by omega
      simp [hlt, Array.getD, hsz] at this ⊢
      exact this
    · unfold Region.free
      rw [h0]
      simp only [List.all_eq_true, List.mem_range]
      intro j hj
      by_cases e : j = k
      · simp [e]
      by_cases hjk : j < k
      · have := hd j hj
        rw [this]; simp [hjk]
      · have hoj : l[j - k - 1]? = ops[j]? := by
          have := hl (j - k)
          rw [show j - k = (j - k - 1) + 1 by omega, List.getElem?_cons_succ] at this
          rw [this]; congr 1; omega
        obtain ⟨oj, hj2⟩ : ∃ oj, ops[j]? = some oj := ⟨ops[j], by simp [hj]⟩
        rw [hj2] at hoj
        have hm : lexRow ops oj ∈ l.map (lexRow ops) := List.mem_map.2 ⟨oj, List.mem_of_getElem? hoj, rfl⟩
        have := h2 _ hm
        rw [hj2]
        simp only [Bool.or_eq_true] at this ⊢
        refine .inr ?_
        rcases this with h | h
        · exact .inl (waits_any ops oj k h)
        · exact .inr (by rw [← apartT_eq]; exact h)
    · by_cases e : j = k
      · subst e
        simp [Array.getD, hs, hj]
      · have := hd j hj
        rw [getD_set_ne true (Ne.symm e), this]
        simp; omega
theorem lexB_tab {ops : Array Oper} (T : List LexRow) (hs : Region.noSelect ops = true) (hT : ops.toList.map (lexRow ops) = T) (h : lexTab 0 T = true) : Region.lexB .any ops = true := by
  unfold Region.lexB
  rw [hs, Bool.true_and]
  subst hT
  have := lexFrom_tab ops ops.toList 0 (Array.replicate ops.size false) (by simp) (fun j => by simp) (by simp) (fun j hj => by simp [Array.getD, hj]) h
  simpa using this
end Go.Proofs.Ytjifbcbbnjpcjaa
