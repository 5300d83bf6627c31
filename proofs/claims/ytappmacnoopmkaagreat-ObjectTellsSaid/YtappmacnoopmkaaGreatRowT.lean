/- The row's frame: structs of numbers, however nested; an object. -/
import Derived.Test.YtappmacnoopmkaaGreatRowD
namespace Go.Proofs.YtappmacnoopmkaaGreat
set_option linter.unusedVariables false
namespace RowK
open Go.ChangeShapes Go.WideShapes Go.ChangeAt Go.RowKit Go.Joins Go.Deep

def Num64 (v : Value) : Prop := ∃ z : Int, v = .int .i64 z ∧ -9223372036854775808 ≤ z ∧ z ≤ 9223372036854775807
/-- all cells of a type are numbers of 64 bits. -/
def AllI (P : Program) (t : TypeId) : Prop := ∀ (H : Type) (enc : TypeId × Value → H) (w : World) (base : Nat) (spare : Nat → Bool) (held : Bool) (fuel : Nat) (cs : List Value) (x : DataW H × List MemPlace), DataW.trod enc P w base spare held fuel t cs = some x → ∀ v ∈ cs, Num64 v
theorem AllI.int {P : Program} {t : TypeId} (h : P.underlying t = some (.int .i64)) : AllI P t := fun H enc w base spare held fuel cs x hx v hv => by
  obtain ⟨z, rfl, -, hw⟩ := DataW.trod_int h hx
  simp only [List.mem_singleton] at hv
  exact ⟨z, hv, i64_bounds hw⟩
theorem AllI.struct {P : Program} {t : TypeId} {fs : Array Field} (h : P.underlying t = some (.struct fs)) (k : Nat) (hk : P.cellsOf t = k) (hall : ∀ f ∈ fs.toList, AllI P f.type) (hcov : ∀ i, i < k → ∃ f ∈ fs.toList, f.offset ≤ i ∧ i < f.offset + P.cellsOf f.type) : AllI P t := fun H enc w base spare held fuel cs x hx v hv => by
  obtain ⟨xs, m, _, _, hlen, hxl, hf⟩ := DataW.trod_struct h hx
  obtain ⟨i, hi, rfl⟩ := List.mem_iff_getElem.1 hv
  obtain ⟨f, hm, h1, h2⟩ := hcov i (by rw [← hk, ← hlen]; exact hi)
  obtain ⟨j, hj, rfl⟩ := List.mem_iff_getElem.1 hm
  have hj' : j < fs.size := by simpa using hj
  have e := hf j fs.toList[j] (by simp)
  rw [List.getElem?_eq_getElem (by omega)] at e
  refine hall _ hm H enc w base spare held m _ _ e _ ?_
  refine List.mem_iff_getElem.2 ⟨i - fs.toList[j].offset, by rw [List.length_take, List.length_drop]; omega, ?_⟩
  rw [List.getElem_take, List.getElem_drop]
  congr 1
  omega
theorem cov_of {fs : List Field} {P : Program} {k : Nat} (h : (List.range k).all (fun i => fs.any (fun f => decide (f.offset ≤ i) && decide (i < f.offset + P.cellsOf f.type))) = true) : ∀ i, i < k → ∃ f ∈ fs, f.offset ≤ i ∧ i < f.offset + P.cellsOf f.type := fun i hi => by
  have := List.all_eq_true.1 h i (List.mem_range.2 hi)
  obtain ⟨f, hf, hd⟩ := List.any_eq_true.1 this
  simp only [Bool.and_eq_true, decide_eq_true_eq] at hd
  exact ⟨f, hf, hd⟩
theorem aI : AllI Tryz.prog 2 := AllI.int Tryz.underlying2
theorem aY : AllI Tryz.prog 28 := AllI.int Tryz.underlying28
theorem aS : AllI Tryz.prog 23 := AllI.struct Tryz.underlying23 2 (by kernel_rfl) (fun f hf => by
  simp only [List.mem_cons, List.not_mem_nil, or_false] at hf
  rcases hf with rfl | rfl
  · exact aI
  · exact aI) (cov_of (by kernel_rfl))
theorem aH : AllI Tryz.prog 25 := AllI.struct Tryz.underlying25 2 (by kernel_rfl) (fun f hf => by
  simp only [List.mem_cons, List.not_mem_nil, or_false] at hf
  rcases hf with rfl | rfl
  · exact aI
  · exact aI) (cov_of (by kernel_rfl))
theorem aF : AllI Tryz.prog 27 := AllI.struct Tryz.underlying27 3 (by kernel_rfl) (fun f hf => by
  simp only [List.mem_cons, List.not_mem_nil, or_false] at hf
  rcases hf with rfl | rfl | rfl
  · exact aI
  · exact aI
  · exact aI) (cov_of (by kernel_rfl))
theorem aP : AllI Tryz.prog 30 := AllI.struct Tryz.underlying30 5 (by kernel_rfl) (fun f hf => by
  simp only [List.mem_cons, List.not_mem_nil, or_false] at hf
  rcases hf with rfl | rfl | rfl | rfl | rfl
  · exact aI
  · exact aI
  · exact aI
  · exact aI
  · exact aI) (cov_of (by kernel_rfl))
theorem aN : AllI Tryz.prog 33 := AllI.struct Tryz.underlying33 2 (by kernel_rfl) (fun f hf => by
  simp only [List.mem_cons, List.not_mem_nil, or_false] at hf
  rcases hf with rfl | rfl
  · exact aI
  · exact aI) (cov_of (by kernel_rfl))
theorem aM : AllI Tryz.prog 35 := AllI.struct Tryz.underlying35 2 (by kernel_rfl) (fun f hf => by
  simp only [List.mem_cons, List.not_mem_nil, or_false] at hf
  rcases hf with rfl | rfl
  · exact aI
  · exact aI) (cov_of (by kernel_rfl))
theorem aW : AllI Tryz.prog 32 := AllI.struct Tryz.underlying32 7 (by kernel_rfl) (fun f hf => by
  simp only [List.mem_cons, List.not_mem_nil, or_false] at hf
  rcases hf with rfl | rfl | rfl
  · exact aP
  · exact aI
  · exact aI) (cov_of (by kernel_rfl))
theorem aThings : AllI Tryz.prog 37 := AllI.struct Tryz.underlying37 28 (by kernel_rfl) (fun f hf => by
  simp only [List.mem_cons, List.not_mem_nil, or_false] at hf
  rcases hf with rfl | rfl | rfl | rfl | rfl | rfl | rfl | rfl | rfl | rfl | rfl
  · exact aS
  · exact aH
  · exact aI
  · exact aF
  · exact aY
  · exact aW
  · exact aN
  · exact aN
  · exact aP
  · exact aM
  · exact aI) (cov_of (by kernel_rfl))
section
variable {H : Type} {enc : TypeId × Value → H} {w : World} {base : Nat} {spare : Nat → Bool} {held : Bool}
set_option maxRecDepth 100000 in
theorem open_things {r : Reach} {b0 : Nat} {v : Value} {d : DataW H} {p : List MemPlace} (hv : Value.okWide Tryz.prog w r b0 37 v) (h : DataW.Trod enc Tryz.prog w base spare held 37 v d p) :
    ∃ s0 s1 s2 s3 s4 s5 s6 s7 s8 s9 s10 s11 s12 s13 s14 s15 s16 s17 s18 s19 s20 s21 s22 s23 s24 s25 s26 s27 : Int, v = .agg #[.int .i64 s0, .int .i64 s1, .int .i64 s2, .int .i64 s3, .int .i64 s4, .int .i64 s5, .int .i64 s6, .int .i64 s7, .int .i64 s8, .int .i64 s9, .int .i64 s10, .int .i64 s11, .int .i64 s12, .int .i64 s13, .int .i64 s14, .int .i64 s15, .int .i64 s16, .int .i64 s17, .int .i64 s18, .int .i64 s19, .int .i64 s20, .int .i64 s21, .int .i64 s22, .int .i64 s23, .int .i64 s24, .int .i64 s25, .int .i64 s26, .int .i64 s27] ∧ -9223372036854775808 ≤ s8 ∧ s8 ≤ 9223372036854775807 := by
  obtain ⟨cs, rfl, hsz⟩ := okWide_struct Tryz.underlying37 hv
  have hC : Tryz.prog.cellsOf 37 = 28 := by kernel_rfl
  obtain ⟨fuel, hf⟩ := h
  have hall := aThings H enc w base spare held fuel _ _ hf
  obtain ⟨l⟩ := cs
  have hl : l.length = 28 := hsz.trans hC
  match l, hl with
  | [c0, c1, c2, c3, c4, c5, c6, c7, c8, c9, c10, c11, c12, c13, c14, c15, c16, c17, c18, c19, c20, c21, c22, c23, c24, c25, c26, c27], _ =>
    obtain ⟨s0, rfl, b0⟩ := hall c0 (by simp [Value.cells])
    obtain ⟨s1, rfl, b1⟩ := hall c1 (by simp [Value.cells])
    obtain ⟨s2, rfl, b2⟩ := hall c2 (by simp [Value.cells])
    obtain ⟨s3, rfl, b3⟩ := hall c3 (by simp [Value.cells])
    obtain ⟨s4, rfl, b4⟩ := hall c4 (by simp [Value.cells])
    obtain ⟨s5, rfl, b5⟩ := hall c5 (by simp [Value.cells])
    obtain ⟨s6, rfl, b6⟩ := hall c6 (by simp [Value.cells])
    obtain ⟨s7, rfl, b7⟩ := hall c7 (by simp [Value.cells])
    obtain ⟨s8, rfl, b8⟩ := hall c8 (by simp [Value.cells])
    obtain ⟨s9, rfl, b9⟩ := hall c9 (by simp [Value.cells])
    obtain ⟨s10, rfl, b10⟩ := hall c10 (by simp [Value.cells])
    obtain ⟨s11, rfl, b11⟩ := hall c11 (by simp [Value.cells])
    obtain ⟨s12, rfl, b12⟩ := hall c12 (by simp [Value.cells])
    obtain ⟨s13, rfl, b13⟩ := hall c13 (by simp [Value.cells])
    obtain ⟨s14, rfl, b14⟩ := hall c14 (by simp [Value.cells])
    obtain ⟨s15, rfl, b15⟩ := hall c15 (by simp [Value.cells])
    obtain ⟨s16, rfl, b16⟩ := hall c16 (by simp [Value.cells])
    obtain ⟨s17, rfl, b17⟩ := hall c17 (by simp [Value.cells])
    obtain ⟨s18, rfl, b18⟩ := hall c18 (by simp [Value.cells])
    obtain ⟨s19, rfl, b19⟩ := hall c19 (by simp [Value.cells])
    obtain ⟨s20, rfl, b20⟩ := hall c20 (by simp [Value.cells])
    obtain ⟨s21, rfl, b21⟩ := hall c21 (by simp [Value.cells])
    obtain ⟨s22, rfl, b22⟩ := hall c22 (by simp [Value.cells])
    obtain ⟨s23, rfl, b23⟩ := hall c23 (by simp [Value.cells])
    obtain ⟨s24, rfl, b24⟩ := hall c24 (by simp [Value.cells])
    obtain ⟨s25, rfl, b25⟩ := hall c25 (by simp [Value.cells])
    obtain ⟨s26, rfl, b26⟩ := hall c26 (by simp [Value.cells])
    obtain ⟨s27, rfl, b27⟩ := hall c27 (by simp [Value.cells])
    exact ⟨s0, s1, s2, s3, s4, s5, s6, s7, s8, s9, s10, s11, s12, s13, s14, s15, s16, s17, s18, s19, s20, s21, s22, s23, s24, s25, s26, s27, rfl, b8⟩
set_option maxRecDepth 100000 in
theorem open_obj {r : Reach} {b0 : Nat} {v : Value} {d : DataW H} {p : List MemPlace} (hv : Value.okWide Tryz.prog w r b0 42 v) (h : DataW.Trod enc Tryz.prog w base spare held 42 v d p) :
    ∃ (c t : Int) (A : Option Addr) (L : List Int) (m : Nat), v = .agg #[.int .i64 c, .int .i64 t, .slice A L.length m] ∧ L.length ≤ m ∧ m ≤ maxLen ∧ W64 L ∧ Lie wdV 1 w w.heap.size A L := by
  obtain ⟨cs, rfl, hsz⟩ := okWide_struct Tryz.underlying42 hv
  have hC : Tryz.prog.cellsOf 42 = 3 := by kernel_rfl
  obtain ⟨fuel, hf⟩ := h
  obtain ⟨l⟩ := cs
  have hl : l.length = 3 := hsz.trans hC
  match l, hl with
  | [c0, c1, c2], _ =>
    obtain ⟨xs, k, _, _, _, hlen, hg⟩ := DataW.trod_struct Tryz.underlying42 hf
    match xs, hlen with
    | [y0, y1, y2], _ =>
      have g0 := hg 0 _ rfl
      have g1 := hg 1 _ rfl
      have g2 := hg 2 _ rfl
      have k0 : Tryz.prog.cellsOf 3 = 1 := by kernel_rfl
      have k1 : Tryz.prog.cellsOf 40 = 1 := by kernel_rfl
      simp [Value.cells, k0, k1] at g0 g1 g2
      obtain ⟨z0, e0, -, -⟩ := DataW.trod_int Tryz.underlying3 g0
      obtain ⟨z1, e1, -, -⟩ := DataW.trod_int Tryz.underlying3 g1
      obtain ⟨A, L, m, e2, hh⟩ := open_words g2
      simp at e0 e1 e2
      subst e0 e1 e2
      exact ⟨z0, z1, A, L, m, rfl, hh⟩
end
end RowK
end Go.Proofs.YtappmacnoopmkaaGreat
