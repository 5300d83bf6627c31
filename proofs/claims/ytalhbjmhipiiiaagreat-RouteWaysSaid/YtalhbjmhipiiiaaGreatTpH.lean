/- Maps: New. -/
import Derived.Test.YtalhbjmhipiiiaaGreatTpG
namespace Go.Proofs.YtalhbjmhipiiiaaGreat.Tp
set_option linter.unusedVariables false
open Go.RowKit Go.Maps

def faultF (k : Nat) : Nat := (#[40, 41, 42, 43] : Array Nat).getD k 0
theorem fault_enters (k : Nat) (hk : k < 4) : ∀ args w, (callFunc (faultF k) args).run Tryz.prog w = .ok (.enter (faultF k) args) w := by
  intro args w
  match k, hk with
  | 0, _ => simp [faultF, callFunc, Tryz.func40, Tryz.f40, mark]
  | 1, _ => simp [faultF, callFunc, Tryz.func41, Tryz.f41, mark]
  | 2, _ => simp [faultF, callFunc, Tryz.func42, Tryz.f42, mark]
  | 3, _ => simp [faultF, callFunc, Tryz.func43, Tryz.f43, mark]
theorem fault_any (k : Nat) (hk : k < 4) (n : Int) (A : Option Addr) (L : List Lk) (c : Nat) (hL : L.length ≤ 1000000) (hI : WideL L) (w : World) (hA : Lie linkV 8 w w.heap.size A L) :
    Calls Tryz.prog (faultF k) #[.int .i64 n, .slice A L.length c] w fun e w' => e = .returned (.int .i64 (faultE n L k)) ∧ Below w.heap.size w w' := by
  match k, hk with
  | 0, _ => exact wrongOne_any n A L c hL w hA
  | 1, _ => exact tooMany_any n A L c hL w
  | 2, _ => exact double_any n A L c hL hI w hA
  | 3, _ => exact oneWay_any n A L c hL hI w hA
def FaultsAt (w : World) (b : Nat) : Prop := ∀ k, k < 4 → w.cell? ⟨b, k, none⟩ = some (.func (Fn.func (faultF k)) #[] #[])
def FaultsEnd (w : World) (e : Ending) (w' : World) : Prop := ∃ b, e = .returned (.slice (some ⟨b, 0, none⟩) 4 4) ∧ w.heap.size ≤ b ∧ b < w'.heap.size ∧ FaultsAt w' b ∧ Below w.heap.size w w'
theorem faults_any (w : World) : Calls Tryz.prog 23 #[] w (FaultsEnd w) := by
  go_enter Tryz.func23, Tryz.ntmps23
  go_wp2_with fail
  go_ret
  refine ⟨_, rfl, Nat.le_refl _, by simp, ?_, by (repeat' (first | (with_reducible exact Below.refl _ _) | (with_reducible assumption) | (with_reducible apply Below.setCell) | (with_reducible apply Below.alloc) | (with_reducible apply Below.drew) | (with_reducible apply below_drewN) | (with_reducible refine Below.trans ?_ (Below.mono (by assumption) ?_)) | omega | (simp; done) | (simp; omega)))⟩
  intro k hk
  match k, hk with
  | 0, _ | 1, _ | 2, _ | 3, _ => simp [go_sem, faultF]
theorem errN_zero {n : Int} {L : List Lk} (h : ∀ j, j < 4 → faultE n L j = 0) : errN n L = 0 := by
  unfold errN
  simp [h 0 (by omega), h 1 (by omega), h 2 (by omega), h 3 (by omega)]
theorem errN_at {n : Int} {L : List Lk} (k : Nat) (hk : k < 4) (h : ∀ j, j < k → faultE n L j = 0) (h2 : faultE n L k ≠ 0) : errN n L = faultE n L k := by
  unfold errN
  match k, hk with
  | 0, _ => rw [if_pos h2]
  | 1, _ => simp [h 0 (by omega), h2]
  | 2, _ => simp [h 0 (by omega), h 1 (by omega), h2]
  | 3, _ => simp [h 0 (by omega), h 1 (by omega), h 2 (by omega)]
theorem linkInfo : (Tryz.prog.info? 51).map (fun i => (i.zero, i.size, i.bytes)) = some (some (.agg #[.int .i64 0, .int .i64 0, .int .i64 0, .int .i64 0, .int .i64 0, .int .i64 0, .int .i64 0, .int .i64 0]), 8, 64) := by kernel_rfl
set_option maxRecDepth 100000 in
set_option maxHeartbeats 2000000 in
theorem Clone_any (A : Option Addr) (L : List Lk) (c : Nat) (hL : L.length ≤ 1000000) (w : World) (hA : Lie linkV 8 w w.heap.size A L) :
    Calls Tryz.prog 44 #[.slice A L.length c] w fun e w' => ∃ A' c', e = .returned (.slice A' L.length c') ∧ Lie linkV 8 w' w'.heap.size A' L ∧ Below w.heap.size w w' := by
  obtain ⟨i0, hi, hz0, hz1, hz2⟩ := info_parts linkInfo
  have q28 := hidd (fun (W : World) (a : Option Addr) (n c n' c' : Nat) => Lib.run_eql_slice_nil (P := Tryz.prog) W _ _ a n c n' c' Tryz.underlying22)
  cases A with
  | none =>
    have h0 : L.length = 0 := by
      rcases Nat.eq_zero_or_pos L.length with h | h
      · exact h
      · obtain ⟨ad, e, _⟩ := hA h; cases e
    have : L = [] := List.eq_nil_of_length_eq_zero h0
    subst this
    have q := fun W => q28.out W none 0 c 0 0
    clear hA h0
    simp only [List.length_nil]
    go_enter Tryz.func44, Tryz.ntmps44
    go_wp2_with fail
    go_ret
    exact ⟨none, 0, rfl, Lie.nil, by (repeat' (first | (with_reducible exact Below.refl _ _) | (with_reducible assumption) | (with_reducible apply Below.setCell) | (with_reducible apply Below.alloc) | (with_reducible apply Below.drew) | (with_reducible apply below_drewN) | (with_reducible refine Below.trans ?_ (Below.mono (by assumption) ?_)) | omega | (simp; done) | (simp; omega)))⟩
  | some ad =>
    have q := fun W => q28.out W (some ad) L.length c 0 0
    have hO : Hid ((w.alloc (.cells #[] 51)).ownsRow w.heap.size 51 8 (.slice (some ⟨w.heap.size, 0, none⟩) 0 0) 0 []) := hidd ⟨rfl, .inr ⟨w.heap.size, 0, #[], rfl, Nat.le_refl _, (MapKept.heap_alloc w _).1, Nat.le_refl _, Nat.zero_le _, rfl, rfl⟩⟩
    have hb1 : Below w.heap.size w (w.alloc (.cells #[] 51)) := by (repeat' (first | (with_reducible exact Below.refl _ _) | (with_reducible assumption) | (with_reducible apply Below.setCell) | (with_reducible apply Below.alloc) | (with_reducible apply Below.drew) | (with_reducible apply below_drewN) | (with_reducible refine Below.trans ?_ (Below.mono (by assumption) ?_)) | omega | (simp; done) | (simp; omega)))
    have hs1 := hA.below hb1
    have hsrc : Hid (0 < L.length → ∃ ad', some ad = some ad' ∧ ∀ j u, (rowOf linkV L)[j]? = some u → (w.alloc (.cells #[] 51)).cell? (ad'.add j) = some u) := hidd (fun hl => by
      obtain ⟨a2, e2, _, hc⟩ := hs1 hl
      refine ⟨a2, e2, fun j u hj => ?_⟩
      have hjl : j < (rowOf linkV L).length := (List.getElem?_eq_some_iff.1 hj).1
      rw [row_len linkV_len] at hjl
      have h1 : j / 8 < L.length := by omega
      have h2 : (linkV L[j / 8])[j % 8]? = some ((linkV L[j / 8])[j % 8]'(by rw [linkV_len]; omega)) := List.getElem?_eq_getElem _
      have h3 := row_at linkV_len L (j / 8) L[j / 8] (List.getElem?_eq_getElem h1) (j % 8) _ h2
      have e4 : j / 8 * 8 + j % 8 = j := by omega
      rw [e4, hj] at h3
      have h5 := hc (j / 8) L[j / 8] (List.getElem?_eq_getElem h1) (j % 8) _ h2
      rw [e4] at h5
      rw [h5]
      exact h3.symm)
    have HL := hidd hL
    have hmax : Hid (0 + L.length ≤ maxLen) := hidd (by unfold maxLen; omega)
    have hby : Hid ((0 + L.length) * 64 ≤ 140737488355328) := hidd (by omega)
    have HB1 := hidd hb1
    have HR := hidd (row_len linkV_len L)
    have HONE := hidd (rowOf_one linkV_one L)
    clear hA hs1 hb1 hL
    go_enter Tryz.func44, Tryz.ntmps44
    go_wp2_with (first | (at_builtin; refine wpList_append_some rfl _ _ 22 rfl w.heap.size 51 i0 (.agg #[.int .i64 0, .int .i64 0, .int .i64 0, .int .i64 0, .int .i64 0, .int .i64 0, .int .i64 0, .int .i64 0]) 8 64 Tryz.underlying22 hi hz0 hz1 hz2 rfl (by decide) (.slice (some ⟨w.heap.size, 0, none⟩) 0 0) 0 [] rfl hO.out (some ad) L.length c (rowOf linkV L) rfl HR.out hsrc.out HONE.out hmax.out hby.out (by simp) ?_; intro v' w1 hown' hgrow hor; have HO2 := hidd hown'; have HG := hidd hgrow; clear hown' hgrow hor) | fail)
    go_ret
    have h2 := HO2.out
    rw [Nat.zero_add, List.nil_append] at h2
    have h3 : OwnL linkV 8 w1 w.heap.size 51 v' L := h2
    obtain ⟨A', c', e, _, _, hl⟩ := h3.lie linkV_len
    subst e
    exact ⟨A', c', rfl, hl, HB1.out.grown HG.out (by simp) (fun k hk => by simp [Value.ownBlock] at hk; omega)⟩
/-- a map lies in block m. -/
def MapAt (w : World) (m : Nat) (n : Int) (L : List Lk) : Prop := ∃ A c b, m < w.heap.size ∧ w.cell? ⟨m, 0, none⟩ = some (.int .i64 n) ∧ w.cell? ⟨m, 1, none⟩ = some (.slice A L.length c) ∧ w.cell? ⟨m, 2, none⟩ = some (.map (some b)) ∧ Lie linkV 8 w w.heap.size A L ∧ NumsAt w b (endsL L)
theorem MapAt.below {w w' : World} {m : Nat} {n : Int} {L : List Lk} (h : MapAt w m n L) (hb : Below w.heap.size w w') : MapAt w' m n L := by
  obtain ⟨A, c, b, h1, h2, h3, h4, h5, h6⟩ := h
  exact ⟨A, c, b, Nat.lt_of_lt_of_le h1 hb.size, (hb.cell (p := ⟨m, 0, none⟩) h1).trans h2, (hb.cell (p := ⟨m, 1, none⟩) h1).trans h3, (hb.cell (p := ⟨m, 2, none⟩) h1).trans h4, h5.below hb, h6.below hb⟩
set_option maxRecDepth 100000 in
set_option maxHeartbeats 2000000 in
theorem made_any (n : Int) (A : Option Addr) (L : List Lk) (c : Nat) (hL : L.length ≤ 1000000) (hI : WideL L) (w : World) (hA : Lie linkV 8 w w.heap.size A L) :
    Calls Tryz.prog 24 #[.int .i64 n, .slice A L.length c] w fun e w' => ∃ m, e = .returned (.pointer (some ⟨m, 0, none⟩)) ∧ MapAt w' m n L ∧ w.heap.size ≤ m ∧ Below w.heap.size w w' := by
  have cc := hidd (Clone_any A L c hL w hA)
  have HA := hidd hA
  have CN := hidd (fun (W : World) (hW : Below w.heap.size w W) => numbersOf_any A L c hL hI W (HA.out.below hW))
  clear hA
  go_enter Tryz.func24, Tryz.ntmps24
  go_wp2_with fail
  refine cc.out.mono ?_
  rintro e w1 ⟨A', c', rfl, hl, hb1⟩
  have HL1 := hidd hl
  have HB1 := hidd hb1
  clear hl hb1
  go_wp2_with fail
  refine (CN.out _ HB1.out).mono ?_
  rintro e w2 ⟨b, rfl, hn, hb0, hb2⟩
  have HN2 := hidd hn
  have HB2 := hidd hb2
  clear hn hb0 hb2
  go_wp2_with fail
  go_ret
  have hB : Below w.heap.size w w2 := below_step HB1.out HB2.out
  have hn2 : Below w2.heap.size w2 (w2.alloc (.cells #[.int .i64 n, .slice A' L.length c', .map (some b)] 102)) := below_new (Below.refl _ _) _
  exact ⟨w2.heap.size, rfl, ⟨A', c', b, by simp, by simp [go_sem], by simp [go_sem], by simp [go_sem], (HL1.out.below HB2.out).below hn2, HN2.out.below hn2⟩, hB.size, below_new hB _⟩

def NewEnd (n : Int) (L : List Lk) (w : World) (e : Ending) (w' : World) : Prop :=
  (errN n L ≠ 0 ∧ e = .returned (.tuple #[.pointer none, .int .i64 (errN n L)]) ∧ Below w.heap.size w w') ∨
  (errN n L = 0 ∧ ∃ m, e = .returned (.tuple #[.pointer (some ⟨m, 0, none⟩), .int .i64 0]) ∧ MapAt w' m n L ∧ w.heap.size ≤ m ∧ Below w.heap.size w w')
set_option maxRecDepth 100000 in
set_option maxHeartbeats 4000000 in
theorem New_any (n : Int) (A : Option Addr) (L : List Lk) (c : Nat) (hL : L.length ≤ 1000000) (hI : WideL L) (w : World) (hA : Lie linkV 8 w w.heap.size A L) :
    Calls Tryz.prog 8 #[.int .i64 n, .slice A L.length c] w (NewEnd n L w) := by
  have HA := hidd hA
  have CF := hidd (fun k hk (W : World) (hW : Below w.heap.size w W) => fault_any k hk n A L c hL hI W (HA.out.below hW))
  have CM := hidd (fun (W : World) (hW : Below w.heap.size w W) => made_any n A L c hL hI W (HA.out.below hW))
  have cl := hidd (fun W => faults_any W)
  have HZ := hidd (fun h => errN_zero (n := n) (L := L) h)
  have HX := hidd (fun k hk h h2 => errN_at (n := n) (L := L) k hk h h2)
  have HEND : Hid (∀ e w', NewEnd n L w e w' = NewEnd n L w e w') := hidd (fun _ _ => rfl)
  obtain ⟨PO, hPO⟩ : ∃ PO, NewEnd n L w = PO := ⟨_, rfl⟩
  have HPO := hidd hPO
  have HNO : Hid (∀ w', errN n L ≠ 0 → Below w.heap.size w w' → PO (.returned (.tuple #[.pointer none, .int .i64 (errN n L)])) w') := hidd (fun w' h1 h2 => by rw [← hPO]; exact .inl ⟨h1, rfl, h2⟩)
  have HYES : Hid (∀ w' m, errN n L = 0 → MapAt w' m n L → w.heap.size ≤ m → Below w.heap.size w w' → PO (.returned (.tuple #[.pointer (some ⟨m, 0, none⟩), .int .i64 0])) w') := hidd (fun w' m h1 h2 h3 h4 => by rw [← hPO]; exact .inr ⟨h1, m, rfl, h2, h3, h4⟩)
  rw [hPO]
  clear hPO hA HEND HPO
  generalize errN n L = R at *
  generalize faultE n L = M at *
  go_enter Tryz.func8, Tryz.ntmps8
  go_wp2_with fail
  refine wp_scope_fwd 0 (fun a' w' => R ≠ 0 ∧ Below w.heap.size w w' ∧ ∃ v0 v1 v2 v3 v4 v5 v7 v8 v9 v10 v11 v12 v13 v14 v15 v16 v17 v18 v19 v20 v21 v22 v23 v24 v25 : Value, a' = { tmps := #[v0, v1, v2, v3, v4, v5, .int .i64 R, v7, v8, v9, v10, v11, v12, v13, v14, v15, v16, v17, v18, v19, v20, v21, v22, v23, v24, v25], defers := [] }) rfl ?_ ?_
  case refine_2 =>
    rintro a' w' ⟨hR, hb, v0, v1, v2, v3, v4, v5, v7, v8, v9, v10, v11, v12, v13, v14, v15, v16, v17, v18, v19, v20, v21, v22, v23, v24, v25, rfl⟩
    go_wp2_with fail
    (try rw [Exit.noGoto_ret])
    first | exact HNO.out _ hR hb | (go_ret2; exact HNO.out _ hR hb)
  go_wp2_with fail
  refine (cl.out _).mono ?_
  rintro e w1 ⟨b, rfl, hb0, hb1, hM, hbl⟩
  have HM := hidd hM
  have HB0 := hidd hb0
  have HB := hidd hbl
  clear hM hb0 hbl
  go_wp2_with fail
  go_loopg [6, 11] 5 (fun k s6 s wr => s6 = .int .i64 0 ∧ ∃ i : Nat, i ≤ 4 ∧ i + k = 5 ∧ (∀ j, j < i → M j = 0) ∧ s = .int .i64 (i : Int) ∧ Below w1.heap.size w1 wr)
  case atStart => exact ⟨rfl, 0, by omega, by omega, fun j hj => absurd hj (by omega), rfl, Below.refl _ _⟩
  case round =>
    obtain ⟨rfl, i, hi, hk, ha, rfl, hbl⟩ := hrel
    have HK := hidd hk
    have HAL := hidd ha
    have HBW := hidd (HB.out.trans (hbl.mono HB.out.size))
    clear hk ha
    by_cases hlt : i < 4
    · have cf := (hbl.cell (p := ⟨b, i, none⟩) hb1).trans (HM.out i hlt)
      have he := fault_enters i hlt
      have ci := hidd (CF.out i hlt wr HBW.out)
      have HXI := hidd (HX.out i hlt HAL.out)
      have HST : Hid (M i = 0 → ∀ j, j < i + 1 → M j = 0) := hidd (fun h j hj => by
        by_cases hji : j = i
        · rw [hji]; exact h
        · exact HAL.out j (by omega))
      generalize faultF i = F at *
      generalize M i = V at *
      by_cases hv : V = 0
      · subst hv
        go_wp2_with fail
        refine ci.out.mono ?_
        rintro e w2 ⟨rfl, hb2⟩
        go_wp2_with fail
        have hk := HK.out
        go_roundg (gk - 1)
        case measure => omega
        case rel => exact ⟨by first | rfl | simp, i + 1, by omega, by omega, HST.out (by simp), by go_num, hbl.trans (hb2.mono hbl.size)⟩
      · go_wp2_with fail
        refine ci.out.mono ?_
        rintro e w2 ⟨rfl, hb2⟩
        go_wp2_with fail
        go_step3
        have e1 := HXI.out hv
        exact ⟨rfl, by rw [e1]; exact hv, below_step HBW.out hb2, _, _, _, _, _, _, _, _, _, _, _, _, _, _, _, _, _, _, _, _, _, _, _, _, _, by rw [e1]⟩
    · have h0 := HZ.out (fun j hj => HAL.out j (by omega))
      have HR0 := hidd h0
      clear h0
      go_wp2_with fail
      refine (CM.out _ HBW.out).mono ?_
      rintro e w2 ⟨m, rfl, hm, hm0, hb2⟩
      have HMM := hidd hm
      clear hm
      go_wp2_with fail
      (try simp only [Exit.jump])
      have hfin := HYES.out _ _ HR0.out HMM.out (by have := HBW.out.size; omega) (below_step HBW.out hb2)
      first | exact hfin | (go_ret2; exact hfin)
end Go.Proofs.YtalhbjmhipiiiaaGreat.Tp
