/- Maps: TopoCopies, where there is a map. -/
import Derived.Test.YtjnceoklnmmhjaaTpZ
import Derived.Test.YtjnceoklnmmhjaaTpT
import Derived.Test.YtjnceoklnmmhjaaTpX
namespace Go.Proofs.Ytjnceoklnmmhjaa.Tp
set_option linter.unusedVariables false
open Go.RowKit Go.Maps Go.Shelf
attribute [local go_sem] Oper.semAt_some

theorem lie_src {w : World} {B : Nat} {A : Option Addr} {L : List Lk} (h : Lie linkV 8 w B A L) : 0 < L.length → ∃ ad, A = some ad ∧ ∀ j u, (rowOf linkV L)[j]? = some u → w.cell? (ad.add j) = some u := fun hl => by
  obtain ⟨a2, e2, _, hc⟩ := h hl
  refine ⟨a2, e2, fun j u hj => ?_⟩
  have hjl : j < (rowOf linkV L).length := (List.getElem?_eq_some_iff.1 hj).1
  rw [row_len linkV_len] at hjl
  have h1 : j / 8 < L.length := by omega
  have h2 : (linkV L[j / 8])[j % 8]? = some ((linkV L[j / 8])[j % 8]'(by rw [linkV_len]; omega)) := List.getElem?_eq_getElem _
  have h3 := row_at linkV_len L (j / 8) L[j / 8] (List.getElem?_eq_getElem h1) (j % 8) _ h2
  have e4 : j / 8 * 8 + j % 8 = j := by omega
  rw [e4, hj] at h3
  have h5 := hc (j / 8) L[j / 8] (List.getElem?_eq_getElem h1) (j % 8) _ h2
  rw [e4] at h5
  rw [h5]
  exact h3.symm
theorem newTurn_any (n : Int) (A : Option Addr) (L : List Lk) (c : Nat) (hL : L.length ≤ 1000000) (hI : WideL L) (w : World) (hA : Lie linkV 8 w w.heap.size A (L.map turnF)) :
    Calls Try.prog 10 #[.int .i64 n, .slice A L.length c] w (NewEnd n (L.map turnF) w) := by
  have := New_any n A (L.map turnF) c (by rw [List.length_map]; exact hL) hI.turn w hA
  rw [List.length_map] at this
  exact this
def CpI (W8 : World) (bi : Nat) (OU : List Int) (many : Int) (pre : List Int) (W : World) : Prop := Below W8.heap.size W8 W ∧ (W.cell? ⟨bi, 0, none⟩ = some (.int .i64 (pre.length : Int)) ∧ W.frozen? ⟨bi, 0, none⟩ = false) ∧ pre <+: OU ∧ (pre.length : Int) < many
def CpX (W8 : World) (bi : Nat) (OU : List Int) (many : Int) (id : Nat) (c : Code) (pre : List Int) (W : World) : Prop := (c = .exit id ∧ Below W8.heap.size W8 W ∧ (W.cell? ⟨bi, 0, none⟩ = some (.int .i64 (pre.length : Int)) ∧ W.frozen? ⟨bi, 0, none⟩ = false) ∧ pre <+: OU ∧ (pre.length : Int) = many) ∨ (c = .ret ∧ ¬ pre <+: OU)
theorem CpI.own {W8 : World} {bi : Nat} {OU : List Int} {many : Int} {B : Nat} (hB : W8.heap.size ≤ B) : OwnFrom B (CpI W8 bi OU many) := fun s X Y row hs hg hr =>
  ⟨hs.1.grown hg hs.1.size (fun k e => Nat.le_trans hB (hr k e).1), ⟨cell_kept hs.2.1.1 hg (fun r e => (hr r e).2), (frozen_kept hs.2.1.1 hg (fun r e => (hr r e).2)).trans hs.2.1.2⟩, hs.2.2⟩
theorem CpX.own {W8 : World} {bi : Nat} {OU : List Int} {many : Int} {id : Nat} {B : Nat} (hB : W8.heap.size ≤ B) (c : Code) : OwnFrom B (CpX W8 bi OU many id c) := fun s X Y row hs hg hr => by
  rcases hs with ⟨h0, hs⟩ | h
  · exact .inl ⟨h0, hs.1.grown hg hs.1.size (fun k e => Nat.le_trans hB (hr k e).1), ⟨cell_kept hs.2.1.1 hg (fun r e => (hr r e).2), (frozen_kept hs.2.1.1 hg (fun r e => (hr r e).2)).trans hs.2.1.2⟩, hs.2.2⟩
  · exact .inr h
theorem pre_step {OU pre : List Int} (h : pre <+: OU) (hl : pre.length < OU.length) (x : Int) : pre ++ [x] <+: OU ↔ x = av OU pre.length := by
  obtain ⟨t, rfl⟩ := h
  cases t with
  | nil => simp at hl
  | cons y t =>
    have e : av (pre ++ y :: t) pre.length = y := by simp [av]
    rw [e]
    constructor
    · rintro ⟨t', h'⟩
      rw [List.append_assoc] at h'
      have := List.append_cancel_left h'
      simp at this
      exact this.1
    · rintro rfl
      exact ⟨t, by simp⟩
set_option maxRecDepth 100000 in
set_option maxHeartbeats 16000000 in
theorem copies_yes (n : Int) (A : Option Addr) (L : List Lk) (c : Nat) (many : Int) (hlen : ¬ 60 < L.length) (hm : ¬ many < 1) (hm2 : ¬ 20 < many) (hI : WideL L) (hE : errN n L = 0) (w : World) (hA : Lie linkV 8 w w.heap.size A L) :
    Calls Try.prog 4 #[.int .i64 n, .slice A L.length c, .int .i64 many] w fun e w' => e = .returned (.bool true) ∧ Below w.heap.size w w' := by
  obtain ⟨i0, hi, hz0, hz1, hz2⟩ := info_parts linkInfo
  have hq := fun f fs cs w => eq_nilFunc f fs cs w
  have hmf : ∀ (fn : Fn) (first cap : Array Value) (w : World), (Instr.makeFunc fn first cap).run Try.prog w = .ok (.func fn first cap) w := fun _ _ _ _ => rfl
  have hl2 : ¬ (60 : Int) < (L.length : Int) := by omega
  have hl60 : L.length ≤ 60 := by omega
  have hd1 : decide ((60 : Int) < (L.length : Int)) = false := decide_eq_false hl2
  have hd2 : decide (many < 1) = false := decide_eq_false hm
  obtain ⟨W0, hW0⟩ : ∃ W0, (w.alloc (.cells #[.int .i64 many] 3)).alloc (.cells #[.bool false] 4) = W0 := ⟨_, rfl⟩
  have hz : W0.heap.size = w.heap.size + 2 := by rw [← hW0]; simp
  have hb0 : Below w.heap.size w W0 := by rw [← hW0]; (repeat' (first | (with_reducible exact Below.refl _ _) | (with_reducible assumption) | (with_reducible apply Below.setCell) | (with_reducible apply Below.alloc) | (with_reducible apply Below.drew) | (with_reducible apply below_drewN) | (with_reducible refine Below.trans ?_ (Below.mono (by assumption) ?_)) | omega | (simp; done) | (simp; omega)))
  have q0 : W0.cell? ⟨w.heap.size, 0, none⟩ = some (.int .i64 many) := by rw [← hW0]; simp [go_sem]
  have r0 : W0.cell? ⟨w.heap.size + 1, 0, none⟩ = some (.bool false) := by rw [← hW0]; simp [go_sem]
  have r1 : W0.frozen? ⟨w.heap.size + 1, 0, none⟩ = false := by rw [← hW0]; simp [go_sem]
  have RC := hidd (fun W (h : Below W0.heap.size W0 W) => show W.cell? ⟨w.heap.size, 0, none⟩ = some (.int .i64 many) ∧ W.cell? ⟨w.heap.size + 1, 0, none⟩ = some (.bool false) ∧ W.frozen? ⟨w.heap.size + 1, 0, none⟩ = false from ⟨(h.cell (p := ⟨w.heap.size, 0, none⟩) (show w.heap.size < W0.heap.size by omega)).trans q0, (h.cell (p := ⟨w.heap.size + 1, 0, none⟩) (show w.heap.size + 1 < W0.heap.size by omega)).trans r0, (h.frozen (p := ⟨w.heap.size + 1, 0, none⟩) (show w.heap.size + 1 < W0.heap.size by omega)).trans r1⟩)
  have cK := hidd (fun W => known_any W)
  have HW := hidd hW0
  have HB0 := hidd hb0
  have HZ := hidd hz
  clear hW0
  have hv := valid_of hE
  have HV := hidd hv
  have hn1 : 1 ≤ n := hv.lo
  have hn2 : n ≤ 16 := hv.hi
  have CN := hidd (New_any n A L c (by omega) hI W0 (hA.below hb0))
  have HA := hidd (hA.below hb0)
  have CT := hidd (fun A' c' (W : World) (h : Lie linkV 8 W W.heap.size A' (L.map turnF)) => newTurn_any n A' L c' (by omega) hI W h)
  have CC := hidd (fun m W (h : MapAt W m n L) => Copy_yes m n hn1 L (by omega) hI W h)
  have CS := hidd (fun m m' W (h : MapAt W m n L) (h' : MapAt W m' n L) => Same_mm m n hn1 L (by omega) m' n hn1 L (by omega) W h h')
  have e1 : sameM n L n L = true := sameM_iff.2 ⟨rfl, rfl⟩
  rw [e1] at CS
  have CSO := hidd (fun m m' W (h : MapAt W m n (L.map turnF)) (h' : MapAt W m' n L) => Same_mm m n hn1 (L.map turnF) (by rw [List.length_map]; omega) m' n hn1 L (by omega) W h h')
  have CSN := hidd (fun m W (h : MapAt W m n L) => Same_mn m n hn1 (.pointer none) W (by obtain ⟨_, _, _, _, h, _⟩ := h; exact h) (.inl rfl))
  have CR := hidd (fun (W : World) (h : Below W0.heap.size W0 W) => (refOut_any n (by omega) hn2 A L c (by omega) 0 W ((hA.below hb0).below h)).mono (R' := fun e w' => ∃ A c, e = .returned (.slice A (outs L 0).length c) ∧ Lie intV 1 w' w'.heap.size A (outs L 0) ∧ Below W.heap.size W w') (fun e w' ⟨A, c, he, hl, hb⟩ => ⟨A, c, by rw [outs_eq hv] at he; exact he, by rw [outs_eq hv] at hl; exact hl, hb⟩))
  have CO := hidd (fun m W => Out_any (some ⟨m, 0, none⟩) 0 W)
  clear hz hb0 hA hlen hv e1
  refine (callsIn_wide (n := 6)).1 ?_
  refine callsIn_of_wp_marks Try.func4 rfl trivial ?_ rfl
  simp only [Try.ntmps4, List.size_toArray, List.length_cons, List.length_nil, Nat.reduceAdd, Nat.reduceSub, Array.replicate_succ, Array.replicate_zero, List.push_toArray, List.append_toArray, List.nil_append, List.cons_append]
  refine wpIn_wide.2 ?_
  go_wp2_with fail
  rw [HW.out]
  refine CN.out.mono ?_
  rintro e w1 (⟨h, _⟩ | ⟨_, m, rfl, hm1, _, hb1⟩)
  · exact absurd hE h
  have HM1 := hidd hm1
  have HB1 := hidd hb1
  clear hm1 hb1 q0 r0 r1 CN hE
  go_wp2_with fail
  refine (CC.out m _ HM1.out).mono ?_
  rintro e w2 ⟨mc, rfl, hm2', _, hb2⟩
  have HC2 := hidd hm2'
  have HB2 := hidd (below_step HB1.out hb2)
  have HM2 := hidd (HM1.out.below hb2)
  have HOA := hidd (OwnL.nil (f := linkV) (sz := 8) w2 W0.heap.size 23)
  have hsrc := hidd (lie_src (HA.out.below HB2.out))
  have HR := hidd (row_len linkV_len L)
  have HONE := hidd (rowOf_one linkV_one L)
  have hmax : Hid (0 + L.length ≤ maxLen) := hidd (by unfold maxLen; omega)
  have hby : Hid ((0 + L.length) * 64 ≤ 140737488355328) := hidd (by omega)
  have hbase : Hid (W0.heap.size ≤ w2.heap.size) := hidd HB2.out.size
  clear hm2' hb2
  go_wp2_with (first | (at_builtin; refine wpList_append_some rfl _ _ 28 rfl W0.heap.size 23 i0 (.agg #[.int .i64 0, .int .i64 0, .int .i64 0, .int .i64 0, .int .i64 0, .int .i64 0, .int .i64 0, .int .i64 0]) 8 64 Try.underlying28 hi hz0 hz1 hz2 rfl (by decide) (.slice none 0 0) 0 [] rfl HOA.out A L.length c (rowOf linkV L) rfl HR.out hsrc.out HONE.out hmax.out hby.out hbase.out ?_; intro v' w3 hown' hgrow hor; have HO3 := hidd hown'; have HG3 := hidd hgrow; have HOR := hidd hor; clear hown' hgrow hor) | fail)
  have hG3 := HG3.out
  have hb3 : Below w2.heap.size w2 w3 := ⟨hG3.os, hG3.tape, hG3.output, hG3.size, fun k hk => hG3.block k hk (by simp [Value.ownBlock])⟩
  have hO3 : OwnL linkV 8 w3 W0.heap.size 23 v' L := by
    have := HO3.out
    rw [Nat.zero_add, List.nil_append] at this
    exact this
  obtain ⟨A3, c3, rfl, hc3, hc3', _⟩ := hO3.lie linkV_len
  have HOB : Hid (∀ g, A3 = some g → g.block = w2.heap.size) := hidd (fun g e => by
    subst e
    rcases HOR.out with h | h
    · simp [Value.ownBlock] at h
    · simpa [Value.ownBlock] using h)
  have HR3 : Hid (w3.ownsRow W0.heap.size 23 8 (.slice A3 L.length c3) L.length (rowOf linkV (turnK L 0))) := hidd (by rw [turnK_zero]; exact hO3)
  have HB3 := hidd hb3
  clear hG3 hb3 hO3 HOA
  go_loopg [11, 12] (L.length + 2) (fun g s11 s12 wr => ∃ k : Nat, k ≤ L.length ∧ k + g = L.length + 2 ∧ s12 = .int .i64 (k : Int) ∧ s11 = .bool (halfK L k) ∧ wr.ownsRow W0.heap.size 23 8 (.slice A3 L.length c3) L.length (rowOf linkV (turnK L k)) ∧ Below w2.heap.size w2 wr)
  case atStart => exact ⟨0, by omega, by omega, rfl, rfl, HR3.out, HB3.out⟩
  case round =>
    obtain ⟨k, hk1, hg, rfl, rfl, hO, hB⟩ := hrel
    have HG := hidd hg
    have HBW := hidd hB
    have HOW := hidd hO
    have hsz := hB.size
    clear hg hO hB HR3
    by_cases hin : k < L.length
    · have hin2 : (k : Int) < (L.length : Int) := by omega
      have hk0 : (0 : Int) ≤ (k : Int) := by omega
      obtain ⟨g, cap, hvv, hgb, hgl⟩ := World.ownsRow.form HOW.out (by omega)
      simp only [Value.slice.injEq] at hvv
      obtain ⟨rfl, _, _⟩ := hvv
      have hg2 : w2.heap.size ≤ g := by have : g = w2.heap.size := HOB.out _ rfl
                                        omega
      obtain ⟨ad, rfl, ha, x0, x1, x2, x3, x4, x5, x6, x7⟩ := (HA.out.below (HB2.out.trans (HBW.out.mono HB2.out.size))).link k hin
      have hadl : (ad.add (k * 8)).block < W0.heap.size := by
        obtain ⟨ad', e', hB', _⟩ := HA.out (by omega)
        cases e'
        rw [block_of_add]
        exact hB'
      have hfar := (rightB_iff n (lkAt L k)).1 (HV.out.all _ (lkAt_mem hin))
      have hf0 : 0 ≤ fa (lkAt L k) := hfar.2.2.2.2.2.2.1.1
      have hf1 : fa (lkAt L k) ≤ 1000 := hfar.2.2.2.2.2.2.1.2
      have HNX := hidd (turn_row hin HOW.out)
      have HHS := hidd (halfK_step hin)
      have hTl : (turnK L k).length = L.length := turnK_len L hk1
      have hcell : wr.cell? ⟨g, k * 8 + 4, none⟩ = some (.int .i64 (fa (lkAt L k))) := by
        rw [World.ownsRow.cellAt HOW.out _ (by omega)]
        have := row_at linkV_len (turnK L k) k (turnK L k)[k] (List.getElem?_eq_getElem (by rw [hTl]; exact hin)) 4 _ rfl
        rw [← lkAt_get (by rw [hTl]; exact hin), turnK_at hin] at this
        exact this
      have hfroz := World.ownsRow.frozenAt HOW.out (k * 8 + 4)
      have hgr := (World.ownsRow.stored HOW.out (k * 8 + 4) (.int .i64 (1000 - fa (lkAt L k)))).2
      have HGR := hidd hgr
      have nb1 : ¬ (ad.add (k * 8)).block = g := by have := HB2.out.size; omega
      have nb2 : (ad.add (k * 8)).block < g := by have := HB2.out.size; omega
      obtain ⟨H, hH⟩ : ∃ H, halfK L k = H := ⟨_, rfl⟩
      rw [hH] at HHS ⊢
      clear x0 x1 x2 x3 x5 x6 x7 hfar hH hgr hTl
      generalize fa (lkAt L k) = f at *
      have hw1 : IntKind.i64.wrap (1000 - f) = 1000 - f := IntWalk.i64_in _ (by omega)
      cases H
      · by_cases hf5 : f = 500
        · have hds : decide (f = 500) = true := decide_eq_true hf5
          rw [hds] at HHS
          subst hf5
          have e5 : (1000 : Int) - 500 = 500 := rfl
          rw [e5] at HNX HGR
          clear hds e5 hw1
          go_wp2_with fail
          have hg := HG.out
          go_roundg (gk - 1)
          case measure => omega
          case rel => exact ⟨k + 1, by omega, by omega, by go_num, by first | (rw [HHS.out]; done) | (rw [HHS.out]; rfl), HNX.out, HBW.out.grown HGR.out hsz (fun k' e => by cases e; omega)⟩
        · have hbb : (f == 500) = false := beq_eq_false_iff_ne.2 hf5
          have hds : decide (f = 500) = false := decide_eq_false hf5
          rw [hds] at HHS
          go_wp2_with fail
          have hg := HG.out
          go_roundg (gk - 1)
          case measure => omega
          case rel => exact ⟨k + 1, by omega, by omega, by go_num, by first | (rw [HHS.out]; done) | (rw [HHS.out]; rfl), HNX.out, HBW.out.grown HGR.out hsz (fun k' e => by cases e; omega)⟩
      · rw [Bool.true_or] at HHS
        go_wp2_with fail
        have hg := HG.out
        go_roundg (gk - 1)
        case measure => omega
        case rel => exact ⟨k + 1, by omega, by omega, by go_num, by first | (rw [HHS.out]; done) | (rw [HHS.out]; rfl), HNX.out, HBW.out.grown HGR.out hsz (fun k' e => by cases e; omega)⟩
    · have hke : k = L.length := by omega
      subst hke
      have hO2 : OwnL linkV 8 wr W0.heap.size 23 (.slice A3 (L.map turnF).length c3) (L.map turnF) := by
        unfold OwnL
        rw [List.length_map, ← turnK_all]
        exact HOW.out
      obtain ⟨A3', c3', e3, hx1, hx2, hT⟩ := hO2.lie linkV_len
      clear hx1 hx2
      simp only [Value.slice.injEq] at e3
      obtain ⟨rfl, _, rfl⟩ := e3
      have HT := hidd hT
      have HXr := hidd (HB2.out.trans (HBW.out.mono HB2.out.size))
      have HMr := hidd (HM2.out.below HBW.out)
      have HCr := hidd (HC2.out.below HBW.out)
      have hH0 : L = [] → halfK L L.length = false := fun h => by subst h; rfl
      have hTO := fun h h2 => turn_other (n := n) (L := L) h h2
      have HTO := hidd hTO
      have hH0' := hidd hH0
      have hVT := hidd (valid_to HV.out.turn)
      generalize halfK L L.length = H at *
      generalize sameM n (L.map turnF) n L = X at *
      clear hO2 hT hH0 hTO HOW hk1 hin hc3 hc3'
      go_wp2_with fail
      refine (CT.out _ _ _ HT.out).mono ?_
      rintro e w4 (⟨h, _⟩ | ⟨_, mo, rfl, hmo, _, hb4⟩)
      · exact absurd hVT.out h
      have HMO := hidd hmo
      have HX4 := hidd (below_step HXr.out hb4)
      have HM4 := hidd (HMr.out.below hb4)
      have HC4 := hidd (HCr.out.below hb4)
      clear hmo hb4
      cases H
      · go_wp2_with fail
        refine (CSO.out mo m w4 HMO.out HM4.out).mono ?_
        rintro e w5 ⟨rfl, hb5⟩
        have HX := hidd (below_step HX4.out hb5)
        have HMX := hidd (HM4.out.below hb5)
        have HCX := hidd (HC4.out.below hb5)
        clear hb5
        by_cases hLe : L = []
        · have hl0 : ((L.length : Int) == 0) = true := by rw [hLe]; rfl
          have HLE := hidd hLe
          clear hLe
          go_wp2_with fail
          refine (CR.out _ HX.out).mono ?_
          rintro e w6 ⟨A5, c5, rfl, hl5, hb6⟩
          obtain ⟨W8, hW8⟩ : ∃ W8, w6.alloc (.cells #[.slice A5 (outs L 0).length c5] 34) = W8 := ⟨_, rfl⟩
          have hs8 : W8.heap.size = w6.heap.size + 1 := by rw [← hW8]; simp
          have hb8 : Below w6.heap.size w6 W8 := by rw [← hW8]; (repeat' (first | (with_reducible exact Below.refl _ _) | (with_reducible assumption) | (with_reducible apply Below.setCell) | (with_reducible apply Below.alloc) | (with_reducible apply Below.drew) | (with_reducible apply below_drewN) | (with_reducible refine Below.trans ?_ (Below.mono (by assumption) ?_)) | omega | (simp; done) | (simp; omega)))
          have o8 : W8.cell? ⟨w6.heap.size, 0, none⟩ = some (.slice A5 (outs L 0).length c5) := by rw [← hW8]; simp [go_sem]
          have HB8 := hidd (below_step (below_step HX.out hb6) hb8)
          have HM8 := hidd ((HMX.out.below hb6).below hb8)
          have HC8 := hidd ((HCX.out.below hb6).below hb8)
          have HL8 := hidd (hl5.below hb8)
          have HW8 := hidd hW8
          have HS8 := hidd hs8
          have hs6 : w6.heap.size < W8.heap.size := by omega
          have hou : (outs L 0).length ≤ 1000000 := by
            have h1 := fromK_len L 0 L.length
            rw [outs_len]
            omega
          clear hl5 hb6 hb8 hW8 hs8
          go_wp2_with fail
          rw [HW8.out]
          refine (CO.out m _).mono ?_
          rintro e w10 ⟨rfl, hw10⟩
          obtain ⟨W10, hW10⟩ : ∃ W10, ((W8.alloc (.cells #[.int .i64 0] 3)).alloc (.cells #[.pointer (some ⟨m, 0, none⟩)] 29)).alloc (.cells #[.int .i64 0] 3) = W10 := ⟨_, rfl⟩
          rw [hW10] at hw10
          subst hw10
          have hs10 : w10.heap.size = W8.heap.size + 3 := by rw [← hW10]; simp
          have hB10 : Below W8.heap.size W8 w10 := by rw [← hW10]; (repeat' (first | (with_reducible exact Below.refl _ _) | (with_reducible assumption) | (with_reducible apply Below.setCell) | (with_reducible apply Below.alloc) | (with_reducible apply Below.drew) | (with_reducible apply below_drewN) | (with_reducible refine Below.trans ?_ (Below.mono (by assumption) ?_)) | omega | (simp; done) | (simp; omega)))
          have i10 : w10.cell? ⟨w6.heap.size + 1, 0, none⟩ = some (.int .i64 0) := by rw [← HS8.out, ← hW10]; simp [go_sem]
          have f10 : w10.frozen? ⟨w6.heap.size + 1, 0, none⟩ = false := by rw [← HS8.out, ← hW10]; simp [go_sem]
          have p10 : w10.cell? ⟨W8.heap.size + 1, 0, none⟩ = some (.pointer (some ⟨m, 0, none⟩)) := by rw [← hW10]; simp [go_sem]
          have n10 : w10.cell? ⟨W8.heap.size + 1 + 1, 0, none⟩ = some (.int .i64 0) := by rw [← hW10]; simp [go_sem]
          have HB10 := hidd hB10
          have HS10 := hidd hs10
          clear hW10 hB10 hs10
          go_wp2_with fail
          refine (wpIn_wide (n := 6)).1 ?_
          have SQ := hidd (Out1_some (6 - 1) w10.heap.size (by omega) (W8.heap.size + 1) (W8.heap.size + 1 + 1) m n hn1 hn2 L (by omega) 0 (inB_iff.2 (by omega)) (HV.out.apart 0) w10 (Nat.le_refl _) (HM8.out.below HB10.out) (by have := HS10.out; omega) p10 (by have := HS10.out; omega) n10)
          generalize outs L 0 = OU at *
          refine wpIn_rangeFunc_ownF rfl (by omega) (gf := 29) (lb := #[.pointer (some ⟨W8.heap.size + 1, 0, none⟩), .pointer (some ⟨W8.heap.size + 1 + 1, 0, none⟩)]) rfl trivial (enters_of Try.func29 (by kernel_rfl) rfl)
            SQ.out KpC.trans (fun W l o o' _ h ho _ => KpC.put W l o o' h ho) (Below.refl _ _) (fun _ => rfl)
            (CpI W8 (w6.heap.size + 1) OU many) (CpX W8 (w6.heap.size + 1) OU many 2) (CpI.own (by have := HS10.out; omega)) (CpX.own (by have := HS10.out; omega))
            ⟨HB10.out, ⟨i10, f10⟩, List.nil_prefix, by simp; omega⟩
            ?a11 ?assign1 ?body1 ?done1 ?stop1
          case assign1 =>
            intro l x W K hK
            gi_wp2
            exact hK
          case body1 =>
            intro l pre x W hI1 hlt
            obtain ⟨hBel, ⟨hic, hif⟩, hpre, hplt⟩ := hI1
            obtain ⟨c0, c1, c2⟩ := RC.out _ (HB8.out.trans (hBel.mono HB8.out.size))
            have o8W := (hBel.cell (p := ⟨w6.heap.size, 0, none⟩) hs6).trans o8
            obtain ⟨ad5, e5, had5, hcell⟩ := (HL8.out.below hBel).int pre.length hlt
            have HPS := hidd (pre_step hpre hlt x)
            have hkl : (pre.length : Int) < (OU.length : Int) := by omega
            have hk0 : (0 : Int) ≤ (pre.length : Int) := by omega
            have HBel := hidd hBel
            have HPRE := hidd hpre
            have hlen1 : Hid (((pre ++ [x]).length : Int) = (pre.length : Int) + 1) := hidd (by simp)
            subst e5
            have zb1 : w.heap.size < w6.heap.size + 1 := by have := HB8.out.size; have := HZ.out; have := HS8.out; omega
            have zb2 : ¬ w.heap.size = w6.heap.size + 1 := by omega
            clear hBel hpre o8 i10 f10 p10 n10 hq
            by_cases hx : x = av OU pre.length
            · have hp1 := hidd (HPS.out.2 hx)
              subst hx
              generalize av OU pre.length = y at *
              by_cases hk : (pre.length : Int) + 1 = many
              · have hkb : ((pre.length : Int) + 1 == many) = true := beq_iff_eq.2 hk
                have HKE := hidd hk
                clear hk
                gi_wp2
                exact ⟨KeepsOthers.setCell _ _ _, .inl ⟨rfl, HBel.out.setCell (p := ⟨w6.heap.size + 1, 0, none⟩) (by show W8.heap.size ≤ w6.heap.size + 1; have := HS8.out; omega) _, ⟨by rw [hlen1.out]; exact World.cell?_setCell_same' _ _ _ (by rw [hic]; rfl), by rw [World.frozen?_setCell]; exact hif⟩, hp1.out, by rw [hlen1.out]; exact HKE.out⟩⟩
              · have hkb : ((pre.length : Int) + 1 == many) = false := beq_eq_false_iff_ne.2 hk
                gi_wp2
                exact ⟨KeepsOthers.setCell _ _ _, KpC.set _ _ _ (by show w6.heap.size + 1 < w10.heap.size; have := HS10.out; have := HS8.out; omega), HBel.out.setCell (p := ⟨w6.heap.size + 1, 0, none⟩) (by show W8.heap.size ≤ w6.heap.size + 1; have := HS8.out; omega) _, ⟨by rw [hlen1.out]; exact World.cell?_setCell_same' _ _ _ (by rw [hic]; rfl), by rw [World.frozen?_setCell]; exact hif⟩, hp1.out, by rw [hlen1.out]; omega⟩
            · have hxb : (x == av OU pre.length) = false := beq_eq_false_iff_ne.2 hx
              have hnp := hidd (fun h => hx (HPS.out.1 h))
              have hxb2 : (x != av OU pre.length) = true := by rw [bne, hxb]; rfl
              generalize av OU pre.length = y at *
              gi_wp2
              exact ⟨KeepsOthers.setCell _ _ _, .inr ⟨rfl, fun h => hnp.out h⟩⟩
          case done1 =>
            rintro D xs W hD hxs ⟨hBel, ⟨hic, hif⟩, _, hplt⟩ hK
            rw [hxs] at hic hplt
            clear hxs hif
            have hDl : D < W.heap.size := (Array.getElem?_eq_some_iff.1 hK).1
            have HBW := hidd (HB8.out.trans (hBel.mono HB8.out.size))
            have HMW := hidd (HM8.out.below hBel)
            have HCW := hidd (HC8.out.below hBel)
            have o8W := (hBel.cell (p := ⟨w6.heap.size, 0, none⟩) hs6).trans o8
            obtain ⟨c0, c1, c2⟩ := RC.out _ HBW.out
            have HK := hidd hK
            clear hBel hK o8 i10 f10 p10 n10 hq SQ hm hm2 hl2 hd1 hd2 hou hn1 hn2
            generalize L.length = NL at *
            generalize OU.length = NO at *
            have hmin : min many (NO : Int) = (NO : Int) := by omega
            go_wp2_with fail
            refine (CS.out m mc _ HMW.out HCW.out).mono ?_
            rintro e w11 ⟨rfl, hb11⟩
            have HK11 : Hid (w11.heap[D]? = some (.deferred (some []))) := hidd ((hb11.block D hDl).trans HK.out)
            have HB11 := hidd (below_step HBW.out hb11)
            have HM11 := hidd (HMW.out.below hb11)
            have hD11 : D < w11.heap.size := Nat.lt_of_lt_of_le hDl hb11.size
            clear hb11
            go_wp2_with fail
            refine (CSN.out m _ HM11.out).mono ?_
            rintro e w' ⟨rfl, rfl⟩
            go_wp2_with fail
            refine (cK.out _).mono ?_
            rintro e w12 ⟨rfl, hb12⟩
            have HK12 : Hid (w12.heap[D]? = some (.deferred (some []))) := hidd ((hb12.block D hD11).trans HK11.out)
            have HB12 := hidd (below_step HB11.out hb12)
            obtain ⟨d0, d1, d2⟩ := RC.out _ HB12.out
            clear hb12
            go_wp2_with fail
            have hne : D ≠ w.heap.size + 1 := by have := HS10.out; have := HZ.out; have := HB8.out.size; omega
            have HKS : (w12.setCell ⟨w.heap.size + 1, 0, none⟩ (.bool true)).heap[D]? = some (.deferred (some [])) := (Below.heap_setCell _ _ _ _ hne).trans HK12.out
            have hrc := World.cell?_setCell_same' w12 ⟨w.heap.size + 1, 0, none⟩ (.bool true) (by rw [d1]; rfl)
            have hgp := grownBy_putObj' (w12.setCell ⟨w.heap.size + 1, 0, none⟩ (.bool true)) D (.deferred none)
            have hrp := cell_kept hrc hgp (fun r e => by cases e; exact ⟨_, HKS, rfl⟩)
            refine ⟨by simp, .inl ⟨_, _, rfl, run_takeDeferred HKS, ?_⟩⟩
            refine ⟨.bool true, ?_, rfl, ?_⟩
            · simp [results, Try.results4, go_sem, hrp]
            · have q1 := (HB0.out.trans (HB12.out.mono HB0.out.size)).setCell (p := ⟨w.heap.size + 1, 0, none⟩) (Nat.le_add_right _ _) (.bool true)
              exact q1.grown hgp q1.size (fun k e => by cases e; have := HS10.out; have := HZ.out; have := HB8.out.size; omega)
          case stop1 =>
            rintro D c pre W hD hSp (⟨rfl, hBel, ⟨hic, hif⟩, hpre, hplt⟩ | ⟨_, hn⟩) hK
            rotate_left
            · exact absurd hSp hn
            have hle : many ≤ (OU.length : Int) := by
              have := hpre.length_le
              omega
            rw [hplt] at hic
            clear hplt hif hpre hSp
            refine wpIn_wide.2 ?_
            have hDl : D < W.heap.size := (Array.getElem?_eq_some_iff.1 hK).1
            have HBW := hidd (HB8.out.trans (hBel.mono HB8.out.size))
            have HMW := hidd (HM8.out.below hBel)
            have HCW := hidd (HC8.out.below hBel)
            have o8W := (hBel.cell (p := ⟨w6.heap.size, 0, none⟩) hs6).trans o8
            obtain ⟨c0, c1, c2⟩ := RC.out _ HBW.out
            have HK := hidd hK
            clear hBel hK o8 i10 f10 p10 n10 hq SQ hm hm2 hl2 hd1 hd2 hou hn1 hn2
            generalize L.length = NL at *
            generalize OU.length = NO at *
            have hmin : min many (NO : Int) = many := by omega
            go_wp2_with fail
            refine (CS.out m mc _ HMW.out HCW.out).mono ?_
            rintro e w11 ⟨rfl, hb11⟩
            have HK11 : Hid (w11.heap[D]? = some (.deferred (some []))) := hidd ((hb11.block D hDl).trans HK.out)
            have HB11 := hidd (below_step HBW.out hb11)
            have HM11 := hidd (HMW.out.below hb11)
            have hD11 : D < w11.heap.size := Nat.lt_of_lt_of_le hDl hb11.size
            clear hb11
            go_wp2_with fail
            refine (CSN.out m _ HM11.out).mono ?_
            rintro e w' ⟨rfl, rfl⟩
            go_wp2_with fail
            refine (cK.out _).mono ?_
            rintro e w12 ⟨rfl, hb12⟩
            have HK12 : Hid (w12.heap[D]? = some (.deferred (some []))) := hidd ((hb12.block D hD11).trans HK11.out)
            have HB12 := hidd (below_step HB11.out hb12)
            obtain ⟨d0, d1, d2⟩ := RC.out _ HB12.out
            clear hb12
            go_wp2_with fail
            have hne : D ≠ w.heap.size + 1 := by have := HS10.out; have := HZ.out; have := HB8.out.size; omega
            have HKS : (w12.setCell ⟨w.heap.size + 1, 0, none⟩ (.bool true)).heap[D]? = some (.deferred (some [])) := (Below.heap_setCell _ _ _ _ hne).trans HK12.out
            have hrc := World.cell?_setCell_same' w12 ⟨w.heap.size + 1, 0, none⟩ (.bool true) (by rw [d1]; rfl)
            have hgp := grownBy_putObj' (w12.setCell ⟨w.heap.size + 1, 0, none⟩ (.bool true)) D (.deferred none)
            have hrp := cell_kept hrc hgp (fun r e => by cases e; exact ⟨_, HKS, rfl⟩)
            refine ⟨by simp, .inl ⟨_, _, rfl, run_takeDeferred HKS, ?_⟩⟩
            refine ⟨.bool true, ?_, rfl, ?_⟩
            · simp [results, Try.results4, go_sem, hrp]
            · have q1 := (HB0.out.trans (HB12.out.mono HB0.out.size)).setCell (p := ⟨w.heap.size + 1, 0, none⟩) (Nat.le_add_right _ _) (.bool true)
              exact q1.grown hgp q1.size (fun k e => by cases e; have := HS10.out; have := HZ.out; have := HB8.out.size; omega)
        · have hl0 : ((L.length : Int) == 0) = false := by
            have := List.length_pos_iff.2 hLe
            exact beq_eq_false_iff_ne.2 (by omega)
          obtain rfl : X = false := HTO.out hLe (by simp)
          clear hLe
          go_wp2_with fail
          refine (CR.out _ HX.out).mono ?_
          rintro e w6 ⟨A5, c5, rfl, hl5, hb6⟩
          obtain ⟨W8, hW8⟩ : ∃ W8, w6.alloc (.cells #[.slice A5 (outs L 0).length c5] 34) = W8 := ⟨_, rfl⟩
          have hs8 : W8.heap.size = w6.heap.size + 1 := by rw [← hW8]; simp
          have hb8 : Below w6.heap.size w6 W8 := by rw [← hW8]; (repeat' (first | (with_reducible exact Below.refl _ _) | (with_reducible assumption) | (with_reducible apply Below.setCell) | (with_reducible apply Below.alloc) | (with_reducible apply Below.drew) | (with_reducible apply below_drewN) | (with_reducible refine Below.trans ?_ (Below.mono (by assumption) ?_)) | omega | (simp; done) | (simp; omega)))
          have o8 : W8.cell? ⟨w6.heap.size, 0, none⟩ = some (.slice A5 (outs L 0).length c5) := by rw [← hW8]; simp [go_sem]
          have HB8 := hidd (below_step (below_step HX.out hb6) hb8)
          have HM8 := hidd ((HMX.out.below hb6).below hb8)
          have HC8 := hidd ((HCX.out.below hb6).below hb8)
          have HL8 := hidd (hl5.below hb8)
          have HW8 := hidd hW8
          have HS8 := hidd hs8
          have hs6 : w6.heap.size < W8.heap.size := by omega
          have hou : (outs L 0).length ≤ 1000000 := by
            have h1 := fromK_len L 0 L.length
            rw [outs_len]
            omega
          clear hl5 hb6 hb8 hW8 hs8
          go_wp2_with fail
          rw [HW8.out]
          refine (CO.out m _).mono ?_
          rintro e w10 ⟨rfl, hw10⟩
          obtain ⟨W10, hW10⟩ : ∃ W10, ((W8.alloc (.cells #[.int .i64 0] 3)).alloc (.cells #[.pointer (some ⟨m, 0, none⟩)] 29)).alloc (.cells #[.int .i64 0] 3) = W10 := ⟨_, rfl⟩
          rw [hW10] at hw10
          subst hw10
          have hs10 : w10.heap.size = W8.heap.size + 3 := by rw [← hW10]; simp
          have hB10 : Below W8.heap.size W8 w10 := by rw [← hW10]; (repeat' (first | (with_reducible exact Below.refl _ _) | (with_reducible assumption) | (with_reducible apply Below.setCell) | (with_reducible apply Below.alloc) | (with_reducible apply Below.drew) | (with_reducible apply below_drewN) | (with_reducible refine Below.trans ?_ (Below.mono (by assumption) ?_)) | omega | (simp; done) | (simp; omega)))
          have i10 : w10.cell? ⟨w6.heap.size + 1, 0, none⟩ = some (.int .i64 0) := by rw [← HS8.out, ← hW10]; simp [go_sem]
          have f10 : w10.frozen? ⟨w6.heap.size + 1, 0, none⟩ = false := by rw [← HS8.out, ← hW10]; simp [go_sem]
          have p10 : w10.cell? ⟨W8.heap.size + 1, 0, none⟩ = some (.pointer (some ⟨m, 0, none⟩)) := by rw [← hW10]; simp [go_sem]
          have n10 : w10.cell? ⟨W8.heap.size + 1 + 1, 0, none⟩ = some (.int .i64 0) := by rw [← hW10]; simp [go_sem]
          have HB10 := hidd hB10
          have HS10 := hidd hs10
          clear hW10 hB10 hs10
          go_wp2_with fail
          refine (wpIn_wide (n := 6)).1 ?_
          have SQ := hidd (Out1_some (6 - 1) w10.heap.size (by omega) (W8.heap.size + 1) (W8.heap.size + 1 + 1) m n hn1 hn2 L (by omega) 0 (inB_iff.2 (by omega)) (HV.out.apart 0) w10 (Nat.le_refl _) (HM8.out.below HB10.out) (by have := HS10.out; omega) p10 (by have := HS10.out; omega) n10)
          generalize outs L 0 = OU at *
          refine wpIn_rangeFunc_ownF rfl (by omega) (gf := 29) (lb := #[.pointer (some ⟨W8.heap.size + 1, 0, none⟩), .pointer (some ⟨W8.heap.size + 1 + 1, 0, none⟩)]) rfl trivial (enters_of Try.func29 (by kernel_rfl) rfl)
            SQ.out KpC.trans (fun W l o o' _ h ho _ => KpC.put W l o o' h ho) (Below.refl _ _) (fun _ => rfl)
            (CpI W8 (w6.heap.size + 1) OU many) (CpX W8 (w6.heap.size + 1) OU many 2) (CpI.own (by have := HS10.out; omega)) (CpX.own (by have := HS10.out; omega))
            ⟨HB10.out, ⟨i10, f10⟩, List.nil_prefix, by simp; omega⟩
            ?a12 ?assign2 ?body2 ?done2 ?stop2
          case assign2 =>
            intro l x W K hK
            gi_wp2
            exact hK
          case body2 =>
            intro l pre x W hI1 hlt
            obtain ⟨hBel, ⟨hic, hif⟩, hpre, hplt⟩ := hI1
            obtain ⟨c0, c1, c2⟩ := RC.out _ (HB8.out.trans (hBel.mono HB8.out.size))
            have o8W := (hBel.cell (p := ⟨w6.heap.size, 0, none⟩) hs6).trans o8
            obtain ⟨ad5, e5, had5, hcell⟩ := (HL8.out.below hBel).int pre.length hlt
            have HPS := hidd (pre_step hpre hlt x)
            have hkl : (pre.length : Int) < (OU.length : Int) := by omega
            have hk0 : (0 : Int) ≤ (pre.length : Int) := by omega
            have HBel := hidd hBel
            have HPRE := hidd hpre
            have hlen1 : Hid (((pre ++ [x]).length : Int) = (pre.length : Int) + 1) := hidd (by simp)
            subst e5
            have zb1 : w.heap.size < w6.heap.size + 1 := by have := HB8.out.size; have := HZ.out; have := HS8.out; omega
            have zb2 : ¬ w.heap.size = w6.heap.size + 1 := by omega
            clear hBel hpre o8 i10 f10 p10 n10 hq
            by_cases hx : x = av OU pre.length
            · have hp1 := hidd (HPS.out.2 hx)
              subst hx
              generalize av OU pre.length = y at *
              by_cases hk : (pre.length : Int) + 1 = many
              · have hkb : ((pre.length : Int) + 1 == many) = true := beq_iff_eq.2 hk
                have HKE := hidd hk
                clear hk
                gi_wp2
                exact ⟨KeepsOthers.setCell _ _ _, .inl ⟨rfl, HBel.out.setCell (p := ⟨w6.heap.size + 1, 0, none⟩) (by show W8.heap.size ≤ w6.heap.size + 1; have := HS8.out; omega) _, ⟨by rw [hlen1.out]; exact World.cell?_setCell_same' _ _ _ (by rw [hic]; rfl), by rw [World.frozen?_setCell]; exact hif⟩, hp1.out, by rw [hlen1.out]; exact HKE.out⟩⟩
              · have hkb : ((pre.length : Int) + 1 == many) = false := beq_eq_false_iff_ne.2 hk
                gi_wp2
                exact ⟨KeepsOthers.setCell _ _ _, KpC.set _ _ _ (by show w6.heap.size + 1 < w10.heap.size; have := HS10.out; have := HS8.out; omega), HBel.out.setCell (p := ⟨w6.heap.size + 1, 0, none⟩) (by show W8.heap.size ≤ w6.heap.size + 1; have := HS8.out; omega) _, ⟨by rw [hlen1.out]; exact World.cell?_setCell_same' _ _ _ (by rw [hic]; rfl), by rw [World.frozen?_setCell]; exact hif⟩, hp1.out, by rw [hlen1.out]; omega⟩
            · have hxb : (x == av OU pre.length) = false := beq_eq_false_iff_ne.2 hx
              have hnp := hidd (fun h => hx (HPS.out.1 h))
              have hxb2 : (x != av OU pre.length) = true := by rw [bne, hxb]; rfl
              generalize av OU pre.length = y at *
              gi_wp2
              exact ⟨KeepsOthers.setCell _ _ _, .inr ⟨rfl, fun h => hnp.out h⟩⟩
          case done2 =>
            rintro D xs W hD hxs ⟨hBel, ⟨hic, hif⟩, _, hplt⟩ hK
            rw [hxs] at hic hplt
            clear hxs hif
            have hDl : D < W.heap.size := (Array.getElem?_eq_some_iff.1 hK).1
            have HBW := hidd (HB8.out.trans (hBel.mono HB8.out.size))
            have HMW := hidd (HM8.out.below hBel)
            have HCW := hidd (HC8.out.below hBel)
            have o8W := (hBel.cell (p := ⟨w6.heap.size, 0, none⟩) hs6).trans o8
            obtain ⟨c0, c1, c2⟩ := RC.out _ HBW.out
            have HK := hidd hK
            clear hBel hK o8 i10 f10 p10 n10 hq SQ hm hm2 hl2 hd1 hd2 hou hn1 hn2
            generalize L.length = NL at *
            generalize OU.length = NO at *
            have hmin : min many (NO : Int) = (NO : Int) := by omega
            go_wp2_with fail
            refine (CS.out m mc _ HMW.out HCW.out).mono ?_
            rintro e w11 ⟨rfl, hb11⟩
            have HK11 : Hid (w11.heap[D]? = some (.deferred (some []))) := hidd ((hb11.block D hDl).trans HK.out)
            have HB11 := hidd (below_step HBW.out hb11)
            have HM11 := hidd (HMW.out.below hb11)
            have hD11 : D < w11.heap.size := Nat.lt_of_lt_of_le hDl hb11.size
            clear hb11
            go_wp2_with fail
            refine (CSN.out m _ HM11.out).mono ?_
            rintro e w' ⟨rfl, rfl⟩
            go_wp2_with fail
            refine (cK.out _).mono ?_
            rintro e w12 ⟨rfl, hb12⟩
            have HK12 : Hid (w12.heap[D]? = some (.deferred (some []))) := hidd ((hb12.block D hD11).trans HK11.out)
            have HB12 := hidd (below_step HB11.out hb12)
            obtain ⟨d0, d1, d2⟩ := RC.out _ HB12.out
            clear hb12
            go_wp2_with fail
            have hne : D ≠ w.heap.size + 1 := by have := HS10.out; have := HZ.out; have := HB8.out.size; omega
            have HKS : (w12.setCell ⟨w.heap.size + 1, 0, none⟩ (.bool true)).heap[D]? = some (.deferred (some [])) := (Below.heap_setCell _ _ _ _ hne).trans HK12.out
            have hrc := World.cell?_setCell_same' w12 ⟨w.heap.size + 1, 0, none⟩ (.bool true) (by rw [d1]; rfl)
            have hgp := grownBy_putObj' (w12.setCell ⟨w.heap.size + 1, 0, none⟩ (.bool true)) D (.deferred none)
            have hrp := cell_kept hrc hgp (fun r e => by cases e; exact ⟨_, HKS, rfl⟩)
            refine ⟨by simp, .inl ⟨_, _, rfl, run_takeDeferred HKS, ?_⟩⟩
            refine ⟨.bool true, ?_, rfl, ?_⟩
            · simp [results, Try.results4, go_sem, hrp]
            · have q1 := (HB0.out.trans (HB12.out.mono HB0.out.size)).setCell (p := ⟨w.heap.size + 1, 0, none⟩) (Nat.le_add_right _ _) (.bool true)
              exact q1.grown hgp q1.size (fun k e => by cases e; have := HS10.out; have := HZ.out; have := HB8.out.size; omega)
          case stop2 =>
            rintro D c pre W hD hSp (⟨rfl, hBel, ⟨hic, hif⟩, hpre, hplt⟩ | ⟨_, hn⟩) hK
            rotate_left
            · exact absurd hSp hn
            have hle : many ≤ (OU.length : Int) := by
              have := hpre.length_le
              omega
            rw [hplt] at hic
            clear hplt hif hpre hSp
            refine wpIn_wide.2 ?_
            have hDl : D < W.heap.size := (Array.getElem?_eq_some_iff.1 hK).1
            have HBW := hidd (HB8.out.trans (hBel.mono HB8.out.size))
            have HMW := hidd (HM8.out.below hBel)
            have HCW := hidd (HC8.out.below hBel)
            have o8W := (hBel.cell (p := ⟨w6.heap.size, 0, none⟩) hs6).trans o8
            obtain ⟨c0, c1, c2⟩ := RC.out _ HBW.out
            have HK := hidd hK
            clear hBel hK o8 i10 f10 p10 n10 hq SQ hm hm2 hl2 hd1 hd2 hou hn1 hn2
            generalize L.length = NL at *
            generalize OU.length = NO at *
            have hmin : min many (NO : Int) = many := by omega
            go_wp2_with fail
            refine (CS.out m mc _ HMW.out HCW.out).mono ?_
            rintro e w11 ⟨rfl, hb11⟩
            have HK11 : Hid (w11.heap[D]? = some (.deferred (some []))) := hidd ((hb11.block D hDl).trans HK.out)
            have HB11 := hidd (below_step HBW.out hb11)
            have HM11 := hidd (HMW.out.below hb11)
            have hD11 : D < w11.heap.size := Nat.lt_of_lt_of_le hDl hb11.size
            clear hb11
            go_wp2_with fail
            refine (CSN.out m _ HM11.out).mono ?_
            rintro e w' ⟨rfl, rfl⟩
            go_wp2_with fail
            refine (cK.out _).mono ?_
            rintro e w12 ⟨rfl, hb12⟩
            have HK12 : Hid (w12.heap[D]? = some (.deferred (some []))) := hidd ((hb12.block D hD11).trans HK11.out)
            have HB12 := hidd (below_step HB11.out hb12)
            obtain ⟨d0, d1, d2⟩ := RC.out _ HB12.out
            clear hb12
            go_wp2_with fail
            have hne : D ≠ w.heap.size + 1 := by have := HS10.out; have := HZ.out; have := HB8.out.size; omega
            have HKS : (w12.setCell ⟨w.heap.size + 1, 0, none⟩ (.bool true)).heap[D]? = some (.deferred (some [])) := (Below.heap_setCell _ _ _ _ hne).trans HK12.out
            have hrc := World.cell?_setCell_same' w12 ⟨w.heap.size + 1, 0, none⟩ (.bool true) (by rw [d1]; rfl)
            have hgp := grownBy_putObj' (w12.setCell ⟨w.heap.size + 1, 0, none⟩ (.bool true)) D (.deferred none)
            have hrp := cell_kept hrc hgp (fun r e => by cases e; exact ⟨_, HKS, rfl⟩)
            refine ⟨by simp, .inl ⟨_, _, rfl, run_takeDeferred HKS, ?_⟩⟩
            refine ⟨.bool true, ?_, rfl, ?_⟩
            · simp [results, Try.results4, go_sem, hrp]
            · have q1 := (HB0.out.trans (HB12.out.mono HB0.out.size)).setCell (p := ⟨w.heap.size + 1, 0, none⟩) (Nat.le_add_right _ _) (.bool true)
              exact q1.grown hgp q1.size (fun k e => by cases e; have := HS10.out; have := HZ.out; have := HB8.out.size; omega)
      · have hLe : L ≠ [] := fun h => by have := hH0'.out h; cases this
        have hl0 : ((L.length : Int) == 0) = false := by
          have := List.length_pos_iff.2 hLe
          exact beq_eq_false_iff_ne.2 (by omega)
        have HX := HX4
        have HMX := HM4
        have HCX := HC4
        clear hLe
        go_wp2_with fail
        refine (CR.out _ HX.out).mono ?_
        rintro e w6 ⟨A5, c5, rfl, hl5, hb6⟩
        obtain ⟨W8, hW8⟩ : ∃ W8, w6.alloc (.cells #[.slice A5 (outs L 0).length c5] 34) = W8 := ⟨_, rfl⟩
        have hs8 : W8.heap.size = w6.heap.size + 1 := by rw [← hW8]; simp
        have hb8 : Below w6.heap.size w6 W8 := by rw [← hW8]; (repeat' (first | (with_reducible exact Below.refl _ _) | (with_reducible assumption) | (with_reducible apply Below.setCell) | (with_reducible apply Below.alloc) | (with_reducible apply Below.drew) | (with_reducible apply below_drewN) | (with_reducible refine Below.trans ?_ (Below.mono (by assumption) ?_)) | omega | (simp; done) | (simp; omega)))
        have o8 : W8.cell? ⟨w6.heap.size, 0, none⟩ = some (.slice A5 (outs L 0).length c5) := by rw [← hW8]; simp [go_sem]
        have HB8 := hidd (below_step (below_step HX.out hb6) hb8)
        have HM8 := hidd ((HMX.out.below hb6).below hb8)
        have HC8 := hidd ((HCX.out.below hb6).below hb8)
        have HL8 := hidd (hl5.below hb8)
        have HW8 := hidd hW8
        have HS8 := hidd hs8
        have hs6 : w6.heap.size < W8.heap.size := by omega
        have hou : (outs L 0).length ≤ 1000000 := by
          have h1 := fromK_len L 0 L.length
          rw [outs_len]
          omega
        clear hl5 hb6 hb8 hW8 hs8
        go_wp2_with fail
        rw [HW8.out]
        refine (CO.out m _).mono ?_
        rintro e w10 ⟨rfl, hw10⟩
        obtain ⟨W10, hW10⟩ : ∃ W10, ((W8.alloc (.cells #[.int .i64 0] 3)).alloc (.cells #[.pointer (some ⟨m, 0, none⟩)] 29)).alloc (.cells #[.int .i64 0] 3) = W10 := ⟨_, rfl⟩
        rw [hW10] at hw10
        subst hw10
        have hs10 : w10.heap.size = W8.heap.size + 3 := by rw [← hW10]; simp
        have hB10 : Below W8.heap.size W8 w10 := by rw [← hW10]; (repeat' (first | (with_reducible exact Below.refl _ _) | (with_reducible assumption) | (with_reducible apply Below.setCell) | (with_reducible apply Below.alloc) | (with_reducible apply Below.drew) | (with_reducible apply below_drewN) | (with_reducible refine Below.trans ?_ (Below.mono (by assumption) ?_)) | omega | (simp; done) | (simp; omega)))
        have i10 : w10.cell? ⟨w6.heap.size + 1, 0, none⟩ = some (.int .i64 0) := by rw [← HS8.out, ← hW10]; simp [go_sem]
        have f10 : w10.frozen? ⟨w6.heap.size + 1, 0, none⟩ = false := by rw [← HS8.out, ← hW10]; simp [go_sem]
        have p10 : w10.cell? ⟨W8.heap.size + 1, 0, none⟩ = some (.pointer (some ⟨m, 0, none⟩)) := by rw [← hW10]; simp [go_sem]
        have n10 : w10.cell? ⟨W8.heap.size + 1 + 1, 0, none⟩ = some (.int .i64 0) := by rw [← hW10]; simp [go_sem]
        have HB10 := hidd hB10
        have HS10 := hidd hs10
        clear hW10 hB10 hs10
        go_wp2_with fail
        refine (wpIn_wide (n := 6)).1 ?_
        have SQ := hidd (Out1_some (6 - 1) w10.heap.size (by omega) (W8.heap.size + 1) (W8.heap.size + 1 + 1) m n hn1 hn2 L (by omega) 0 (inB_iff.2 (by omega)) (HV.out.apart 0) w10 (Nat.le_refl _) (HM8.out.below HB10.out) (by have := HS10.out; omega) p10 (by have := HS10.out; omega) n10)
        generalize outs L 0 = OU at *
        refine wpIn_rangeFunc_ownF rfl (by omega) (gf := 29) (lb := #[.pointer (some ⟨W8.heap.size + 1, 0, none⟩), .pointer (some ⟨W8.heap.size + 1 + 1, 0, none⟩)]) rfl trivial (enters_of Try.func29 (by kernel_rfl) rfl)
          SQ.out KpC.trans (fun W l o o' _ h ho _ => KpC.put W l o o' h ho) (Below.refl _ _) (fun _ => rfl)
          (CpI W8 (w6.heap.size + 1) OU many) (CpX W8 (w6.heap.size + 1) OU many 2) (CpI.own (by have := HS10.out; omega)) (CpX.own (by have := HS10.out; omega))
          ⟨HB10.out, ⟨i10, f10⟩, List.nil_prefix, by simp; omega⟩
          ?a13 ?assign3 ?body3 ?done3 ?stop3
        case assign3 =>
          intro l x W K hK
          gi_wp2
          exact hK
        case body3 =>
          intro l pre x W hI1 hlt
          obtain ⟨hBel, ⟨hic, hif⟩, hpre, hplt⟩ := hI1
          obtain ⟨c0, c1, c2⟩ := RC.out _ (HB8.out.trans (hBel.mono HB8.out.size))
          have o8W := (hBel.cell (p := ⟨w6.heap.size, 0, none⟩) hs6).trans o8
          obtain ⟨ad5, e5, had5, hcell⟩ := (HL8.out.below hBel).int pre.length hlt
          have HPS := hidd (pre_step hpre hlt x)
          have hkl : (pre.length : Int) < (OU.length : Int) := by omega
          have hk0 : (0 : Int) ≤ (pre.length : Int) := by omega
          have HBel := hidd hBel
          have HPRE := hidd hpre
          have hlen1 : Hid (((pre ++ [x]).length : Int) = (pre.length : Int) + 1) := hidd (by simp)
          subst e5
          have zb1 : w.heap.size < w6.heap.size + 1 := by have := HB8.out.size; have := HZ.out; have := HS8.out; omega
          have zb2 : ¬ w.heap.size = w6.heap.size + 1 := by omega
          clear hBel hpre o8 i10 f10 p10 n10 hq
          by_cases hx : x = av OU pre.length
          · have hp1 := hidd (HPS.out.2 hx)
            subst hx
            generalize av OU pre.length = y at *
            by_cases hk : (pre.length : Int) + 1 = many
            · have hkb : ((pre.length : Int) + 1 == many) = true := beq_iff_eq.2 hk
              have HKE := hidd hk
              clear hk
              gi_wp2
              exact ⟨KeepsOthers.setCell _ _ _, .inl ⟨rfl, HBel.out.setCell (p := ⟨w6.heap.size + 1, 0, none⟩) (by show W8.heap.size ≤ w6.heap.size + 1; have := HS8.out; omega) _, ⟨by rw [hlen1.out]; exact World.cell?_setCell_same' _ _ _ (by rw [hic]; rfl), by rw [World.frozen?_setCell]; exact hif⟩, hp1.out, by rw [hlen1.out]; exact HKE.out⟩⟩
            · have hkb : ((pre.length : Int) + 1 == many) = false := beq_eq_false_iff_ne.2 hk
              gi_wp2
              exact ⟨KeepsOthers.setCell _ _ _, KpC.set _ _ _ (by show w6.heap.size + 1 < w10.heap.size; have := HS10.out; have := HS8.out; omega), HBel.out.setCell (p := ⟨w6.heap.size + 1, 0, none⟩) (by show W8.heap.size ≤ w6.heap.size + 1; have := HS8.out; omega) _, ⟨by rw [hlen1.out]; exact World.cell?_setCell_same' _ _ _ (by rw [hic]; rfl), by rw [World.frozen?_setCell]; exact hif⟩, hp1.out, by rw [hlen1.out]; omega⟩
          · have hxb : (x == av OU pre.length) = false := beq_eq_false_iff_ne.2 hx
            have hnp := hidd (fun h => hx (HPS.out.1 h))
            have hxb2 : (x != av OU pre.length) = true := by rw [bne, hxb]; rfl
            generalize av OU pre.length = y at *
            gi_wp2
            exact ⟨KeepsOthers.setCell _ _ _, .inr ⟨rfl, fun h => hnp.out h⟩⟩
        case done3 =>
          rintro D xs W hD hxs ⟨hBel, ⟨hic, hif⟩, _, hplt⟩ hK
          rw [hxs] at hic hplt
          clear hxs hif
          have hDl : D < W.heap.size := (Array.getElem?_eq_some_iff.1 hK).1
          have HBW := hidd (HB8.out.trans (hBel.mono HB8.out.size))
          have HMW := hidd (HM8.out.below hBel)
          have HCW := hidd (HC8.out.below hBel)
          have o8W := (hBel.cell (p := ⟨w6.heap.size, 0, none⟩) hs6).trans o8
          obtain ⟨c0, c1, c2⟩ := RC.out _ HBW.out
          have HK := hidd hK
          clear hBel hK o8 i10 f10 p10 n10 hq SQ hm hm2 hl2 hd1 hd2 hou hn1 hn2
          generalize L.length = NL at *
          generalize OU.length = NO at *
          have hmin : min many (NO : Int) = (NO : Int) := by omega
          go_wp2_with fail
          refine (CS.out m mc _ HMW.out HCW.out).mono ?_
          rintro e w11 ⟨rfl, hb11⟩
          have HK11 : Hid (w11.heap[D]? = some (.deferred (some []))) := hidd ((hb11.block D hDl).trans HK.out)
          have HB11 := hidd (below_step HBW.out hb11)
          have HM11 := hidd (HMW.out.below hb11)
          have hD11 : D < w11.heap.size := Nat.lt_of_lt_of_le hDl hb11.size
          clear hb11
          go_wp2_with fail
          refine (CSN.out m _ HM11.out).mono ?_
          rintro e w' ⟨rfl, rfl⟩
          go_wp2_with fail
          refine (cK.out _).mono ?_
          rintro e w12 ⟨rfl, hb12⟩
          have HK12 : Hid (w12.heap[D]? = some (.deferred (some []))) := hidd ((hb12.block D hD11).trans HK11.out)
          have HB12 := hidd (below_step HB11.out hb12)
          obtain ⟨d0, d1, d2⟩ := RC.out _ HB12.out
          clear hb12
          go_wp2_with fail
          have hne : D ≠ w.heap.size + 1 := by have := HS10.out; have := HZ.out; have := HB8.out.size; omega
          have HKS : (w12.setCell ⟨w.heap.size + 1, 0, none⟩ (.bool true)).heap[D]? = some (.deferred (some [])) := (Below.heap_setCell _ _ _ _ hne).trans HK12.out
          have hrc := World.cell?_setCell_same' w12 ⟨w.heap.size + 1, 0, none⟩ (.bool true) (by rw [d1]; rfl)
          have hgp := grownBy_putObj' (w12.setCell ⟨w.heap.size + 1, 0, none⟩ (.bool true)) D (.deferred none)
          have hrp := cell_kept hrc hgp (fun r e => by cases e; exact ⟨_, HKS, rfl⟩)
          refine ⟨by simp, .inl ⟨_, _, rfl, run_takeDeferred HKS, ?_⟩⟩
          refine ⟨.bool true, ?_, rfl, ?_⟩
          · simp [results, Try.results4, go_sem, hrp]
          · have q1 := (HB0.out.trans (HB12.out.mono HB0.out.size)).setCell (p := ⟨w.heap.size + 1, 0, none⟩) (Nat.le_add_right _ _) (.bool true)
            exact q1.grown hgp q1.size (fun k e => by cases e; have := HS10.out; have := HZ.out; have := HB8.out.size; omega)
        case stop3 =>
          rintro D c pre W hD hSp (⟨rfl, hBel, ⟨hic, hif⟩, hpre, hplt⟩ | ⟨_, hn⟩) hK
          rotate_left
          · exact absurd hSp hn
          have hle : many ≤ (OU.length : Int) := by
            have := hpre.length_le
            omega
          rw [hplt] at hic
          clear hplt hif hpre hSp
          refine wpIn_wide.2 ?_
          have hDl : D < W.heap.size := (Array.getElem?_eq_some_iff.1 hK).1
          have HBW := hidd (HB8.out.trans (hBel.mono HB8.out.size))
          have HMW := hidd (HM8.out.below hBel)
          have HCW := hidd (HC8.out.below hBel)
          have o8W := (hBel.cell (p := ⟨w6.heap.size, 0, none⟩) hs6).trans o8
          obtain ⟨c0, c1, c2⟩ := RC.out _ HBW.out
          have HK := hidd hK
          clear hBel hK o8 i10 f10 p10 n10 hq SQ hm hm2 hl2 hd1 hd2 hou hn1 hn2
          generalize L.length = NL at *
          generalize OU.length = NO at *
          have hmin : min many (NO : Int) = many := by omega
          go_wp2_with fail
          refine (CS.out m mc _ HMW.out HCW.out).mono ?_
          rintro e w11 ⟨rfl, hb11⟩
          have HK11 : Hid (w11.heap[D]? = some (.deferred (some []))) := hidd ((hb11.block D hDl).trans HK.out)
          have HB11 := hidd (below_step HBW.out hb11)
          have HM11 := hidd (HMW.out.below hb11)
          have hD11 : D < w11.heap.size := Nat.lt_of_lt_of_le hDl hb11.size
          clear hb11
          go_wp2_with fail
          refine (CSN.out m _ HM11.out).mono ?_
          rintro e w' ⟨rfl, rfl⟩
          go_wp2_with fail
          refine (cK.out _).mono ?_
          rintro e w12 ⟨rfl, hb12⟩
          have HK12 : Hid (w12.heap[D]? = some (.deferred (some []))) := hidd ((hb12.block D hD11).trans HK11.out)
          have HB12 := hidd (below_step HB11.out hb12)
          obtain ⟨d0, d1, d2⟩ := RC.out _ HB12.out
          clear hb12
          go_wp2_with fail
          have hne : D ≠ w.heap.size + 1 := by have := HS10.out; have := HZ.out; have := HB8.out.size; omega
          have HKS : (w12.setCell ⟨w.heap.size + 1, 0, none⟩ (.bool true)).heap[D]? = some (.deferred (some [])) := (Below.heap_setCell _ _ _ _ hne).trans HK12.out
          have hrc := World.cell?_setCell_same' w12 ⟨w.heap.size + 1, 0, none⟩ (.bool true) (by rw [d1]; rfl)
          have hgp := grownBy_putObj' (w12.setCell ⟨w.heap.size + 1, 0, none⟩ (.bool true)) D (.deferred none)
          have hrp := cell_kept hrc hgp (fun r e => by cases e; exact ⟨_, HKS, rfl⟩)
          refine ⟨by simp, .inl ⟨_, _, rfl, run_takeDeferred HKS, ?_⟩⟩
          refine ⟨.bool true, ?_, rfl, ?_⟩
          · simp [results, Try.results4, go_sem, hrp]
          · have q1 := (HB0.out.trans (HB12.out.mono HB0.out.size)).setCell (p := ⟨w.heap.size + 1, 0, none⟩) (Nat.le_add_right _ _) (.bool true)
            exact q1.grown hgp q1.size (fun k e => by cases e; have := HS10.out; have := HZ.out; have := HB8.out.size; omega)
end Go.Proofs.Ytjnceoklnmmhjaa.Tp
