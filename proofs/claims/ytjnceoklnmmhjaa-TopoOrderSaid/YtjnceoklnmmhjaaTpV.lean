/- Maps: TopoOrder. -/
import Derived.Test.YtjnceoklnmmhjaaTpU
import Derived.Test.YtjnceoklnmmhjaaTpO
import Derived.Test.YtjnceoklnmmhjaaTpK
namespace Go.Proofs.Ytjnceoklnmmhjaa.Tp
set_option linter.unusedVariables false
open Go.RowKit Go.Maps

theorem links_new (w : World) (x : Lk) (q : Nat) (hq : w.heap.size = q) : ∀ j u, (linkV x)[j]? = some u → (w.alloc (.cells #[.int .i64 (fr x), .int .i64 (tw x), .int .i64 (rt x), .int .i64 (sh x), .int .i64 (fa x), .int .i64 (mo x), .int .i64 (ro x), .int .i64 (fi x)] 23)).cell? ((⟨q, 0, none⟩ : Addr).add j) = some u := by
  intro j u hj
  subst hq
  match j, hj with
  | 0, hj | 1, hj | 2, hj | 3, hj | 4, hj | 5, hj | 6, hj | 7, hj => simp [linkV] at hj; subst hj; simp [Addr.add, go_sem]
  | j + 8, hj => simp [linkV] at hj
theorem newRev_any (n : Int) (A : Option Addr) (L : List Lk) (c : Nat) (hL : L.length ≤ 1000000) (hI : WideL L) (w : World) (hA : Lie linkV 8 w w.heap.size A L.reverse) :
    Calls Try.prog 10 #[.int .i64 n, .slice A L.length c] w (NewEnd n L.reverse w) := by
  have := New_any n A L.reverse c (by rw [List.length_reverse]; exact hL) hI.reverse w hA
  rw [List.length_reverse] at this
  exact this
set_option maxRecDepth 100000 in
set_option maxHeartbeats 8000000 in
theorem topoOrder_walk (n : Int) (A : Option Addr) (L : List Lk) (c : Nat) (p0 p1 : Int) (hn : I64 n) (hc : L.length ≤ c) (hc2 : c ≤ maxLen) (hI : WideL L) (h0 : I64 p0) (h1 : I64 p1) (w : World) (hA : Lie linkV 8 w w.heap.size A L) :
    Calls Try.prog 6 #[.int .i64 n, .slice A L.length c, .agg #[.int .i64 p0, .int .i64 p1]] w fun e w' => e = .returned (.bool true) ∧ Below w.heap.size w w' := by
  obtain ⟨i0, hi, hz0, hz1, hz2⟩ := info_parts linkInfo
  have cK := hidd (fun W => known_any W)
  by_cases hlen : 60 < L.length
  · have hl2 : (60 : Int) < (L.length : Int) := by omega
    have hl3 : (L.length : Int) ≤ 9223372036854775807 := by unfold maxLen at hc2; omega
    clear hlen hc hc2 hI hA hn h0 h1
    go_enter Try.func6, Try.ntmps6
    go_wp2_with fail
    refine (cK.out _).mono ?_
    rintro e w1 ⟨rfl, hb⟩
    go_wp2_with fail
    go_ret
    exact ⟨rfl, by (repeat' (first | (with_reducible exact Below.refl _ _) | (with_reducible assumption) | (with_reducible apply Below.setCell) | (with_reducible apply Below.alloc) | (with_reducible apply Below.drew) | (with_reducible apply below_drewN) | (with_reducible refine Below.trans ?_ (Below.mono (by assumption) ?_)) | omega | (simp; done) | (simp; omega)))⟩
  have hl60 : L.length ≤ 60 := by omega
  have hl2 : ¬ (60 : Int) < (L.length : Int) := by omega
  obtain ⟨W0, hW0⟩ : ∃ W0, w.alloc (.cells #[.int .i64 p0, .int .i64 p1] 59) = W0 := ⟨_, rfl⟩
  have hz : W0.heap.size = w.heap.size + 1 := by rw [← hW0]; simp
  have hb0 : Below w.heap.size w W0 := by rw [← hW0]; (repeat' (first | (with_reducible exact Below.refl _ _) | (with_reducible assumption) | (with_reducible apply Below.setCell) | (with_reducible apply Below.alloc) | (with_reducible apply Below.drew) | (with_reducible apply below_drewN) | (with_reducible refine Below.trans ?_ (Below.mono (by assumption) ?_)) | omega | (simp; done) | (simp; omega)))
  have q0 : W0.cell? ⟨w.heap.size, 0, none⟩ = some (.int .i64 p0) := by rw [← hW0]; simp [go_sem]
  have q1 : W0.cell? ⟨w.heap.size, 1, none⟩ = some (.int .i64 p1) := by rw [← hW0]; simp [go_sem]
  have AT := hidd (fun W (h : Below W0.heap.size W0 W) => show W.cell? ⟨w.heap.size, 0, none⟩ = some (.int .i64 p0) ∧ W.cell? ⟨w.heap.size, 1, none⟩ = some (.int .i64 p1) from ⟨(h.cell (p := ⟨w.heap.size, 0, none⟩) (show w.heap.size < W0.heap.size by omega)).trans q0, (h.cell (p := ⟨w.heap.size, 1, none⟩) (show w.heap.size < W0.heap.size by omega)).trans q1⟩)
  have HA := hidd (hA.below hb0)
  have HB0 := hidd hb0
  have HZ := hidd hz
  have HW := hidd hW0
  have HI := hidd hI
  have HP := hidd (And.intro h0 h1)
  have CN := hidd (fun k (W : World) (h : Below W0.heap.size W0 W) => New_any k A L c (by omega) hI W (HA.out.below h))
  have CR := hidd (fun A' c' (W : World) (h : Lie linkV 8 W W.heap.size A' L.reverse) => newRev_any n A' L c' (by omega) hI W h)
  clear hz hb0 q0 q1 hW0 hA hc hc2 hlen hI h0 h1 hn
  go_enter Try.func6, Try.ntmps6
  go_wp2_with fail
  rw [HW.out]
  go_loopg [7, 8] (L.length + 2) (fun g s7 s8 wr => ∃ (k : Nat) (j : Int), k ≤ L.length ∧ k + g = L.length + 2 ∧ j + k + 1 = L.length ∧ s8 = .int .i64 j ∧ OwnL linkV 8 wr W0.heap.size 23 s7 (L.reverse.take k) ∧ Below W0.heap.size W0 wr)
  case atStart => exact ⟨0, _, by omega, by omega, by omega, rfl, OwnL.nil _ _ _, Below.refl _ _⟩
  case round =>
    obtain ⟨k, j, hk1, hg, hj, rfl, hO, hB⟩ := hrel
    obtain ⟨A7, c7, rfl, _, _, hl7⟩ := hO.lie linkV_len
    have htl : (L.reverse.take k).length = k := by rw [List.length_take, List.length_reverse]; omega
    have HG := hidd hg
    have HB := hidd hB
    have hsz := hB.size
    have hO1 : wr.ownsRow W0.heap.size 23 8 (.slice A7 k c7) k (rowOf linkV (L.reverse.take k)) := by
      have := hO
      unfold OwnL at this
      rw [htl] at this
      exact this
    have HO1 := hidd hO1
    rw [htl]
    clear hg hO hB hO1
    by_cases hin : k < L.length
    · obtain ⟨d, rfl⟩ : ∃ d : Nat, j = (d : Int) := ⟨j.toNat, by omega⟩
      have hd : d < L.length := by omega
      have hd2 : (d : Int) < (L.length : Int) := by omega
      have hd0 : (0 : Int) ≤ (d : Int) := by omega
      have hdd : ¬ (d : Int) < 0 := by omega
      obtain ⟨ad, rfl, ha, x0, x1, x2, x3, x4, x5, x6, x7⟩ := (HA.out.below HB.out).link d hd
      have HT := hidd (rev_take (L := L) (k := k) (d := d) (by omega))
      have hsr := links_new wr (lkAt L d) wr.heap.size rfl
      have hrv : rowOf linkV [lkAt L d] = linkV (lkAt L d) := by simp [rowOf]
      have HONE := hidd (linkV_one (lkAt L d))
      have hll := linkV_len (lkAt L d)
      have hst : ∀ w1 v', w1.ownsRow W0.heap.size 23 8 v' (k + 1) (rowOf linkV (L.reverse.take k) ++ linkV (lkAt L d)) → OwnL linkV 8 w1 W0.heap.size 23 v' (L.reverse.take (k + 1)) := fun w1 v' h => by
        rw [HT.out]
        exact OwnL.snoc h (by rw [htl]) rfl
      have HST := hidd hst
      generalize hLV : linkV (lkAt L d) = LV at *
      generalize rowOf linkV (L.reverse.take k) = RV at *
      clear hrv hst hLV
      generalize fr (lkAt L d) = a0 at *
      generalize tw (lkAt L d) = a1 at *
      generalize rt (lkAt L d) = a2 at *
      generalize sh (lkAt L d) = a3 at *
      generalize fa (lkAt L d) = a4 at *
      generalize mo (lkAt L d) = a5 at *
      generalize ro (lkAt L d) = a6 at *
      generalize fi (lkAt L d) = a7 at *
      obtain ⟨W2, hW2⟩ : ∃ W2, wr.alloc (.cells #[.int .i64 a0, .int .i64 a1, .int .i64 a2, .int .i64 a3, .int .i64 a4, .int .i64 a5, .int .i64 a6, .int .i64 a7] 23) = W2 := ⟨_, rfl⟩
      have hO2 : W2.ownsRow W0.heap.size 23 8 (.slice A7 k c7) k RV := by rw [← hW2]; exact World.ownsRow.alloc HO1.out _
      rw [hW2] at hsr
      have hB2 : Below W0.heap.size W0 W2 := by rw [← hW2]; exact below_new HB.out _
      have hs2 : W2.heap.size = wr.heap.size + 1 := by rw [← hW2]; simp
      have HO2 := hidd hO2
      have HSR : Hid (0 < 1 → ∃ ad', some (⟨wr.heap.size, 0, none⟩ : Addr) = some ad' ∧ ∀ j u, LV[j]? = some u → W2.cell? (ad'.add j) = some u) := hidd (fun _ => ⟨_, rfl, hsr⟩)
      have HLL : Hid (LV.length = 1 * 8) := hidd hll
      have hmax : Hid (k + 1 ≤ maxLen) := hidd (by unfold maxLen; omega)
      have hby : Hid ((k + 1) * 64 ≤ 140737488355328) := hidd (by omega)
      have hbase : Hid (W0.heap.size ≤ W2.heap.size) := hidd hB2.size
      have HB2 := hidd hB2
      have HW2 := hidd hW2
      have HIO : Hid (wr.ownsRow W0.heap.size 23 8 (.slice A7 k c7) k RV) := HO1
      have HLT : Hid (∀ k', Value.ownBlock (.slice A7 k c7) = some k' → W0.heap.size ≤ k') := hidd (fun k' e => (World.ownsRow.lt HO2.out k' e).1)
      clear hsr hll hO2 hB2 hs2 hW2 hl7 HO1 HIO
      go_wp2_with (first | (at_builtin; rw [HW2.out]; refine wpList_append_some rfl _ _ 28 rfl W0.heap.size 23 i0 (.agg #[.int .i64 0, .int .i64 0, .int .i64 0, .int .i64 0, .int .i64 0, .int .i64 0, .int .i64 0, .int .i64 0]) 8 64 Try.underlying28 hi hz0 hz1 hz2 rfl (by decide) (.slice A7 k c7) k RV rfl HO2.out (some ⟨wr.heap.size, 0, none⟩) 1 1 LV rfl HLL.out HSR.out HONE.out hmax.out hby.out hbase.out ?_; intro v' w1 hown' hgrow hor; have HO3 := hidd hown'; have HG3 := hidd hgrow; clear hown' hgrow hor) | fail)
      have hg := HG.out
      go_roundg (gk - 1)
      case measure => omega
      case rel => exact ⟨k + 1, (d : Int) - 1, by omega, by omega, by omega, by first | rfl | go_num, HST.out _ _ HO3.out, HB2.out.grown HG3.out hbase.out (fun k' e => HLT.out k' e)⟩
    · have hk : k = L.length := by omega
      have hj1 : j = -1 := by omega
      subst hj1
      have htk : L.reverse.take k = L.reverse := List.take_of_length_le (by rw [List.length_reverse]; omega)
      rw [htk] at hl7
      have HL7 := hidd hl7
      rw [hk]
      clear HO1 hl7 htl htk hj hk1 hin hk
      obtain ⟨a0, a1⟩ := AT.out _ HB.out
      go_wp2_with fail
      refine (CN.out n _ HB.out).mono ?_
      rintro e w1 (⟨hE, rfl, hb1⟩ | ⟨hE, m1, rfl, hm1, _, hb1⟩)
      · -- there is no map
        have HB1 := hidd (below_step HB.out hb1)
        have HL1 := hidd (HL7.out.below hb1)
        clear hb1
        go_wp2_with fail
        refine (CR.out _ _ _ HL1.out).mono ?_
        rintro e w2 (⟨_, rfl, hb2⟩ | ⟨hE2, _⟩)
        · have HB2 := hidd (below_step HB1.out hb2)
          have hrv := hidd (errN_reverse n L)
          clear hb2
          rw [hrv.out]
          generalize errN n L = R at *
          have hR : (R == 0) = false := beq_eq_false_iff_ne.2 hE
          go_wp2_with fail
          refine (cK.out _).mono ?_
          rintro e w3 ⟨rfl, hb3⟩
          have HB3 := hidd (below_step HB2.out hb3)
          clear hb3
          go_wp2_with fail
          go_ret
          exact ⟨rfl, HB0.out.trans (HB3.out.mono HB0.out.size)⟩
        · rw [errN_reverse] at hE2
          exact absurd hE2 hE
      · have HB1 := hidd (below_step HB.out hb1)
        have HL1 := hidd (HL7.out.below hb1)
        have HM1 := hidd hm1
        have HV := hidd (valid_of hE)
        clear hb1 hm1
        go_wp2_with fail
        refine (CR.out _ _ _ HL1.out).mono ?_
        rintro e w2 (⟨hE2, _⟩ | ⟨hE2, m2, rfl, hm2, _, hb2⟩)
        · rw [errN_reverse] at hE2
          exact absurd hE hE2
        have HB2 := hidd (below_step HB1.out hb2)
        have HM1 := hidd (HM1.out.below hb2)
        have HM2 := hidd hm2
        obtain ⟨a0, a1⟩ := AT.out _ HB2.out
        have hn1 : 1 ≤ n := HV.out.lo
        have hn2 : n ≤ 16 := HV.out.hi
        have c1 := hidd (Between_yes m1 n hn1 L HI.out p0 p1 HP.out.1 HP.out.2 w2 HM1.out)
        have c2 := hidd (Between_yes m2 n hn1 L.reverse HI.out.reverse p0 p1 HP.out.1 HP.out.2 w2 HM2.out)
        have hmr : decide ((p0, p1) ∈ endsL L.reverse) = decide ((p0, p1) ∈ endsL L) := decide_eq_decide.2 mem_rev
        rw [hmr] at c2
        have HFI : Hid ((p0, p1) ∈ endsL L → ∃ k, k < L.length ∧ ends1 (lkAt L k) = (p0, p1) ∧ lastAt (endsL L) (p0, p1) (endsL L).length = (k : Int) ∧ lastAt (endsL L.reverse) (p0, p1) (endsL L.reverse).length = ((L.length - 1 - k : Nat) : Int)) := hidd (fun h => lastAt_rev HV.out h)
        have CB := hidd (fun (mc : Nat) (n' : Int) (hn' : 1 ≤ n') (W : World) (h : MapAt W mc n' L) => Between_yes mc n' hn' L HI.out p0 p1 HP.out.1 HP.out.2 W h)
        have CL1 := hidd (fun k (hk : k < L.length) W (h : MapAt W m1 n L) => Link_in m1 n hn1 L (by omega) k hk W h)
        have CL2 := hidd (fun k (hk : k < L.length) W (h : MapAt W m2 n L.reverse) => Link_in m2 n hn1 L.reverse (by rw [List.length_reverse]; omega) k (by rw [List.length_reverse]; exact hk) W h)
        generalize lastAt (endsL L) (p0, p1) (endsL L).length = V1 at *
        generalize lastAt (endsL L.reverse) (p0, p1) (endsL L.reverse).length = V2 at *
        obtain ⟨B, hB'⟩ : ∃ B, decide ((p0, p1) ∈ endsL L) = B := ⟨_, rfl⟩
        have HBB := hidd hB'
        rw [hB'] at c1 c2 CB
        clear hb2 hm2 hmr hB' hE hE2
        -- the rest, behind what is told of the two maps
        have TAIL : Hid (∀ (X : World), Below W0.heap.size W0 X → Calls Try.prog 10 #[.int .i64 (n + 1), .slice A L.length c] X (NewEnd (n + 1) L X)) := hidd (fun X h => CN.out (n + 1) X h)
        cases B
        · go_wp2_with fail
          refine c1.out.mono ?_
          rintro e w' ⟨rfl, rfl⟩
          go_wp2_with fail
          refine c2.out.mono ?_
          rintro e w' ⟨rfl, rfl⟩
          go_wp2_with fail
          have HX := HB2
          refine (TAIL.out _ HX.out).mono ?_
          rintro e w9 (⟨hE9, rfl, hb9⟩ | ⟨hE9, mc, rfl, hmc, _, hb9⟩)
          · have HB9 := hidd (below_step HX.out hb9)
            have hn16 : n = 16 := by
              by_cases h : n < 16
              · exact absurd (valid_to (HV.out.more h)) hE9
              · omega
            have hnn : (n == 16) = true := by rw [hn16]; rfl
            have HN := hidd hn16
            clear hb9 hn16
            generalize errN (n + 1) L = R9 at *
            have hR9 : (R9 == 0) = false := beq_eq_false_iff_ne.2 hE9
            go_wp2_with fail
            refine (cK.out _).mono ?_
            rintro e w10 ⟨rfl, hb10⟩
            have HB10 := hidd (below_step HB9.out hb10)
            clear hb10
            go_wp2_with fail
            go_ret
            exact ⟨by first | rfl | simp, HB0.out.trans (HB10.out.mono HB0.out.size)⟩
          · have HB9 := hidd (below_step HX.out hb9)
            have HMC := hidd hmc
            obtain ⟨t0, t1⟩ := AT.out _ HB9.out
            clear hb9 hmc
            go_wp2_with fail
            refine (CB.out mc (n + 1) (by omega) _ HMC.out).mono ?_
            rintro e w' ⟨rfl, rfl⟩
            go_wp2_with fail
            refine (Len_yes mc (n + 1) (by omega) L _ HMC.out).mono ?_
            rintro e w' ⟨rfl, rfl⟩
            go_wp2_with fail
            refine (cK.out _).mono ?_
            rintro e w10 ⟨rfl, hb10⟩
            have HB10 := hidd (below_step HB9.out hb10)
            clear hb10
            go_wp2_with fail
            go_ret
            exact ⟨by first | rfl | simp, HB0.out.trans (HB10.out.mono HB0.out.size)⟩
        · obtain ⟨k, hk, hke, rfl, rfl⟩ := HFI.out (of_decide_eq_true HBB.out)
          have hks : Hid (((L.length - 1 - k : Nat) : Int) = (L.length : Int) - 1 - k) := hidd (by omega)
          have hsumB : ((k : Int) + ((L.length - 1 - k : Nat) : Int) != (L.length : Int) - 1) = false := by rw [hks.out]; simp; omega
          go_wp2_with fail
          refine c1.out.mono ?_
          rintro e w' ⟨rfl, rfl⟩
          go_wp2_with fail
          refine c2.out.mono ?_
          rintro e w' ⟨rfl, rfl⟩
          go_wp2_with fail
          have cl1 := CL1.out k hk w2 HM1.out
          have HCL2 := hidd (fun W (h : MapAt W m2 n L.reverse) => CL2.out (L.length - 1 - k) (by omega) W h)
          rw [lkAt_rev hk] at HCL2
          unfold linkA at cl1 HCL2
          have e0 : fr (lkAt L k) = p0 := congrArg Prod.fst hke
          have e1 : tw (lkAt L k) = p1 := congrArg Prod.snd hke
          rw [e0, e1] at cl1 HCL2
          clear hke e0 e1
          generalize rt (lkAt L k) = b2 at *
          generalize sh (lkAt L k) = b3 at *
          generalize fa (lkAt L k) = b4 at *
          generalize mo (lkAt L k) = b5 at *
          generalize ro (lkAt L k) = b6 at *
          generalize fi (lkAt L k) = b7 at *
          refine cl1.mono ?_
          rintro e w3 ⟨rfl, hb3⟩
          have HB3 := hidd (below_step HB2.out hb3)
          have HM2' := hidd ((HM2.out.below hb3).below (below_new (Below.refl w3.heap.size w3) (.cells #[.int .i64 p0, .int .i64 p1, .int .i64 b2, .int .i64 b3, .int .i64 b4, .int .i64 b5, .int .i64 b6, .int .i64 b7] 23)))
          clear hb3
          go_wp2_with fail
          refine (HCL2.out _ HM2'.out).mono ?_
          rintro e w4 ⟨rfl, hb4⟩
          have zy : w3.heap.size < w4.heap.size := by have := hb4.size; simp at this; omega
          have nzy : ¬ w3.heap.size = w4.heap.size := by omega
          have hbx := below_step (below_new HB3.out (.cells #[.int .i64 p0, .int .i64 p1, .int .i64 b2, .int .i64 b3, .int .i64 b4, .int .i64 b5, .int .i64 b6, .int .i64 b7] 23)) hb4
          have zya : w.heap.size < w4.heap.size := by have := hbx.size; have := HZ.out; omega
          have nza : ¬ w.heap.size = w4.heap.size := by omega
          have HX := hidd (below_new hbx (.cells #[.int .i64 p0, .int .i64 p1, .int .i64 b2, .int .i64 b3, .int .i64 b4, .int .i64 b5, .int .i64 b6, .int .i64 b7] 23))
          obtain ⟨a0, a1⟩ := AT.out _ hbx
          have y0 : w4.cell? ⟨w3.heap.size, 0, none⟩ = some (.int .i64 p0) := (hb4.cell (p := ⟨w3.heap.size, 0, none⟩) (by simp)).trans (by simp [go_sem])
          have y1 : w4.cell? ⟨w3.heap.size, 1, none⟩ = some (.int .i64 p1) := (hb4.cell (p := ⟨w3.heap.size, 1, none⟩) (by simp)).trans (by simp [go_sem])
          have y2 : w4.cell? ⟨w3.heap.size, 2, none⟩ = some (.int .i64 b2) := (hb4.cell (p := ⟨w3.heap.size, 2, none⟩) (by simp)).trans (by simp [go_sem])
          have y3 : w4.cell? ⟨w3.heap.size, 3, none⟩ = some (.int .i64 b3) := (hb4.cell (p := ⟨w3.heap.size, 3, none⟩) (by simp)).trans (by simp [go_sem])
          have y4 : w4.cell? ⟨w3.heap.size, 4, none⟩ = some (.int .i64 b4) := (hb4.cell (p := ⟨w3.heap.size, 4, none⟩) (by simp)).trans (by simp [go_sem])
          have y5 : w4.cell? ⟨w3.heap.size, 5, none⟩ = some (.int .i64 b5) := (hb4.cell (p := ⟨w3.heap.size, 5, none⟩) (by simp)).trans (by simp [go_sem])
          have y6 : w4.cell? ⟨w3.heap.size, 6, none⟩ = some (.int .i64 b6) := (hb4.cell (p := ⟨w3.heap.size, 6, none⟩) (by simp)).trans (by simp [go_sem])
          have y7 : w4.cell? ⟨w3.heap.size, 7, none⟩ = some (.int .i64 b7) := (hb4.cell (p := ⟨w3.heap.size, 7, none⟩) (by simp)).trans (by simp [go_sem])
          have hne := fun W => same_ne p0 p1 b2 b3 b4 b5 b6 b7 p0 p1 b2 b3 b4 b5 b6 b7 W
          have hsm := fun W => same_run p0 p1 b2 b3 b4 b5 b6 b7 p0 p1 b2 b3 b4 b5 b6 b7 W
          rw [sameB_iff.2 rfl] at hne hsm
          clear hb4 hbx cl1
          go_wp2_with fail
          refine (TAIL.out _ HX.out).mono ?_
          rintro e w9 (⟨hE9, rfl, hb9⟩ | ⟨hE9, mc, rfl, hmc, _, hb9⟩)
          · have HB9 := hidd (below_step HX.out hb9)
            have hn16 : n = 16 := by
              by_cases h : n < 16
              · exact absurd (valid_to (HV.out.more h)) hE9
              · omega
            have hnn : (n == 16) = true := by rw [hn16]; rfl
            have HN := hidd hn16
            clear hb9 hn16
            generalize errN (n + 1) L = R9 at *
            have hR9 : (R9 == 0) = false := beq_eq_false_iff_ne.2 hE9
            go_wp2_with fail
            refine (cK.out _).mono ?_
            rintro e w10 ⟨rfl, hb10⟩
            have HB10 := hidd (below_step HB9.out hb10)
            clear hb10
            go_wp2_with fail
            go_ret
            exact ⟨by first | rfl | simp, HB0.out.trans (HB10.out.mono HB0.out.size)⟩
          · have HB9 := hidd (below_step HX.out hb9)
            have HMC := hidd hmc
            obtain ⟨t0, t1⟩ := AT.out _ HB9.out
            clear hb9 hmc
            go_wp2_with fail
            refine (CB.out mc (n + 1) (by omega) _ HMC.out).mono ?_
            rintro e w' ⟨rfl, rfl⟩
            go_wp2_with fail
            refine (Len_yes mc (n + 1) (by omega) L _ HMC.out).mono ?_
            rintro e w' ⟨rfl, rfl⟩
            go_wp2_with fail
            refine (cK.out _).mono ?_
            rintro e w10 ⟨rfl, hb10⟩
            have HB10 := hidd (below_step HB9.out hb10)
            clear hb10
            go_wp2_with fail
            go_ret
            exact ⟨by first | rfl | simp, HB0.out.trans (HB10.out.mono HB0.out.size)⟩
end Go.Proofs.Ytjnceoklnmmhjaa.Tp
