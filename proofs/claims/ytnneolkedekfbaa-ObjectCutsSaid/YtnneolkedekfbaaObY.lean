/- Objects: the walk of ObjectCuts. -/
import Derived.Test.YtnneolkedekfbaaObX
import Derived.Test.YtnneolkedekfbaaRowD
namespace Go.Proofs.Ytnneolkedekfbaa
set_option linter.unusedVariables false
open Go.RowKit Go.Proofs.Ytnneolkedekfbaa.RowK
set_option maxRecDepth 100000 in
set_option maxHeartbeats 16000000 in
theorem cuts_walk (A : Option Addr) (l : List Ob) (c : Nat) (a : Int) (hlc : l.length ≤ c) (hcm : c ≤ maxLen) (hwide : Wide l) (ha0 : -9223372036854775808 ≤ a) (ha1 : a ≤ 9223372036854775807) (w : World) (hl : Obs w (· < w.heap.size) A l) :
    Calls Try.prog 5 #[.slice A l.length c, .int .i64 a] w fun e w' => e = .returned (.bool true) ∧ Below w.heap.size w w' := by
  have hm : l.length ≤ 9223372036854775807 := by simp only [maxLen] at hcm; omega
  have hw : ∀ o ∈ l, o.ws.length ≤ 9223372036854775807 := fun o ho => by have := (hwide o ho).1; simp only [maxLen] at this; omega
  have HL := hidd hl
  have HW := hidd hw
  have CF := hidd (few_any A l c hm w hl)
  have CR := hidd (fun W h => Raw_got A l c hm hw W h)
  have CK := hidd (fun W => known_any W)
  have HCM := hidd hcm
  clear hl hw hm hwide hcm
  go_enter Try.func5, Try.ntmps5
  go_wp2_with fail
  refine CF.out.mono ?_
  rintro e w1 ⟨R, rfl, hR, hb1⟩
  have HB1 := hidd hb1
  have HR := hidd hR
  clear hb1 hR
  cases R
  · go_wp2_with fail
    refine (CK.out _).mono ?_
    rintro e w2 ⟨rfl, hb2⟩
    have HB2 := hidd (below_step HB1.out hb2)
    clear hb2
    go_wp2_with fail
    go_ret
    exact ⟨rfl, HB2.out⟩
  obtain ⟨h45, h70⟩ := HR.out.1 rfl
  have H70 := hidd h70
  clear h70
  go_wp2_with fail
  refine (CR.out _ (HL.out.below HB1.out)).mono ?_
  rintro e w2 ⟨Ab, n, cb, k, rfl, hb2, hres⟩
  have HB2 := hidd (below_step HB1.out hb2)
  have HRES := hidd hres
  clear hb2 hres
  by_cases hall : allR l ∧ l.length ≤ 40
  rotate_left
  · have hk : ¬ k = 0 := by
      rcases HRES.out with ⟨h1, h2, _⟩ | ⟨_, _, h3⟩ | ⟨_, _, _, h3⟩
      · exact absurd ⟨h1, h2⟩ hall
      · omega
      · omega
    go_wp2_with fail
    refine (CK.out _).mono ?_
    rintro e w3 ⟨rfl, hb3⟩
    have HB3 := hidd (below_step HB2.out hb3)
    clear hb3
    go_wp2_with fail
    go_ret
    exact ⟨rfl, HB3.out⟩
  obtain ⟨hn, hnc, hcbm, rfl, hlb⟩ : n = (rawAll l).length ∧ n ≤ cb ∧ cb ≤ maxLen ∧ k = 0 ∧ LieQ byV 1 w2 (fun q => w1.heap.size ≤ q ∧ q < w2.heap.size) Ab (rawAll l) := by
    rcases HRES.out with ⟨_, _, h1, h2, h3, h4, h5⟩ | ⟨h, _⟩ | ⟨_, h, _⟩
    · exact ⟨h1, h2, h3, h4, h5⟩
    · exact absurd hall.1 h
    · exact absurd hall.2 h
  have HALL := hidd hall.1
  have h40 := hall.2
  have HN := hidd hn
  have hln := rawAll_len70 H70.out
  rw [← hn] at hln
  have hn64 : n ≤ 65536 := by omega
  have HLB := hidd (show LieQ byV 1 w2 (· < w2.heap.size) Ab (rawAll l) from hlb.to (fun q hq => ⟨hq.2, rfl⟩))
  have HCB := hidd hcbm
  clear hall hn hlb hln hcbm HRES
  by_cases han : 0 ≤ a ∧ a ≤ (n : Int)
  rotate_left
  · by_cases hneg : a < 0
    · go_wp2_with fail
      refine (CK.out _).mono ?_
      rintro e w3 ⟨rfl, hb3⟩
      have HB3 := hidd (below_step HB2.out hb3)
      clear hb3
      go_wp2_with fail
      go_ret
      exact ⟨rfl, HB3.out⟩
    · have hgt : (n : Int) < a := by omega
      go_wp2_with fail
      refine (CK.out _).mono ?_
      rintro e w3 ⟨rfl, hb3⟩
      have HB3 := hidd (below_step HB2.out hb3)
      clear hb3
      go_wp2_with fail
      go_ret
      exact ⟨rfl, HB3.out⟩
  obtain ⟨k, rfl⟩ : ∃ k : Nat, a = (k : Int) := ⟨a.toNat, by omega⟩
  have hkn : k ≤ n := by omega
  have hk0 : ¬ (k : Int) < 0 := by omega
  have hk1 : ¬ (n : Int) < (k : Int) := by omega
  clear han ha0 ha1
  go_wp2_with fail
  go_loopg [7, 8] (l.length + 1) (fun g s7 s8 wr => ∃ i : Nat, i ≤ l.length ∧ i + g = l.length + 1 ∧ s8 = .int .i64 (i : Int) ∧ s7 = .int .i64 ((rawAll (l.take i)).length : Int) ∧ (∀ j, j < i → (rawAll (l.take j)).length ≠ k) ∧ wr = w2)
  case atStart => exact ⟨0, by omega, by omega, by first | rfl | simp, by simp [rawAll], fun j hj => absurd hj (by omega), rfl⟩
  case round =>
    obtain ⟨i, hi, hg, rfl, rfl, hne, rfl⟩ := hrel
    have HG := hidd hg
    have HNE := hidd hne
    clear hg hne
    by_cases hil : i < l.length
    · have hil2 : (i : Int) < (l.length : Int) := by omega
      have HCUT := hidd (raw_cut l i)
      have HSUM := hidd (show rawAll l = rawAll (l.take i) ++ rawAll (l.drop i) by rw [← rawAll_app, List.take_append_drop])
      have hdl : 4 ≤ (rawAll (l.drop i)).length := by
        have := rawAll_take (l := l.drop i) (i := 0) (by rw [List.length_drop]; omega)
        have h2 : (rawAll (l.drop i)).length = (rawAll ((l.drop i).take 1)).length + (rawAll ((l.drop i).drop 1)).length := by rw [← List.length_append, ← rawAll_app, List.take_append_drop]
        rw [this] at h2
        rw [h2, List.length_append, rawO_len]; omega
      have hnl : (rawAll (l.take i)).length + (rawAll (l.drop i)).length = n := by rw [HN.out, HSUM.out, List.length_append]
      by_cases hik : (rawAll (l.take i)).length = k
      · obtain ⟨bd, rfl, -, -⟩ := HLB.out (by rw [← HN.out]; omega)
        obtain ⟨ad, rfl, -, -⟩ := HL.out.1 (by omega)
        have HOL := hidd (HL.out.below HB2.out)
        obtain ⟨r1, r2⟩ := HCUT.out
        rw [hik] at r1 r2
        have HP1 := hidd (Parse_good (some bd) ((rawAll l).take k) k cb (by rw [List.length_take, ← HN.out]; omega) (l.take i) r1 (fun o ho => HALL.out o (List.mem_of_mem_take ho)) (by rw [List.length_take]; omega) (by rw [List.length_take]; omega) (by rw [List.length_take]; omega) HCB.out wr (HLB.out.takeQ k))
        have HP2 := hidd (fun W (h : Below wr.heap.size wr W) => Parse_good (some (bd.add k)) ((rawAll l).drop k) (n - k) (cb - k) (by rw [List.length_drop, ← HN.out]) (l.drop i) r2 (fun o ho => HALL.out o (List.mem_of_mem_drop ho)) (by rw [List.length_drop]; omega) (by rw [List.length_drop, ← HN.out]; omega) (by rw [List.length_drop, ← HN.out]; omega) (by have := HCB.out; omega) W (by have q := (LieQ.below HLB.out h).dropQ k; rwa [Nat.mul_one] at q))
        have hki : ((rawAll (l.take i)).length : Int) = (k : Int) := by omega
        have hkc : k ≤ cb := by omega
        have hnkc : ¬ cb = k := by omega
        have hic : i ≤ c := by omega
        have hnic : ¬ c = i := by omega
        rw [hki]
        clear hik r1 r2 hki hdl hnl
        go_wp2_with fail
        refine HP1.out.mono ?_
        rintro e w3 ⟨hb3, os, A3, c3, hk3, rfl, ho3⟩
        have HB3 := hidd hb3
        have HO3 := hidd ho3
        have HK3 := hidd hk3
        clear hb3 ho3 hk3
        go_wp2_with fail
        refine (HP2.out _ HB3.out).mono ?_
        rintro e w4 ⟨hb4, ot, A4, c4, hk4, rfl, ho4⟩
        have HO34 := hidd (HO3.out.below hb4)
        have HB4 := hidd (below_step HB3.out hb4)
        have HO4 := hidd ho4
        have HK4 := hidd hk4
        clear hb4 ho4 hk4
        have HS1 := hidd (same_at A3 os os.length c3 (some ad) (l.take i) i c rfl (by rw [List.length_take]; omega) HK3.out (by have q := key_len HK3.out; rw [List.length_take] at q; omega) (fun o ho => HW.out o (List.mem_of_mem_take ho)) w4 HO34.out ((HOL.out.below HB4.out).takeO i))
        go_wp2_with fail
        refine HS1.out.mono ?_
        rintro e w5 ⟨rfl, hb5⟩
        have HB5 := hidd (below_step HB4.out hb5)
        have HS2 := hidd (same_at A4 ot ot.length c4 (some (ad.add (i * 3))) (l.drop i) (l.length - i) (c - i) rfl (by rw [List.length_drop]) HK4.out (by have q := key_len HK4.out; rw [List.length_drop] at q; omega) (fun o ho => HW.out o (List.mem_of_mem_drop ho)) w5 (HO4.out.below hb5) ((HOL.out.below HB5.out).dropO i))
        clear hb5
        go_wp2_with fail
        refine HS2.out.mono ?_
        rintro e w6 ⟨rfl, hb6⟩
        have HB6 := hidd (below_step HB5.out hb6)
        clear hb6
        go_wp2_with fail
        refine (CK.out _).mono ?_
        rintro e w7 ⟨rfl, hb7⟩
        have HB7 := hidd (below_step HB2.out (below_step HB6.out hb7))
        clear hb7
        go_wp2_with fail
        go_ret
        exact ⟨by first | rfl | simp, HB7.out⟩
      · have hOA := HL.out.below HB2.out
        obtain ⟨ad, rfl, ha, x0, x1, x2⟩ := hOA.at_ i hil
        obtain ⟨Ai, ki, hva, hla⟩ := hOA.2 l[i] (List.getElem_mem hil)
        have h70 := H70.out l[i] (List.getElem_mem hil)
        rw [hva, add_plain3 ad i 1] at x2
        have hrl := rawO_len l[i]
        have hta := congrArg List.length (rawAll_take hil)
        rw [List.length_append, hrl] at hta
        have HNE2 := hidd (show ∀ j, j < i + 1 → (rawAll (l.take j)).length ≠ k from fun j hj => by
          by_cases e : j = i
          · rw [e]; exact hik
          · exact HNE.out j (by omega))
        have hiki : ¬ ((rawAll (l.take i)).length : Int) = (k : Int) := by omega
        have HTA := hidd hta
        generalize (rawAll (l.take i)).length = N at *
        generalize l[i].ws = ws at *
        have ew : IntKind.i64.wrap ((i : Int) + 1) = (i : Int) + 1 := IntWalk.i64_in _ (by omega)
        have e1 : IntKind.i64.wrap ((N : Int) + 4) = (N : Int) + 4 := IntWalk.i64_in _ (by omega)
        have e2 : IntKind.i64.wrap (4 * (ws.length : Int)) = 4 * (ws.length : Int) := IntWalk.i64_in _ (by omega)
        have e3 : IntKind.i64.wrap ((N : Int) + 4 + 4 * (ws.length : Int)) = (N : Int) + 4 + 4 * (ws.length : Int) := IntWalk.i64_in _ (by omega)
        clear hik hOA hva hla x0 x1 hrl hta hdl hnl HCUT HSUM HNE
        go_wp2_with fail
        have hg := HG.out
        go_roundg (gk - 1)
        case measure => omega
        case rel => exact ⟨i + 1, by omega, by omega, by go_num, by rw [HTA.out]; go_num, HNE2.out, rfl⟩
    · obtain rfl : i = l.length := by omega
      have hil2 : ¬ (l.length : Int) < (l.length : Int) := by omega
      have hkc : k ≤ cb := by omega
      have HOL := hidd (HL.out.below HB2.out)
      rw [List.take_length, ← HN.out]
      by_cases hkn2 : k = n
      · have HP1 := hidd (Parse_good Ab (rawAll l) k cb (by rw [← HN.out]; omega) l rfl HALL.out h40 (by rw [← HN.out]; omega) (by rw [← HN.out]; omega) HCB.out wr HLB.out)
        have hki : (n : Int) = (k : Int) := by omega
        clear hkn2
        go_wp2_with fail
        refine HP1.out.mono ?_
        rintro e w3 ⟨hb3, os, A3, c3, hk3, rfl, ho3⟩
        have HB3 := hidd hb3
        have HS1 := hidd (same_at A3 os os.length c3 A l l.length c rfl rfl hk3 (by have q := key_len hk3; omega) HW.out w3 ho3 (HOL.out.below hb3))
        clear hb3 ho3 hk3
        go_wp2_with fail
        refine HS1.out.mono ?_
        rintro e w5 ⟨rfl, hb5⟩
        have HB5 := hidd (below_step HB3.out hb5)
        clear hb5
        go_wp2_with fail
        refine (CK.out _).mono ?_
        rintro e w7 ⟨rfl, hb7⟩
        have HB7 := hidd (below_step HB2.out (below_step HB5.out hb7))
        clear hb7
        go_wp2_with fail
        go_ret
        exact ⟨by first | rfl | simp, HB7.out⟩
      · have HP1 := hidd (Parse_bad Ab ((rawAll l).take k) k cb (by rw [List.length_take, ← HN.out]; omega) (fun q => by
          rw [rawAll_keys]
          refine cut_none (fun x hx => ?_) (fun i hi => ?_) ?_ q
          · obtain ⟨o, ho, rfl⟩ := List.mem_map.1 hx
            exact HALL.out o ho
          · rw [← List.map_take, ← rawAll_keys]
            exact HNE.out i (by simpa using hi)
          · rw [← rawAll_keys, ← HN.out]; omega) (fun x hx => rawAll_bytes l x (List.mem_of_mem_take hx)) (by rw [List.length_take]; omega) (by rw [List.length_take]; omega) HCB.out wr (HLB.out.takeQ k))
        have hki : ¬ (n : Int) = (k : Int) := by omega
        clear hkn2
        go_wp2_with fail
        refine HP1.out.mono ?_
        rintro e w3 ⟨rfl, hb3⟩
        have HB3 := hidd hb3
        clear hb3
        go_wp2_with fail
        refine (CK.out _).mono ?_
        rintro e w7 ⟨rfl, hb7⟩
        have HB7 := hidd (below_step HB2.out (below_step HB3.out hb7))
        clear hb7
        go_wp2_with fail
        go_ret
        exact ⟨by first | rfl | simp, HB7.out⟩
end Go.Proofs.Ytnneolkedekfbaa
