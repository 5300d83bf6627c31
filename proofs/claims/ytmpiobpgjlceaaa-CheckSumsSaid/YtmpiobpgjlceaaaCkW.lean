/- Sums: parts, one behind the other, as bytes of the call's own. -/
import Derived.Test.YtmpiobpgjlceaaaCkU
namespace Go.Proofs.Ytmpiobpgjlceaaa
set_option linter.unusedVariables false
open Go.RowKit

theorem LieQ.src {w : World} {p : Nat → Prop} {A : Option Addr} {l : List Int} (h : LieQ byV 1 w p A l) : 0 < l.length → ∃ ad, A = some ad ∧ ∀ j u, (rowOf byV l)[j]? = some u → w.cell? (ad.add j) = some u := fun hp => by
  obtain ⟨ad, e, hB, hcc⟩ := h hp
  refine ⟨ad, e, fun j u hu => ?_⟩
  rw [rowOf_by] at hu
  simp only [List.getElem?_map, Option.map_eq_some_iff] at hu
  obtain ⟨x, hx, rfl⟩ := hu
  have := hcc j x hx 0 _ rfl
  simpa using this
theorem own_app {w : World} {base n : Nat} {e : TypeId} {v : Value} {l m : List Int} {xs : List Value} (h : w.ownsRow base e 1 v n xs) (hn : n = l.length + m.length) (hx : xs = rowOf byV l ++ rowOf byV m) : OwnL byV 1 w base e v (l ++ m) := by
  subst hn hx
  unfold OwnL
  rw [rowOf_app, List.length_append]
  exact h
theorem Parts.later {w wr : World} {A : Option Addr} {cs : List Part} (h : Parts w (· < w.heap.size) A cs) (hb : Below w.heap.size w wr) : Parts wr (· < w.heap.size) A cs := h.to fun k hk => ⟨hk, hb.block k hk⟩
def JoinEnd (cs : List Part) (w : World) (e : Ending) (w' : World) : Prop :=
  (∃ v, e = .returned (.tuple #[v, .bool true]) ∧ OwnL byV 1 w' w.heap.size 5 v (allBytes cs) ∧ cs.length ≤ 20 ∧ (∀ c ∈ cs, c.2.length ≤ 3000) ∧ (allBytes cs).length ≤ 3000 ∧ Below w.heap.size w w') ∨
  (∃ v, e = .returned (.tuple #[v, .bool false]) ∧ Below w.heap.size w w')
theorem cell_idx {w : World} {ad : Addr} {i : Nat} {v : Value} (h : w.cell? (ad.add i) = some v) : w.cell? (ad.add i) = some v := h
set_option maxHeartbeats 4000000 in
theorem joined_any (A : Option Addr) (k : Nat) (cs : List Part) (hlen : cs.length ≤ maxLen) (w : World) (hP : Parts w (· < w.heap.size) A cs) :
    Calls Try.prog 10 #[.slice A cs.length k] w (JoinEnd cs w) := by
  have HP := hidd hP
  obtain ⟨i0, hi0, hz0, hz1, hz2⟩ := info_parts byteInfo
  have hlen' : cs.length ≤ 9223372036854775807 := by unfold maxLen at hlen; omega
  clear hP hlen
  go_enter Try.func10, Try.ntmps10
  go_wp2_with fail
  go_loopg [4, 5] (cs.length + 1) (fun g s4 s5 wr => ∃ i : Nat, i + g = cs.length + 1 ∧ i ≤ cs.length ∧ s5 = .int .i64 (i : Int) ∧ OwnL byV 1 wr w.heap.size 5 s4 (allBytes (cs.take i)) ∧ i ≤ 20 ∧ (allBytes (cs.take i)).length ≤ 6000 ∧ Hid (∀ c ∈ cs.take i, c.2.length ≤ 3000) ∧ Below w.heap.size w wr)
  case atStart => exact ⟨0, by omega, by omega, by first | rfl | simp, OwnL.nil _ _ _, by omega, by simp [allBytes], hidd (by simp), Below.refl _ _⟩
  case round =>
    obtain ⟨i, hk, hi, rfl, hO, h20, h6, HC, hB⟩ := hrel
    have HK := hidd hk
    have HB := hidd hB
    obtain ⟨Ao, co, rfl, _, _, _⟩ := OwnL.lie hO byV_len
    have HO := hidd hO
    clear hk hO hB
    have v1 : IntKind.i64.wrap ((i : Int) + 1) = (i : Int) + 1 := IntWalk.i64_in _ (by omega)
    by_cases h1 : i < cs.length
    · have hi1 : (i : Int) < (cs.length : Int) := by omega
      have HPr := HP.out.later HB.out
      obtain ⟨ad, rfl, hab, x0⟩ := HPr.at_ i h1
      obtain ⟨Ai, ki, e1, hl⟩ := HPr.2 cs[i] (List.getElem_mem h1)
      have HT := hidd (allBytes_take h1)
      have HTk := hidd (show ∀ c, c ∈ cs.take (i + 1) → c ∈ cs.take i ∨ c = cs[i] from fun c hc => by
        rw [List.take_add_one, List.getElem?_eq_getElem h1, List.mem_append] at hc
        simpa using hc)
      rw [e1] at x0
      generalize hm : cs[i].2 = m at *
      have HM := hidd hm
      have HTS := hidd (LieQ.src hl)
      clear hm e1 hl HPr
      generalize hout : allBytes (cs.take i) = out at *
      have HOUT := hidd hout
      clear hout
      by_cases c1 : (m.length : Int) > 3000
      · go_wp2_with fail
        go_ret2
        exact .inr ⟨_, rfl, HB.out⟩
      by_cases c2 : (i : Int) ≥ 20
      · go_wp2_with fail
        go_ret2
        exact .inr ⟨_, rfl, HB.out⟩
      by_cases c3 : (out.length : Int) > 3000
      · go_wp2_with fail
        go_ret2
        exact .inr ⟨_, rfl, HB.out⟩
      have hm3 : m.length ≤ 3000 := by omega
      have ho3 : out.length ≤ 3000 := by omega
      have hrl := hidd (row_len byV_len m)
      have hon := hidd (rowOf_one (f := byV) byV_one m)
      go_wp2_with (at_builtin; refine wpList_append_some (by rfl) (.tmp 27) (.tmp 31) _ (by rfl) w.heap.size 5 i0 _ 1 1 Try.underlying23 hi0 hz0 hz1 hz2 rfl (by omega) _ _ _ (by rfl) HO.out Ai m.length ki (rowOf byV m) (by rfl) hrl.out HTS.out hon.out (by simp only [maxLen]; omega) (by omega) HB.out.size ?_; intro v1 wa hown1 hgrow1 hat1)
      have hO2 : OwnL byV 1 wa w.heap.size 5 v1 (out ++ m) := own_app hown1 rfl rfl
      have hb2 : Below w.heap.size w wa := HB.out.grown hgrow1 HB.out.size (fun k hk => (OwnL.lt HO.out k hk).1)
      have HO2 := hidd hO2
      have HB2 := hidd hb2
      have hT2 : allBytes (cs.take (i + 1)) = out ++ m := by rw [HT.out]
      have HC2 := hidd (show ∀ c ∈ cs.take (i + 1), c.2.length ≤ 3000 from fun c hc => by
        rcases HTk.out c hc with h | h
        · exact HC.out c h
        · rw [h, HM.out]; exact hm3)
      have hk := HK.out
      clear hown1 hgrow1 hat1 hO2 hb2
      go_roundg (gk - 1)
      case measure => omega
      case rel => exact ⟨i + 1, by omega, by omega, by simp, by rw [hT2]; exact HO2.out, by omega, by rw [hT2, List.length_append]; omega, HC2, HB2.out⟩
    · obtain rfl : i = cs.length := by omega
      have hi1 : ¬ ((cs.length : Int) < (cs.length : Int)) := by omega
      have HOo := HO.out
      have HCo := HC.out
      rw [List.take_length] at HOo HCo h6
      have HO3 := hidd HOo
      have HC3 := hidd HCo
      clear HOo HCo HO HC
      generalize hout : allBytes cs = out at *
      have HOUT := hidd hout
      rw [List.take_length, hout]
      clear hout
      by_cases c3 : (out.length : Int) ≤ 3000
      · go_wp2_with fail
        go_ret2
        exact .inl ⟨_, rfl, by rw [HOUT.out]; exact HO3.out, h20, HC3.out, by rw [HOUT.out]; omega, HB.out⟩
      · go_wp2_with fail
        go_ret2
        exact .inr ⟨_, rfl, HB.out⟩
set_option maxHeartbeats 4000000 in
theorem firsts_any (A : Option Addr) (k : Nat) (cs : List Part) (n : Nat) (hn : n ≤ cs.length) (h20 : cs.length ≤ 20) (hall : ∀ c ∈ cs, c.2.length ≤ 3000) (w : World) (hP : Parts w (· < w.heap.size) A cs) :
    Calls Try.prog 15 #[.slice A cs.length k, .int .i64 n] w fun e w' => ∃ v, e = .returned v ∧ OwnL byV 1 w' w.heap.size 5 v (allBytes (cs.take n)) ∧ Below w.heap.size w w' := by
  have HP := hidd hP
  have HALL := hidd hall
  obtain ⟨i0, hi0, hz0, hz1, hz2⟩ := info_parts byteInfo
  clear hP hall
  go_enter Try.func15, Try.ntmps15
  go_wp2_with fail
  go_loopg [5, 6] (n + 1) (fun g s5 s6 wr => ∃ i : Nat, i + g = n + 1 ∧ i ≤ n ∧ s6 = .int .i64 (i : Int) ∧ OwnL byV 1 wr w.heap.size 5 s5 (allBytes (cs.take i)) ∧ (allBytes (cs.take i)).length ≤ 3000 * i ∧ Below w.heap.size w wr)
  case atStart => exact ⟨0, by omega, by omega, by first | rfl | simp, OwnL.nil _ _ _, by simp [allBytes], Below.refl _ _⟩
  case round =>
    obtain ⟨i, hk, hi, rfl, hO, h6, hB⟩ := hrel
    have HK := hidd hk
    have HB := hidd hB
    obtain ⟨Ao, co, rfl, _, _, _⟩ := OwnL.lie hO byV_len
    have HO := hidd hO
    clear hk hO hB
    have v1 : IntKind.i64.wrap ((i : Int) + 1) = (i : Int) + 1 := IntWalk.i64_in _ (by omega)
    by_cases h1 : i < n
    · have hi1 : (i : Int) < (n : Int) := by omega
      have h1c : i < cs.length := by omega
      have hi2 : (i : Int) < (cs.length : Int) := by omega
      have HPr := HP.out.later HB.out
      obtain ⟨ad, rfl, hab, x0⟩ := HPr.at_ i h1c
      obtain ⟨Ai, ki, e1, hl⟩ := HPr.2 cs[i] (List.getElem_mem h1c)
      have HT := hidd (allBytes_take h1c)
      have hm3 := HALL.out cs[i] (List.getElem_mem h1c)
      rw [e1] at x0
      generalize cs[i].2 = m at *
      have HTS := hidd (LieQ.src hl)
      clear e1 hl HPr
      generalize hout : allBytes (cs.take i) = out at *
      clear hout
      have hrl := hidd (row_len byV_len m)
      have hon := hidd (rowOf_one (f := byV) byV_one m)
      go_wp2_with (at_builtin; refine wpList_append_some (by rfl) (.tmp 12) (.tmp 16) _ (by rfl) w.heap.size 5 i0 _ 1 1 Try.underlying23 hi0 hz0 hz1 hz2 rfl (by omega) _ _ _ (by rfl) HO.out Ai m.length ki (rowOf byV m) (by rfl) hrl.out HTS.out hon.out (by simp only [maxLen]; omega) (by omega) HB.out.size ?_; intro v1 wa hown1 hgrow1 hat1)
      have hO2 : OwnL byV 1 wa w.heap.size 5 v1 (out ++ m) := own_app hown1 rfl rfl
      have hb2 : Below w.heap.size w wa := HB.out.grown hgrow1 HB.out.size (fun k hk => (OwnL.lt HO.out k hk).1)
      have HO2 := hidd hO2
      have HB2 := hidd hb2
      have hT2 : allBytes (cs.take (i + 1)) = out ++ m := by rw [HT.out]
      have hk := HK.out
      clear hown1 hgrow1 hat1 hO2 hb2
      go_roundg (gk - 1)
      case measure => omega
      case rel => exact ⟨i + 1, by omega, by omega, by simp, by rw [hT2]; exact HO2.out, by rw [hT2, List.length_append]; omega, HB2.out⟩
    · obtain rfl : i = n := by omega
      have hi1 : ¬ ((i : Int) < (i : Int)) := by omega
      go_wp2_with fail
      go_ret
      exact ⟨_, rfl, HO.out, HB.out⟩
end Go.Proofs.Ytmpiobpgjlceaaa
