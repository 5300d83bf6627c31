/- Sums: bytes as strings; the document's Seal; what every law of the layer looks at besides. -/
import Derived.Laws.BytesArg
import Derived.Test.YtmpiobpgjlceaaaCkH
namespace Go.Proofs.Ytmpiobpgjlceaaa
set_option linter.unusedVariables false
open Go.RowKit

theorem conv_any (A : Option Addr) (l : List Int) (n c : Nat) (hn : l.length = n) (w : World) (B : Nat) (hl : Lie byV 1 w B A l) : (convert 23 9 (.slice A n c)).run Try.prog w = .ok (.string (strOfNums l)) w := by
  subst hn
  rcases Nat.eq_zero_or_pos l.length with h | h
  · have : l = [] := List.eq_nil_of_length_eq_zero h
    subst this
    cases A with
    | none => exact run_convert_bytes_nil w _ _ Try.underlying23 Try.underlying5 _ _ _ Try.underlying9
    | some ad =>
      rw [run_convert_bytes_string w _ _ _ (some ad) _ c Try.underlying23 Try.underlying5 Try.underlying9]
      have hq := run_loadCells_list (P := Try.prog) w ad (([] : List Int).map (Value.int .u8)) (fun j v hj => by simp at hj)
      rw [List.length_map] at hq
      rw [run_bytesToString w ad _ c [] hq]
      rfl
  · obtain ⟨ad, rfl, hB, hc⟩ := hl h
    rw [run_convert_bytes_string w _ _ _ (some ad) _ c Try.underlying23 Try.underlying5 Try.underlying9]
    have hq := run_loadCells_list (P := Try.prog) w ad (l.map (Value.int .u8)) (fun j v hj => by
      simp only [List.getElem?_map, Option.map_eq_some_iff] at hj
      obtain ⟨x, hx, rfl⟩ := hj
      have := hc j x hx 0 _ rfl
      simpa using this)
    rw [List.length_map] at hq
    rw [run_bytesToString w ad _ c l hq, foldl_push_bytes]
    simp [strOfNums, ByteArray.empty, ByteArray.emptyWithCapacity]
    rfl
set_option maxHeartbeats 2000000 in
theorem refSeal_yes (A : Option Addr) (l : List Int) (c : Nat) (i : Nat) (hi : i + 2 ≤ l.length) (he : i % 2 = 0) (hlen : l.length ≤ 1000000) (hby : Bytes l) (w : World) (hl : Lie byV 1 w w.heap.size A l) :
    Calls Try.prog 21 #[.slice A l.length c, .int .i64 i] w fun e w' => ∃ g cap, e = .returned (.tuple #[.slice (some ⟨g, 0, none⟩) l.length cap, .bool true]) ∧ OwnL byV 1 w' w.heap.size 5 (.slice (some ⟨g, 0, none⟩) l.length cap) (sealL l i) ∧ Below w.heap.size w w' := by
  obtain ⟨i0, hi0, hz0, hz1, hz2⟩ := info_parts byteInfo
  obtain ⟨ad, rfl, hB, hc⟩ := hl (by omega)
  have hsrc : ∀ j u, (rowOf byV l)[j]? = some u → w.cell? (ad.add j) = some u := fun j u hu => by
    rw [rowOf_by] at hu
    simp only [List.getElem?_map, Option.map_eq_some_iff] at hu
    obtain ⟨x, hx, rfl⟩ := hu
    have := hc j x hx 0 _ rfl
    simpa using this
  have HS := hidd hsrc
  have hrl : (rowOf byV l).length = l.length * 1 := row_len byV_len l
  have HRL := hidd hrl
  have HON := hidd (rowOf_one (f := byV) byV_one l)
  have hlen' : l.length ≤ 140737488355328 := by omega
  have cs := hidd (fun g cap W h => refSum_any (some ⟨g, 0, none⟩) (zeroed l i) cap (by rw [zeroed_len]; exact hlen) (zeroed_bytes hby i) W h)
  obtain ⟨s0, s1⟩ := sumR_w (zeroed_bytes hby i)
  have hse : sealL l i = ((zeroed l i).set i (sumR (zeroed l i) / 256)).set (i + 1) (sumR (zeroed l i) % 256) := rfl
  have HSE := hidd hse
  rw [zeroed_len] at cs
  generalize sealL l i = L at *
  have HZ := hidd (show zeroed l i = (l.set i 0).set (i + 1) 0 from rfl)
  have HZL := hidd (zeroed_len l i)
  generalize zeroed l i = Z at *
  generalize sumR Z = r at *
  have hi1 : (i : Int) < (l.length : Int) := by omega
  have hi2 : (i : Int) + 1 < (l.length : Int) := by omega
  have w1 : IntKind.i64.wrap ((i : Int) + 1) = (i : Int) + 1 := IntWalk.i64_in _ (by omega)
  have w2 : IntKind.i64.wrap ((l.length : Int) - 2) = (l.length : Int) - 2 := IntWalk.i64_in _ (by omega)
  have g1 : decide ((i : Int) < 0) = false := decide_eq_false (by omega)
  have g2 : decide ((l.length : Int) - 2 < (i : Int)) = false := decide_eq_false (by omega)
  have g3 : ((i : Int) % 2 != 0) = false := by simp; omega
  have hr1 : IntKind.u8.wrap (r / 256) = r / 256 := by rw [IntKind.wrap_u8]; omega
  have hr2 : IntKind.u8.wrap (r % 256) = r % 256 := by rw [IntKind.wrap_u8]; omega
  have hr3 : r.tdiv 256 = r / 256 := Int.tdiv_eq_ediv_of_nonneg s0
  have hr4 : r.tmod 256 = r % 256 := Int.tmod_eq_emod_of_nonneg s0
  have hr5 : IntKind.i64.wrap (r / 256) = r / 256 := IntWalk.i64_in _ (by omega)
  clear hc hsrc hrl hl hby hse he
  go_enter Try.func21, Try.ntmps21
  go_wp2_with (at_builtin; refine wpList_append_some (by rfl) (.const (.slice none 0 0)) (.tmp 22) _ (by rfl) w.heap.size 5 i0 _ 1 1 Try.underlying23 hi0 hz0 hz1 hz2 rfl (by omega) (.slice none 0 0) 0 [] (by rfl) (World.ownsRow_nil _ _ _ _) (some ad) l.length c (rowOf byV l) (by rfl) HRL.out (fun _ => ⟨_, rfl, HS.out⟩) HON.out (by simp only [maxLen]; omega) (by omega) (by simp) ?_; intro v1 wa hown1 hgrow1 hat1; have hown2 : OwnL byV 1 wa w.heap.size 5 v1 l := (by simpa [OwnL] using hown1); obtain ⟨g, cap, rfl⟩ := own_form hown2 (by omega); obtain ⟨c0, f0⟩ := hown2.byteAt i (by omega); obtain ⟨c1, f1⟩ := hown2.byteAt (i + 1) (by omega))
  have HO := hidd hown2
  have hgW := (hown2.lt g rfl).2
  have hgw := (hown2.lt g rfl).1
  have HB := hidd ((Below.refl w.heap.size w).grown hgrow1 (Nat.le_refl _) (fun k e => by simp [Value.ownBlock] at e))
  obtain ⟨W2, hW2⟩ : ∃ W2 : World, (wa.setCell ⟨g, i, none⟩ (.int .u8 0)).setCell ⟨g, i + 1, none⟩ (.int .u8 0) = W2 := ⟨_, rfl⟩
  have hO2 : OwnL byV 1 W2 w.heap.size 5 (.slice (some ⟨g, 0, none⟩) l.length cap) Z := by rw [← hW2, HZ.out]; exact (HO.out.set i (by omega) 0).set (i + 1) (by simp; omega) 0
  have hB2 : Below w.heap.size w W2 := by rw [← hW2]; exact (HB.out.setCell (p := ⟨g, i, none⟩) hgw _).setCell (p := ⟨g, i + 1, none⟩) hgw _
  have hz2 : W2.heap.size = wa.heap.size := by rw [← hW2]; simp [World.setCell]
  rw [hW2]
  rw [← hz2] at hgW
  clear hW2 hz2 c0 c1 f0 f1 HO HB hown1 hown2 hgrow1 hat1
  have HO2 := hidd hO2
  have HB2 := hidd hB2
  obtain ⟨c0, f0⟩ := hO2.byteAt i (by rw [HZL.out]; omega)
  obtain ⟨c1, f1⟩ := hO2.byteAt (i + 1) (by rw [HZL.out]; omega)
  clear hO2 hB2
  refine (cs.out g cap _ HO2.out.lieAt).mono ?_
  rintro e W3 ⟨rfl, rfl⟩
  go_wp2_with fail
  go_ret2
  refine ⟨g, cap, rfl, ?_, ?_⟩
  · rw [HSE.out]
    exact (HO2.out.set i (by rw [HZL.out]; omega) (r / 256)).set (i + 1) (by simp [HZL.out]; omega) (r % 256)
  · exact (HB2.out.setCell (p := ⟨g, i, none⟩) hgw _).setCell (p := ⟨g, i + 1, none⟩) hgw _
set_option maxHeartbeats 2000000 in
theorem refSeal_any (A : Option Addr) (l : List Int) (c : Nat) (at_ : Int) (ha0 : -9223372036854775808 ≤ at_) (ha1 : at_ ≤ 9223372036854775807) (hlen : l.length ≤ 1000000) (hby : Bytes l) (w : World) (hl : Lie byV 1 w w.heap.size A l) :
    Calls Try.prog 21 #[.slice A l.length c, .int .i64 at_] w (SealEnd l at_ (.bool true) (.bool false) w) := by
  by_cases hok : SealOk l at_
  · obtain ⟨h0, h1, h2⟩ := id hok
    obtain ⟨i, rfl⟩ := Int.eq_ofNat_of_zero_le h0
    refine (refSeal_yes A l c i (by omega) (by omega) hlen hby w hl).mono fun e w' h => .inl ⟨hok, ?_⟩
    simpa using h
  · have HOK := hidd hok
    have w1 : IntKind.i64.wrap ((l.length : Int) - 2) = (l.length : Int) - 2 := IntWalk.i64_in _ (by omega)
    have hc : at_ < 0 ∨ (0 ≤ at_ ∧ at_ % 2 = 1) ∨ (0 ≤ at_ ∧ at_ % 2 = 0 ∧ (l.length : Int) - 2 < at_) := by unfold SealOk at hok; omega
    clear hok hl hby
    rcases hc with hc | ⟨h0, hc⟩ | ⟨h0, h2, hc⟩
    · have g1 : decide (at_ < 0) = true := decide_eq_true hc
      go_enter Try.func21, Try.ntmps21
      go_wp2_with fail
      go_ret2
      exact .inr ⟨HOK.out, rfl, Below.refl _ _⟩
    · obtain ⟨i, rfl⟩ := Int.eq_ofNat_of_zero_le h0
      have g1 : decide ((i : Int) < 0) = false := decide_eq_false (by omega)
      have g3 : ((i : Int) % 2 != 0) = true := by simp; omega
      clear hc h0
      go_enter Try.func21, Try.ntmps21
      go_wp2_with fail
      go_ret2
      exact .inr ⟨HOK.out, rfl, Below.refl _ _⟩
    · obtain ⟨i, rfl⟩ := Int.eq_ofNat_of_zero_le h0
      have g1 : decide ((i : Int) < 0) = false := decide_eq_false (by omega)
      have g2 : decide ((l.length : Int) - 2 < (i : Int)) = true := decide_eq_true hc
      have g3 : ((i : Int) % 2 != 0) = false := by simp; omega
      clear hc h0 h2
      go_enter Try.func21, Try.ntmps21
      go_wp2_with fail
      go_ret2
      exact .inr ⟨HOK.out, rfl, Below.refl _ _⟩
end Go.Proofs.Ytmpiobpgjlceaaa
