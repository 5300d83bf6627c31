/- The walk of CheckNoughts: noughts behind change no sum; what is sealed is sealed alike again. -/
import Derived.Test.YtmpiobpgjlceaaaCkR
import Derived.Test.YtmpiobpgjlceaaaCkZ
namespace Go.Proofs.Ytmpiobpgjlceaaa
set_option linter.unusedVariables false
open Go.RowKit

theorem rowOf_app (l m : List Int) : rowOf byV (l ++ m) = rowOf byV l ++ rowOf byV m := by simp [rowOf]
theorem rowOf_zeros (k : Nat) : rowOf byV (List.replicate k 0) = List.replicate k (.int .u8 0) := by rw [rowOf_by]; simp
theorem intLen : Try.prog.underlying 3 = some (.int .i64) := Try.underlying3
theorem own_zeros {w : World} {base n : Nat} {e : TypeId} {v : Value} {L M : List Int} {k : Nat} {xs : List Value} (h : w.ownsRow base e 1 v n xs) (hM : L ++ List.replicate k 0 = M) (hn : n = L.length + k) (hx : xs = rowOf byV L ++ List.replicate k (.int .u8 0)) :
    ∃ A c, v = .slice A M.length c ∧ Hid (Lie byV 1 w w.heap.size A M) := by
  subst hM hn hx
  have h2 : OwnL byV 1 w base e v (L ++ List.replicate k 0) := by
    unfold OwnL
    rw [rowOf_app, rowOf_zeros, List.length_append, List.length_replicate]
    exact h
  obtain ⟨A, c, h3, _, _, h4⟩ := OwnL.lie h2 byV_len
  exact ⟨A, c, h3, h4⟩
/-- what the part behind the making of the noughts goes on from. -/
theorem noughts_again (L : List Int) (at_ : Int) (h : SealOk L at_) : SealOk (sealL L at_.toNat) at_ := by
  unfold SealOk at *; rw [sealL_len]; exact h
set_option maxHeartbeats 8000000 in
theorem noughts_walk (A : Option Addr) (L : List Int) (c : Nat) (n at_ : Int) (hc : L.length ≤ c) (hm : c ≤ maxLen) (hb : Bytes L) (n0 : -9223372036854775808 ≤ n) (n1 : n ≤ 9223372036854775807) (a0 : -9223372036854775808 ≤ at_) (a1 : at_ ≤ 9223372036854775807) (w : World) (hl : Lie byV 1 w w.heap.size A L) :
    Calls Try.prog 9 #[.slice A L.length c, .int .i64 n, .int .i64 at_] w fun e w' => e = .returned (.bool true) ∧ Below w.heap.size w w' := by
  have ck := hidd (fun W => known_any W)
  by_cases hall : L.length ≤ 2000 ∧ 0 ≤ n ∧ n ≤ 100
  rotate_left
  · have hcs : (L.length : Int) > 2000 ∨ (¬ (L.length : Int) > 2000 ∧ n < 0) ∨ (¬ (L.length : Int) > 2000 ∧ ¬ n < 0 ∧ n > 100) := by omega
    clear hall hl hb n0 n1 a0 a1
    rcases hcs with h1 | ⟨h1, h2⟩ | ⟨h1, h2, h3⟩ <;> go_enter Try.func9, Try.ntmps9
    all_goals go_wp2_with fail
    all_goals refine (ck.out _).mono ?_
    all_goals rintro e w2 ⟨rfl, hb2⟩
    all_goals go_wp2_with fail
    all_goals go_ret
    all_goals exact ⟨rfl, hb2⟩
  · obtain ⟨hlen, h0, h100⟩ := hall
    obtain ⟨N, rfl⟩ := Int.eq_ofNat_of_zero_le h0
    have hN : N ≤ 100 := by omega
    have g1 : ¬ ((L.length : Int) > 2000) := by omega
    have g2 : ¬ ((N : Int) < 0) := by omega
    have g3 : ¬ ((N : Int) > 100) := by omega
    obtain ⟨k, hk⟩ : ∃ k, 2 * N + L.length % 2 = k := ⟨_, rfl⟩
    have hk1 : k ≤ 201 := by omega
    have q1 : IntKind.i64.wrap (2 * (N : Int)) = 2 * (N : Int) := IntWalk.i64_in _ (by omega)
    have q2 : (L.length : Int).tmod 2 = (L.length : Int) % 2 := Int.tmod_eq_emod_of_nonneg (by omega)
    have q3 : IntKind.i64.wrap (2 * (N : Int) + (L.length : Int) % 2) = (k : Int) := by rw [IntWalk.i64_in _ (by omega)]; omega
    have q0 : IntKind.i64.wrap ((L.length : Int) % 2) = (L.length : Int) % 2 := IntWalk.i64_in _ (by omega)
    obtain ⟨i0, hi0, hz0, hz1, hz2⟩ := info_parts byteInfo
    have hzc : (Value.int .u8 0).cells = #[.int .u8 0] := rfl
    have hbz := zeros_bytes hb k
    have cm := hidd (fun b A c W h1 h2 h3 => sum1_any b A (L ++ List.replicate k 0) c (by simp; omega) hbz W h1 h2 h3)
    rw [sum_zeros hb k] at cm
    obtain ⟨M, hM⟩ : ∃ M, L ++ List.replicate k 0 = M := ⟨_, rfl⟩
    rw [hM] at cm
    have cb := hidd (fun b W h1 h2 h3 => sum1_any b A L c (by omega) hb W h1 h2 h3)
    have cs := hidd (fun W h => Seal_any A L c at_ a0 a1 (by omega) hb W h)
    have cs2 := hidd (fun g cap W h => Seal_any (some ⟨g, 0, none⟩) (sealL L at_.toNat) cap at_ a0 a1 (by rw [sealL_len]; omega) (sealL_bytes hb _) W h)
    rw [sealL_len] at cs2
    have cv := hidd (fun g cap W B h => conv_any (some ⟨g, 0, none⟩) (sealL L at_.toNat) L.length cap (sealL_len _ _) W B h)
    have HL := hidd hl
    have HSRC := hidd (show 0 < L.length → ∃ ad, A = some ad ∧ ∀ j u, (rowOf byV L)[j]? = some u → w.cell? (ad.add j) = some u by
      intro hp
      obtain ⟨ad, e, hB, hcc⟩ := hl hp
      refine ⟨ad, e, fun j u hu => ?_⟩
      rw [rowOf_by] at hu
      simp only [List.getElem?_map, Option.map_eq_some_iff] at hu
      obtain ⟨x, hx, rfl⟩ := hu
      have := hcc j x hx 0 _ rfl
      simpa using this)
    have HRL := hidd (row_len byV_len L)
    have HON := hidd (rowOf_one (f := byV) byV_one L)
    generalize sumR L = r at *
    clear hl hb hbz
    go_enter Try.func9, Try.ntmps9
    go_wp2_with (at_builtin; first
      | (refine wpList_append_some (by rfl) (.const (.slice none 0 0)) (.tmp 24) _ (by rfl) w.heap.size 5 i0 _ 1 1 Try.underlying23 hi0 hz0 hz1 hz2 rfl (by omega) (.slice none 0 0) 0 [] (by rfl) (World.ownsRow_nil _ _ _ 1) A L.length c (rowOf byV L) (by rfl) HRL.out HSRC.out HON.out (by simp only [maxLen]; omega) (by omega) (Nat.le_refl _) ?_; intro v1 wa hown1 hgrow1 hat1)
      | (refine wpList_append_zeros (by rfl) (.tmp 25) (.tmp 31) _ _ (by rfl) w.heap.size 5 i0 (.int .u8 0) .i64 Try.underlying23 intLen hi0 hz0 hz1 hz2 hzc rfl v1 _ _ (by rfl) hown1 k _ rfl (by rfl) (by omega) hgrow1.size ?_; intro v2 wb hown2 hgrow2 hat2; obtain ⟨A2, c2, hv2, HA2⟩ := own_zeros hown2 hM (by omega) (by simp); subst hv2))
    have HBb := hidd (((Below.refl w.heap.size w).grown hgrow1 (Nat.le_refl _) (fun k e => by simp [Value.ownBlock] at e)).grown hgrow2 hgrow1.size (fun j e => by rcases hat1 with h | h <;> rw [h] at e <;> simp [Value.ownBlock] at e; omega))
    clear hown1 hgrow1 hat1 hown2 hgrow2 hat2 hi0 hz0 hz1 hz2 hzc q1 q2 q3 q0 hk hM
    refine (cm.out _ A2 c2 _ (by simp [go_sem]) (by simp) ((HA2.out.keep (below_new (Below.refl _ _) _)).q (fun k hk => by simp; omega))).mono ?_
    rintro e w3 ⟨rfl, hb3⟩
    have HB3 := hidd (below_step (below_new HBb.out _) hb3)
    have HL3 := hidd (HL.out.below HB3.out)
    clear hb3 HA2 HBb
    go_wp2_with fail
    refine (cb.out _ _ (by simp [go_sem]) (by simp) ((HL3.out.keep (below_new (Below.refl _ _) _)).q (fun k hk => by simp; omega))).mono ?_
    rintro e w4 ⟨rfl, hb4⟩
    have HB4 := hidd (below_step (below_new HB3.out _) hb4)
    have HL4 := hidd (HL.out.below HB4.out)
    clear hb4 HB3 HL3
    go_wp2_with fail
    refine (cs.out _ HL4.out).mono ?_
    rintro e w5 (⟨hok, g, cap, rfl, hO, hB⟩ | ⟨hok, rfl, hB⟩)
    · have HO5 := hidd hO
      have HB5 := hidd (below_step HB4.out hB)
      have HOK := hidd (noughts_again L at_ hok)
      have HS := hidd (seal_again L at_.toNat)
      have hSl := hidd (sealL_len L at_.toNat)
      clear hO hB hok HB4 HL4 HL
      have k1 := cv.out g cap _ _ HO5.out.lieAt
      go_wp2_with fail
      refine (cs2.out g cap _ HO5.out.lieAt).mono ?_
      rintro e w6 (⟨_, g', cap', rfl, hO6, hB6⟩ | ⟨h, _⟩)
      rotate_left
      · exact absurd HOK.out h
      rw [HS.out, hSl] at hO6
      rw [hSl]
      have HO5' := hidd (HO5.out.below hB6)
      have HO6 := hidd hO6
      have HB6 := hidd (below_step HB5.out hB6)
      clear hO6 hB6 HO5 HB5 k1 hSl
      have k1 := cv.out g cap _ _ HO5'.out.lieAt
      have k2 := cv.out g' cap' _ _ HO6.out.lieAt
      go_wp2_with fail
      refine (ck.out _).mono ?_
      rintro e w7 ⟨rfl, hb7⟩
      have HB7 := hidd (below_step HB6.out hb7)
      clear hb7
      go_wp2_with fail
      go_ret
      exact ⟨rfl, HB7.out⟩
    · have HB5 := hidd (below_step HB4.out hB)
      clear hB hok HB4 HL4 HL
      go_wp2_with fail
      refine (ck.out _).mono ?_
      rintro e w6 ⟨rfl, hb6⟩
      have HB6 := hidd (below_step HB5.out hb6)
      clear hb6
      go_wp2_with fail
      go_ret
      exact ⟨rfl, HB6.out⟩
end Go.Proofs.Ytmpiobpgjlceaaa
