/- Sums: Seal; the document's put, Sum, Seal, Patch. -/
import Derived.Test.YtmpiobpgjlceaaaCkG
namespace Go.Proofs.Ytmpiobpgjlceaaa
set_option linter.unusedVariables false
open Go.RowKit

/-- where a sum may stand. -/
def SealOk (l : List Int) (at_ : Int) : Prop := 0 ≤ at_ ∧ at_ % 2 = 0 ∧ at_ + 2 ≤ l.length
instance (l : List Int) (at_ : Int) : Decidable (SealOk l at_) := by unfold SealOk; infer_instance
def SealEnd (l : List Int) (at_ : Int) (ok err : Value) (w : World) (e : Ending) (w' : World) : Prop :=
  (SealOk l at_ ∧ ∃ g cap, e = .returned (.tuple #[.slice (some ⟨g, 0, none⟩) l.length cap, ok]) ∧ OwnL byV 1 w' w.heap.size 5 (.slice (some ⟨g, 0, none⟩) l.length cap) (sealL l at_.toNat) ∧ Below w.heap.size w w') ∨
  (¬ SealOk l at_ ∧ e = .returned (.tuple #[.slice none 0 0, err]) ∧ Below w.heap.size w w')
theorem tmod2 {x : Int} (h : 0 ≤ x) : x.tmod 2 = x % 2 := Int.tmod_eq_emod_of_nonneg h
set_option maxHeartbeats 2000000 in
theorem Seal_any (A : Option Addr) (l : List Int) (c : Nat) (at_ : Int) (ha0 : -9223372036854775808 ≤ at_) (ha1 : at_ ≤ 9223372036854775807) (hlen : l.length ≤ 1000000) (hby : Bytes l) (w : World) (hl : Lie byV 1 w w.heap.size A l) :
    Calls Try.prog 20 #[.slice A l.length c, .int .i64 at_] w (SealEnd l at_ (.int .i64 0) (.int .i64 4) w) := by
  have w1 : IntKind.i64.wrap ((l.length : Int) - 2) = (l.length : Int) - 2 := IntWalk.i64_in _ (by omega)
  by_cases hok : SealOk l at_
  · obtain ⟨h0, h1, h2⟩ := id hok
    obtain ⟨i, rfl⟩ := Int.eq_ofNat_of_zero_le h0
    have cs := hidd (fun W h => sealed_any A l c i (by omega) hlen hby W h)
    have HL := hidd hl
    have g1 : decide ((i : Int) < 0) = false := decide_eq_false (by omega)
    have g2 : decide ((l.length : Int) - 2 < (i : Int)) = false := decide_eq_false (by omega)
    have g3 : ((i : Int) % 2 != 0) = false := by simp; omega
    have HOK := hidd hok
    have hsl := sealL_len l i
    unfold Made at cs
    rw [hsl] at cs
    clear hl hby hok h0 h1 h2 hsl
    go_enter Try.func20, Try.ntmps20
    go_wp2_with fail
    refine wp_scope_fwd 0 (fun a' w' => False) rfl ?_ ?_
    case refine_2 => exact fun _ _ h => h.elim
    go_wp2_with fail
    refine (cs.out _ HL.out).mono ?_
    rintro e W1 ⟨g, cap, rfl, hO, hB⟩
    have HO := hidd hO
    have HB := hidd hB
    clear hO hB
    go_wp2_with fail
    simp only [Exit.jump]
    go_ret2
    exact .inl ⟨HOK.out, g, cap, rfl, by simpa using HO.out, HB.out⟩
  · have HOK := hidd hok
    have hc : at_ < 0 ∨ (0 ≤ at_ ∧ (l.length : Int) - 2 < at_) ∨ (0 ≤ at_ ∧ at_ ≤ (l.length : Int) - 2 ∧ at_ % 2 = 1) := by unfold SealOk at hok; omega
    clear hok hl hby
    rcases hc with hc | ⟨h0, hc⟩ | ⟨h0, h2, hc⟩
    · have g1 : decide (at_ < 0) = true := decide_eq_true hc
      go_enter Try.func20, Try.ntmps20
      go_wp2_with fail
      refine wp_scope_fwd 0 (fun a' w' => Below w.heap.size w w' ∧ ∃ v0 v1 v2 v3 v4 v5 v6 v7 v8 v9 v10 v11 v12 v13 v14 v15 v16 v17 v18 v19 v20 : Value, a' = { tmps := #[v0, v1, v2, v3, v4, v5, v6, v7, v8, v9, v10, v11, v12, v13, v14, v15, v16, v17, v18, v19, v20], defers := [] }) rfl ?_ ?_
      case refine_2 =>
        rintro a' w' ⟨hb, v0, v1, v2, v3, v4, v5, v6, v7, v8, v9, v10, v11, v12, v13, v14, v15, v16, v17, v18, v19, v20, rfl⟩
        go_wp2_with fail
        (try rw [Exit.noGoto_ret])
        go_ret2
        exact .inr ⟨HOK.out, rfl, hb⟩
      go_wp2_with fail
      go_step3
      exact ⟨rfl, by (repeat' (first | (with_reducible exact Below.refl _ _) | (with_reducible assumption) | (with_reducible apply Below.setCell) | (with_reducible apply Below.alloc) | (with_reducible apply Below.drew) | (with_reducible apply below_drewN) | (with_reducible refine Below.trans ?_ (Below.mono (by assumption) ?_)) | omega | (simp; done) | (simp; omega))), _, _, _, _, _, _, _, _, _, _, _, _, _, _, _, _, _, _, _, _, _, rfl⟩
    · obtain ⟨i, rfl⟩ := Int.eq_ofNat_of_zero_le h0
      have g1 : decide ((i : Int) < 0) = false := decide_eq_false (by omega)
      have g2 : decide ((l.length : Int) - 2 < (i : Int)) = true := decide_eq_true hc
      clear hc h0
      go_enter Try.func20, Try.ntmps20
      go_wp2_with fail
      refine wp_scope_fwd 0 (fun a' w' => Below w.heap.size w w' ∧ ∃ v0 v1 v2 v3 v4 v5 v6 v7 v8 v9 v10 v11 v12 v13 v14 v15 v16 v17 v18 v19 v20 : Value, a' = { tmps := #[v0, v1, v2, v3, v4, v5, v6, v7, v8, v9, v10, v11, v12, v13, v14, v15, v16, v17, v18, v19, v20], defers := [] }) rfl ?_ ?_
      case refine_2 =>
        rintro a' w' ⟨hb, v0, v1, v2, v3, v4, v5, v6, v7, v8, v9, v10, v11, v12, v13, v14, v15, v16, v17, v18, v19, v20, rfl⟩
        go_wp2_with fail
        (try rw [Exit.noGoto_ret])
        go_ret2
        exact .inr ⟨HOK.out, rfl, hb⟩
      go_wp2_with fail
      go_step3
      exact ⟨rfl, by (repeat' (first | (with_reducible exact Below.refl _ _) | (with_reducible assumption) | (with_reducible apply Below.setCell) | (with_reducible apply Below.alloc) | (with_reducible apply Below.drew) | (with_reducible apply below_drewN) | (with_reducible refine Below.trans ?_ (Below.mono (by assumption) ?_)) | omega | (simp; done) | (simp; omega))), _, _, _, _, _, _, _, _, _, _, _, _, _, _, _, _, _, _, _, _, _, rfl⟩
    · obtain ⟨i, rfl⟩ := Int.eq_ofNat_of_zero_le h0
      have g1 : decide ((i : Int) < 0) = false := decide_eq_false (by omega)
      have g2 : decide ((l.length : Int) - 2 < (i : Int)) = false := decide_eq_false (by omega)
      have g3 : ((i : Int) % 2 != 0) = true := by simp; omega
      clear hc h0 h2
      go_enter Try.func20, Try.ntmps20
      go_wp2_with fail
      refine wp_scope_fwd 0 (fun a' w' => Below w.heap.size w w' ∧ ∃ v0 v1 v2 v3 v4 v5 v6 v7 v8 v9 v10 v11 v12 v13 v14 v15 v16 v17 v18 v19 v20 : Value, a' = { tmps := #[v0, v1, v2, v3, v4, v5, v6, v7, v8, v9, v10, v11, v12, v13, v14, v15, v16, v17, v18, v19, v20], defers := [] }) rfl ?_ ?_
      case refine_2 =>
        rintro a' w' ⟨hb, v0, v1, v2, v3, v4, v5, v6, v7, v8, v9, v10, v11, v12, v13, v14, v15, v16, v17, v18, v19, v20, rfl⟩
        go_wp2_with fail
        (try rw [Exit.noGoto_ret])
        go_ret2
        exact .inr ⟨HOK.out, rfl, hb⟩
      go_wp2_with fail
      go_step3
      exact ⟨rfl, by (repeat' (first | (with_reducible exact Below.refl _ _) | (with_reducible assumption) | (with_reducible apply Below.setCell) | (with_reducible apply Below.alloc) | (with_reducible apply Below.drew) | (with_reducible apply below_drewN) | (with_reducible refine Below.trans ?_ (Below.mono (by assumption) ?_)) | omega | (simp; done) | (simp; omega))), _, _, _, _, _, _, _, _, _, _, _, _, _, _, _, _, _, _, _, _, _, rfl⟩
theorem refPut_any (a b : Int) (ha : W16 a) (hb : W16 b) (w : World) : Calls Try.prog 26 #[.int .i64 a, .int .i64 b] w fun e w' => e = .returned (.int .i64 (put a b)) ∧ w = w' := by
  obtain ⟨a0, a1⟩ := ha
  obtain ⟨b0, b1⟩ := hb
  have e1 : IntKind.i64.wrap (a + b) = a + b := IntWalk.i64_in _ (by omega)
  by_cases h : a + b > 65535
  · have e2 : put a b = a + b - 65536 + 1 := by unfold put; rw [if_pos h]; omega
    have e3 : IntKind.i64.wrap (a + b - 65536) = a + b - 65536 := IntWalk.i64_in _ (by omega)
    have e4 : IntKind.i64.wrap (a + b - 65536 + 1) = a + b - 65536 + 1 := IntWalk.i64_in _ (by omega)
    rw [e2]
    clear e2
    go_enter Try.func26, Try.ntmps26
    go_wp2_with fail
    go_ret
    exact ⟨rfl, rfl⟩
  · have e2 : put a b = a + b := by unfold put; rw [if_neg h]
    rw [e2]
    clear e2
    go_enter Try.func26, Try.ntmps26
    go_wp2_with fail
    go_ret
    exact ⟨rfl, rfl⟩
theorem refPatch_any (s a b : Int) (hs : W16 s) (ha : W16 a) (hb : W16 b) (w : World) : Calls Try.prog 23 #[.int .i64 s, .int .i64 a, .int .i64 b] w fun e w' => e = .returned (.int .i64 (65535 - put (put (65535 - s) (65535 - a)) b)) ∧ w = w' := by
  have hs' : W16 (65535 - s) := by unfold W16 at *; omega
  have ha' : W16 (65535 - a) := by unfold W16 at *; omega
  have hr := put_w (put_w hs' ha') hb
  have c1 := hidd (fun W => refPut_any _ _ hs' ha' W)
  have c2 := hidd (fun W => refPut_any _ _ (put_w hs' ha') hb W)
  have x1 : IntKind.i64.wrap (65535 - s) = 65535 - s := IntWalk.i64_in _ (by unfold W16 at *; omega)
  have x2 : IntKind.i64.wrap (65535 - a) = 65535 - a := IntWalk.i64_in _ (by unfold W16 at *; omega)
  generalize put (put (65535 - s) (65535 - a)) b = r at *
  generalize put (65535 - s) (65535 - a) = q at *
  have x3 : IntKind.i64.wrap (65535 - r) = 65535 - r := IntWalk.i64_in _ (by unfold W16 at *; omega)
  clear hs ha hb hs' ha' hr
  go_enter Try.func23, Try.ntmps23
  go_wp2_with fail
  refine (c1.out _).mono ?_
  rintro e w1 ⟨rfl, rfl⟩
  go_wp2_with fail
  refine (c2.out _).mono ?_
  rintro e w1 ⟨rfl, rfl⟩
  go_wp2_with fail
  go_ret
  exact ⟨rfl, rfl⟩
/-- pairs of what stands from place i on, put to n. -/
theorem sumN_two (n : Int) (l : List Int) (i : Nat) (h : i + 1 < l.length) : sumN n (l.drop i) = sumN (put n (256 * av l i + av l (i + 1))) (l.drop (i + 2)) := by
  have e : l.drop i = av l i :: av l (i + 1) :: l.drop (i + 2) := by
    rw [List.drop_eq_getElem_cons (by omega), List.drop_eq_getElem_cons (show i + 1 < l.length from h), av_at (by omega), av_at h]
  rw [e]
  simp [sumN, pairs]
theorem sumN_one (n : Int) (l : List Int) (i : Nat) (h : i + 1 = l.length) : sumN n (l.drop i) = put n (256 * av l i) := by
  have e : l.drop i = [av l i] := by
    rw [List.drop_eq_getElem_cons (by omega), List.drop_eq_nil_of_le (by omega), av_at (by omega)]
  rw [e]
  simp [sumN, pairs]
set_option maxHeartbeats 4000000 in
theorem refSum_any (A : Option Addr) (l : List Int) (c : Nat) (hlen : l.length ≤ 1000000) (hby : Bytes l) (w : World) (hl : Lie byV 1 w w.heap.size A l) :
    Calls Try.prog 14 #[.slice A l.length c] w fun e w' => e = .returned (.int .i64 (sumR l)) ∧ w = w' := by
  have HL := hidd hl
  have HB := hidd hby
  have cp := hidd (fun a b ha hb W => refPut_any a b ha hb W)
  have hw := sumR_w hby
  have HR := hidd (show sumR l = 65535 - sumN 0 (l.drop 0) from by simp [sumR])
  generalize sumR l = R at *
  clear hl hby
  go_enter Try.func14, Try.ntmps14
  go_wp2_with fail
  go_loopg [3, 4] (l.length + 2) (fun k s3 s4 wr => ∃ (i : Nat) (n : Int), i ≤ l.length + 1 ∧ i + k = l.length + 2 ∧ W16 n ∧ s3 = .int .i64 n ∧ s4 = .int .i64 (i : Int) ∧ R = 65535 - sumN n (l.drop i) ∧ w = wr)
  case atStart => exact ⟨0, 0, by omega, by omega, ⟨by omega, by omega⟩, rfl, rfl, HR.out, rfl⟩
  case round =>
    obtain ⟨i, n, hi, hk, hn, rfl, rfl, hR, rfl⟩ := hrel
    have HR2 := hidd hR
    have HK := hidd hk
    clear hR hk
    have w1 : IntKind.i64.wrap ((i : Int) + 1) = (i : Int) + 1 := IntWalk.i64_in _ (by omega)
    have w2 : IntKind.i64.wrap ((i : Int) + 2) = (i : Int) + 2 := IntWalk.i64_in _ (by omega)
    by_cases h1 : i < l.length
    · have hi1 : (i : Int) < (l.length : Int) := by omega
      obtain ⟨ad, rfl, _, x0⟩ := HL.out.byte i h1
      obtain ⟨b0, b1⟩ := HB.out _ (av_mem h1)
      by_cases h2 : i + 1 < l.length
      · have hi2 : (i : Int) + 1 < (l.length : Int) := by omega
        obtain ⟨ad', e', _, x1⟩ := HL.out.byte (i + 1) h2
        cases e'
        have x2 : w.cell? ⟨ad.block, ad.off + (i + 1), none⟩ = some (.int .u8 (av l (i + 1))) := x1
        obtain ⟨b2, b3⟩ := HB.out _ (av_mem h2)
        have HS := hidd (sumN_two n l i h2)
        generalize av l i = x at *
        generalize av l (i + 1) = y at *
        have q1 : IntKind.i64.wrap (256 * x) = 256 * x := IntWalk.i64_in _ (by omega)
        have q2 : IntKind.i64.wrap (256 * x + y) = 256 * x + y := IntWalk.i64_in _ (by omega)
        have cq := hidd (fun W => cp.out n (256 * x + y) hn ⟨by omega, by omega⟩ W)
        have hn2 : W16 (put n (256 * x + y)) := put_w hn ⟨by omega, by omega⟩
        generalize put n (256 * x + y) = m at *
        go_wp2_with fail
        refine (cq.out _).mono ?_
        rintro e w2 ⟨rfl, rfl⟩
        go_wp2_with fail
        have hk := HK.out
        go_roundg (gk - 2)
        case measure => omega
        case rel => exact ⟨i + 2, m, by omega, by omega, hn2, rfl, by simp, by rw [HR2.out, HS.out], rfl⟩
      · have hi2 : ¬ ((i : Int) + 1 < (l.length : Int)) := by omega
        have HS := hidd (sumN_one n l i (by omega))
        generalize av l i = x at *
        have q1 : IntKind.i64.wrap (256 * x) = 256 * x := IntWalk.i64_in _ (by omega)
        have cq := hidd (fun W => cp.out n (256 * x) hn ⟨by omega, by omega⟩ W)
        have hn2 : W16 (put n (256 * x)) := put_w hn ⟨by omega, by omega⟩
        generalize put n (256 * x) = m at *
        go_wp2_with fail
        refine (cq.out _).mono ?_
        rintro e w2 ⟨rfl, rfl⟩
        go_wp2_with fail
        have hk := HK.out
        go_roundg (gk - 2)
        case measure => omega
        case rel => exact ⟨i + 2, m, by omega, by omega, hn2, rfl, by simp, by rw [HR2.out, HS.out, List.drop_eq_nil_of_le (by omega)]; simp [sumN, pairs], rfl⟩
    · have hi1 : ¬ ((i : Int) < (l.length : Int)) := by omega
      have e : l.drop i = [] := List.drop_eq_nil_of_le (by omega)
      have hR := HR2.out
      rw [e] at hR
      have e2 : sumN n [] = n := by simp [sumN, pairs]
      rw [e2] at hR
      have HR3 := hidd hR
      have q1 : IntKind.i64.wrap (65535 - n) = 65535 - n := IntWalk.i64_in _ (by unfold W16 at *; omega)
      clear hR e e2 HR2
      go_wp2_with fail
      go_ret
      exact ⟨by rw [HR3.out]; rfl, rfl⟩
end Go.Proofs.Ytmpiobpgjlceaaa
