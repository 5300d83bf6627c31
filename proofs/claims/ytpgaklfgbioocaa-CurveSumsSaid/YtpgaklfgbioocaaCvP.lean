/- Curves: may lines be a curve, as the program says; what is too long. -/
import Derived.Test.YtpgaklfgbioocaaCvN
namespace Go.Proofs.Ytpgaklfgbioocaa
set_option linter.unusedVariables false
open Go.RowKit Go.Proofs.Ytpgaklfgbioocaa.RowK

theorem allLines_one (v : Value) (L : List (Int × Int)) : allLines [(v, L)] = L := by simp [allLines]
theorem curves_one {w : World} {A : Option Addr} {c : Nat} {L : List (Int × Int)} (h : Lie sendV 2 w w.heap.size A L) (t : TypeId) :
    Curves (w.alloc (.cells #[.slice A L.length c] t)) (w.alloc (.cells #[.slice A L.length c] t)).heap.size (some ⟨w.heap.size, 0, none⟩) [(.slice A L.length c, L)] := by
  have hb := below_new (Below.refl w.heap.size w) (.cells #[.slice A L.length c] t)
  refine ⟨fun _ => ⟨_, rfl, by simp, fun i x hx j v hv => ?_⟩, fun x hx => ?_⟩
  · match i, hx with
    | 0, hx =>
      have : (Value.slice A L.length c, L) = x := by simpa using hx
      subst this
      match j, hv with
      | 0, hv =>
        have : Value.slice A L.length c = v := by simpa [curV] using hv
        subst this
        simp [go_sem, Addr.add]
  · have : x = (Value.slice A L.length c, L) := by simpa using hx
    subst this
    exact ⟨A, c, rfl, (h.keep hb).more (by simp)⟩
theorem MayAll.ok {L : List (Int × Int)} (h : MayAll L) : okL L := fun x hx => by
  obtain ⟨i, hi, rfl⟩ := List.mem_iff_getElem.1 hx
  have := mayB_iff (h i hi)
  rw [(av_at hi).1, (av_at hi).2]
  simp only at this
  omega
theorem rgt_low {L : List (Int × Int)} (h0 : 1 ≤ L.length) (h1 : L.length ≤ 32) (hm : MayAll L) : CM.low L = L ↔ RgtC L := by
  have hne : L ≠ [] := fun e => by subst e; simp at h0
  constructor
  · exact fun h => ⟨⟨h0, h1⟩, hm, CM.low_iff.1 ⟨h, hne⟩⟩
  · exact fun h => CM.low_self h.2.2
set_option maxHeartbeats 2000000 in
theorem isNone_any (A : Option Addr) (L : List (Int × Int)) (c : Nat) (hL : L.length ≤ 1000000) (w : World) (hA : Lie sendV 2 w w.heap.size A L) :
    Calls Try.prog 26 #[.slice A L.length c] w (MayEnd (¬ RgtC L) w) := by
  unfold MayEnd
  obtain ⟨P, hP⟩ : ∃ P : Prop, RgtC L = P := ⟨_, rfl⟩
  rw [hP]
  have HP := hidd hP
  clear hP
  by_cases h0 : L.length = 0
  · have hn : ¬ P := fun h => by have := (HP.out ▸ h : RgtC L).1; omega
    have HN := hidd hn
    rw [h0]
    clear hn h0 HP hA
    go_enter Try.func26, Try.ntmps26
    go_wp2_with fail
    go_ret
    exact ⟨true, by simp, ⟨fun _ => HN.out, fun _ => rfl⟩, Below.refl _ _⟩
  by_cases h1 : 32 < L.length
  · have hn : ¬ P := fun h => by have := (HP.out ▸ h : RgtC L).1; omega
    have HN := hidd hn
    have h2 : ((L.length : Int) == 0) = false := beq_eq_false_iff_ne.2 (by omega)
    have h3 : (32 : Int) < (L.length : Int) := by omega
    clear hn h0 HP hA
    go_enter Try.func26, Try.ntmps26
    go_wp2_with fail
    go_ret
    exact ⟨true, by first | rfl | simp, ⟨fun _ => HN.out, fun _ => rfl⟩, Below.refl _ _⟩
  have h2 : ((L.length : Int) == 0) = false := beq_eq_false_iff_ne.2 (by omega)
  have h3 : ¬ (32 : Int) < (L.length : Int) := by omega
  have HA := hidd hA
  have cc := hidd (conC_any A L c hL w hA)
  have HL0 : Hid (1 ≤ L.length ∧ L.length ≤ 32) := hidd ⟨by omega, by omega⟩
  have cl := hidd (fun (hm : MayAll L) (W : World) (hW : Lie sendV 2 W W.heap.size A L) => lowest_any (some ⟨W.heap.size, 0, none⟩) 1 [(.slice A L.length c, L)] (by simp) (by simp; omega) (by rw [allLines_one]; omega) (by rw [allLines_one]; exact fun e => by rw [e] at h0; simp at h0) (by rw [allLines_one]; exact hm.ok) _ (curves_one hW 25))
  clear hA h0 h1
  go_enter Try.func26, Try.ntmps26
  go_wp2_with fail
  refine cc.out.mono ?_
  rintro e w1 ⟨R, rfl, hR, hb1⟩
  have HR := hidd hR
  have HB1 := hidd hb1
  clear hR hb1
  cases R
  · have hm : MayAll L := Classical.not_not.1 (fun h => absurd (HR.out.2 h) Bool.false_ne_true)
    have HM := hidd hm
    have ck := hidd (cl.out hm w1 (HA.out.below HB1.out))
    rw [allLines_one] at ck
    clear cl hm
    go_wp2_with fail
    refine ck.out.mono ?_
    rintro e w2 ⟨v, rfl, hO, hb2⟩
    obtain ⟨A2, c2, rfl, _, _, hl2⟩ := hO.lie sendV_len
    have hb3 := below_step (below_new HB1.out (.cells #[.slice A L.length c] 25)) hb2
    have HB3 := hidd hb3
    have ce := hidd (equal_any A2 A (CM.low L) L c2 c (Nat.le_trans (CM.low_len L) hL) hL w2 hl2 (HA.out.below hb3))
    clear hO hl2 hb2 hb3
    go_wp2_with fail
    refine ce.out.mono ?_
    rintro e w3 ⟨rfl, q, rfl⟩
    obtain ⟨T, hT⟩ : ∃ T, decide (CM.low L = L) = T := ⟨_, rfl⟩
    rw [hT]
    have HT := hidd hT
    clear hT
    go_wp2_with fail
    go_ret
    refine ⟨!T, by first | rfl | simp, ?_, by have := HB3.out; (repeat' (first | (with_reducible exact Below.refl _ _) | (with_reducible assumption) | (with_reducible apply Below.setCell) | (with_reducible apply Below.alloc) | (with_reducible apply Below.drew) | (with_reducible apply below_drewN) | (with_reducible refine Below.trans ?_ (Below.mono (by assumption) ?_)) | omega | (simp; done) | (simp; omega)))⟩
    have hrl := rgt_low HL0.out.1 HL0.out.2 HM.out
    rw [HP.out] at hrl
    rw [← HT.out]
    by_cases hlow : CM.low L = L
    · simp [hlow, hrl.1 hlow]
    · have : ¬ P := fun h => hlow (hrl.2 h)
      simp [hlow, this]
  · have hnm : ¬ MayAll L := HR.out.1 rfl
    have hn : ¬ P := fun h => hnm (HP.out ▸ h : RgtC L).2.1
    have HN := hidd hn
    clear hnm hn cl
    go_wp2_with fail
    go_ret
    exact ⟨true, by first | rfl | simp, ⟨fun _ => HN.out, fun _ => rfl⟩, HB1.out⟩
/-- ErrArg, or OK. -/
def ChkEnd (P : Prop) (w : World) (e : Ending) (w' : World) : Prop := ∃ R : Bool, e = .returned (.int .i64 (if R then 0 else 2)) ∧ (R = true ↔ P) ∧ Below w.heap.size w w'
theorem curveCheck_any (A : Option Addr) (L : List (Int × Int)) (c : Nat) (hL : L.length ≤ 1000000) (w : World) (hA : Lie sendV 2 w w.heap.size A L) :
    Calls Try.prog 13 #[.slice A L.length c] w (ChkEnd (RgtC L) w) := by
  have cn := hidd (isNone_any A L c hL w hA)
  unfold ChkEnd
  clear hA
  go_enter Try.func13, Try.ntmps13
  go_wp2_with fail
  refine cn.out.mono ?_
  rintro e w1 ⟨R, rfl, hR, hb1⟩
  have HR := hidd hR
  clear hR
  cases R
  · go_wp2_with fail
    go_ret
    exact ⟨true, rfl, ⟨fun _ => Classical.not_not.1 (fun h => absurd (HR.out.2 h) Bool.false_ne_true), fun _ => rfl⟩, hb1⟩
  · go_wp2_with fail
    go_ret
    exact ⟨false, rfl, ⟨fun h => absurd h Bool.false_ne_true, fun h => absurd h (HR.out.1 (by first | rfl | trivial))⟩, hb1⟩
end Go.Proofs.Ytpgaklfgbioocaa
