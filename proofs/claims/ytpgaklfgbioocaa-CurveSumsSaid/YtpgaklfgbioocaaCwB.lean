/- Curves: the least of some; is one nowhere above another. -/
import Derived.Test.YtpgaklfgbioocaaCvX
import Derived.Test.YtpgaklfgbioocaaCvY
namespace Go.Proofs.Ytpgaklfgbioocaa
set_option linter.unusedVariables false
open Go.RowKit Go.Proofs.Ytpgaklfgbioocaa.RowK

theorem allLines_two (v u : Value) (L M : List (Int × Int)) : allLines [(v, L), (u, M)] = L ++ M := by simp [allLines]
theorem curves_two {w : World} {A B : Option Addr} {c d : Nat} {L M : List (Int × Int)} (h : Lie sendV 2 w w.heap.size A L) (g : Lie sendV 2 w w.heap.size B M) (t : TypeId) :
    Curves (w.alloc (.cells #[.slice A L.length c, .slice B M.length d] t)) (w.alloc (.cells #[.slice A L.length c, .slice B M.length d] t)).heap.size (some ⟨w.heap.size, 0, none⟩) [(.slice A L.length c, L), (.slice B M.length d, M)] := by
  have hb := below_new (Below.refl w.heap.size w) (.cells #[.slice A L.length c, .slice B M.length d] t)
  refine ⟨fun _ => ⟨_, rfl, by simp, fun i x hx j v hv => ?_⟩, fun x hx => ?_⟩
  · match i, hx with
    | 0, hx =>
      have : (Value.slice A L.length c, L) = x := by simpa using hx
      subst this
      match j, hv with
      | 0, hv =>
        have : Value.slice A L.length c = v := by simpa [curV] using hv
        subst this
        simp [go_sem, Addr.add]
    | 1, hx =>
      have : (Value.slice B M.length d, M) = x := by simpa using hx
      subst this
      match j, hv with
      | 0, hv =>
        have : Value.slice B M.length d = v := by simpa [curV] using hv
        subst this
        simp [go_sem, Addr.add]
  · have : x = (Value.slice A L.length c, L) ∨ x = (Value.slice B M.length d, M) := by simpa using hx
    rcases this with rfl | rfl
    · exact ⟨A, c, rfl, (h.keep hb).more (by simp)⟩
    · exact ⟨B, d, rfl, (g.keep hb).more (by simp)⟩
def AllR (cs : List Crv) : Prop := ∀ j (h : j < cs.length), RgtC (cs[j]).2
def IdxNEnd (cs : List Crv) (w : World) (e : Ending) (w' : World) : Prop := ∃ n : Int, e = .returned (.int .i64 n) ∧ (-1 ≤ n ∧ n ≤ 1000000) ∧ (0 ≤ n ↔ ¬ AllR cs) ∧ Below w.heap.size w w'
theorem idxNEnd_of {cs : List Crv} {w : World} (n : Int) (w' : World) (h1 : -1 ≤ n) (h2 : n ≤ 1000000) (h3 : 0 ≤ n ↔ ¬ AllR cs) (hb : Below w.heap.size w w') : IdxNEnd cs w (.returned (.int .i64 n)) w' := ⟨n, rfl, ⟨h1, h2⟩, h3, hb⟩
set_option maxHeartbeats 2000000 in
theorem idxN_any (A : Option Addr) (k : Nat) (cs : List Crv) (hlen : cs.length ≤ 1000000) (hlen2 : ∀ c ∈ cs, c.2.length ≤ 1000000) (w : World) (hC : Curves w w.heap.size A cs) :
    Calls Try.prog 47 #[.slice A cs.length k, .func (.func 26) #[] #[]] w (IdxNEnd cs w) := by
  have HC := hidd hC
  have H2 := hidd hlen2
  have C := hidd (fun A L c W hL hW => isNone_any A L c hL W hW)
  have HID := hidd (idxNEnd_of (cs := cs) (w := w))
  clear hC hlen2
  go_enter Try.func47, Try.ntmps47
  go_wp2_with fail
  go_loopg [8] (cs.length + 2) (fun g s8 wr => ∃ i : Nat, i ≤ cs.length ∧ i + g = cs.length + 2 ∧ s8 = .int .i64 (i : Int) ∧ (∀ j (h : j < cs.length), j < i → RgtC (cs[j]).2) ∧ Below w.heap.size w wr)
  case atStart => exact ⟨0, by omega, by omega, rfl, fun j _ h => absurd h (by omega), Below.refl _ _⟩
  case round =>
    obtain ⟨i, hi1, hg, rfl, hs, hB⟩ := hrel
    have HG := hidd hg
    have HS := hidd hs
    have HB := hidd hB
    clear hg hs hB
    by_cases hin : i < cs.length
    · have hin2 : (i : Int) < (cs.length : Int) := by omega
      have hi0 : (0 : Int) ≤ (i : Int) := by omega
      obtain ⟨ad, rfl, ha, x0⟩ := (HC.out.keep HB.out).at_ i hin
      obtain ⟨A1, k1, e1, hl⟩ := (HC.out.keep HB.out).2 (cs[i]) (List.getElem_mem hin)
      rw [e1] at x0
      have ci := hidd (fun W (hb : Below w.heap.size w W) => C.out A1 (cs[i]).2 k1 W (H2.out _ (List.getElem_mem hin)) (by
        have h := ((HC.out.keep hb).2 (cs[i]) (List.getElem_mem hin))
        obtain ⟨A2, k2, e2, hl2⟩ := h
        rw [e1] at e2
        injection e2 with e3 e4 e5
        subst e3
        exact hl2.more hb.size))
      have hst : RgtC (cs[i]).2 → ∀ j (h : j < cs.length), j < i + 1 → RgtC (cs[j]).2 := fun h j hj k1 => by
        by_cases hk : j = i
        · subst hk; exact h
        · exact HS.out j hj (by omega)
      have hno : ¬ RgtC (cs[i]).2 → ¬ AllR cs := fun h hh => h (hh i hin)
      have HST := hidd hst
      have HNO := hidd hno
      have hBs := HB.out.size
      have hB2 := HB.out
      unfold MayEnd at ci
      obtain ⟨P, hP⟩ : ∃ P : Prop, RgtC (cs[i]).2 = P := ⟨_, rfl⟩
      obtain ⟨n1, hn1⟩ : ∃ n1, (cs[i]).2.length = n1 := ⟨_, rfl⟩
      rw [hP] at ci HST HNO
      rw [hn1] at ci x0
      clear hst hno hP hn1 e1 hl ha
      go_wp2_with fail
      refine (ci.out _ (by (repeat' (first | (with_reducible exact Below.refl _ _) | (with_reducible assumption) | (with_reducible apply Below.setCell) | (with_reducible apply Below.alloc) | (with_reducible apply Below.drew) | (with_reducible apply below_drewN) | (with_reducible refine Below.trans ?_ (Below.mono (by assumption) ?_)) | omega | (simp; done) | (simp; omega))))).mono ?_
      rintro e w2 ⟨R, rfl, hR, hb2⟩
      have HR := hidd hR
      have HB2 := hidd (below_step (show Below w.heap.size w _ by (repeat' (first | (with_reducible exact Below.refl _ _) | (with_reducible assumption) | (with_reducible apply Below.setCell) | (with_reducible apply Below.alloc) | (with_reducible apply Below.drew) | (with_reducible apply below_drewN) | (with_reducible refine Below.trans ?_ (Below.mono (by assumption) ?_)) | omega | (simp; done) | (simp; omega)))) hb2)
      clear hR hb2 hB2 x0
      cases R
      · go_wp2_with fail
        have hg := HG.out
        go_roundg (gk - 1)
        case measure => omega
        case rel => exact ⟨i + 1, by omega, by omega, by go_num, HST.out (Classical.not_not.1 fun h => absurd (HR.out.2 h) Bool.false_ne_true), HB2.out⟩
      · go_wp2_with fail
        go_ret
        exact HID.out _ _ (by omega) (by omega) ⟨fun _ => HNO.out (by first | exact HR.out.1 rfl | exact HR.out.1 trivial), fun _ => by omega⟩ HB2.out
    · have hall : AllR cs := fun j h2 => HS.out j h2 (by omega)
      have HALL := hidd hall
      have hin2 : ¬ (i : Int) < (cs.length : Int) := by omega
      clear hall
      go_wp2_with fail
      go_ret
      exact HID.out _ _ (by omega) (by omega) ⟨fun h => absurd h (by omega), fun h => absurd HALL.out h⟩ HB.out
theorem conN_any (A : Option Addr) (k : Nat) (cs : List Crv) (hlen : cs.length ≤ 1000000) (hlen2 : ∀ c ∈ cs, c.2.length ≤ 1000000) (w : World) (hC : Curves w w.heap.size A cs) :
    Calls Try.prog 33 #[.slice A cs.length k, .func (.func 26) #[] #[]] w (MayEnd (¬ AllR cs) w) := by
  have ci := hidd (idxN_any A k cs hlen hlen2 w hC)
  clear hC hlen2
  unfold MayEnd
  unfold IdxNEnd at ci
  go_enter Try.func33, Try.ntmps33
  go_wp2_with fail
  refine ci.out.mono ?_
  rintro e w1 ⟨n, rfl, h1, h2, hb⟩
  have H2 := hidd h2
  have HB := hidd hb
  clear h2 hb
  by_cases h0 : 0 ≤ n
  · go_wp2_with fail
    go_ret
    exact ⟨true, by simp, ⟨fun _ => H2.out.1 h0, fun _ => rfl⟩, HB.out⟩
  · go_wp2_with fail
    go_ret
    exact ⟨false, by simp; omega, ⟨fun h => absurd h Bool.false_ne_true, fun h => absurd (H2.out.2 h) (by omega)⟩, HB.out⟩
theorem areNone_any (A : Option Addr) (k : Nat) (cs : List Crv) (h0 : 0 < cs.length) (hlen : cs.length ≤ 1000000) (hlen2 : ∀ c ∈ cs, c.2.length ≤ 1000000) (w : World) (hC : Curves w w.heap.size A cs) :
    Calls Try.prog 21 #[.slice A cs.length k] w (MayEnd (¬ AllR cs) w) := by
  have ci := hidd (conN_any A k cs hlen hlen2 w hC)
  have h2 : ((cs.length : Int) == 0) = false := beq_eq_false_iff_ne.2 (by omega)
  clear hC hlen2 h0
  unfold MayEnd at ci ⊢
  go_enter Try.func21, Try.ntmps21
  go_wp2_with fail
  refine ci.out.mono ?_
  rintro e w1 ⟨R, rfl, hR, hb⟩
  have HR := hidd hR
  clear hR
  go_wp2_with fail
  go_ret
  exact ⟨R, by first | rfl | simp, HR.out, hb⟩
theorem min_bad (A : Option Addr) (k : Nat) (cs : List Crv) (h0 : 0 < cs.length) (hlen : cs.length ≤ 1000000) (hlen2 : ∀ c ∈ cs, c.2.length ≤ 1000000) (w : World) (hC : Curves w w.heap.size A cs) (hn : ¬ AllR cs) :
    Calls Try.prog 7 #[.slice A cs.length k] w (MakeEnd [] [] 2 w) := by
  have ci := hidd (areNone_any A k cs h0 hlen hlen2 w hC)
  have HN := hidd hn
  clear hC hlen2 h0 hn
  unfold MayEnd at ci
  unfold MakeEnd
  go_enter Try.func7, Try.ntmps7
  go_wp2_with fail
  refine ci.out.mono ?_
  rintro e w1 ⟨R, rfl, hR, hb⟩
  obtain rfl : R = true := hR.2 HN.out
  clear hR
  go_wp2_with fail
  go_ret2
  exact ⟨_, rfl, OwnL.nil _ _ _, hb⟩
theorem allR_may {cs : List Crv} (h : AllR cs) : MayAll (allLines cs) := fun i hi => by
  have hx : (allLines cs)[i] ∈ allLines cs := List.getElem_mem hi
  unfold allLines at hx
  obtain ⟨c, hc, hxc⟩ := List.mem_flatMap.1 hx
  obtain ⟨j, hj, rfl⟩ := List.mem_iff_getElem.1 hc
  obtain ⟨m, hm, e⟩ := List.mem_iff_getElem.1 hxc
  have := (h j hj).2.1 m hm
  rw [← (av_at hm).1, ← (av_at hm).2] at this
  rw [← (av_at hi).1, ← (av_at hi).2]
  have e2 : (cs[j]).2[m] = (allLines cs)[i] := e
  rw [e2] at this
  exact this
theorem allR_pos {cs : List Crv} (h : AllR cs) (h0 : 0 < cs.length) : 0 < (allLines cs).length := by
  have hx : (cs[0]).2[0]'((h 0 h0).1.1) ∈ allLines cs := by
    unfold allLines
    exact List.mem_flatMap.2 ⟨cs[0], List.getElem_mem h0, List.getElem_mem _⟩
  exact List.length_pos_of_mem hx
set_option maxHeartbeats 2000000 in
theorem min_good (ok : Bool) (A : Option Addr) (k : Nat) (cs : List Crv) (h0 : 0 < cs.length) (hlen : cs.length ≤ 1000000) (hlen2 : ∀ c ∈ cs, c.2.length ≤ 1000000) (hall : (allLines cs).length ≤ 1000000) (w : World) (hC : Curves w w.heap.size A cs) (hR : AllR cs) (hok : ok = true ↔ (CM.low (allLines cs)).length ≤ 32) :
    Calls Try.prog 7 #[.slice A cs.length k] w (MakeEnd [] (if ok then CM.low (allLines cs) else []) (if ok then 0 else 3) w) := by
  have cc := hidd (areNone_any A k cs h0 hlen hlen2 w hC)
  have HC := hidd hC
  have hm := allR_may hR
  have h0' := allR_pos hR h0
  have hne : allLines cs ≠ [] := fun e => by rw [e] at h0'; simp at h0'
  have cl := hidd (fun (W : World) (hW : Curves W W.heap.size A cs) => lowest_any A k cs hlen hlen2 hall hne hm.ok W hW)
  have hml := may_low hm
  have hpl := low_pos h0'
  have hll := CM.low_len (allLines cs)
  have HR := hidd hR
  have cb := hidd (fun A2 c2 W (hW : Lie sendV 2 W W.heap.size A2 (CM.low (allLines cs))) => bounded_any A2 (CM.low (allLines cs)) c2 (by omega) hpl W hW)
  have hbd : ok = true ↔ boundP (CM.low (allLines cs)) := ⟨fun h => may_bound hml hpl (hok.1 h), fun h => hok.2 h.1⟩
  have HBD := hidd hbd
  clear hC hm h0' hml hpl hll hbd hR hok hne hlen2 h0
  generalize CM.low (allLines cs) = Z at *
  unfold MakeEnd
  unfold MayEnd at cc
  cases ok
  case true =>
    have HBP := hidd (HBD.out.1 rfl)
    simp only [if_true]
    go_enter Try.func7, Try.ntmps7
    go_wp2_with fail
    refine cc.out.mono ?_
    rintro e w1 ⟨R, rfl, hR, hb1⟩
    obtain rfl : R = false := by cases R; rfl; exact absurd HR.out (hR.1 rfl)
    have ck := hidd (cl.out w1 ((HC.out.keep hb1).more hb1.size))
    have HB1 := hidd hb1
    clear hR cl hb1
    go_wp2_with fail
    refine ck.out.mono ?_
    rintro e w2 ⟨v, rfl, hO, hb2⟩
    have hb3 := below_step HB1.out hb2
    have HB3 := hidd hb3
    obtain ⟨A2, c2, rfl, _, _, hl2⟩ := hO.lie sendV_len
    have ce := hidd ((cb.out A2 c2 w2 hl2).1 HBP.out)
    have HO := hidd (hO.base HB1.out.size : OwnL sendV 2 w2 w.heap.size 44 _ _)
    clear hO hl2 hb2 hb3 cb
    go_wp2_with fail
    refine ce.out.mono ?_
    rintro e w3 ⟨rfl, rfl⟩
    go_wp2_with fail
    go_ret2
    exact ⟨_, rfl, HO.out, HB3.out⟩
  case false =>
    have HBP := hidd (show ¬ boundP Z from fun h => absurd (HBD.out.2 h) Bool.false_ne_true)
    simp only [Bool.false_eq_true, if_false]
    go_enter Try.func7, Try.ntmps7
    go_wp2_with fail
    refine cc.out.mono ?_
    rintro e w1 ⟨R, rfl, hR, hb1⟩
    obtain rfl : R = false := by cases R; rfl; exact absurd HR.out (hR.1 rfl)
    have ck := hidd (cl.out w1 ((HC.out.keep hb1).more hb1.size))
    have HB1 := hidd hb1
    clear hR cl hb1
    go_wp2_with fail
    refine ck.out.mono ?_
    rintro e w2 ⟨v, rfl, hO, hb2⟩
    have hb3 := below_step HB1.out hb2
    have HB3 := hidd hb3
    obtain ⟨A2, c2, rfl, _, _, hl2⟩ := hO.lie sendV_len
    have ce := hidd ((cb.out A2 c2 w2 hl2).2 HBP.out)
    clear hO hl2 hb2 hb3 cb
    go_wp2_with fail
    refine ce.out.mono ?_
    rintro e w3 ⟨rfl, rfl⟩
    go_wp2_with fail
    go_ret2
    exact ⟨_, rfl, OwnL.nil _ _ _, HB3.out⟩
/-- is one nowhere above another. -/
def BelowEnd (is : Bool) (no : Int) (w : World) (e : Ending) (w' : World) : Prop := e = .returned (.tuple #[.bool is, .int .i64 no]) ∧ Below w.heap.size w w'
end Go.Proofs.Ytpgaklfgbioocaa
