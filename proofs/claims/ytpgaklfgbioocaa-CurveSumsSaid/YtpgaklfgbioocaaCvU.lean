/- Curves: a curve so many ticks later: Later. -/
import Derived.Test.YtpgaklfgbioocaaCvT
namespace Go.Proofs.Ytpgaklfgbioocaa
set_option linter.unusedVariables false
open Go.RowKit Go.Proofs.Ytpgaklfgbioocaa.RowK

def shf (t : Int) (x : Int × Int) : Int × Int := (x.1 + x.2 * t, x.2)
theorem laterL_eq (L : List (Int × Int)) (t : Int) : laterL L t = (kp L t L.length).map (shf t) := rfl
/-- the first q of them later. -/
def lm (K : List (Int × Int)) (t : Int) (q : Nat) : List (Int × Int) := (K.take q).map (shf t) ++ K.drop q
theorem lm_len (K : List (Int × Int)) (t : Int) (q : Nat) : (lm K t q).length = K.length := by simp [lm]; omega
theorem lm_zero (K : List (Int × Int)) (t : Int) : lm K t 0 = K := by simp [lm]
theorem lm_all (K : List (Int × Int)) (t : Int) : lm K t K.length = K.map (shf t) := by simp [lm]
theorem lm_at {K : List (Int × Int)} {t : Int} {q : Nat} (h : q < K.length) : SM.av (lm K t q) q = SM.av K q ∧ SM.sv (lm K t q) q = SM.sv K q := by
  have e : (lm K t q)[q]? = K[q]? := by
    unfold lm
    rw [List.getElem?_append_right (by simp; omega)]
    simp [Nat.min_eq_left (Nat.le_of_lt h)]
  unfold SM.av SM.sv
  rw [List.getD_eq_getElem?_getD, List.getD_eq_getElem?_getD, e]
  exact ⟨rfl, rfl⟩
theorem lm_set {K : List (Int × Int)} {t : Int} {q : Nat} (h : q < K.length) : (lm K t q).set q (SM.av K q + SM.sv K q * t, SM.sv K q) = lm K t (q + 1) := by
  unfold lm
  have hl : ((K.take q).map (shf t)).length = q := by simp; omega
  rw [List.set_append_right _ _ (by omega), hl, Nat.sub_self, List.drop_eq_getElem_cons h, List.set_cons_zero, List.take_add_one, List.getElem?_eq_getElem h, List.map_append]
  have e : shf t K[q] = (SM.av K q + SM.sv K q * t, SM.sv K q) := by unfold shf; rw [(av_at h).1, (av_at h).2]
  simp [e]
theorem row_set2 : ∀ (L : List (Int × Int)) (i : Nat) (x : Int), i < L.length → rowOf sendV (L.set i (x, SM.sv L i)) = (rowOf sendV L).set (i * 2) (.int .i64 x)
  | [], i, x, h => by simp at h
  | y :: L, 0, x, _ => by simp [rowOf, sendV, SM.sv]
  | y :: L, i + 1, x, h => by
    have ih := row_set2 L i x (by simpa using h)
    have e : SM.sv (y :: L) (i + 1) = SM.sv L i := by simp [SM.sv]
    rw [e, List.set_cons_succ]
    simp only [rowOf, List.flatMap_cons] at *
    rw [ih, List.set_append_right _ _ (by rw [sendV_len]; omega), sendV_len]
    congr 2
    omega
theorem OwnL.set2 {w : World} {base : Nat} {e : TypeId} {g cap n : Nat} {L : List (Int × Int)} (hn : L.length = n) (h : OwnL sendV 2 w base e (.slice (some ⟨g, 0, none⟩) n cap) L) {i : Nat} (hi : i < n) (x : Int) :
    OwnL sendV 2 (w.setCell ⟨g, i * 2, none⟩ (.int .i64 x)) base e (.slice (some ⟨g, 0, none⟩) n cap) (L.set i (x, SM.sv L i)) ∧ w.grownBy (w.setCell ⟨g, i * 2, none⟩ (.int .i64 x)) (some g) := by
  subst hn
  obtain ⟨h1, h2⟩ := World.ownsRow.stored (g := g) h (i * 2) (.int .i64 x)
  rw [← row_set2 L i x hi] at h1
  refine ⟨?_, h2⟩
  unfold OwnL
  rw [List.length_set]
  exact h1
theorem kp_mem {L : List (Int × Int)} {t : Int} : ∀ k, k ≤ L.length → ∀ x ∈ kp L t k, x ∈ L
  | 0, _, x, hx => by simp [kp] at hx
  | k + 1, hk, x, hx => by
    unfold kp at hx
    split at hx
    · rcases List.mem_append.1 hx with h | h
      · exact kp_mem k (by omega) x h
      · have : x = (SM.av L k, SM.sv L k) := by simpa using h
        rw [this, ← (av_at (show k < L.length by omega)).1, ← (av_at (show k < L.length by omega)).2]
        exact List.getElem_mem _
    · exact kp_mem k (by omega) x hx
theorem kp_pos {L : List (Int × Int)} {t : Int} (h : 0 < L.length) : 0 < (kp L t L.length).length := by
  obtain ⟨m, hm⟩ : ∃ m, L.length = m + 1 := ⟨L.length - 1, by omega⟩
  have hb : laterB L t m = true := by unfold laterB; rw [decide_eq_true (by omega : m + 1 = L.length)]; rfl
  rw [hm]
  unfold kp
  rw [if_pos hb]
  simp
theorem kp_may {L : List (Int × Int)} {t : Int} (hm : MayAll L) : MayAll (kp L t L.length) := fun i hi => by
  have h := kp_mem (t := t) L.length (Nat.le_refl _) _ (List.getElem_mem hi)
  obtain ⟨k, hk, e⟩ := List.mem_iff_getElem.1 h
  have := hm k hk
  rw [← (av_at hk).1, ← (av_at hk).2, e, (av_at hi).1, (av_at hi).2] at this
  exact this
set_option maxHeartbeats 2000000 in
theorem later_no (A : Option Addr) (L : List (Int × Int)) (c : Nat) (t : Int) (hL : L.length ≤ 1000000) (w : World) (hA : Lie sendV 2 w w.heap.size A L) (hn : ¬ (RgtC L ∧ tickB t = true)) :
    Calls Try.prog 18 #[.slice A L.length c, .int .i64 t] w (MakeEnd L [] 2 w) := by
  have hb0 := below_new (below_new (Below.refl w.heap.size w) (.cells #[.slice A L.length c] 25)) (.cells #[.int .i64 t] 2)
  have cn := hidd (isNone_any A L c hL _ (hA.below hb0))
  have ct := hidd (fun W => curveTick_any t W)
  have HB0 := hidd hb0
  unfold MakeEnd
  by_cases hr : RgtC L
  · have ht : tickB t = false := by cases h : tickB t; rfl; exact absurd ⟨hr, h⟩ hn
    have HR := hidd hr
    rw [ht] at ct
    clear hn hr ht hA hb0
    go_enter Try.func18, Try.ntmps18
    go_wp2_with fail
    refine cn.out.mono ?_
    rintro e w1 ⟨R, rfl, hR, hb1⟩
    obtain rfl : R = false := by cases R; rfl; exact absurd HR.out (hR.1 rfl)
    have y1 : w1.cell? ⟨w.heap.size + 1, 0, none⟩ = some (.int .i64 t) := by rw [hb1.cell (by simp)]; simp [go_sem]
    have HB1 := hidd (below_step HB0.out hb1)
    clear hR hb1
    go_wp2_with fail
    refine (ct.out _).mono ?_
    rintro e w2 ⟨rfl, rfl⟩
    go_wp2_with fail
    go_ret2
    exact ⟨_, rfl, OwnL.nil _ _ _, HB1.out⟩
  · have HR := hidd hr
    clear hn hr hA hb0
    go_enter Try.func18, Try.ntmps18
    go_wp2_with fail
    refine cn.out.mono ?_
    rintro e w1 ⟨R, rfl, hR, hb1⟩
    obtain rfl : R = true := hR.2 HR.out
    have HB1 := hidd (below_step HB0.out hb1)
    clear hR hb1
    go_wp2_with fail
    go_ret2
    exact ⟨_, rfl, OwnL.nil _ _ _, HB1.out⟩
set_option maxRecDepth 100000 in
set_option maxHeartbeats 4000000 in
theorem later_yes (ok : Bool) (A : Option Addr) (L : List (Int × Int)) (c : Nat) (t : Int) (hL : L.length ≤ 1000000) (w : World) (hA : Lie sendV 2 w w.heap.size A L) (hr : RgtC L) (ht : tickB t = true) (hok : ok = true ↔ boundP (laterL L t)) :
    Calls Try.prog 18 #[.slice A L.length c, .int .i64 t] w (MakeEnd L (if ok then laterL L t else []) (if ok then 0 else 3) w) := by
  obtain ⟨W0, hW0⟩ : ∃ W0, (w.alloc (.cells #[.slice A L.length c] 25)).alloc (.cells #[.int .i64 t] 2) = W0 := ⟨_, rfl⟩
  have hb0 : Below w.heap.size w W0 := hW0 ▸ below_new (below_new (Below.refl w.heap.size w) (.cells #[.slice A L.length c] 25)) (.cells #[.int .i64 t] 2)
  have hsz : W0.heap.size = w.heap.size + 2 := by rw [← hW0]; simp
  have hx1 : W0.cell? ⟨w.heap.size, 0, none⟩ = some (.slice A L.length c) := by rw [← hW0]; simp [go_sem]
  have hx2 : W0.cell? ⟨w.heap.size + 1, 0, none⟩ = some (.int .i64 t) := by rw [← hW0]; simp [go_sem]
  obtain ⟨ht0, ht1⟩ : 0 ≤ t ∧ t ≤ 2147483647 := of_decide_eq_true ht
  have HW0 := hidd hW0
  have hA0 := hA.below hb0
  have cn := hidd (isNone_any A L c hL W0 hA0)
  have ct := hidd (fun W => curveTick_any t W)
  rw [ht] at ct
  have ckp := hidd (fun W (hW : Below W0.heap.size W0 W) => kept_any w.heap.size (w.heap.size + 1) A L c t hL hr.2.1 ht0 ht1 W ((hW.cell (p := ⟨w.heap.size, 0, none⟩) (by show w.heap.size < _; omega)).trans hx1) ((hW.cell (p := ⟨w.heap.size + 1, 0, none⟩) (by show w.heap.size + 1 < _; omega)).trans hx2) (by have := hW.size; omega) (by have := hW.size; omega) (hA0.below hW))
  have hkpos := kp_pos (L := L) (t := t) (by have := hr.1; omega)
  have hklen := kp_len L t L.length
  have hkmay := kp_may (t := t) hr.2.1
  have HLE := hidd (laterL_eq L t)
  have HR := hidd hr
  have HX1 := hidd hx1
  have HX2 := hidd hx2
  have HB0 := hidd hb0
  have HOK := hidd hok
  have hL32 : L.length ≤ 32 := hr.1.2
  clear hA hA0 hr ht hok hx1 hx2 hb0
  generalize kp L t L.length = K at *
  have hh := hidd (fun j (hj : j < K.length) W => by
    have h := mayB_iff (hkmay j hj)
    simp only at h
    exact height_any (SM.av K j) (SM.sv K j) t h.1 h.2.1 h.2.2.1 h.2.2.2 ht0 ht1 W)
  have HKM := hidd hkmay
  clear hkmay
  unfold MakeEnd
  go_enter Try.func18, Try.ntmps18
  have hx1 := HX1.out
  have hx2 := HX2.out
  go_wp2_with fail
  refine cn.out.mono ?_
  rintro e w1 ⟨R, rfl, hR, hb1⟩
  obtain rfl : R = false := by cases R; rfl; exact absurd HR.out (hR.1 rfl)
  have z1 := (hb1.cell (p := ⟨w.heap.size, 0, none⟩) (by show w.heap.size < _; omega)).trans hx1
  have z2 := (hb1.cell (p := ⟨w.heap.size + 1, 0, none⟩) (by show w.heap.size + 1 < _; omega)).trans hx2
  have HB1 := hidd hb1
  clear hR hb1 hx1 hx2
  go_wp2_with fail
  refine (ct.out _).mono ?_
  rintro e w2 ⟨rfl, rfl⟩
  go_wp2_with fail
  refine (ckp.out _ HB1.out).mono ?_
  rintro e w2 ⟨v, rfl, hO, hb2⟩
  obtain ⟨g, cap, rfl, ⟨hg0, hg1⟩, ⟨hc0, hc1⟩, hcl⟩ := hO.form hkpos
  have HB2 := hidd (below_step HB1.out hb2)
  have hsz1 := HB1.out.size
  have hsz2 := HB2.out.size
  have HO := hidd hO
  have hgn1 : ¬ w.heap.size = g := by omega
  have hgn2 : ¬ w.heap.size + 1 = g := by omega
  have hgn3 : ¬ g = w.heap.size := by omega
  have hgn4 : ¬ g = w.heap.size + 1 := by omega
  clear hO hb2 hcl z1 z2
  go_wp2_with fail
  go_loopg [21] (K.length + 2) (fun gg s21 wr => ∃ q : Nat, q ≤ K.length ∧ q + gg = K.length + 2 ∧ s21 = .int .i64 (q : Int) ∧ OwnL sendV 2 wr w1.heap.size 44 (.slice (some ⟨g, 0, none⟩) K.length cap) (lm K t q) ∧ Below W0.heap.size W0 wr)
  case atStart => exact ⟨0, by omega, by omega, rfl, by rw [lm_zero]; exact HO.out, HB2.out⟩
  case round =>
    obtain ⟨q, hq, hgk, rfl, hO, hB⟩ := hrel
    have HG := hidd hgk
    clear hgk
    by_cases hin : q < K.length
    · have hin2 : (q : Int) < (K.length : Int) := by omega
      have hi0 : (0 : Int) ≤ (q : Int) := by omega
      obtain ⟨g', cap', e', ⟨_, hg2⟩, _, hcl⟩ := OwnL.form (L := lm K t q) (v := .slice (some ⟨g, 0, none⟩) K.length cap) hO (by rw [lm_len]; exact hkpos)
      obtain rfl : g = g' := by injection e' with e' _ _; injection e' with e'; injection e'
      obtain ⟨y0, y1⟩ := hcl q (by rw [lm_len]; exact hin)
      rw [(lm_at hin).1] at y0
      rw [(lm_at hin).2] at y1
      have z2 : wr.cell? ⟨w.heap.size + 1, 0, none⟩ = some (.int .i64 t) := (hB.cell (p := ⟨w.heap.size + 1, 0, none⟩) (by show w.heap.size + 1 < _; omega)).trans HX2.out
      have ch := hidd (fun W => hh.out q hin W)
      have HSET := hidd (lm_set (t := t) hin)
      have HSV := hidd (lm_at (t := t) hin).2
      have HO2 := hidd hO
      have HB3 := hidd hB
      have hwz := hB.size
      clear hcl e' hO hB
      obtain ⟨Y, hY⟩ : ∃ Y, SM.av K q + SM.sv K q * t = Y := ⟨_, rfl⟩
      rw [hY] at ch HSET
      clear hY
      generalize SM.av K q = a0 at *
      generalize SM.sv K q = a1 at *
      have hbn := hidd (below_new (Below.refl wr.heap.size wr) (.cells #[.int .i64 a0, .int .i64 a1] 44))
      have hz3 : (wr.alloc (.cells #[.int .i64 a0, .int .i64 a1] 44)).cell? ⟨w.heap.size + 1, 0, none⟩ = some (.int .i64 t) := (hbn.out.cell (p := ⟨w.heap.size + 1, 0, none⟩) (by show w.heap.size + 1 < _; omega)).trans z2
      go_wp2_with fail
      refine (ch.out _).mono ?_
      rintro e w3 ⟨rfl, hb3⟩
      have hb4 := below_step hbn.out hb3
      have hO5 := HO2.out.below hb4
      have hO6 : w3.ownsRow w1.heap.size 44 2 (.slice (some ⟨g, 0, none⟩) K.length cap) K.length (rowOf sendV (lm K t q)) := by have h := hO5; unfold OwnL at h; rwa [lm_len] at h
      have hfz := World.ownsRow.frozenAt (g := g) hO6 (q * 2)
      have hcz : w3.cell? ⟨g, q * 2, none⟩ = some (.int .i64 a0) := (hb4.cell (p := ⟨g, q * 2, none⟩) hg2).trans y0
      obtain ⟨hs1, hs2⟩ := OwnL.set2 (lm_len K t q) hO5 hin Y
      rw [HSV.out, HSET.out] at hs1
      have HS1 := hidd hs1
      have HB6 := hidd (Below.setCell (p := ⟨g, q * 2, none⟩) (HB3.out.trans (hb4.mono (by omega))) (by show W0.heap.size ≤ g; omega) (.int .i64 Y))
      clear hs1 hs2 hO5 hO6 hb3 hb4 y0 y1 z2 hz3
      go_wp2_with fail
      have hgk := HG.out
      go_roundg (gk - 1)
      case measure => omega
      case rel => exact ⟨q + 1, by omega, by omega, by go_num, HS1.out, HB6.out⟩
    · obtain rfl : q = K.length := by omega
      rw [lm_all, ← HLE.out] at hO
      obtain ⟨A2, c2, e2, _, _, hl2⟩ := hO.lie sendV_len
      have hll : (laterL L t).length = K.length := by rw [HLE.out]; simp
      rw [hll] at e2
      obtain ⟨e3, e4⟩ : A2 = some ⟨g, 0, none⟩ ∧ c2 = cap := by injection e2 with e2 _ e5; exact ⟨e2.symm, e5.symm⟩
      subst e3 e4
      have cb := hidd (bounded_any (some ⟨g, 0, none⟩) (laterL L t) c2 (by omega) (by omega) wr hl2)
      rw [hll] at cb
      have HO3 := hidd (hO.base (by omega : w.heap.size ≤ w1.heap.size))
      have HB3 := hidd (HB0.out.trans (hB.mono HB0.out.size))
      clear hl2 e2 hO hB hll
      cases ok
      · have cb2 := hidd (cb.out.2 (fun h => absurd (HOK.out.2 h) Bool.false_ne_true))
        clear cb
        go_wp2_with fail
        refine cb2.out.mono ?_
        rintro e w3 ⟨rfl, rfl⟩
        go_wp2_with fail
        go_ret2
        exact ⟨_, rfl, OwnL.nil _ _ _, HB3.out⟩
      · have cb2 := hidd (cb.out.1 (HOK.out.1 rfl))
        clear cb
        go_wp2_with fail
        refine cb2.out.mono ?_
        rintro e w3 ⟨rfl, rfl⟩
        go_wp2_with fail
        go_ret2
        exact ⟨_, rfl, HO3.out, HB3.out⟩
end Go.Proofs.Ytpgaklfgbioocaa
