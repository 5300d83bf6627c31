/- Shapers: bytes summed up; sizes looked at; a tick gone to; Bytes, All, Spec, Next. -/
import Derived.Test.YtiecailfndlgoaaShC
namespace Go.Proofs.Ytiecailfndlgoaa
open Go.RowKit Go.Sort
set_option linter.unusedVariables false
theorem go1_any (x : Int × Int) (w : World) : Calls Try.prog 37 #[agW x] w fun e w' => e = .returned (.int .i64 x.2) ∧ Below w.heap.size w w' := by
  unfold agW
  go_enter Try.func37, Try.ntmps37
  go_wp2_with fail
  go_ret
  exact ⟨rfl, by (repeat' (first | (with_reducible exact Below.refl _ _) | (with_reducible assumption) | (with_reducible apply Below.setCell) | (with_reducible apply Below.alloc) | (with_reducible apply Below.drew) | (with_reducible apply below_drewN) | (with_reducible refine Below.trans ?_ (Below.mono (by assumption) ?_)) | omega | (simp; done) | (simp; omega)))⟩
theorem sumB_le {L : List (Int × Int)} (h : ∀ x ∈ L, 0 ≤ x.2) (i : Nat) : 0 ≤ sumB (L.take i) ∧ sumB (L.take i) ≤ sumB L := by
  have nn : ∀ M : List (Int × Int), (∀ x ∈ M, 0 ≤ x.2) → 0 ≤ sumB M := by
    intro M
    induction M with
    | nil => intro _; simp [sumB]
    | cons x M ih => intro hM; have a := hM x (by simp); have b := ih (fun y hy => hM y (List.mem_cons_of_mem _ hy)); simp only [sumB]; omega
  have a := nn (L.take i) (fun x hx => h x (List.mem_of_mem_take hx))
  have b := nn (L.drop i) (fun x hx => h x (List.mem_of_mem_drop hx))
  have c := sumB_take L i
  omega
set_option maxHeartbeats 2000000 in
theorem sum_any (A : Option Addr) (L : List (Int × Int)) (c : Nat) (hL : L.length ≤ 1000000000) (h0 : ∀ x ∈ L, 0 ≤ x.2) (h1 : sumB L ≤ 1000000000000) (w : World) (hA : Lie sendV 2 w w.heap.size A L) :
    Calls Try.prog 36 #[.slice A L.length c, .func (.func 37) #[] #[]] w fun e w' => e = .returned (.int .i64 (sumB L)) ∧ Below w.heap.size w w' := by
  have HA := hidd hA
  have C := hidd (fun x W => go1_any x W)
  have HS := hidd (fun i => sumB_le h0 i)
  have H1 := hidd h1
  have HE := hidd (fun (i : Nat) (hi : i < L.length) => sumB_one hi)
  have HF : Hid (∀ i, L.length ≤ i → sumB (L.take i) = sumB L) := hidd (fun i hi => by rw [List.take_of_length_le hi])
  unfold agW at C
  clear hA h0 h1
  go_enter Try.func36, Try.ntmps36
  go_wp2_with fail
  go_loopg [5, 10] (L.length + 1) (fun gk s5 s10 wr => ∃ i : Nat, i ≤ L.length ∧ i + gk = L.length + 1 ∧ s10 = .int .i64 (i : Int) ∧ s5 = .int .i64 (sumB (L.take i)) ∧ Below w.heap.size w wr)
  case atStart => exact ⟨0, by omega, by omega, rfl, by simp [sumB], Below.refl _ _⟩
  case round =>
    obtain ⟨i, hi, hk, rfl, rfl, hB⟩ := hrel
    have HK := hidd hk
    have HB := hidd hB
    clear hk hB
    by_cases hin : i < L.length
    · have z1 : (i : Int) < (L.length : Int) := by omega
      have z0 : (0 : Int) ≤ (i : Int) := by omega
      obtain ⟨ad, rfl, ha, x0, x1⟩ := (HA.out.below HB.out).send i hin
      have he := hidd (HE.out i hin)
      have hw : IntKind.i64.wrap (sumB (L.take i) + L[i].2) = sumB (L.take (i + 1)) := by
        rw [← he.out]
        have a := HS.out (i + 1)
        have b := H1.out
        exact IntWalk.i64_in _ (by omega)
      have hw64 : wrap64 (sumB (L.take i) + L[i].2) = sumB (L.take (i + 1)) := by
        rw [← he.out]
        have a := HS.out (i + 1)
        have b := H1.out
        simp only [wrap64]
        omega
      have HW := hidd hw
      have HW6 := hidd hw64
      have ct := hidd (fun W => C.out L[i] W)
      clear hw hw64 he
      generalize sumB (L.take i) = S0 at *
      generalize L[i].1 = a0 at *
      generalize L[i].2 = a1 at *
      go_wp2_with fail
      refine (ct.out _).mono ?_
      rintro e w2 ⟨rfl, hb2⟩
      have HB2 : Hid (Below w.heap.size w w2) := hidd (below_step (below_new HB.out _) hb2)
      clear hb2
      go_wp2_with fail
      have hk := HK.out
      go_roundg (gk - 1)
      case measure => omega
      case rel => exact ⟨i + 1, by omega, by omega, by go_num, by first | rw [HW6.out] | rw [HW.out], HB2.out⟩
    · have z1 : ¬ (i : Int) < (L.length : Int) := by omega
      have hf := HF.out i (by omega)
      rw [hf]
      clear hf HS HE HF H1
      obtain ⟨S, hS⟩ : ∃ S, sumB L = S := ⟨_, rfl⟩
      have HS := hidd hS
      rw [hS]
      clear hS
      go_wp2_with fail
      go_ret
      exact ⟨ret_int HS.out.symm, HB.out⟩
section
variable {w : World} {h g b : Nat} {v : Value} {p r u m l : Int} {s : BM.St} {room : Int} {L : List (Int × Int)}
theorem bytes_any (H : ShAt w h g b v p r u m l s room L) : Calls Try.prog 20 #[.pointer (some ⟨h, 0, none⟩)] w fun e w' => e = .returned (.int .i64 (sumB L)) ∧ w = w' := by
  have c := hidd (shNone_yes H.h0)
  have h0 := H.h0
  have g2 := H.g2
  clear H
  generalize sumB L = S at *
  go_enter Try.func20, Try.ntmps20
  go_wp2_with fail
  refine c.out.mono ?_
  rintro e w' ⟨rfl, rfl⟩
  go_wp2_with fail
  go_ret
  exact ⟨rfl, rfl⟩
theorem all_any (H : ShAt w h g b v p r u m l s room L) : Calls Try.prog 23 #[.pointer (some ⟨h, 0, none⟩)] w fun e w' => e = .returned (.func (.func 57) #[] #[.pointer (some ⟨w.heap.size, 0, none⟩)]) ∧ w' = w.alloc (.cells #[v] 33) := by
  have c := hidd (shNone_yes H.h0)
  have cv := hidd (fun A n c W => waitVals_any A n c W)
  have h0 := H.h0
  have g1 := H.g1
  obtain ⟨A, k, rfl, _, _, _⟩ := H.q.lie
  clear H
  generalize L.length = n at *
  go_enter Try.func23, Try.ntmps23
  go_wp2_with fail
  refine c.out.mono ?_
  rintro e w' ⟨rfl, rfl⟩
  go_wp2_with fail
  refine (cv.out _ _ _ _).mono ?_
  rintro e w' ⟨rfl, rfl⟩
  go_wp2_with fail
  go_ret
  exact ⟨rfl, rfl⟩
theorem shSpec_any (H : ShAt w h g b v p r u m l s room L) : Calls Try.prog 14 #[.pointer (some ⟨h, 0, none⟩)] w fun e w' => e = .returned (.agg #[.int .i64 p, .int .i64 r, .int .i64 u, .int .i64 m, .int .i64 l]) ∧ Below w.heap.size w w' := by
  have hp := rightB_iff H.rt
  have HH := hidd H
  have c := hidd (fun W (b : Below w.heap.size w W) => shNone_yes (H.below b).h0)
  have cs := hidd (fun W (b : Below w.heap.size w W) => bspec_any (H.below b).bk (by omega))
  have B1 := hidd (show Below w.heap.size w (w.alloc (.cells #[.int .i64 0, .int .i64 0, .int .i64 0, .int .i64 0, .int .i64 0] 23)) from by (repeat' (first | (with_reducible exact Below.refl _ _) | (with_reducible assumption) | (with_reducible apply Below.setCell) | (with_reducible apply Below.alloc) | (with_reducible apply Below.drew) | (with_reducible apply below_drewN) | (with_reducible refine Below.trans ?_ (Below.mono (by assumption) ?_)) | omega | (simp; done) | (simp; omega))))
  have h0 := H.h0
  have g0 := H.g0
  have hl := H.hlt
  have gl := H.glt
  clear H hp
  go_enter Try.func14, Try.ntmps14
  go_wp2_with fail
  refine (c.out _ B1.out).mono ?_
  rintro e w' ⟨rfl, rfl⟩
  go_wp2_with fail
  refine (cs.out _ B1.out).mono ?_
  rintro e w2 ⟨rfl, hb⟩
  obtain ⟨bc, bf⟩ := bcell hb
  have z : w.heap.size < w2.heap.size := by have := hb.size; simp at this; omega
  have c0 : w2.cell? ⟨w.heap.size, 0, none⟩ = some (.int .i64 0) := by rw [bc _ _ (by (first | omega | (simp; done) | (simp; omega)))]; simp [go_sem]
  have c1 : w2.cell? ⟨w.heap.size, 1, none⟩ = some (.int .i64 0) := by rw [bc _ _ (by (first | omega | (simp; done) | (simp; omega)))]; simp [go_sem]
  have c2 : w2.cell? ⟨w.heap.size, 2, none⟩ = some (.int .i64 0) := by rw [bc _ _ (by (first | omega | (simp; done) | (simp; omega)))]; simp [go_sem]
  have c3 : w2.cell? ⟨w.heap.size, 3, none⟩ = some (.int .i64 0) := by rw [bc _ _ (by (first | omega | (simp; done) | (simp; omega)))]; simp [go_sem]
  have c4 : w2.cell? ⟨w.heap.size, 4, none⟩ = some (.int .i64 0) := by rw [bc _ _ (by (first | omega | (simp; done) | (simp; omega)))]; simp [go_sem]
  have f0 : w2.frozen? ⟨w.heap.size, 0, none⟩ = false := by rw [bf _ _ (by (first | omega | (simp; done) | (simp; omega)))]; simp [go_sem]
  have f1 : w2.frozen? ⟨w.heap.size, 1, none⟩ = false := by rw [bf _ _ (by (first | omega | (simp; done) | (simp; omega)))]; simp [go_sem]
  have f2 : w2.frozen? ⟨w.heap.size, 2, none⟩ = false := by rw [bf _ _ (by (first | omega | (simp; done) | (simp; omega)))]; simp [go_sem]
  have f3 : w2.frozen? ⟨w.heap.size, 3, none⟩ = false := by rw [bf _ _ (by (first | omega | (simp; done) | (simp; omega)))]; simp [go_sem]
  have f4 : w2.frozen? ⟨w.heap.size, 4, none⟩ = false := by rw [bf _ _ (by (first | omega | (simp; done) | (simp; omega)))]; simp [go_sem]
  have HB2 := hidd (below_step B1.out hb)
  clear bc bf hb HH
  go_wp2_with fail
  exact bodyPost_ret (v := .agg #[.int .i64 p, .int .i64 r, .int .i64 u, .int .i64 m, .int .i64 l]) (by simp [results, Try.results14, go_sem, *]) rfl ⟨rfl, (((((HB2.out.setCell (p := ⟨w.heap.size, 0, none⟩) (Nat.le_refl _) _).setCell (p := ⟨w.heap.size, 1, none⟩) (Nat.le_refl _) _).setCell (p := ⟨w.heap.size, 2, none⟩) (Nat.le_refl _) _).setCell (p := ⟨w.heap.size, 3, none⟩) (Nat.le_refl _) _).setCell (p := ⟨w.heap.size, 4, none⟩) (Nat.le_refl _) _)⟩
theorem moveTo_any {g b : Nat} {w : World} {p r u m l : Int} {s : BM.St} (hB : BktAt w b p r u m l s) (hg : w.cell? ⟨g, 0, none⟩ = some (.pointer (some ⟨b, 0, none⟩))) (hr : rightB p r u m l = true) (hs : BM.Ok u m s) (n : Int) :
    Calls Try.prog 34 #[.pointer (some ⟨g, 0, none⟩), .int .i64 n] w fun e w' => e = .returned (.int .i64 (BM.step p r u m l s n 0).2.2) ∧ BktAt w' b p r u m l (BM.step p r u m l s n 0).1 ∧ But b w w' := by
  have c := hidd (btake_any hB hr hs n 0)
  unfold TakeEnd at c
  generalize BM.step p r u m l s n 0 = St at *
  clear hB hr hs
  go_enter Try.func34, Try.ntmps34
  go_wp2_with fail
  refine c.out.mono ?_
  rintro e w1 ⟨rfl, hB1, hb1⟩
  have HB1 := hidd hB1
  have Hb1 := hidd hb1
  clear hB1 hb1
  go_wp2_with fail
  go_ret
  exact ⟨rfl, HB1.out, Hb1.out⟩
end
namespace BM
theorem least_nat {P : Nat → Prop} (h : ∃ k, P k) : ∃ k, P k ∧ ∀ j, j < k → ¬ P j := by
  obtain ⟨k, hk⟩ := h
  induction k using Nat.strongRecOn with
  | _ k ih =>
    by_cases q : ∃ j, j < k ∧ P j
    · obtain ⟨j, h1, h2⟩ := q
      exact ih j h1 h2
    · exact ⟨k, hk, fun j h1 h2 => q ⟨j, h1, h2⟩⟩
theorem when_uniq {p r u m : Int} {s : St} {n z t t' : Int} (h : IsWhen p r u m s n z t) (h' : IsWhen p r u m s n z t') : t = t' := by
  rcases Int.lt_trichotomy t t' with q | q | q
  · exact absurd h.2.2.1 (h'.2.2.2 t h.1 q)
  · exact q
  · exact absurd h'.2.2.1 (h.2.2.2 t' h'.1 q)
theorem when_exists {p r u m l : Int} {s : St} {n z : Int} (hr : rightB p r u m l = true) (hs : Ok u m s) (hn : s.1 ≤ n) (hz : sizeB m l z = true) : ∃ t, IsWhen p r u m s n z t := by
  have hb := rightB_iff hr
  obtain ⟨a0, a1, a2, a3, a4, a5⟩ := hs
  have hz := of_decide_eq_true hz
  have fit : z ≤ lev0 r u s (n + 2000) ∧ z ≤ lev1 p m s (n + 2000) := by
    have m1 : 1 * (n + 2000 - s.1) ≤ r * (n + 2000 - s.1) := Int.mul_le_mul_of_nonneg_right (by omega) (by omega)
    have m2 : 1 * (n + 2000 - s.1) ≤ p * (n + 2000 - s.1) := Int.mul_le_mul_of_nonneg_right (by omega) (by omega)
    unfold lev0 lev1
    rw [later_eq a2 a3 (by omega) (by omega), later_eq a4 a5 (by omega) (by omega)]
    generalize r * (n + 2000 - s.1) = R at *
    generalize p * (n + 2000 - s.1) = Q at *
    omega
  obtain ⟨k, hk, hmin⟩ : ∃ k : Nat, (z ≤ lev0 r u s (n + k) ∧ z ≤ lev1 p m s (n + k)) ∧ ∀ j : Nat, j < k → ¬ (z ≤ lev0 r u s (n + j) ∧ z ≤ lev1 p m s (n + j)) := by
    exact least_nat ⟨2000, fit⟩
  have hk2 : k ≤ 2000 := by
    rcases Nat.lt_or_ge 2000 k with q | q
    · exact absurd fit (hmin 2000 q)
    · exact q
  refine ⟨n + k, by omega, by omega, hk, fun j h1 h2 => ?_⟩
  obtain ⟨i, rfl⟩ : ∃ i : Nat, j = n + i := ⟨(j - n).toNat, by omega⟩
  exact hmin i (by omega)
end BM
theorem bwhen_at {b : Nat} {p r u m l : Int} {s : BM.St} {w : World} (hB : BktAt w b p r u m l s) (hr : rightB p r u m l = true) (hs : BM.Ok u m s) (n z t : Int) (hn : BM.askB s n = true) (hz : BM.sizeB m l z = true) (ht : BM.IsWhen p r u m s n z t) :
    Calls Try.prog 39 #[.pointer (some ⟨b, 0, none⟩), .int .i64 n, .int .i64 z] w fun e w' => e = .returned (.tuple #[.int .i64 t, .int .i64 0]) ∧ Below w.heap.size w w' :=
  (bwhen_yes hB hr hs n z hn hz).mono fun e w' ⟨t', he, h', hb⟩ => ⟨by rw [he, BM.when_uniq h' ht], hb⟩
end Go.Proofs.Ytiecailfndlgoaa
