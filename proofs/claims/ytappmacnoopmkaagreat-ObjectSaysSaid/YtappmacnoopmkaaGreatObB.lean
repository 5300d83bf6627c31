/- Objects: may one be, as the program asks; are two the same. -/
import Derived.Test.YtappmacnoopmkaaGreatObA
namespace Go.Proofs.YtappmacnoopmkaaGreat
set_option linter.unusedVariables false
open Go.RowKit

def IdxEnd (P : Prop) (w : World) (e : Ending) (w' : World) : Prop := ∃ n : Int, e = .returned (.int .i64 n) ∧ (-1 ≤ n ∧ n ≤ 9223372036854775807) ∧ (0 ≤ n ↔ P) ∧ Below w.heap.size w w'
def ConEnd (P : Prop) (w : World) (e : Ending) (w' : World) : Prop := ∃ R : Bool, e = .returned (.bool R) ∧ (R = true ↔ P) ∧ Below w.heap.size w w'
theorem idxEnd_of {P : Prop} {w : World} (n : Int) (w' : World) (h1 : -1 ≤ n) (h2 : n ≤ 9223372036854775807) (h3 : 0 ≤ n ↔ P) (hb : Below w.heap.size w w') : IdxEnd P w (.returned (.int .i64 n)) w' := ⟨n, rfl, ⟨h1, h2⟩, h3, hb⟩
theorem all_av {l : List Int} {p : Int → Bool} : l.all p = true ↔ ∀ i, i < l.length → p (av l i) = true := by
  rw [List.all_eq_true]
  constructor
  · exact fun h i hi => h _ (av_mem hi)
  · intro h x hx
    obtain ⟨i, hi, rfl⟩ := List.mem_iff_getElem.1 hx
    have := h i hi
    rwa [av_at hi] at this
set_option maxHeartbeats 2000000 in
theorem idxW_any (A : Option Addr) (L : List Int) (c : Nat) (hL : L.length ≤ 9223372036854775807) (w : World) (hA : LieQ wdV 1 w (· < w.heap.size) A L) :
    Calls Tryz.prog 177 #[.slice A L.length c, .func (.func 160) #[] #[]] w (IdxEnd (¬ L.all wordB = true) w) := by
  have HA := hidd hA
  have C := hidd (fun a W => isNoWord_any a W)
  obtain ⟨P, hP⟩ : ∃ P : Prop, (L.all wordB = true) = P := ⟨_, rfl⟩
  have HP := hidd (show P ↔ ∀ i, i < L.length → wordB (av L i) = true by rw [← hP]; exact all_av)
  rw [hP]
  have HID := hidd (idxEnd_of (P := ¬ P) (w := w))
  clear hA hP
  go_enter Tryz.func177, Tryz.ntmps177
  go_wp2_with fail
  go_loopg [8] (L.length + 2) (fun g s8 wr => ∃ i : Nat, i ≤ L.length ∧ i + g = L.length + 2 ∧ s8 = .int .i64 (i : Int) ∧ (∀ j, j < i → wordB (av L j) = true) ∧ Below w.heap.size w wr)
  case atStart => exact ⟨0, by omega, by omega, rfl, fun j h => absurd h (by omega), Below.refl _ _⟩
  case round =>
    obtain ⟨i, hi1, hg, rfl, hs, hB⟩ := hrel
    have HG := hidd hg
    have HS := hidd hs
    have HB := hidd hB
    clear hg hs hB
    by_cases hin : i < L.length
    · have hin2 : (i : Int) < (L.length : Int) := by omega
      have hi0 : (0 : Int) ≤ (i : Int) := by omega
      obtain ⟨ad, rfl, ha, x0⟩ := (HA.out.below HB.out).word i hin
      have HNO := hidd (fun (h : wordB (av L i) = false) => (show ¬ P from fun hh => by
        have := HP.out.1 hh i hin
        rw [h] at this
        exact absurd this (by decide)))
      have HST := hidd (fun (h : wordB (av L i) = true) k (k1 : k < i + 1) => (show wordB (av L k) = true by
        by_cases hk : k = i
        · subst hk; exact h
        · exact HS.out k (by omega)))
      have hBB := HB.out
      have hBs := hBB.size
      have ci := hidd (C.out (av L i))
      generalize av L i = a0 at *
      obtain ⟨M, hM⟩ : ∃ M, wordB a0 = M := ⟨_, rfl⟩
      have HM := hidd hM
      rw [hM] at ci
      clear hM
      cases M
      · go_wp2_with fail
        refine (ci.out _).mono ?_
        rintro e w2 ⟨rfl, rfl⟩
        go_wp2_with fail
        go_ret
        exact HID.out _ _ (by omega) (by omega) ⟨fun _ => HNO.out HM.out, fun _ => by omega⟩ (by (repeat' (first | (with_reducible exact Below.refl _ _) | (with_reducible assumption) | (with_reducible apply Below.setCell) | (with_reducible apply Below.alloc) | (with_reducible apply Below.drew) | (with_reducible apply below_drewN) | (with_reducible refine Below.trans ?_ (Below.mono (by assumption) ?_)) | omega | (simp; done) | (simp; omega))))
      · go_wp2_with fail
        refine (ci.out _).mono ?_
        rintro e w2 ⟨rfl, rfl⟩
        go_wp2_with fail
        have hg := HG.out
        go_roundg (gk - 1)
        case measure => omega
        case rel => exact ⟨i + 1, by omega, by omega, by go_num, HST.out HM.out, by (repeat' (first | (with_reducible exact Below.refl _ _) | (with_reducible assumption) | (with_reducible apply Below.setCell) | (with_reducible apply Below.alloc) | (with_reducible apply Below.drew) | (with_reducible apply below_drewN) | (with_reducible refine Below.trans ?_ (Below.mono (by assumption) ?_)) | omega | (simp; done) | (simp; omega)))⟩
    · have hall : P := HP.out.2 (fun j h2 => HS.out j (by omega))
      have HALL := hidd hall
      have hin2 : ¬ (i : Int) < (L.length : Int) := by omega
      clear hall
      go_wp2_with fail
      go_ret
      exact HID.out _ _ (by omega) (by omega) ⟨fun h => absurd h (by omega), fun h => absurd HALL.out h⟩ HB.out
theorem conW_any (A : Option Addr) (L : List Int) (c : Nat) (hL : L.length ≤ 9223372036854775807) (w : World) (hA : LieQ wdV 1 w (· < w.heap.size) A L) :
    Calls Tryz.prog 159 #[.slice A L.length c, .func (.func 160) #[] #[]] w (ConEnd (¬ L.all wordB = true) w) := by
  have ci := hidd (idxW_any A L c hL w hA)
  clear hA
  unfold ConEnd
  go_enter Tryz.func159, Tryz.ntmps159
  go_wp2_with fail
  refine ci.out.mono ?_
  rintro e w1 ⟨n, rfl, h1, h2, hb⟩
  have H2 := hidd h2
  have HB := hidd hb
  clear h2 hb
  by_cases h0 : 0 ≤ n
  · go_wp2_with fail
    go_ret
    exact ⟨true, by simp, ⟨fun _ => H2.out.1 h0, fun _ => rfl⟩, HB.out⟩
  · go_wp2_with fail
    go_ret
    exact ⟨false, by simp; omega, ⟨fun h => absurd h Bool.false_ne_true, fun h => absurd (H2.out.2 h) (by omega)⟩, HB.out⟩
theorem bool_not {R B : Bool} (h : R = true ↔ ¬ B = true) : R = !B := by cases R <;> cases B <;> simp_all
set_option maxHeartbeats 4000000 in
theorem isNone_any (a b : Int) (A : Option Addr) (L : List Int) (c : Nat) (hL : L.length ≤ 9223372036854775807) (w : World) (hA : LieQ wdV 1 w (· < w.heap.size) A L) :
    Calls Tryz.prog 90 #[.agg #[.int .i64 a, .int .i64 b, .slice A L.length c]] w fun e w' => e = .returned (.bool (!rightB a b L)) ∧ Below w.heap.size w w' := by
  have HA := hidd hA
  have c1 := hidd (fun W => isFrom_any 0 a 255 W)
  have c2 := hidd (fun W => isFrom_any 0 b 255 W)
  have c3 := hidd (fun W => isFrom_any 1 (L.length : Int) 64 W)
  have CW := hidd (fun W (h : LieQ wdV 1 W (· < W.heap.size) A L) => conW_any A L c hL W h)
  unfold rightB
  generalize inB 0 a 255 = B1 at *
  generalize inB 0 b 255 = B2 at *
  generalize inB 1 (L.length : Int) 64 = B3 at *
  clear hA
  cases B1
  · go_enter Tryz.func90, Tryz.ntmps90
    go_wp2_with fail
    refine (c1.out _).mono ?_
    rintro e w1 ⟨rfl, rfl⟩
    go_wp2_with fail
    go_ret
    exact ⟨rfl, by (repeat' (first | (with_reducible exact Below.refl _ _) | (with_reducible assumption) | (with_reducible apply Below.setCell) | (with_reducible apply Below.alloc) | (with_reducible apply Below.drew) | (with_reducible apply below_drewN) | (with_reducible refine Below.trans ?_ (Below.mono (by assumption) ?_)) | omega | (simp; done) | (simp; omega)))⟩
  cases B2
  · go_enter Tryz.func90, Tryz.ntmps90
    go_wp2_with fail
    refine (c1.out _).mono ?_
    rintro e w1 ⟨rfl, rfl⟩
    go_wp2_with fail
    refine (c2.out _).mono ?_
    rintro e w1 ⟨rfl, rfl⟩
    go_wp2_with fail
    go_ret
    exact ⟨rfl, by (repeat' (first | (with_reducible exact Below.refl _ _) | (with_reducible assumption) | (with_reducible apply Below.setCell) | (with_reducible apply Below.alloc) | (with_reducible apply Below.drew) | (with_reducible apply below_drewN) | (with_reducible refine Below.trans ?_ (Below.mono (by assumption) ?_)) | omega | (simp; done) | (simp; omega)))⟩
  cases B3
  · go_enter Tryz.func90, Tryz.ntmps90
    go_wp2_with fail
    refine (c1.out _).mono ?_
    rintro e w1 ⟨rfl, rfl⟩
    go_wp2_with fail
    refine (c2.out _).mono ?_
    rintro e w1 ⟨rfl, rfl⟩
    go_wp2_with fail
    refine (c3.out _).mono ?_
    rintro e w1 ⟨rfl, rfl⟩
    go_wp2_with fail
    go_ret
    exact ⟨rfl, by (repeat' (first | (with_reducible exact Below.refl _ _) | (with_reducible assumption) | (with_reducible apply Below.setCell) | (with_reducible apply Below.alloc) | (with_reducible apply Below.drew) | (with_reducible apply below_drewN) | (with_reducible refine Below.trans ?_ (Below.mono (by assumption) ?_)) | omega | (simp; done) | (simp; omega)))⟩
  · go_enter Tryz.func90, Tryz.ntmps90
    go_wp2_with fail
    refine (c1.out _).mono ?_
    rintro e w1 ⟨rfl, rfl⟩
    go_wp2_with fail
    refine (c2.out _).mono ?_
    rintro e w1 ⟨rfl, rfl⟩
    go_wp2_with fail
    refine (c3.out _).mono ?_
    rintro e w1 ⟨rfl, rfl⟩
    have HB1 := hidd (show Below w.heap.size w (w.alloc (.cells #[.int .i64 a, .int .i64 b, .slice A L.length c] 42)) by (repeat' (first | (with_reducible exact Below.refl _ _) | (with_reducible assumption) | (with_reducible apply Below.setCell) | (with_reducible apply Below.alloc) | (with_reducible apply Below.drew) | (with_reducible apply below_drewN) | (with_reducible refine Below.trans ?_ (Below.mono (by assumption) ?_)) | omega | (simp; done) | (simp; omega))))
    go_wp2_with fail
    refine (CW.out _ (HA.out.below HB1.out)).mono ?_
    rintro e w2 ⟨R, rfl, hR, hb2⟩
    have HB2 := hidd (below_step HB1.out hb2)
    have HR := hidd hR
    clear hR hb2
    go_wp2_with fail
    go_ret
    exact ⟨ret_bool (by rw [bool_not HR.out]; rfl), HB2.out⟩
set_option maxHeartbeats 2000000 in
theorem idxO_any (A : Option Addr) (L : List Ob) (c : Nat) (hL : L.length ≤ 9223372036854775807) (hLw : ∀ o ∈ L, o.ws.length ≤ 9223372036854775807) (w : World) (hA : Obs w (· < w.heap.size) A L) :
    Calls Tryz.prog 158 #[.slice A L.length c, .func (.func 90) #[] #[]] w (IdxEnd (¬ ∀ o ∈ L, rightB o.c o.t o.ws = true) w) := by
  have HA := hidd hA
  obtain ⟨P, hP⟩ : ∃ P : Prop, (∀ o ∈ L, rightB o.c o.t o.ws = true) = P := ⟨_, rfl⟩
  have HP := hidd (show P ↔ ∀ i (hi : i < L.length), rightB L[i].c L[i].t L[i].ws = true by
    rw [← hP]
    exact ⟨fun h i hi => h _ (List.getElem_mem hi), fun h o ho => by obtain ⟨i, hi, rfl⟩ := List.mem_iff_getElem.1 ho; exact h i hi⟩)
  rw [hP]
  have HLW := hidd hLw
  have HID := hidd (idxEnd_of (P := ¬ P) (w := w))
  clear hA hP hLw
  go_enter Tryz.func158, Tryz.ntmps158
  go_wp2_with fail
  go_loopg [8] (L.length + 2) (fun g s8 wr => ∃ i : Nat, i ≤ L.length ∧ i + g = L.length + 2 ∧ s8 = .int .i64 (i : Int) ∧ (∀ j (hj : j < L.length), j < i → rightB L[j].c L[j].t L[j].ws = true) ∧ Below w.heap.size w wr)
  case atStart => exact ⟨0, by omega, by omega, rfl, fun j _ h => absurd h (by omega), Below.refl _ _⟩
  case round =>
    obtain ⟨i, hi1, hg, rfl, hs, hB⟩ := hrel
    have HG := hidd hg
    have HS := hidd hs
    have HB := hidd hB
    clear hg hs hB
    by_cases hin : i < L.length
    · have hin2 : (i : Int) < (L.length : Int) := by omega
      have hi0 : (0 : Int) ≤ (i : Int) := by omega
      have hO := HA.out.below HB.out
      obtain ⟨ad, rfl, ha, x0, x1, x2⟩ := hO.at_ i hin
      obtain ⟨Ai, ki, hv, hlw⟩ := hO.2 L[i] (List.getElem_mem hin)
      rw [hv] at x2
      rw [add_plain3 ad i 0] at x1
      rw [add_plain3 ad i 1] at x2
      have hw0 := HLW.out L[i] (List.getElem_mem hin)
      have HNO := hidd (fun (h : rightB L[i].c L[i].t L[i].ws = false) => (show ¬ P from fun hh => by
        have := HP.out.1 hh i hin
        rw [h] at this
        exact absurd this (by decide)))
      have HST := hidd (fun (h : rightB L[i].c L[i].t L[i].ws = true) k (hk1 : k < L.length) (k1 : k < i + 1) => (show rightB L[k].c L[k].t L[k].ws = true by
        by_cases hk : k = i
        · subst hk; exact h
        · exact HS.out k hk1 (by omega)))
      have hBB := HB.out
      have hBs := hBB.size
      generalize L[i] = ob at *
      obtain ⟨a, b, v, ws⟩ := ob
      dsimp only at *
      have ci := hidd (fun W (h : Below wr.heap.size wr W) => isNone_any a b Ai ws ki hw0 W (hlw.below h))
      obtain ⟨M, hM⟩ : ∃ M, rightB a b ws = M := ⟨_, rfl⟩
      have HM := hidd hM
      rw [hM] at ci
      clear hM hv hlw hO
      cases M
      · go_wp2_with fail
        refine (ci.out _ (by (repeat' (first | (with_reducible exact Below.refl _ _) | (with_reducible assumption) | (with_reducible apply Below.setCell) | (with_reducible apply Below.alloc) | (with_reducible apply Below.drew) | (with_reducible apply below_drewN) | (with_reducible refine Below.trans ?_ (Below.mono (by assumption) ?_)) | omega | (simp; done) | (simp; omega))))).mono ?_
        rintro e w2 ⟨rfl, hb2⟩
        go_wp2_with fail
        go_ret
        exact HID.out _ _ (by omega) (by omega) ⟨fun _ => HNO.out HM.out, fun _ => by omega⟩ (by (repeat' (first | (with_reducible exact Below.refl _ _) | (with_reducible assumption) | (with_reducible apply Below.setCell) | (with_reducible apply Below.alloc) | (with_reducible apply Below.drew) | (with_reducible apply below_drewN) | (with_reducible refine Below.trans ?_ (Below.mono (by assumption) ?_)) | omega | (simp; done) | (simp; omega))))
      · go_wp2_with fail
        refine (ci.out _ (by (repeat' (first | (with_reducible exact Below.refl _ _) | (with_reducible assumption) | (with_reducible apply Below.setCell) | (with_reducible apply Below.alloc) | (with_reducible apply Below.drew) | (with_reducible apply below_drewN) | (with_reducible refine Below.trans ?_ (Below.mono (by assumption) ?_)) | omega | (simp; done) | (simp; omega))))).mono ?_
        rintro e w2 ⟨rfl, hb2⟩
        go_wp2_with fail
        have hg := HG.out
        go_roundg (gk - 1)
        case measure => omega
        case rel => exact ⟨i + 1, by omega, by omega, by go_num, HST.out HM.out, by (repeat' (first | (with_reducible exact Below.refl _ _) | (with_reducible assumption) | (with_reducible apply Below.setCell) | (with_reducible apply Below.alloc) | (with_reducible apply Below.drew) | (with_reducible apply below_drewN) | (with_reducible refine Below.trans ?_ (Below.mono (by assumption) ?_)) | omega | (simp; done) | (simp; omega)))⟩
    · have hall : P := HP.out.2 (fun j h2 => HS.out j h2 (by omega))
      have HALL := hidd hall
      have hin2 : ¬ (i : Int) < (L.length : Int) := by omega
      clear hall
      go_wp2_with fail
      go_ret
      exact HID.out _ _ (by omega) (by omega) ⟨fun h => absurd h (by omega), fun h => absurd HALL.out h⟩ HB.out
theorem conO_any (A : Option Addr) (L : List Ob) (c : Nat) (hL : L.length ≤ 9223372036854775807) (hLw : ∀ o ∈ L, o.ws.length ≤ 9223372036854775807) (w : World) (hA : Obs w (· < w.heap.size) A L) :
    Calls Tryz.prog 89 #[.slice A L.length c, .func (.func 90) #[] #[]] w (ConEnd (¬ ∀ o ∈ L, rightB o.c o.t o.ws = true) w) := by
  have ci := hidd (idxO_any A L c hL hLw w hA)
  clear hA
  unfold ConEnd
  go_enter Tryz.func89, Tryz.ntmps89
  go_wp2_with fail
  refine ci.out.mono ?_
  rintro e w1 ⟨n, rfl, h1, h2, hb⟩
  have H2 := hidd h2
  have HB := hidd hb
  clear h2 hb
  by_cases h0 : 0 ≤ n
  · go_wp2_with fail
    go_ret
    exact ⟨true, by simp, ⟨fun _ => H2.out.1 h0, fun _ => rfl⟩, HB.out⟩
  · go_wp2_with fail
    go_ret
    exact ⟨false, by simp; omega, ⟨fun h => absurd h Bool.false_ne_true, fun h => absurd (H2.out.2 h) (by omega)⟩, HB.out⟩
theorem list_eq_av {L M : List Int} (hn : L.length = M.length) (h : ∀ i, i < L.length → av L i = av M i) : L = M := by
  refine List.ext_getElem hn fun i h1 h2 => ?_
  have := h i h1
  rwa [av_at h1, av_at h2] at this
set_option maxHeartbeats 2000000 in
theorem equalW_any (A B : Option Addr) (L M : List Int) (c d : Nat) (hL : L.length ≤ 9223372036854775807) (hM : M.length ≤ 9223372036854775807) (w : World) (hA : LieQ wdV 1 w (· < w.heap.size) A L) (hB : LieQ wdV 1 w (· < w.heap.size) B M) :
    Calls Tryz.prog 162 #[.slice A L.length c, .slice B M.length d] w fun e w' => e = .returned (.bool (decide (L = M))) ∧ Below w.heap.size w w' := by
  have HA := hidd hA
  have HB := hidd hB
  obtain ⟨R, hR⟩ : ∃ R, decide (L = M) = R := ⟨_, rfl⟩
  rw [hR]
  have HR := hidd hR
  clear hA hB hR
  by_cases hn : L.length = M.length
  · have HN := hidd hn
    obtain ⟨n, hln⟩ : ∃ n, L.length = n := ⟨_, rfl⟩
    have HLN := hidd hln
    rw [← hn, hln]
    rw [hln] at hL
    clear hn hln hM
    go_enter Tryz.func162, Tryz.ntmps162
    go_wp2_with fail
    go_loopg [13] (n + 1) (fun g s wr => ∃ (i : Nat), i ≤ n ∧ i + g = n + 1 ∧ s = .int .i64 (i : Int) ∧ (∀ j, j < i → av L j = av M j) ∧ Below w.heap.size w wr)
    case atStart => exact ⟨0, by omega, by omega, rfl, fun j hj => absurd hj (by omega), Below.refl _ _⟩
    case round =>
      obtain ⟨i, hi, hg, rfl, hs, hB⟩ := hrel
      have HG := hidd hg
      have HS := hidd hs
      have HBw := hidd hB
      clear hg hs
      by_cases hin : i < n
      · obtain ⟨ad, rfl, ha, x0⟩ := (HA.out.below hB).word i (by rw [HLN.out]; exact hin)
        obtain ⟨bd, rfl, hb, y0⟩ := (HB.out.below hB).word i (by rw [← HN.out, HLN.out]; exact hin)
        have hin2 : (i : Int) < (n : Int) := by omega
        have hi0 : (0 : Int) ≤ (i : Int) := by omega
        have HNO := hidd (fun (h : av L i ≠ av M i) => (show R = false by
          rw [← HR.out]
          refine decide_eq_false (fun e => ?_)
          subst e
          exact h rfl))
        have HST := hidd (fun (h : av L i = av M i) j (hj : j < i + 1) => (show av L j = av M j by
          by_cases e : j = i
          · subst e; exact h
          · exact HS.out j (by omega)))
        clear hB
        generalize av L i = a0 at *
        generalize av M i = b0 at *
        by_cases h0 : a0 = b0
        · subst h0
          have HN1 := hidd (HST.out rfl)
          go_wp2_with fail
          go_quiet (fail)
          go_wp2_with fail
          have hg := HG.out
          go_roundg (gk - 1)
          case measure => omega
          case rel => exact ⟨i + 1, by omega, by omega, by go_num, HN1.out, by have := HBw.out; (repeat' (first | (with_reducible exact Below.refl _ _) | (with_reducible assumption) | (with_reducible apply Below.setCell) | (with_reducible apply Below.alloc) | (with_reducible apply Below.drew) | (with_reducible apply below_drewN) | (with_reducible refine Below.trans ?_ (Below.mono (by assumption) ?_)) | omega | (simp; done) | (simp; omega)))⟩
        · have hr := HNO.out h0
          subst hr
          go_wp2_with fail
          go_quiet (fail)
          go_wp2_with fail
          go_ret
          exact ⟨by simp, by have := HBw.out; (repeat' (first | (with_reducible exact Below.refl _ _) | (with_reducible assumption) | (with_reducible apply Below.setCell) | (with_reducible apply Below.alloc) | (with_reducible apply Below.drew) | (with_reducible apply below_drewN) | (with_reducible refine Below.trans ?_ (Below.mono (by assumption) ?_)) | omega | (simp; done) | (simp; omega)))⟩
      · have hin2 : ¬ (i : Int) < (n : Int) := by omega
        have hr : R = true := by
          rw [← HR.out]
          exact decide_eq_true (list_eq_av HN.out (fun j hj => HS.out j (by rw [HLN.out] at hj; omega)))
        subst hr
        clear hB
        go_wp2_with fail
        go_ret
        exact ⟨by simp, by have := HBw.out; (repeat' (first | (with_reducible exact Below.refl _ _) | (with_reducible assumption) | (with_reducible apply Below.setCell) | (with_reducible apply Below.alloc) | (with_reducible apply Below.drew) | (with_reducible apply below_drewN) | (with_reducible refine Below.trans ?_ (Below.mono (by assumption) ?_)) | omega | (simp; done) | (simp; omega)))⟩
  · have hne : ((L.length : Int) != (M.length : Int)) = true := by simp; omega
    have hr : R = false := by
      rw [← HR.out]
      exact decide_eq_false (fun e => hn (by rw [e]))
    subst hr
    clear hn
    go_enter Tryz.func162, Tryz.ntmps162
    go_wp2_with fail
    go_ret
    exact ⟨by simp, by (repeat' (first | (with_reducible exact Below.refl _ _) | (with_reducible assumption) | (with_reducible apply Below.setCell) | (with_reducible apply Below.alloc) | (with_reducible apply Below.drew) | (with_reducible apply below_drewN) | (with_reducible refine Below.trans ?_ (Below.mono (by assumption) ?_)) | omega | (simp; done) | (simp; omega)))⟩
def sameB (a b : Int) (L : List Int) (c d : Int) (M : List Int) : Bool := decide (a = c) && (decide (b = d) && decide (L = M))
set_option maxHeartbeats 2000000 in
theorem Same_any (a b : Int) (A : Option Addr) (L : List Int) (k : Nat) (c d : Int) (B : Option Addr) (M : List Int) (m : Nat) (hL : L.length ≤ 9223372036854775807) (hM : M.length ≤ 9223372036854775807) (w : World) (hA : LieQ wdV 1 w (· < w.heap.size) A L) (hB : LieQ wdV 1 w (· < w.heap.size) B M) :
    Calls Tryz.prog 101 #[.agg #[.int .i64 a, .int .i64 b, .slice A L.length k], .agg #[.int .i64 c, .int .i64 d, .slice B M.length m]] w fun e w' => e = .returned (.bool (sameB a b L c d M)) ∧ Below w.heap.size w w' := by
  have HA := hidd hA
  have HB := hidd hB
  have CE := hidd (fun W h1 h2 => equalW_any A B L M k m hL hM W h1 h2)
  have HX := hidd (show Below w.heap.size w ((w.alloc (.cells #[.int .i64 a, .int .i64 b, .slice A L.length k] 42)).alloc (.cells #[.int .i64 c, .int .i64 d, .slice B M.length m] 42)) by (repeat' (first | (with_reducible exact Below.refl _ _) | (with_reducible assumption) | (with_reducible apply Below.setCell) | (with_reducible apply Below.alloc) | (with_reducible apply Below.drew) | (with_reducible apply below_drewN) | (with_reducible refine Below.trans ?_ (Below.mono (by assumption) ?_)) | omega | (simp; done) | (simp; omega))))
  unfold sameB
  clear hA hB
  by_cases h1 : a = c
  · subst h1
    by_cases h2 : b = d
    · subst h2
      generalize decide (L = M) = R at *
      go_enter Tryz.func101, Tryz.ntmps101
      go_wp2_with fail
      refine (CE.out _ (HA.out.below HX.out) (HB.out.below HX.out)).mono ?_
      rintro e w1 ⟨rfl, hb⟩
      go_wp2_with fail
      go_ret
      exact ⟨ret_bool (by simp), below_step HX.out hb⟩
    · clear CE
      go_enter Tryz.func101, Tryz.ntmps101
      go_wp2_with fail
      go_ret
      exact ⟨ret_bool (by simp [h2]), HX.out⟩
  · clear CE
    go_enter Tryz.func101, Tryz.ntmps101
    go_wp2_with fail
    go_ret
    exact ⟨ret_bool (by simp [h1]), HX.out⟩
end Go.Proofs.YtappmacnoopmkaaGreat
