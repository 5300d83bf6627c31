/- Objects: the document's Same, Right, Raw; what a law compares. -/
import Derived.Test.YtnneolkedekfbaaObF
namespace Go.Proofs.Ytnneolkedekfbaa
set_option linter.unusedVariables false
open Go.RowKit

set_option maxHeartbeats 4000000 in
theorem few_any (A : Option Addr) (l : List Ob) (c : Nat) (hm : l.length ≤ 9223372036854775807) (w : World) (hl : Obs w (· < w.heap.size) A l) :
    Calls Try.prog 6 #[.slice A l.length c] w (ConEnd (l.length ≤ 45 ∧ ∀ o ∈ l, o.ws.length ≤ 70) w) := by
  have HL := hidd hl
  obtain ⟨P, hP⟩ : ∃ P : Prop, (l.length ≤ 45 ∧ ∀ o ∈ l, o.ws.length ≤ 70) = P := ⟨_, rfl⟩
  have HP := hidd (show P ↔ l.length ≤ 45 ∧ ∀ i (hi : i < l.length), l[i].ws.length ≤ 70 by
    rw [← hP]
    exact ⟨fun h => ⟨h.1, fun i hi => h.2 _ (List.getElem_mem hi)⟩, fun h => ⟨h.1, fun o ho => by obtain ⟨i, hi, rfl⟩ := List.mem_iff_getElem.1 ho; exact h.2 i hi⟩⟩)
  rw [hP]
  clear hl hP
  by_cases h45 : l.length ≤ 45
  rotate_left
  · have h1 : (l.length : Int) > 45 := by omega
    have HN := hidd (show ¬ P from fun h => h45 (HP.out.1 h).1)
    clear h45
    go_enter Try.func6, Try.ntmps6
    go_wp2_with fail
    go_ret
    exact ⟨false, by first | rfl | simp, ⟨fun h => absurd h Bool.false_ne_true, fun h => absurd h HN.out⟩, by (repeat' (first | (with_reducible exact Below.refl _ _) | (with_reducible assumption) | (with_reducible apply Below.setCell) | (with_reducible apply Below.alloc) | (with_reducible apply Below.drew) | (with_reducible apply below_drewN) | (with_reducible refine Below.trans ?_ (Below.mono (by assumption) ?_)) | omega | (simp; done) | (simp; omega)))⟩
  have h1 : ¬ ((l.length : Int) > 45) := by omega
  go_enter Try.func6, Try.ntmps6
  go_wp2_with fail
  go_loopg [3] (l.length + 2) (fun g s3 wr => ∃ i : Nat, i ≤ l.length ∧ i + g = l.length + 2 ∧ s3 = .int .i64 (i : Int) ∧ (∀ j (hj : j < l.length), j < i → l[j].ws.length ≤ 70) ∧ Below w.heap.size w wr)
  case atStart => exact ⟨0, by omega, by omega, by first | rfl | simp, fun j _ h => absurd h (by omega), Below.refl _ _⟩
  case round =>
    obtain ⟨i, hi1, hg, rfl, hs, hB⟩ := hrel
    have HG := hidd hg
    have HS := hidd hs
    have HB := hidd hB
    clear hg hs hB
    by_cases hin : i < l.length
    · have hin2 : (i : Int) < (l.length : Int) := by omega
      have hO := HL.out.below HB.out
      obtain ⟨ad, rfl, ha, x0, x1, x2⟩ := hO.at_ i hin
      obtain ⟨Ai, ki, hv, hlw⟩ := hO.2 l[i] (List.getElem_mem hin)
      rw [hv] at x2
      rw [add_plain3 ad i 0] at x1
      rw [add_plain3 ad i 1] at x2
      have HNO := hidd (fun (h : ¬ l[i].ws.length ≤ 70) => (show ¬ P from fun hh => h ((HP.out.1 hh).2 i hin)))
      have HST := hidd (fun (h : l[i].ws.length ≤ 70) k (hk1 : k < l.length) (k1 : k < i + 1) => (show l[k].ws.length ≤ 70 by
        by_cases hk : k = i
        · subst hk; exact h
        · exact HS.out k hk1 (by omega)))
      generalize l[i] = ob at *
      obtain ⟨a, b, v, ws⟩ := ob
      dsimp only at *
      clear hv hlw hO
      have e1 : IntKind.i64.wrap ((i : Int) + 1) = (i : Int) + 1 := IntWalk.i64_in _ (by omega)
      by_cases h70 : ws.length ≤ 70
      · have HH := hidd h70
        have h2 : ¬ ((ws.length : Int) > 70) := by omega
        clear h70
        go_wp2_with fail
        have hg := HG.out
        go_roundg (gk - 1)
        case measure => omega
        case rel => exact ⟨i + 1, by omega, by omega, by go_num, HST.out HH.out, HB.out⟩
      · have HH := hidd (HNO.out h70)
        have h2 : (ws.length : Int) > 70 := by omega
        clear h70
        go_wp2_with fail
        go_ret
        exact ⟨false, by first | rfl | simp, ⟨fun h => absurd h Bool.false_ne_true, fun h => absurd h HH.out⟩, HB.out⟩
    · have hall : P := HP.out.2 ⟨h45, fun j h2 => HS.out j h2 (by omega)⟩
      have HALL := hidd hall
      have hin2 : ¬ (i : Int) < (l.length : Int) := by omega
      clear hall
      go_wp2_with fail
      go_ret
      exact ⟨true, by first | rfl | simp, ⟨fun _ => HALL.out, fun _ => rfl⟩, HB.out⟩
theorem box_keep (W : World) (c t : Int) (v : Value) (ty : TypeId) {W' : World} (hb : Below (W.alloc (.cells #[.int .i64 c, .int .i64 t, v] ty)).heap.size (W.alloc (.cells #[.int .i64 c, .int .i64 t, v] ty)) W') :
    W'.cell? ⟨W.heap.size, 0, none⟩ = some (.int .i64 c) ∧ W'.cell? ⟨W.heap.size, 1, none⟩ = some (.int .i64 t) ∧ W'.cell? ⟨W.heap.size, 2, none⟩ = some v :=
  ⟨(hb.cell (p := ⟨W.heap.size, 0, none⟩) (by simp)).trans (by simp [go_sem]), (hb.cell (p := ⟨W.heap.size, 1, none⟩) (by simp)).trans (by simp [go_sem]), (hb.cell (p := ⟨W.heap.size, 2, none⟩) (by simp)).trans (by simp [go_sem])⟩
set_option maxRecDepth 100000 in
set_option maxHeartbeats 8000000 in
theorem refSame7 (a b : Int) (A : Option Addr) (L : List Int) (k : Nat) (c d : Int) (B : Option Addr) (M : List Int) (m : Nat) (hL : L.length ≤ 9223372036854775807) (hM : M.length ≤ 9223372036854775807) (w : World) (hA : LieQ wdV 1 w (· < w.heap.size) A L) (hB : LieQ wdV 1 w (· < w.heap.size) B M) :
    Calls Try.prog 27 #[.agg #[.int .i64 a, .int .i64 b, .slice A L.length k], .agg #[.int .i64 c, .int .i64 d, .slice B M.length m]] w fun e w' => e = .returned (.bool (sameB a b L c d M)) ∧ Below w.heap.size w w' := by
  have HA := hidd hA
  have HB := hidd hB
  unfold sameB
  clear hA hB
  by_cases h1 : a = c
  rotate_left
  · have h1b : (a != c) = true := by simpa using h1
    have h1c : decide (a = c) = false := decide_eq_false h1
    rw [h1c]
    clear h1c
    go_enter Try.func27, Try.ntmps27
    go_wp2_with fail
    go_ret
    exact ⟨ret_bool (by simp), by (repeat' (first | (with_reducible exact Below.refl _ _) | (with_reducible assumption) | (with_reducible apply Below.setCell) | (with_reducible apply Below.alloc) | (with_reducible apply Below.drew) | (with_reducible apply below_drewN) | (with_reducible refine Below.trans ?_ (Below.mono (by assumption) ?_)) | omega | (simp; done) | (simp; omega)))⟩
  subst h1
  by_cases h2 : b = d
  rotate_left
  · have h1b : (b != d) = true := by simpa using h2
    have h1c : decide (b = d) = false := decide_eq_false h2
    rw [h1c]
    clear h1c
    go_enter Try.func27, Try.ntmps27
    go_wp2_with fail
    go_ret
    exact ⟨ret_bool (by simp), by (repeat' (first | (with_reducible exact Below.refl _ _) | (with_reducible assumption) | (with_reducible apply Below.setCell) | (with_reducible apply Below.alloc) | (with_reducible apply Below.drew) | (with_reducible apply below_drewN) | (with_reducible refine Below.trans ?_ (Below.mono (by assumption) ?_)) | omega | (simp; done) | (simp; omega)))⟩
  subst h2
  by_cases hn : L.length = M.length
  rotate_left
  · have hne : ((L.length : Int) != (M.length : Int)) = true := by simp; omega
    have h1c : decide (L = M) = false := decide_eq_false (fun e => hn (by rw [e]))
    rw [h1c]
    clear h1c hn
    go_enter Try.func27, Try.ntmps27
    go_wp2_with fail
    go_ret
    exact ⟨ret_bool (by simp), by (repeat' (first | (with_reducible exact Below.refl _ _) | (with_reducible assumption) | (with_reducible apply Below.setCell) | (with_reducible apply Below.alloc) | (with_reducible apply Below.drew) | (with_reducible apply below_drewN) | (with_reducible refine Below.trans ?_ (Below.mono (by assumption) ?_)) | omega | (simp; done) | (simp; omega)))⟩
  obtain ⟨R, hR⟩ : ∃ R, decide (L = M) = R := ⟨_, rfl⟩
  rw [hR]
  have HR := hidd hR
  have HN := hidd hn
  obtain ⟨n, hln⟩ : ∃ n, L.length = n := ⟨_, rfl⟩
  have HLN := hidd hln
  rw [← hn, hln]
  rw [hln] at hL
  have hn0 : ((n : Int) != (n : Int)) = false := by simp
  have hB0 : Below w.heap.size w ((w.alloc (.cells #[.int .i64 a, .int .i64 b, .slice A n k] 32)).alloc (.cells #[.int .i64 a, .int .i64 b, .slice B n m] 32)) := by (repeat' (first | (with_reducible exact Below.refl _ _) | (with_reducible assumption) | (with_reducible apply Below.setCell) | (with_reducible apply Below.alloc) | (with_reducible apply Below.drew) | (with_reducible apply below_drewN) | (with_reducible refine Below.trans ?_ (Below.mono (by assumption) ?_)) | omega | (simp; done) | (simp; omega)))
  have HX := hidd (fun (W : World) (hb : Below (w.heap.size + 2) ((w.alloc (.cells #[.int .i64 a, .int .i64 b, .slice A n k] 32)).alloc (.cells #[.int .i64 a, .int .i64 b, .slice B n m] 32)) W) =>
    (show W.cell? ⟨w.heap.size, 2, none⟩ = some (.slice A n k) ∧ W.cell? ⟨w.heap.size + 1, 2, none⟩ = some (.slice B n m) ∧ Below w.heap.size w W from
      ⟨(hb.cell (p := ⟨w.heap.size, 2, none⟩) (by simp)).trans (by simp [go_sem]), (hb.cell (p := ⟨w.heap.size + 1, 2, none⟩) (by simp)).trans (by simp [go_sem]), hB0.trans (hb.mono (by omega))⟩))
  clear hR hn hln hM hB0
  go_enter Try.func27, Try.ntmps27
  go_wp2_with fail
  go_loopg [5] (n + 1) (fun g s wr => ∃ (i : Nat), i ≤ n ∧ i + g = n + 1 ∧ s = .int .i64 (i : Int) ∧ (∀ j, j < i → av L j = av M j) ∧ Below (w.heap.size + 2) ((w.alloc (.cells #[.int .i64 a, .int .i64 b, .slice A n k] 32)).alloc (.cells #[.int .i64 a, .int .i64 b, .slice B n m] 32)) wr)
  case atStart => exact ⟨0, by omega, by omega, by first | rfl | simp, fun j hj => absurd hj (by omega), Below.refl _ _⟩
  case round =>
    obtain ⟨i, hi, hg, rfl, hs, hB⟩ := hrel
    have HG := hidd hg
    have HS := hidd hs
    have HBw := hidd hB
    obtain ⟨b0, b1, hBB⟩ := HX.out _ hB
    have HBB := hidd hBB
    clear hg hs hB
    by_cases hin : i < n
    · obtain ⟨ad, rfl, ha, x0⟩ := (HA.out.below hBB).word i (by rw [HLN.out]; exact hin)
      obtain ⟨bd, rfl, hb, y0⟩ := (HB.out.below hBB).word i (by rw [← HN.out, HLN.out]; exact hin)
      have hin2 : (i : Int) < (n : Int) := by omega
      have hi0 : (0 : Int) ≤ (i : Int) := by omega
      have e1 : IntKind.i64.wrap ((i : Int) + 1) = (i : Int) + 1 := IntWalk.i64_in _ (by omega)
      have HNO := hidd (fun (h : av L i ≠ av M i) => (show R = false by
        rw [← HR.out]
        refine decide_eq_false (fun e => ?_)
        subst e
        exact h rfl))
      have HST := hidd (fun (h : av L i = av M i) j (hj : j < i + 1) => (show av L j = av M j by
        by_cases e : j = i
        · subst e; exact h
        · exact HS.out j (by omega)))
      clear hBB
      generalize av L i = a0 at *
      generalize av M i = c0 at *
      by_cases h0 : a0 = c0
      · subst h0
        have HN1 := hidd (HST.out rfl)
        go_wp2_with fail
        go_quiet (fail)
        go_wp2_with fail
        have hg := HG.out
        go_roundg (gk - 1)
        case measure => omega
        case rel => exact ⟨i + 1, by omega, by omega, by go_num, HN1.out, by have := HBw.out; (repeat' (first | (with_reducible exact Below.refl _ _) | (with_reducible assumption) | (with_reducible apply Below.setCell) | (with_reducible apply Below.alloc) | (with_reducible apply Below.drew) | (with_reducible apply below_drewN) | (with_reducible refine Below.trans ?_ (Below.mono (by assumption) ?_)) | omega | (simp; done) | (simp; omega)))⟩
      · have hr := HNO.out h0
        subst hr
        go_wp2_with fail
        go_quiet (fail)
        go_wp2_with fail
        go_ret
        exact ⟨by simp, by have := HBB.out; (repeat' (first | (with_reducible exact Below.refl _ _) | (with_reducible assumption) | (with_reducible apply Below.setCell) | (with_reducible apply Below.alloc) | (with_reducible apply Below.drew) | (with_reducible apply below_drewN) | (with_reducible refine Below.trans ?_ (Below.mono (by assumption) ?_)) | omega | (simp; done) | (simp; omega)))⟩
    · have hin2 : ¬ (i : Int) < (n : Int) := by omega
      have hr : R = true := by
        rw [← HR.out]
        exact decide_eq_true (list_eq_av HN.out (fun j hj => HS.out j (by rw [HLN.out] at hj; omega)))
      subst hr
      clear hBB
      go_wp2_with fail
      go_ret
      exact ⟨by simp, by have := HBB.out; (repeat' (first | (with_reducible exact Below.refl _ _) | (with_reducible assumption) | (with_reducible apply Below.setCell) | (with_reducible apply Below.alloc) | (with_reducible apply Below.drew) | (with_reducible apply below_drewN) | (with_reducible refine Below.trans ?_ (Below.mono (by assumption) ?_)) | omega | (simp; done) | (simp; omega)))⟩
/-- what three of an object's four say. -/
def keyO (o : Ob) : Int × Int × List Int := (o.c, o.t, o.ws)
theorem sameB_self (a b : Int) (L : List Int) : sameB a b L a b L = true := by simp [sameB]
theorem key_at {l m : List Ob} (h : l.map keyO = m.map keyO) {i : Nat} (hi : i < l.length) (hj : i < m.length) : l[i].c = m[i].c ∧ l[i].t = m[i].t ∧ l[i].ws = m[i].ws := by
  have e : (l.map keyO)[i]? = (m.map keyO)[i]? := by rw [h]
  simp only [List.getElem?_map, List.getElem?_eq_getElem hi, List.getElem?_eq_getElem hj, Option.map_some, Option.some.injEq, keyO, Prod.mk.injEq] at e
  exact e
theorem key_len {l m : List Ob} (h : l.map keyO = m.map keyO) : l.length = m.length := by
  have := congrArg List.length h
  simpa using this
set_option maxRecDepth 100000 in
set_option maxHeartbeats 8000000 in
/-- two lists that are the same. -/
theorem same7 (A : Option Addr) (l : List Ob) (c : Nat) (B : Option Addr) (m : List Ob) (d : Nat) (hk : l.map keyO = m.map keyO) (hm : l.length ≤ 1000000) (hw : ∀ o ∈ l, o.ws.length ≤ 9223372036854775807) (w : World) (hA : Obs w (· < w.heap.size) A l) (hB : Obs w (· < w.heap.size) B m) :
    Calls Try.prog 12 #[.slice A l.length c, .slice B m.length d] w fun e w' => e = .returned (.bool true) ∧ Below w.heap.size w w' := by
  have HA := hidd hA
  have HB := hidd hB
  have HK := hidd hk
  have HN := hidd (key_len hk)
  have HW := hidd hw
  rw [← key_len hk]
  have hn0 : ((l.length : Int) != (l.length : Int)) = false := by simp
  clear hA hB hk hw
  go_enter Try.func12, Try.ntmps12
  go_wp2_with fail
  go_loopg [5] (l.length + 1) (fun g s wr => ∃ (i : Nat), i ≤ l.length ∧ i + g = l.length + 1 ∧ s = .int .i64 (i : Int) ∧ Below w.heap.size w wr)
  case atStart => exact ⟨0, by omega, by omega, by first | rfl | simp, Below.refl _ _⟩
  case round =>
    obtain ⟨i, hi, hg, rfl, hBw⟩ := hrel
    have HG := hidd hg
    have HBw := hidd hBw
    clear hg
    by_cases hin : i < l.length
    · have hin2 : (i : Int) < (l.length : Int) := by omega
      have hi0 : (0 : Int) ≤ (i : Int) := by omega
      have hinm : i < m.length := by have := HN.out; omega
      have hOA := HA.out.below hBw
      have hOB := HB.out.below hBw
      obtain ⟨ad, rfl, ha, x0, x1, x2⟩ := hOA.at_ i hin
      obtain ⟨bd, rfl, hb, y0, y1, y2⟩ := hOB.at_ i hinm
      obtain ⟨Ai, ki, hva, hla⟩ := hOA.2 l[i] (List.getElem_mem hin)
      obtain ⟨Bi, li, hvb, hlb⟩ := hOB.2 m[i] (List.getElem_mem hinm)
      obtain ⟨e0, e1, e2⟩ := key_at HK.out hin hinm
      have hwl := HW.out l[i] (List.getElem_mem hin)
      rw [hva] at x2
      rw [hvb] at y2
      rw [add_plain3 ad i 0] at x1
      rw [add_plain3 ad i 1] at x2
      rw [add_plain3 bd i 0] at y1
      rw [add_plain3 bd i 1] at y2
      rw [← e0] at y0
      rw [← e1] at y1
      rw [← e2] at y2 hlb
      generalize l[i].ws = ws at *
      generalize l[i].c = oc at *
      generalize l[i].t = ot at *
      have da : (ad.add (i * 3)).block < wr.heap.size := by rw [block_of_add]; exact ha
      have db : (bd.add (i * 3)).block < wr.heap.size := by rw [block_of_add]; exact hb
      have KEEP := hidd (fun (W : World) (h : Below wr.heap.size wr W) => (show W.cell? (ad.add (i * 3)) = some (.int .i64 oc) ∧ W.cell? ⟨(ad.add (i * 3)).block, (ad.add (i * 3)).off + (0 + 1), none⟩ = some (.int .i64 ot) ∧ W.cell? ⟨(ad.add (i * 3)).block, (ad.add (i * 3)).off + (1 + 1), none⟩ = some (.slice Ai ws.length ki) ∧ W.cell? (bd.add (i * 3)) = some (.int .i64 oc) ∧ W.cell? ⟨(bd.add (i * 3)).block, (bd.add (i * 3)).off + (0 + 1), none⟩ = some (.int .i64 ot) ∧ W.cell? ⟨(bd.add (i * 3)).block, (bd.add (i * 3)).off + (1 + 1), none⟩ = some (.slice Bi ws.length li) from
        ⟨(h.cell da).trans x0, (h.cell (p := ⟨(ad.add (i * 3)).block, (ad.add (i * 3)).off + (0 + 1), none⟩) da).trans x1, (h.cell (p := ⟨(ad.add (i * 3)).block, (ad.add (i * 3)).off + (1 + 1), none⟩) da).trans x2, (h.cell db).trans y0, (h.cell (p := ⟨(bd.add (i * 3)).block, (bd.add (i * 3)).off + (0 + 1), none⟩) db).trans y1, (h.cell (p := ⟨(bd.add (i * 3)).block, (bd.add (i * 3)).off + (1 + 1), none⟩) db).trans y2⟩))
      have cr := hidd (fun W (h : Below wr.heap.size wr W) => refSame7 oc ot Ai ws ki oc ot Bi ws li hwl hwl W (hla.below h) (hlb.below h))
      have cs := hidd (fun W (h : Below wr.heap.size wr W) => Same_any oc ot Ai ws ki oc ot Bi ws li hwl hwl W (hla.below h) (hlb.below h))
      rw [sameB_self] at cr cs
      have ew : IntKind.i64.wrap ((i : Int) + 1) = (i : Int) + 1 := IntWalk.i64_in _ (by omega)
      obtain ⟨k0, k1, k2, k3, k4, k5⟩ := KEEP.out _ (Below.refl _ _)
      clear x0 x1 x2 y0 y1 y2 hva hvb hla hlb e0 e1 e2 hwl hOA hOB hBw
      go_wp2_with fail
      go_region_held (fun W => W.cell? (ad.add (i * 3)) = some (.int .i64 oc) ∧ W.cell? ⟨(ad.add (i * 3)).block, (ad.add (i * 3)).off + (0 + 1), none⟩ = some (.int .i64 ot) ∧ W.cell? ⟨(ad.add (i * 3)).block, (ad.add (i * 3)).off + (1 + 1), none⟩ = some (.slice Ai ws.length ki) ∧ W.cell? (bd.add (i * 3)) = some (.int .i64 oc) ∧ W.cell? ⟨(bd.add (i * 3)).block, (bd.add (i * 3)).off + (0 + 1), none⟩ = some (.int .i64 ot) ∧ W.cell? ⟨(bd.add (i * 3)).block, (bd.add (i * 3)).off + (1 + 1), none⟩ = some (.slice Bi ws.length li))
        ((first | exact KEEP.out _ cum2 | exact KEEP.out _ cum1 | exact KEEP.out _ (Below.refl _ _) | exact KEEP.out _ (Below.drew (Below.refl _ _))))
        ((first
          | (go_at_call 27; refine (cr.out _ (by first | exact Below.drew (Below.refl _ _) | exact Below.refl _ _)).mono ?_; rintro E1 v1 ⟨rfl, l1⟩; have cum1 : Below wr.heap.size wr v1 := (by first | exact below_step (Below.drew (Below.refl _ _)) l1 | exact below_step (Below.refl _ _) l1))
          | (go_at_call 28; refine (cs.out _ cum1).mono ?_; rintro E2 v2 ⟨rfl, l2⟩; have cum2 : Below wr.heap.size wr v2 := below_step cum1 l2)))
      all_goals (have HB2 := hidd (below_step HBw.out cum2))
      all_goals clear k0 k1 k2 k3 k4 k5 KEEP l1 l2 cum1 cum2
      all_goals go_wp2_with fail
      all_goals (have hg := HG.out)
      all_goals go_roundg (gk - 1)
      case measure => omega
      case rel => exact ⟨i + 1, by omega, by omega, by go_num, HB2.out⟩
    · have hin2 : ¬ (i : Int) < (l.length : Int) := by omega
      clear hBw
      go_wp2_with fail
      go_ret
      exact ⟨by first | rfl | simp, HBw.out⟩
end Go.Proofs.Ytnneolkedekfbaa
