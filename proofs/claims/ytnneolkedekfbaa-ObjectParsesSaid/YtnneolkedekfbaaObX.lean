/- Objects: bytes of objects that are cut (mathematics), lists that are cut; Parse and what a law compares at them. -/
import Derived.Test.YtnneolkedekfbaaObU
namespace Go.Proofs.Ytnneolkedekfbaa
set_option linter.unusedVariables false
open Go.RowKit

theorem pre_places (rest : List Int) {l : List Key} (hr : ∀ k ∈ l, RightK k) : ∀ j, j ≤ l.length → okTo (rawKs l ++ rest) j ∧ placeAt (rawKs l ++ rest) j = (rawKs (l.take j)).length
  | 0, _ => ⟨okTo_zero _, by simp [placeAt, rawKs]⟩
  | j + 1, hj => by
    obtain ⟨h1, h2⟩ := pre_places rest hr j (by omega)
    have hjl : j < l.length := by omega
    have e : rawKs l ++ rest = rawKs (l.take j) ++ (rawK l[j] ++ (rawKs (l.drop (j + 1)) ++ rest)) := by
      conv => lhs; rw [split_at hjl]
      rw [rawKs_app, rawKs_app, rawKs_one, List.append_assoc, List.append_assoc]
    obtain ⟨q1, q2, _⟩ := obAt_raw (pre := rawKs (l.take j)) (post := rawKs (l.drop (j + 1)) ++ rest) (hr l[j] (List.getElem_mem hjl))
    rw [← e, ← h2] at q1 q2
    have ht : l.take (j + 1) = l.take j ++ [l[j]] := by rw [List.take_add_one, List.getElem?_eq_getElem hjl]; rfl
    refine ⟨h1.one q1, ?_⟩
    simp only [placeAt]
    rw [q2, h2, ht, rawKs_app, rawKs_one, List.length_append]
theorem cut_at (P : Nat → Nat) (h0 : P 0 = 0) (k : Nat) : ∀ n, (∀ i, i < n → P i ≠ k) → k < P n → ∃ j, j < n ∧ P j < k ∧ k < P (j + 1)
  | 0, _, h => absurd h (by omega)
  | n + 1, hne, h => by
    by_cases q : k < P n
    · obtain ⟨j, h1, h2⟩ := cut_at P h0 k n (fun i hi => hne i (by omega)) q
      exact ⟨j, by omega, h2⟩
    · exact ⟨n, by omega, by have := hne n (by omega); omega, h⟩
/-- bytes that end within an object are none's. -/
theorem cut_none {l : List Key} (hr : ∀ k ∈ l, RightK k) {k : Nat} (hne : ∀ i, i < l.length → (rawKs (l.take i)).length ≠ k) (hk : k < (rawKs l).length) (q : Nat) : ¬ Good ((rawKs l).take k) q := by
  obtain ⟨j, hj, h1, h2⟩ := cut_at (fun i => (rawKs (l.take i)).length) (by simp [rawKs]) k l.length hne (by simpa using hk)
  have ht : l.take (j + 1) = l.take j ++ [l[j]] := by rw [List.take_add_one, List.getElem?_eq_getElem hj]; rfl
  rw [ht, rawKs_app, rawKs_one, List.length_append] at h2
  have e : rawKs l = rawKs (l.take j) ++ (rawK l[j] ++ rawKs (l.drop (j + 1))) := by
    conv => lhs; rw [split_at hj]
    rw [rawKs_app, rawKs_app, rawKs_one]
  have hrj : RightK l[j] := hr _ (List.getElem_mem hj)
  obtain ⟨q1, q2, _⟩ := obAt_raw (pre := rawKs (l.take j)) (post := rawKs (l.drop (j + 1))) hrj
  rw [← e] at q1 q2
  obtain ⟨R, hR⟩ : ∃ R, (rawK l[j] ++ rawKs (l.drop (j + 1))).take (k - (rawKs (l.take j)).length) = R := ⟨_, rfl⟩
  have e2 : (rawKs l).take k = rawKs (l.take j) ++ R := by
    rw [← hR]
    conv => lhs; rw [e]
    rw [List.take_append, List.take_of_length_le (by omega)]
  have hkl : ((rawKs l).take k).length = k := by rw [List.length_take]; omega
  have p := pre_places R (l := l.take j) (fun x hx => hr x (List.mem_of_mem_take hx)) j (by rw [List.length_take]; omega)
  rw [← e2, List.take_take, Nat.min_self] at p
  have hav : ∀ i, i < k → av ((rawKs l).take k) i = av (rawKs l) i := fun i hi => by simp [av, List.getD_eq_getElem?_getD, List.getElem?_take_of_lt hi]
  refine no_good_stop p.1 (by rw [p.2, hkl]; omega) (fun f => ?_) q
  rw [p.2] at f
  have f1 := f.1
  have f5 := f.2.2.2.2
  rw [hkl] at f1 f5
  have en : nAt ((rawKs l).take k) (rawKs (l.take j)).length = nAt (rawKs l) (rawKs (l.take j)).length := by
    unfold nAt hd2
    rw [hav _ (by omega), hav _ (by omega)]
  rw [en, q2] at f5
  omega
theorem LieQ.takeQ {α : Type} {f : α → List Value} {sz : Nat} {w : World} {p : Nat → Prop} {A : Option Addr} {l : List α} (h : LieQ f sz w p A l) (k : Nat) : LieQ f sz w p A (l.take k) := fun hl => by
  obtain ⟨ad, e, hp, hc⟩ := h (by rw [List.length_take] at hl; omega)
  exact ⟨ad, e, hp, fun i x hx => hc i x (by
    have hi : i < k := by have := (List.getElem?_eq_some_iff.1 hx).1; rw [List.length_take] at this; omega
    rwa [List.getElem?_take_of_lt hi] at hx)⟩
theorem LieQ.dropQ {α : Type} {f : α → List Value} {sz : Nat} {w : World} {p : Nat → Prop} {ad : Addr} {l : List α} (h : LieQ f sz w p (some ad) l) (k : Nat) : LieQ f sz w p (some (ad.add (k * sz))) (l.drop k) := fun hl => by
  obtain ⟨ad', e, hp, hc⟩ := h (by rw [List.length_drop] at hl; omega)
  cases e
  refine ⟨_, rfl, by rw [block_of_add]; exact hp, fun i x hx j v hv => ?_⟩
  rw [List.getElem?_drop] at hx
  rw [add_of_add, show k * sz + (i * sz + j) = (k + i) * sz + j by rw [Nat.add_mul]; omega]
  exact hc _ x hx j v hv
theorem Obs.takeO {W : World} {p : Nat → Prop} {A : Option Addr} {l : List Ob} (h : Obs W p A l) (k : Nat) : Obs W p A (l.take k) := ⟨h.1.takeQ k, fun o ho => h.2 o (List.mem_of_mem_take ho)⟩
theorem Obs.dropO {W : World} {p : Nat → Prop} {ad : Addr} {l : List Ob} (h : Obs W p (some ad) l) (k : Nat) : Obs W p (some (ad.add (k * 3))) (l.drop k) := ⟨h.1.dropQ k, fun o ho => h.2 o (List.mem_of_mem_drop ho)⟩
def PGood (keys : List Key) (w : World) (e : Ending) (w' : World) : Prop := Below w.heap.size w w' ∧ ∃ os A c, os.map keyO = keys ∧ e = .returned (.tuple #[.slice A os.length c, .int .i64 0]) ∧ Obs w' (· < w'.heap.size) A os
theorem Parse_good (A : Option Addr) (L : List Int) (n c : Nat) (hn : L.length = n) (l : List Ob) (he : L = rawAll l) (hr : allR l) (h40 : l.length ≤ 40) (hL : L.length ≤ 65536) (hc : L.length ≤ c) (hc2 : c ≤ maxLen) (w : World) (hl : LieQ byV 1 w (· < w.heap.size) A L) :
    Calls Try.prog 11 #[.slice A n c] w (PGood (l.map keyO) w) := by
  subst hn
  obtain ⟨hgd, hks⟩ := raw_good (l := l.map keyO) (fun x hx => by
    obtain ⟨o, ho, rfl⟩ := List.mem_map.1 hx
    exact hr o ho) (by rw [List.length_map]; exact h40)
  rw [← rawAll_keys, ← he] at hgd hks
  refine (Parse_any A L c hL hc hc2 (by rw [he]; exact rawAll_bytes l) w hl).mono ?_
  rintro e w3 ⟨hb3, (⟨kk, os, A3, c3, hg1, hg2, rfl, hos⟩ | ⟨hno, _⟩)⟩
  · obtain rfl := Good.one hg1 hgd
    rw [hks] at hg2
    exact ⟨hb3, os, A3, c3, hg2, rfl, hos.to (fun q hq => ⟨hq.2, rfl⟩)⟩
  · exact absurd hgd (hno _)
theorem Parse_bad (A : Option Addr) (L : List Int) (n c : Nat) (hn : L.length = n) (hno : ∀ k, ¬ Good L k) (hb : Bytes L) (hL : L.length ≤ 65536) (hc : L.length ≤ c) (hc2 : c ≤ maxLen) (w : World) (hl : LieQ byV 1 w (· < w.heap.size) A L) :
    Calls Try.prog 11 #[.slice A n c] w fun e w' => e = .returned (.tuple #[.slice none 0 0, .int .i64 170]) ∧ Below w.heap.size w w' := by
  subst hn
  refine (Parse_any A L c hL hc hc2 hb w hl).mono ?_
  rintro e w3 ⟨hb3, (⟨kk, os, A3, c3, hg1, _⟩ | ⟨_, rfl⟩)⟩
  · exact absurd hg1 (hno _)
  · exact ⟨rfl, hb3⟩
theorem same_at (A : Option Addr) (l : List Ob) (n c : Nat) (B : Option Addr) (m : List Ob) (n' d : Nat) (hn : l.length = n) (hn' : m.length = n') (hk : l.map keyO = m.map keyO) (hm : l.length ≤ 1000000) (hw : ∀ o ∈ m, o.ws.length ≤ 9223372036854775807) (w : World) (hA : Obs w (· < w.heap.size) A l) (hB : Obs w (· < w.heap.size) B m) :
    Calls Try.prog 12 #[.slice A n c, .slice B n' d] w fun e w' => e = .returned (.bool true) ∧ Below w.heap.size w w' := by
  subst hn hn'
  refine same7 A l c B m d hk hm (fun o ho => ?_) w hA hB
  obtain ⟨j, hj, rfl⟩ := List.mem_iff_getElem.1 ho
  have hj2 : j < m.length := by have := key_len hk; omega
  rw [(key_at hk hj hj2).2.2]
  exact hw _ (List.getElem_mem hj2)
theorem rawAll_app (l m : List Ob) : rawAll (l ++ m) = rawAll l ++ rawAll m := by simp [rawAll]
theorem raw_cut (l : List Ob) (i : Nat) : (rawAll l).take (rawAll (l.take i)).length = rawAll (l.take i) ∧ (rawAll l).drop (rawAll (l.take i)).length = rawAll (l.drop i) := by
  have e : rawAll l = rawAll (l.take i) ++ rawAll (l.drop i) := by rw [← rawAll_app, List.take_append_drop]
  constructor
  · conv => lhs; rw [e]
    exact List.take_left' rfl
  · conv => lhs; rw [e]
    exact List.drop_left' rfl
end Go.Proofs.Ytnneolkedekfbaa
