/- Objects: bytes as objects, place by place (mathematics). -/
import Derived.Test.YtnneolkedekfbaaObN
namespace Go.Proofs.Ytnneolkedekfbaa
set_option linter.unusedVariables false
open Go.RowKit

/-- what an object is, wherever its words lie. -/
abbrev Key := Int × Int × List Int
def hd2 (L : List Int) (i : Nat) : Int := 256 * av L i + av L (i + 1)
def wd4 (L : List Int) (i : Nat) : Int := 16777216 * av L i + 65536 * av L (i + 1) + 256 * av L (i + 2) + av L (i + 3)
def nAt (L : List Int) (i : Nat) : Nat := (hd2 L i).toNat
def fitsAt (L : List Int) (i : Nat) : Prop := i + 8 ≤ L.length ∧ nAt L i % 4 = 0 ∧ 8 ≤ nAt L i ∧ nAt L i ≤ 260 ∧ i + nAt L i ≤ L.length
def wordsN (L : List Int) (i n : Nat) : List Int := (List.range n).map (fun k => wd4 L (i + 4 + 4 * k))
def wordsAt (L : List Int) (i : Nat) : List Int := wordsN L i (nAt L i / 4 - 1)
def obAt (L : List Int) (i : Nat) : Key := (av L (i + 2), av L (i + 3), wordsAt L i)
def placeAt (L : List Int) : Nat → Nat
  | 0 => 0
  | k + 1 => placeAt L k + nAt L (placeAt L k)
def keysTo (L : List Int) (k : Nat) : List Key := (List.range k).map (fun j => obAt L (placeAt L j))
def okTo (L : List Int) (k : Nat) : Prop := ∀ j, j < k → fitsAt L (placeAt L j)
/-- they are the bytes of k objects. -/
def Good (L : List Int) (k : Nat) : Prop := okTo L k ∧ k ≤ 40 ∧ placeAt L k = L.length
theorem wordsN_len (L : List Int) (i n : Nat) : (wordsN L i n).length = n := by simp [wordsN]
theorem wordsN_one (L : List Int) (i n : Nat) : wordsN L i (n + 1) = wordsN L i n ++ [wd4 L (i + 4 + 4 * n)] := by simp [wordsN, List.range_succ]
theorem keysTo_len (L : List Int) (k : Nat) : (keysTo L k).length = k := by simp [keysTo]
theorem keysTo_one (L : List Int) (k : Nat) : keysTo L (k + 1) = keysTo L k ++ [obAt L (placeAt L k)] := by simp [keysTo, List.range_succ]
theorem okTo.one {L : List Int} {k : Nat} (h : okTo L k) (hf : fitsAt L (placeAt L k)) : okTo L (k + 1) := fun j hj => by
  by_cases e : j = k
  · subst e; exact hf
  · exact h j (by omega)
theorem okTo_zero (L : List Int) : okTo L 0 := fun j hj => absurd hj (by omega)
theorem fitsAt.ne {L : List Int} {i : Nat} (h : fitsAt L i) : i ≠ L.length := fun e => by have := h.1; omega
theorem Good.one {L : List Int} {k k' : Nat} (h : Good L k) (h' : Good L k') : k = k' := by
  rcases Nat.lt_trichotomy k k' with q | q | q
  · exact absurd h.2.2 (h'.1 k q).ne
  · exact q
  · exact absurd h'.2.2 (h.1 k' q).ne
theorem no_good_stop {L : List Int} {k : Nat} (h : okTo L k) (hn : placeAt L k ≠ L.length) (hf : ¬ fitsAt L (placeAt L k)) (k' : Nat) : ¬ Good L k' := fun g => by
  rcases Nat.lt_trichotomy k k' with q | q | q
  · exact hf (g.1 k q)
  · subst q; exact hn g.2.2
  · exact (h k' q).ne g.2.2
theorem no_good_many {L : List Int} {k : Nat} (h : okTo L k) (hn : placeAt L k ≠ L.length) (hk : 40 ≤ k) (k' : Nat) : ¬ Good L k' := fun g => by
  have := g.2.1
  rcases Nat.lt_trichotomy k' k with q | q | q
  · exact (h k' q).ne g.2.2
  · subst q; exact hn g.2.2
  · omega
theorem placeAt_le {L : List Int} : ∀ {k : Nat}, okTo L k → placeAt L k ≤ L.length
  | 0, _ => by simp [placeAt]
  | k + 1, h => (h k (by omega)).2.2.2.2
theorem placeAt_ge {L : List Int} : ∀ {k : Nat}, okTo L k → 8 * k ≤ placeAt L k
  | 0, _ => by simp
  | k + 1, h => by
    have h1 := placeAt_ge (L := L) (k := k) (fun j hj => h j (by omega))
    have h2 := (h k (by omega)).2.2.1
    simp only [placeAt]; omega
theorem hd2_bound {L : List Int} (hb : Bytes L) {i : Nat} (h : i + 2 ≤ L.length) : 0 ≤ hd2 L i ∧ hd2 L i ≤ 65535 := by
  have h0 := hb _ (av_mem (show i < L.length by omega))
  have h1 := hb _ (av_mem (show i + 1 < L.length by omega))
  unfold hd2; omega
theorem wd4_bound {L : List Int} (hb : Bytes L) {i : Nat} (h : i + 4 ≤ L.length) : 0 ≤ wd4 L i ∧ wd4 L i ≤ 4294967295 := by
  have h0 := hb _ (av_mem (show i < L.length by omega))
  have h1 := hb _ (av_mem (show i + 1 < L.length by omega))
  have h2 := hb _ (av_mem (show i + 2 < L.length by omega))
  have h3 := hb _ (av_mem (show i + 3 < L.length by omega))
  unfold wd4; omega
theorem numB_one {L : List Int} {i : Nat} (h : i + 1 ≤ L.length) : numB ((L.drop i).take 1) = av L i := by
  rw [show (1 : Nat) = 0 + 1 from rfl, drop_take_one (by omega), numB_snoc]; simp [numB]
theorem numB_two {L : List Int} {i : Nat} (h : i + 2 ≤ L.length) : numB ((L.drop i).take 2) = hd2 L i := by
  rw [show (2 : Nat) = 1 + 1 from rfl, drop_take_one (by omega), numB_snoc, numB_one (by omega)]; rfl
theorem numB_four {L : List Int} {i : Nat} (h : i + 4 ≤ L.length) : numB ((L.drop i).take 4) = wd4 L i := by
  rw [show (4 : Nat) = 3 + 1 from rfl, drop_take_one (by omega), numB_snoc, show (3 : Nat) = 2 + 1 from rfl, drop_take_one (by omega), numB_snoc, numB_two (by omega)]
  show 256 * (256 * hd2 L i + av L (i + 2)) + av L (i + 3) = wd4 L i
  unfold hd2 wd4; omega
/-- all objects of bytes may be. -/
theorem fits_right {L : List Int} (hb : Bytes L) {i : Nat} (h : fitsAt L i) : rightB (av L (i + 2)) (av L (i + 3)) (wordsAt L i) = true := by
  obtain ⟨h1, h2, h3, h4, h5⟩ := h
  rw [rightB_iff]
  refine ⟨hb _ (av_mem (by omega)), hb _ (av_mem (by omega)), by unfold wordsAt; rw [wordsN_len]; omega, fun j hj => ?_⟩
  unfold wordsAt at *
  rw [wordsN_len] at hj
  have : av (wordsN L i (nAt L i / 4 - 1)) j = wd4 L (i + 4 + 4 * j) := by simp [av, wordsN, List.getD_eq_getElem?_getD, hj]
  rw [this, wordB_iff]
  exact wd4_bound hb (by omega)

/-- the bytes of what an object is. -/
def rawK (k : Key) : List Int := layB 2 [4 + 4 * (k.2.2.length : Int)] ++ layB 1 [k.1, k.2.1] ++ layB 4 k.2.2
def rawKs (l : List Key) : List Int := l.flatMap rawK
theorem rawO_key (o : Ob) : rawO o = rawK (keyO o) := rfl
theorem rawAll_keys (l : List Ob) : rawAll l = rawKs (l.map keyO) := by
  unfold rawAll rawKs
  induction l with
  | nil => rfl
  | cons o l ih => simp [rawO_key, ih]
theorem rawK_len (k : Key) : (rawK k).length = 4 + 4 * k.2.2.length := by
  unfold rawK
  rw [List.length_append, List.length_append, layB_len, layB_len, layB_len]; simp; omega
theorem layN2 (n : Int) : layN n 2 = [n / 256 % 256, n % 256] := by simp [layN]
theorem layN1 (n : Int) : layN n 1 = [n % 256] := by simp [layN]
theorem rawK_eq (c t : Int) (ws : List Int) : rawK (c, t, ws) = [(4 + 4 * (ws.length : Int)) / 256 % 256, (4 + 4 * (ws.length : Int)) % 256, c % 256, t % 256] ++ layB 4 ws := by
  simp [rawK, layB, layN2, layN1]
theorem av_append_left {l m : List Int} {i : Nat} (h : i < l.length) : av (l ++ m) i = av l i := by simp [av, List.getD_eq_getElem?_getD, List.getElem?_append_left h]
theorem av_append_right {l m : List Int} {i : Nat} : av (l ++ m) (l.length + i) = av m i := by
  unfold av
  rw [List.getD_eq_getElem?_getD, List.getD_eq_getElem?_getD, List.getElem?_append_right (by omega), Nat.add_sub_cancel_left]
theorem layB4_at : ∀ (ws : List Int) (k j : Nat), k < ws.length → j < 4 → av (layB 4 ws) (4 * k + j) = av (layN (av ws k) 4) j
  | [], k, j, hk, _ => by simp at hk
  | w :: ws, 0, j, _, hj => by
    have e : layB 4 (w :: ws) = layN w 4 ++ layB 4 ws := by simp [layB]
    rw [e, Nat.mul_zero, Nat.zero_add, av_append_left (by rw [layN_len]; exact hj)]; rfl
  | w :: ws, k + 1, j, hk, hj => by
    have e : layB 4 (w :: ws) = layN w 4 ++ layB 4 ws := by simp [layB]
    have := layB4_at ws k j (by simpa using hk) hj
    rw [e, show 4 * (k + 1) + j = (layN w 4).length + (4 * k + j) by rw [layN_len]; omega, av_append_right, this]; rfl
def RightK (k : Key) : Prop := rightB k.1 k.2.1 k.2.2 = true
/-- where an object's bytes stand, that object is told. -/
theorem obAt_raw {pre post : List Int} {k : Key} (hk : RightK k) : fitsAt (pre ++ (rawK k ++ post)) pre.length ∧ nAt (pre ++ (rawK k ++ post)) pre.length = (rawK k).length ∧ obAt (pre ++ (rawK k ++ post)) pre.length = k := by
  obtain ⟨c, t, ws⟩ := k
  unfold RightK at hk
  rw [rightB_iff] at hk
  obtain ⟨hc, ht, ⟨hl1, hl2⟩, hw⟩ := hk
  simp only at *
  have hlen := rawK_len (c, t, ws)
  simp only at hlen
  have hat : ∀ j, j < 4 + 4 * ws.length → av (pre ++ (rawK (c, t, ws) ++ post)) (pre.length + j) = av (rawK (c, t, ws)) j := fun j hj => by
    rw [av_append_right, av_append_left (by omega)]
  have h0 : av (rawK (c, t, ws)) 0 = (4 + 4 * (ws.length : Int)) / 256 % 256 := by rw [rawK_eq]; rfl
  have h1 : av (rawK (c, t, ws)) 1 = (4 + 4 * (ws.length : Int)) % 256 := by rw [rawK_eq]; rfl
  have h2 : av (rawK (c, t, ws)) 2 = c := by rw [rawK_eq]; show c % 256 = c; omega
  have h3 : av (rawK (c, t, ws)) 3 = t := by rw [rawK_eq]; show t % 256 = t; omega
  have h4 : ∀ k j, k < ws.length → j < 4 → av (rawK (c, t, ws)) (4 + (4 * k + j)) = av (layN (av ws k) 4) j := fun k j hk hj => by
    rw [rawK_eq]
    exact (av_append_right (l := [_, _, _, _]) (i := 4 * k + j)).trans (layB4_at ws k j hk hj)
  have hn : nAt (pre ++ (rawK (c, t, ws) ++ post)) pre.length = 4 + 4 * ws.length := by
    unfold nAt hd2
    have e0 := hat 0 (by omega)
    rw [Nat.add_zero] at e0
    rw [e0, hat 1 (by omega), h0, h1]; omega
  have hwd : ∀ k, k < ws.length → wd4 (pre ++ (rawK (c, t, ws) ++ post)) (pre.length + 4 + 4 * k) = av ws k := fun k hk => by
    have hb := wordB_iff.1 (hw k hk)
    unfold wd4
    have a0 := hat (4 + (4 * k + 0)) (by omega)
    have a1 := hat (4 + (4 * k + 1)) (by omega)
    have a2 := hat (4 + (4 * k + 2)) (by omega)
    have a3 := hat (4 + (4 * k + 3)) (by omega)
    rw [h4 k 0 hk (by omega), layN4] at a0
    rw [h4 k 1 hk (by omega), layN4] at a1
    rw [h4 k 2 hk (by omega), layN4] at a2
    rw [h4 k 3 hk (by omega), layN4] at a3
    have q0 : pre.length + 4 + 4 * k = pre.length + (4 + (4 * k + 0)) := by omega
    have q1 : pre.length + 4 + 4 * k + 1 = pre.length + (4 + (4 * k + 1)) := by omega
    have q2 : pre.length + 4 + 4 * k + 2 = pre.length + (4 + (4 * k + 2)) := by omega
    have q3 : pre.length + 4 + 4 * k + 3 = pre.length + (4 + (4 * k + 3)) := by omega
    rw [q1, q2, q3, q0, a0, a1, a2, a3]
    show 16777216 * (av ws k / 16777216 % 256) + 65536 * (av ws k / 65536 % 256) + 256 * (av ws k / 256 % 256) + av ws k % 256 = av ws k
    omega
  refine ⟨?_, by rw [hn, hlen], ?_⟩
  · have hl : (pre ++ (rawK (c, t, ws) ++ post)).length = pre.length + (4 + 4 * ws.length) + post.length := by rw [List.length_append, List.length_append, hlen]; omega
    unfold fitsAt
    rw [hn, hl]
    omega
  · unfold obAt wordsAt
    rw [hn, hat 2 (by omega), hat 3 (by omega), h2, h3]
    congr 2
    refine list_eq_av (by rw [wordsN_len]; omega) (fun i hi => ?_)
    rw [wordsN_len] at hi
    have hi' : i < ws.length := by omega
    have : av (wordsN (pre ++ (rawK (c, t, ws) ++ post)) pre.length ((4 + 4 * ws.length) / 4 - 1)) i = wd4 (pre ++ (rawK (c, t, ws) ++ post)) (pre.length + 4 + 4 * i) := by
      rw [show (4 + 4 * ws.length) / 4 - 1 = ws.length by omega]
      simp [av, wordsN, List.getD_eq_getElem?_getD, hi']
    rw [this, hwd i hi']
theorem rawKs_app (l m : List Key) : rawKs (l ++ m) = rawKs l ++ rawKs m := by simp [rawKs]
theorem rawKs_one (k : Key) : rawKs [k] = rawK k := by simp [rawKs]
theorem split_at {α : Type} {l : List α} {j : Nat} (h : j < l.length) : l = l.take j ++ ([l[j]] ++ l.drop (j + 1)) := by simp
/-- bytes of objects are told as these. -/
theorem raw_places {l : List Key} (hr : ∀ k ∈ l, RightK k) : ∀ j, j ≤ l.length → okTo (rawKs l) j ∧ placeAt (rawKs l) j = (rawKs (l.take j)).length ∧ keysTo (rawKs l) j = l.take j
  | 0, _ => ⟨okTo_zero _, by simp [placeAt, rawKs], by simp [keysTo]⟩
  | j + 1, hj => by
    obtain ⟨h1, h2, h3⟩ := raw_places hr j (by omega)
    have hjl : j < l.length := by omega
    have e : rawKs l = rawKs (l.take j) ++ (rawK l[j] ++ rawKs (l.drop (j + 1))) := by
      conv => lhs; rw [split_at hjl]
      rw [rawKs_app, rawKs_app, rawKs_one]
    obtain ⟨q1, q2, q3⟩ := obAt_raw (pre := rawKs (l.take j)) (post := rawKs (l.drop (j + 1))) (hr l[j] (List.getElem_mem hjl))
    rw [← e, ← h2] at q1 q2 q3
    have ht : l.take (j + 1) = l.take j ++ [l[j]] := by rw [List.take_add_one, List.getElem?_eq_getElem hjl]; rfl
    refine ⟨h1.one q1, ?_, ?_⟩
    · simp only [placeAt]
      rw [q2, h2, ht, rawKs_app, rawKs_one, List.length_append]
    · rw [keysTo_one, h3, q3, ht]
theorem raw_good {l : List Key} (hr : ∀ k ∈ l, RightK k) (hl : l.length ≤ 40) : Good (rawKs l) l.length ∧ keysTo (rawKs l) l.length = l := by
  obtain ⟨h1, h2, h3⟩ := raw_places hr l.length (Nat.le_refl _)
  rw [List.take_length] at h2 h3
  exact ⟨⟨h1, hl, h2⟩, h3⟩
theorem layN4_wd {L : List Int} (hb : Bytes L) {i : Nat} (h : i + 4 ≤ L.length) : layN (wd4 L i) 4 = (L.drop i).take 4 := by
  have h0 := hb _ (av_mem (show i < L.length by omega))
  have h1 := hb _ (av_mem (show i + 1 < L.length by omega))
  have h2 := hb _ (av_mem (show i + 2 < L.length by omega))
  have h3 := hb _ (av_mem (show i + 3 < L.length by omega))
  rw [layN4, show (4 : Nat) = 0 + 1 + 1 + 1 + 1 from rfl, drop_take_one (by omega), drop_take_one (by omega), drop_take_one (by omega), drop_take_one (by omega)]
  have e : wd4 L i = 16777216 * av L i + 65536 * av L (i + 1) + 256 * av L (i + 2) + av L (i + 3) := rfl
  simp only [List.take_zero, List.nil_append, List.cons_append, Nat.add_zero]
  have a0 : wd4 L i / 16777216 % 256 = av L i := by omega
  have a1 : wd4 L i / 65536 % 256 = av L (i + 1) := by omega
  have a2 : wd4 L i / 256 % 256 = av L (i + 2) := by omega
  have a3 : wd4 L i % 256 = av L (i + 3) := by omega
  rw [a0, a1, a2, a3]
theorem take_add_drop (L : List Int) (i a b : Nat) : (L.drop i).take (a + b) = (L.drop i).take a ++ (L.drop (i + a)).take b := by
  rw [List.take_add, List.drop_drop]
theorem layB4_words {L : List Int} (hb : Bytes L) {i : Nat} : ∀ n, i + 4 + 4 * n ≤ L.length → layB 4 (wordsN L i n) = (L.drop (i + 4)).take (4 * n)
  | 0, _ => by simp [wordsN, layB]
  | n + 1, h => by
    rw [wordsN_one, show 4 * (n + 1) = 4 * n + 4 by omega, take_add_drop, ← layB4_words hb n (by omega), ← layN4_wd hb (by omega)]
    simp [layB]
theorem rawK_at {L : List Int} (hb : Bytes L) {i : Nat} (h : fitsAt L i) : rawK (obAt L i) = (L.drop i).take (nAt L i) := by
  obtain ⟨h1, h2, h3, h4, h5⟩ := h
  have h0 := hb _ (av_mem (show i < L.length by omega))
  have h1' := hb _ (av_mem (show i + 1 < L.length by omega))
  have hb2 := hb _ (av_mem (show i + 2 < L.length by omega))
  have hb3 := hb _ (av_mem (show i + 3 < L.length by omega))
  have hnn : (nAt L i : Int) = 256 * av L i + av L (i + 1) := by
    have := (hd2_bound hb (i := i) (by omega)).1
    unfold nAt; rw [Int.toNat_of_nonneg this]; rfl
  have e4 : nAt L i = 4 + 4 * (nAt L i / 4 - 1) := by omega
  unfold obAt wordsAt
  rw [rawK_eq, wordsN_len, layB4_words hb _ (by omega), show (L.drop i).take (nAt L i) = (L.drop i).take (4 + 4 * (nAt L i / 4 - 1)) by rw [← e4], take_add_drop]
  congr 1
  rw [show (4 : Nat) = 0 + 1 + 1 + 1 + 1 from rfl, drop_take_one (by omega), drop_take_one (by omega), drop_take_one (by omega), drop_take_one (by omega)]
  simp only [List.take_zero, List.nil_append, List.cons_append, Nat.add_zero, Nat.zero_add, Nat.reduceAdd]
  generalize nAt L i = n at *
  have a0 : (4 + 4 * ((n / 4 - 1 : Nat) : Int)) / 256 % 256 = av L i := by omega
  have a1 : (4 + 4 * ((n / 4 - 1 : Nat) : Int)) % 256 = av L (i + 1) := by omega
  have a2 : av L (i + 2) % 256 = av L (i + 2) := by omega
  have a3 : av L (i + 3) % 256 = av L (i + 3) := by omega
  rw [a0, a1, a2, a3]
/-- the objects of bytes have these bytes. -/
theorem raw_keysTo {L : List Int} (hb : Bytes L) : ∀ k, okTo L k → rawKs (keysTo L k) = L.take (placeAt L k)
  | 0, _ => by simp [keysTo, rawKs, placeAt]
  | k + 1, h => by
    have hf := h k (by omega)
    rw [keysTo_one, rawKs_app, rawKs_one, raw_keysTo hb k (fun j hj => h j (by omega)), rawK_at hb hf, show placeAt L (k + 1) = placeAt L k + nAt L (placeAt L k) from rfl, List.take_add]
theorem good_raw {L : List Int} (hb : Bytes L) {k : Nat} (h : Good L k) : rawKs (keysTo L k) = L ∧ ∀ x ∈ keysTo L k, RightK x := by
  refine ⟨by rw [raw_keysTo hb k h.1, h.2.2, List.take_length], fun x hx => ?_⟩
  simp only [keysTo, List.mem_map, List.mem_range] at hx
  obtain ⟨j, hj, rfl⟩ := hx
  exact fits_right hb (h.1 j hj)
end Go.Proofs.Ytnneolkedekfbaa
