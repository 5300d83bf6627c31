/- Heaps, told by the items that are there, whatever their places: the calls. -/
import Derived.Test.YtgeankdimknmiaaHpI
import Derived.Test.YtgeankdimknmiaaHpK
namespace Go.Proofs.Ytgeankdimknmiaa.Hp
set_option linter.unusedVariables false
open Go.RowKit Go.Maps Go.Sort Go.Proofs.Ytgeankdimknmiaa.Tp

/-- turns: none is above T, no two are one. -/
structure Tur (M : List It) (T : Int) : Prop where
  le : ∀ x ∈ M, tN x ≤ T
  nd : (M.map tN).Nodup
theorem Tur.nil : Tur [] 0 := ⟨fun x h => by simp at h, by simp⟩
theorem Tur.perm {M M' : List It} {T : Int} (h : Tur M T) (p : M.Perm M') : Tur M' T := ⟨fun x hx => h.le x (p.mem_iff.2 hx), (p.map tN).nodup_iff.1 h.nd⟩
theorem Tur.uniq {M : List It} {T : Int} (h : Tur M T) {x y : It} (hx : x ∈ M) (hy : y ∈ M) (e : tN x = tN y) : x = y := by
  obtain ⟨i, hi, ex⟩ := List.getElem_of_mem hx
  obtain ⟨j, hj, ey⟩ := List.getElem_of_mem hy
  have hp := List.pairwise_iff_getElem.1 h.nd
  have hij : i = j := by
    rcases Nat.lt_trichotomy i j with q | q | q
    · exact absurd (show (M.map tN)[i]'(by simpa using hi) = (M.map tN)[j]'(by simpa using hj) by rw [List.getElem_map, List.getElem_map, ex, ey, e]) (hp i j (by simpa using hi) (by simpa using hj) q)
    · exact q
    · exact absurd (show (M.map tN)[j]'(by simpa using hj) = (M.map tN)[i]'(by simpa using hi) by rw [List.getElem_map, List.getElem_map, ex, ey, e]) (hp j i (by simpa using hj) (by simpa using hi) q)
  subst hij
  rw [← ex, ← ey]
theorem Tur.snoc {M : List It} {T : Int} (h : Tur M T) {x : It} (hx : tN x = T + 1) : Tur (M ++ [x]) (T + 1) := by
  constructor
  · intro y hy
    rcases List.mem_append.1 hy with q | q
    · have := h.le y q; omega
    · rw [List.mem_singleton] at q; subst q; omega
  · rw [List.map_append, List.nodup_append]
    refine ⟨h.nd, by simp, fun a ha b hb => ?_⟩
    simp at hb
    obtain ⟨y, hy, rfl⟩ := List.mem_map.1 ha
    have := h.le y hy
    omega
theorem Tur.erase {M : List It} {T : Int} (h : Tur M T) (x : It) : Tur (M.erase x) T := ⟨fun y hy => h.le y (List.mem_of_mem_erase hy), h.nd.sublist ((List.erase_sublist).map tN)⟩
/-- the least of some. -/
def MinOf (M : List It) (x : It) : Prop := x ∈ M ∧ ∀ y ∈ M, Le x y
theorem MinOf.uniq {M : List It} {T : Int} (h : Tur M T) {x y : It} (hx : MinOf M x) (hy : MinOf M y) : x = y := by
  refine h.uniq hx.1 hy.1 ?_
  have a := hx.2 y hy.1
  have b := hy.2 x hx.1
  rw [le_iff] at a b
  omega
theorem MinOf.perm {M M' : List It} {x : It} (h : MinOf M x) (p : M.Perm M') : MinOf M' x := ⟨p.mem_iff.1 h.1, fun y hy => h.2 y (p.mem_iff.2 hy)⟩
/-- a heap of these items; R: the blocks that are its own. -/
def HR (R : Nat → Prop) (W : World) (h : Nat) (M : List It) (T : Int) : Prop := Tur M T ∧ ∃ mb v L D, L.Perm M ∧ Hp W h mb v L T D ∧ ∀ k, R k ↔ Blk h mb v k
section
variable {R : Nat → Prop} {W W' : World} {h : Nat} {M M' : List It} {T : Int}
theorem HR.perm (H : HR R W h M T) (p : M.Perm M') : HR R W h M' T := by
  obtain ⟨ht, mb, v, L, D, q, hH, hR⟩ := H
  exact ⟨ht.perm p, mb, v, L, D, q.trans p, hH, hR⟩
theorem HR.lt (H : HR R W h M T) : ∀ k, R k → k < W.heap.size := fun k hk => by
  obtain ⟨ht, mb, v, L, D, q, hH, hR⟩ := H
  rcases (hR k).1 hk with rfl | rfl | e
  · exact hH.at_.lt
  · exact hH.at_.mlt
  · exact hH.at_.vlt k e
theorem HR.hlt (H : HR R W h M T) : h < W.heap.size := by
  obtain ⟨ht, mb, v, L, D, q, hH, hR⟩ := H
  exact hH.at_.lt
theorem HR.keep (H : HR R W h M T) (hb : ∀ k, R k → W'.heap[k]? = W.heap[k]?) : HR R W' h M T := by
  obtain ⟨ht, mb, v, L, D, q, hH, hR⟩ := H
  exact ⟨ht, mb, v, L, D, q, hH.keep (fun k _ hk => hb k ((hR k).2 hk)), hR⟩
theorem HR.below (H : HR R W h M T) (hb : Below W.heap.size W W') : HR R W' h M T := H.keep (fun k hk => hb.block k (H.lt k hk))
theorem HR.sav (H : HR R W h M T) {S : Nat → Prop} (hs : Sav S W W') (hn : ∀ k, R k → ¬ S k) : HR R W' h M T := H.keep (fun k hk => hs.block k (H.lt k hk) (hn k hk))
theorem HR.ok (H : HR R W h M T) : OkL M := by
  obtain ⟨ht, mb, v, L, D, q, hH, hR⟩ := H
  exact fun x hx => hH.ok x (q.mem_iff.2 hx)
theorem HR.ids (H : HR R W h M T) {x y : It} (hx : x ∈ M) (hy : y ∈ M) (e : iD x = iD y) : x = y := by
  obtain ⟨ht, mb, v, L, D, q, hH, hR⟩ := H
  obtain ⟨i, hi, rfl⟩ := mem_gI (q.mem_iff.2 hx)
  obtain ⟨j, hj, rfl⟩ := mem_gI (q.mem_iff.2 hy)
  rw [hH.ids i j hi hj e]
end
/-- of what lay in old memory, a heap's blocks are the elder ones. -/
def Nxt (R R' : Nat → Prop) (w : World) : Prop := ∀ k, k < w.heap.size → R' k → R k
theorem Nxt.refl (R : Nat → Prop) (w : World) : Nxt R R w := fun _ _ q => q
theorem gone_erase {L M : List It} (q : L.Perm M) {n : Nat} (hn : n < L.length) : (gone L n).Perm (M.erase (gI L n)) := by
  have p := (gone_perm hn).erase (gI L n)
  rw [List.erase_cons_head] at p
  exact p.symm.trans (q.erase _)
theorem set_erase {L M : List It} (q : L.Perm M) {n : Nat} (hn : n < L.length) (x : It) : (L.set n x).Perm (M.erase (gI L n) ++ [x]) := by
  have h1 : (L.set n x).length = L.length := by simp
  have p := gone_perm (L := L.set n x) (n := n) (by simpa using hn)
  have e1 : gI (L.set n x) n = x := by rw [gI_set hn, if_pos rfl]
  rw [e1] at p
  have p2 : (gone (L.set n x) n).Perm (gone L n) := by
    have e : gone (L.set n x) n = gone L n := by
      apply List.ext_getElem?
      intro j
      by_cases hj : j < L.length - 1
      · have g1 : (gone (L.set n x) n)[j]? = some (gI (gone (L.set n x) n) j) := by
          rw [gI_at (by rw [gone_len, h1]; exact hj)]; simp [gone_len, h1, hj]
        have g2 : (gone L n)[j]? = some (gI (gone L n) j) := by
          rw [gI_at (by rw [gone_len]; exact hj)]; simp [gone_len, hj]
        rw [g1, g2, gI_gone (by rw [h1]; exact hn) (by rw [h1]; exact hj), gI_gone hn hj, h1]
        by_cases e3 : j = n
        · rw [if_pos e3, if_pos e3, gI_set hn, if_neg (by omega)]
        · rw [if_neg e3, if_neg e3, gI_set hn, if_neg e3]
      · rw [List.getElem?_eq_none (by rw [gone_len, h1]; omega), List.getElem?_eq_none (by rw [gone_len]; omega)]
    rw [e]
  exact p.trans ((List.Perm.cons x (p2.trans (gone_erase q hn))).trans (List.perm_append_comm (l₁ := [x]) (l₂ := M.erase (gI L n))))
section
variable {R : Nat → Prop} {w : World} {h : Nat} {M : List It} {T : Int}
theorem newR (w : World) : Calls Try.prog 14 #[] w fun e w' => e = .returned (.pointer (some ⟨w.heap.size + 1, 0, none⟩)) ∧ (∃ R, HR R w' (w.heap.size + 1) [] 0 ∧ ∀ k, R k → w.heap.size ≤ k) ∧ Below w.heap.size w w' :=
  (new_any w).mono fun e w' ⟨he, hH, hb⟩ => ⟨he, ⟨_, ⟨Tur.nil, _, _, [], _, List.Perm.refl _, ⟨hH, fun x hx => by simp at hx, fun i j hi => by simp at hi, ⟨fun i hi => by simp at hi, fun x _ => rfl⟩, Nat.le_refl _, by simp, Heap.nil⟩, fun k => Iff.rfl⟩, fun k hk => by
    rcases hk with rfl | rfl | q
    · omega
    · omega
    · cases q⟩, hb⟩
theorem putR_bad (H : HR R w h M T) {id n d : Int} (h0 : -9223372036854775808 ≤ n) (h1 : n ≤ 9223372036854775807) (h2 : -9223372036854775808 ≤ d) (h3 : d ≤ 9223372036854775807) (hb : mayB id n d = false) :
    Calls Try.prog 22 #[.pointer (some ⟨h, 0, none⟩), .int .i64 id, .agg #[.int .i64 n, .int .i64 d]] w fun e w' => e = .returned (.int .i64 2) ∧ Below w.heap.size w w' := by
  obtain ⟨ht, mb, v, L, D, q, hH, hR⟩ := H
  exact put_bad id n d h0 h1 h2 h3 hb w hH.at_.c0
theorem inD {mb : Nat} {v : Value} {L : List It} {D : DataW Unit} (q : L.Perm M) (hH : Hp w h mb v L T D) (id : Int) : In D id = true ↔ ∃ x ∈ M, iD x = id := by
  constructor
  · intro hi
    obtain ⟨i, hi, e, _⟩ := hH.pl.inn hi
    exact ⟨_, q.mem_iff.1 (gI_mem hi), e⟩
  · rintro ⟨x, hx, rfl⟩
    obtain ⟨i, hi, rfl⟩ := mem_gI (q.mem_iff.2 hx)
    exact (hH.pl.at_ hi).1
theorem putR_twice (H : HR R w h M T) {id n d : Int} (h0 : -9223372036854775808 ≤ n) (h1 : n ≤ 9223372036854775807) (h2 : -9223372036854775808 ≤ d) (h3 : d ≤ 9223372036854775807) (hb : mayB id n d = true) (hi : ∃ x ∈ M, iD x = id) :
    Calls Try.prog 22 #[.pointer (some ⟨h, 0, none⟩), .int .i64 id, .agg #[.int .i64 n, .int .i64 d]] w fun e w' => e = .returned (.int .i64 210) ∧ Below w.heap.size w w' := by
  obtain ⟨ht, mb, v, L, D, q, hH, hR⟩ := H
  exact put_twice id n d h0 h1 h2 h3 hb ((inD q hH id).2 hi) w hH.at_
theorem putR_ok (H : HR R w h M T) {id n d : Int} (h0 : -9223372036854775808 ≤ n) (h1 : n ≤ 9223372036854775807) (h2 : -9223372036854775808 ≤ d) (h3 : d ≤ 9223372036854775807) (hb : mayB id n d = true) (hi : ¬ ∃ x ∈ M, iD x = id) (hL : M.length < 100000) (hT0 : 0 ≤ T) (hT1 : T < 1000000) :
    Calls Try.prog 22 #[.pointer (some ⟨h, 0, none⟩), .int .i64 id, .agg #[.int .i64 n, .int .i64 d]] w fun e w' => e = .returned (.int .i64 0) ∧ ∃ R', HR R' w' h (M ++ [(id, n, d, T + 1)]) (T + 1) ∧ Sav R w w' ∧ Nxt R R' w := by
  obtain ⟨ht, mb, v, L, D, q, hH, hR⟩ := H
  have hin : In D id = false := by
    cases e : In D id
    · rfl
    · exact absurd ((inD q hH id).1 e) hi
  refine (put_ok id n d h0 h1 h2 h3 hb hin w hH (by rw [q.length_eq]; exact hL) hT0 hT1).mono ?_
  rintro e w' ⟨rfl, v', L', D', p, hH', hS, hN⟩
  exact ⟨rfl, Blk h mb v', ⟨ht.snoc rfl, mb, v', L', D', p.trans (q.append_right _), hH', fun k => Iff.rfl⟩, hS.mono (fun j _ e => (hR j).2 e), fun k hk e => (hR k).2 (hN k hk e)⟩
theorem keyed_tur {M : List It} {T : Int} (h : Tur M T) {x : It} (hx : x ∈ M) (n d : Int) : Tur (M.erase x ++ [keyed x n d]) T := by
  constructor
  · intro y hy
    rcases List.mem_append.1 hy with q | q
    · exact h.le y (List.mem_of_mem_erase q)
    · rw [List.mem_singleton] at q; subst q; exact h.le x hx
  · have p : (M.map tN).Perm ((M.erase x ++ [keyed x n d]).map tN) := by
      have := ((List.perm_cons_erase hx).map tN)
      refine this.trans ?_
      rw [List.map_append, List.map_cons]
      exact (List.perm_append_comm (l₁ := [tN x]) (l₂ := (M.erase x).map tN))
    exact p.nodup_iff.1 h.nd
theorem Hp.min {mb : Nat} {v : Value} {L : List It} {D : DataW Unit} (q : L.Perm M) (hH : Hp w h mb v L T D) (hl : 0 < L.length) : MinOf M (gI L 0) := by
  refine ⟨q.mem_iff.1 (gI_mem hl), fun y hy => ?_⟩
  obtain ⟨i, hi, rfl⟩ := mem_gI (q.mem_iff.2 hy)
  exact hH.heap.least hH.ok.pos i hi
theorem takeR (H : HR R w h M T) {x : It} (hx : MinOf M x) :
    Calls Try.prog 23 #[.pointer (some ⟨h, 0, none⟩)] w fun e w' => e = .returned (.tuple #[agI x, .bool true]) ∧ ∃ R', HR R' w' h (M.erase x) T ∧ Sav R w w' ∧ Nxt R R' w := by
  obtain ⟨ht, mb, v, L, D, q, hH, hR⟩ := H
  have hl : 0 < L.length := List.length_pos_of_mem (q.mem_iff.2 hx.1)
  have e := MinOf.uniq ht hx (Hp.min q hH hl)
  subst e
  refine (take_any hl w hH).mono ?_
  rintro e w' ⟨rfl, ⟨v', L', D', hv, p, hH'⟩, hS⟩
  exact ⟨rfl, Blk h mb v', ⟨ht.erase _, mb, v', L', D', p.trans (gone_erase q hl), hH', fun k => Iff.rfl⟩, hS.mono (fun j _ e => (hR j).2 e), fun k hk e => (hR k).2 (by
    rcases e with rfl | rfl | e
    · exact .inl rfl
    · exact .inr (.inl rfl)
    · exact .inr (.inr (hv ▸ e)))⟩
theorem leastR (H : HR R w h M T) {x : It} (hx : MinOf M x) :
    Calls Try.prog 37 #[.pointer (some ⟨h, 0, none⟩)] w fun e w' => e = .returned (.tuple #[agI x, .bool true]) ∧ Below w.heap.size w w' := by
  obtain ⟨ht, mb, v, L, D, q, hH, hR⟩ := H
  have hl : 0 < L.length := List.length_pos_of_mem (q.mem_iff.2 hx.1)
  have e := MinOf.uniq ht hx (Hp.min q hH hl)
  subst e
  exact least_any w hl hH.at_
theorem leastR_nil (H : HR R w h [] T) :
    Calls Try.prog 37 #[.pointer (some ⟨h, 0, none⟩)] w fun e w' => e = .returned (.tuple #[agI zI, .bool false]) ∧ Below w.heap.size w w' := by
  obtain ⟨ht, mb, v, L, D, q, hH, hR⟩ := H
  obtain rfl := q.eq_nil
  exact least_nil w hH.at_
theorem takeR_nil (H : HR R w h [] T) :
    Calls Try.prog 23 #[.pointer (some ⟨h, 0, none⟩)] w fun e w' => e = .returned (.tuple #[agI zI, .bool false]) ∧ Below w.heap.size w w' :=
  take_none _ w (fun W hW => leastR_nil (H.below hW))
theorem lenR (H : HR R w h M T) : Calls Try.prog 29 #[.pointer (some ⟨h, 0, none⟩)] w fun e w' => e = .returned (.int .i64 (M.length : Int)) ∧ w = w' := by
  obtain ⟨ht, mb, v, L, D, q, hH, hR⟩ := H
  rw [← q.length_eq]
  exact len_any w hH.at_
end
end Go.Proofs.Ytgeankdimknmiaa.Hp
