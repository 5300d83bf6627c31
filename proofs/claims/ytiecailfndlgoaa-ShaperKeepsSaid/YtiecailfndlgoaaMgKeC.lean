/- Texts that the claim hangs on, in one. -/
import Derived.Test.YtiecailfndlgoaaMgEnA
import Derived.Test.YtiecailfndlgoaaMgEnB
/- Shapers: a shaper beside three lists of the law's own: what came, what went, what was sent; what goes keeps to the spec. -/
namespace Go.Proofs.Ytiecailfndlgoaa
open Go.RowKit Go.Sort
set_option linter.unusedVariables false
/-- a shaper with a list each of what came and what went. -/
structure K3 (B : Nat) (w : World) (h : Nat) (p r u m l : Int) (s : BM.St) (L : List (Int × Int)) (cv : Value) (C : List (Int × Int)) (gv : Value) (G : List (Int × Int)) (sv : Value) (T : List (Int × Int)) (W : World) : Prop where
  sh : ∃ g b v, ShAt W h g b v p r u m l s 1000000000 L ∧ (∀ j, ShBlk h g b v j → B ≤ j) ∧ (∀ q, cv.ownBlock = some q → ¬ ShBlk h g b v q) ∧ (∀ q, gv.ownBlock = some q → ¬ ShBlk h g b v q) ∧ (∀ q, sv.ownBlock = some q → ¬ ShBlk h g b v q)
  c : OwnL sendV 2 W B 41 cv C
  g : OwnL sendV 2 W B 41 gv G
  se : OwnL sendV 2 W B 51 sv T
  cs : ∀ q, cv.ownBlock = some q → sv.ownBlock ≠ some q
  gs : ∀ q, gv.ownBlock = some q → sv.ownBlock ≠ some q
  cg : ∀ q, cv.ownBlock = some q → gv.ownBlock ≠ some q
  bel : Below B w W
  bsz : B ≤ W.heap.size
section
variable {B : Nat} {w : World} {h : Nat} {p r u m l : Int} {s : BM.St} {L : List (Int × Int)} {cv : Value} {C : List (Int × Int)} {gv : Value} {G : List (Int × Int)} {sv : Value} {T : List (Int × Int)} {W W' : World}
theorem K3.below (H : K3 B w h p r u m l s L cv C gv G sv T W) (hb : Below W.heap.size W W') : K3 B w h p r u m l s L cv C gv G sv T W' := by
  obtain ⟨g, b, v, hS, h1, h2, h3, h4⟩ := H.sh
  exact ⟨⟨g, b, v, hS.below hb, h1, h2, h3, h4⟩, H.c.below hb, H.g.below hb, H.se.below hb, H.cs, H.gs, H.cg, H.bel.trans (hb.mono H.bsz), Nat.le_trans H.bsz hb.size⟩
theorem K3.drew (H : K3 B w h p r u m l s L cv C gv G sv T W) : K3 B w h p r u m l s L cv C gv G sv T W.drew := H.below (Below.drew (Below.refl _ _))
/-- what a call of the shaper's leaves. -/
theorem K3.turn (H : K3 B w h p r u m l s L cv C gv G sv T W) {g b : Nat} {v v' : Value} {s' : BM.St} {L' : List (Int × Int)} (h1 : ∀ j, ShBlk h g b v j → B ≤ j) (h2 : ∀ q, cv.ownBlock = some q → ¬ ShBlk h g b v q) (h3 : ∀ q, gv.ownBlock = some q → ¬ ShBlk h g b v q) (h4 : ∀ q, sv.ownBlock = some q → ¬ ShBlk h g b v q)
    (hS : ShAt W' h g b v' p r u m l s' 1000000000 L') (hs : Sav (ShBlk h g b v) W W') (hn : ∀ j, j < W.heap.size → ShBlk h g b v' j → ShBlk h g b v j) : K3 B w h p r u m l s' L' cv C gv G sv T W' := by
  have hB := H.bsz
  refine ⟨⟨g, b, v', hS, fun j hj => ?_, fun q e hq => ?_, fun q e hq => ?_, fun q e hq => ?_⟩, H.c.keep1 (fun q e => hs.block q (H.c.lt q e).2 (h2 q e)), H.g.keep1 (fun q e => hs.block q (H.g.lt q e).2 (h3 q e)), H.se.keep1 (fun q e => hs.block q (H.se.lt q e).2 (h4 q e)), H.cs, H.gs, H.cg, H.bel.trans (hs.below hB h1), Nat.le_trans hB hs.size⟩
  · rcases Nat.lt_or_ge j W.heap.size with q | q
    · exact h1 j (hn j q hj)
    · exact Nat.le_trans hB q
  · exact h2 q e (hn q (H.c.lt q e).2 hq)
  · exact h3 q e (hn q (H.g.lt q e).2 hq)
  · exact h4 q e (hn q (H.se.lt q e).2 hq)
theorem K3.put (H : K3 B w h p r u m l s L cv C gv G sv T W) (i z : Int) : Calls Try.prog 15 #[.pointer (some ⟨h, 0, none⟩), .agg #[.int .i64 i, .int .i64 z]] W fun e W' => e = .returned (.int .i64 (putE m l 1000000000 L i z)) ∧ K3 B w h p r u m l s (if putE m l 1000000000 L i z = 0 then L ++ [(i, z)] else L) cv C gv G sv T W' := by
  obtain ⟨g, b, v, hS, h1, h2, h3, h4⟩ := H.sh
  unfold putE
  by_cases hi : i < 0 ∨ 4611686018427387904 < i
  · rw [if_pos hi]
    refine (put_arg hS hi z).mono ?_
    rintro e W' ⟨rfl, hb⟩
    exact ⟨rfl, by rw [if_neg (by omega)]; exact H.below hb⟩
  · rw [if_neg hi]
    cases hz : BM.sizeB m l z
    · simp only [Bool.false_eq_true, if_false]
      refine (put_size hS (by omega) hz).mono ?_
      rintro e W' ⟨rfl, hb⟩
      exact ⟨rfl, by rw [if_neg (by omega)]; exact H.below hb⟩
    · simp only [if_true]
      by_cases hr : 1000000000 < sumB L + z
      · rw [if_pos hr]
        refine (put_room hS (by omega) hz hr).mono ?_
        rintro e W' ⟨rfl, hb⟩
        exact ⟨rfl, by rw [if_neg (by omega)]; exact H.below hb⟩
      · rw [if_neg hr]
        refine (put_ok hS (by omega) hz hr).mono ?_
        rintro e W' ⟨rfl, v', hS', hs, hn⟩
        exact ⟨rfl, by rw [if_pos rfl]; exact H.turn h1 h2 h3 h4 hS' hs hn⟩
/-- behind Go, as the law sees it. -/
def GoK3 (B : Nat) (w : World) (h : Nat) (p r u m l : Int) (s : BM.St) (L : List (Int × Int)) (cv : Value) (C : List (Int × Int)) (gv : Value) (G : List (Int × Int)) (sv : Value) (T : List (Int × Int)) (W : World) (n : Int) (e : Ending) (W' : World) : Prop :=
  ∃ (k : Nat) (s' : BM.St) (A2 : Option Addr) (c2 : Nat), e = .returned (.tuple #[.slice A2 k c2, .int .i64 0]) ∧ BM.Goes p r u m l (BM.step p r u m l s n 0).1 n L k s' ∧ K3 B w h p r u m l s' (L.drop k) cv C gv G sv T W' ∧ QL W' (.slice A2 k c2) (L.take k) ∧
    ∀ q, (Value.slice A2 k c2).ownBlock = some q → W.heap.size ≤ q
theorem K3.go (H : K3 B w h p r u m l s L cv C gv G sv T W) (n : Int) (hn : BM.askB s n = true) : Calls Try.prog 16 #[.pointer (some ⟨h, 0, none⟩), .int .i64 n] W (GoK3 B w h p r u m l s L cv C gv G sv T W n) := by
  obtain ⟨g, b, v, hS, h1, h2, h3, h4⟩ := H.sh
  refine (go_yes hS n hn).mono ?_
  rintro e W' ⟨k, s', A2, c2, v2, rfl, hg, hS', ho, hq, hqn, hs⟩
  exact ⟨k, s', A2, c2, rfl, hg, H.turn h1 h2 h3 h4 hS' hs (fun j _ hj => by unfold ShBlk at hj ⊢; rw [ho] at hj; exact hj), hq, hqn⟩
theorem K3.go_no (H : K3 B w h p r u m l s L cv C gv G sv T W) (n : Int) (hn : BM.askB s n = false) : Calls Try.prog 16 #[.pointer (some ⟨h, 0, none⟩), .int .i64 n] W fun e W' => e = .returned (.tuple #[.slice none 0 0, .int .i64 2]) ∧ K3 B w h p r u m l s L cv C gv G sv T W' := by
  obtain ⟨g, b, v, hS, h1, h2, h3, h4⟩ := H.sh
  refine (_root_.Go.Proofs.Ytiecailfndlgoaa.go_no hS n hn).mono ?_
  rintro e W' ⟨rfl, hS', hs⟩
  exact ⟨rfl, H.turn h1 h2 h3 h4 hS' hs (fun j _ hj => hj)⟩
theorem K3.bytes (H : K3 B w h p r u m l s L cv C gv G sv T W) : Calls Try.prog 20 #[.pointer (some ⟨h, 0, none⟩)] W fun e W' => e = .returned (.int .i64 (sumB L)) ∧ W = W' := by
  obtain ⟨g, b, v, hS, _⟩ := H.sh
  exact bytes_any hS
theorem K3.wf (H : K3 B w h p r u m l s L cv C gv G sv T W) : rightB p r u m l = true ∧ BM.Ok u m s ∧ Szs m l L ∧ sumB L ≤ 1000000000 ∧ (L.length : Int) ≤ sumB L := by
  obtain ⟨g, b, v, hS, _⟩ := H.sh
  exact ⟨hS.rt, hS.ok, hS.sz, hS.sm, hS.sz.sum (by have := rightB_iff hS.rt; omega)⟩
theorem K3.next0 (H : K3 B w h p r u m l s [] cv C gv G sv T W) : Calls Try.prog 19 #[.pointer (some ⟨h, 0, none⟩)] W fun e W' => e = .returned (.tuple #[.int .i64 0, .bool false]) ∧ W = W' := by
  obtain ⟨g, b, v, hS, _⟩ := H.sh
  exact next_none hS
theorem K3.next1 (H : K3 B w h p r u m l s L cv C gv G sv T W) (hl : 0 < L.length) {t : Int} (ht : BM.IsWhen p r u m s s.1 L[0].2 t) : Calls Try.prog 19 #[.pointer (some ⟨h, 0, none⟩)] W fun e W' => e = .returned (.tuple #[.int .i64 t, .bool true]) ∧ Below W.heap.size W W' := by
  obtain ⟨g, b, v, hS, _⟩ := H.sh
  match L, hl with
  | x :: L, _ => exact next_some hS ht
/-- a list of the law's own is longer by some. -/
theorem K3.came (H : K3 B w h p r u m l s L cv C gv G sv T W) {cv' : Value} {M : List (Int × Int)} (hO : OwnL sendV 2 W' B 41 cv' (C ++ M)) (hg : W.grownBy W' cv.ownBlock) (ha : cv'.ownBlock = cv.ownBlock ∨ cv'.ownBlock = some W.heap.size) : K3 B w h p r u m l s L cv' (C ++ M) gv G sv T W' := by
  obtain ⟨g, b, v, hS, h1, h2, h3, h4⟩ := H.sh
  have hB := H.bsz
  refine ⟨⟨g, b, v, hS.keep hg.size (fun j hj => hg.block j (hS.lt hj) (fun e => h2 j e.symm hj)), h1, fun q e hq => ?_, h3, h4⟩, hO, H.g.keep1 (fun q e => hg.block q (H.g.lt q e).2 (fun e2 => H.cg q e2.symm e)), H.se.keep1 (fun q e => hg.block q (H.se.lt q e).2 (fun e2 => H.cs q e2.symm e)), fun q e e2 => ?_, H.gs, fun q e e2 => ?_, H.bel.grown hg hB (fun k e => (H.c.lt k e).1), Nat.le_trans hB hg.size⟩
  · rcases ha with a | a
    · exact h2 q (a.symm.trans e) hq
    · rw [a] at e; cases e; have := hS.lt hq; omega
  · rcases ha with a | a
    · exact H.cs q (a.symm.trans e) e2
    · rw [a] at e; cases e; have := (H.se.lt _ e2).2; omega
  · rcases ha with a | a
    · exact H.cg q (a.symm.trans e) e2
    · rw [a] at e; cases e; have := (H.g.lt _ e2).2; omega
theorem K3.went (H : K3 B w h p r u m l s L cv C gv G sv T W) {gv' : Value} {M : List (Int × Int)} (hO : OwnL sendV 2 W' B 41 gv' (G ++ M)) (hg : W.grownBy W' gv.ownBlock) (ha : gv'.ownBlock = gv.ownBlock ∨ gv'.ownBlock = some W.heap.size) : K3 B w h p r u m l s L cv C gv' (G ++ M) sv T W' := by
  obtain ⟨g, b, v, hS, h1, h2, h3, h4⟩ := H.sh
  have hB := H.bsz
  refine ⟨⟨g, b, v, hS.keep hg.size (fun j hj => hg.block j (hS.lt hj) (fun e => h3 j e.symm hj)), h1, h2, fun q e hq => ?_, h4⟩, H.c.keep1 (fun q e => hg.block q (H.c.lt q e).2 (fun e2 => H.cg q e e2.symm)), hO, H.se.keep1 (fun q e => hg.block q (H.se.lt q e).2 (fun e2 => H.gs q e2.symm e)), H.cs, fun q e e2 => ?_, fun q e e2 => ?_, H.bel.grown hg hB (fun k e => (H.g.lt k e).1), Nat.le_trans hB hg.size⟩
  · rcases ha with a | a
    · exact h3 q (a.symm.trans e) hq
    · rw [a] at e; cases e; have := hS.lt hq; omega
  · rcases ha with a | a
    · exact H.gs q (a.symm.trans e) e2
    · rw [a] at e; cases e; have := (H.se.lt _ e2).2; omega
  · rcases ha with a | a
    · exact H.cg q e (a.symm.trans e2)
    · rw [a] at e2; cases e2; have := (H.c.lt _ e).2; omega
theorem K3.sent (H : K3 B w h p r u m l s L cv C gv G sv T W) {sv' : Value} {M : List (Int × Int)} (hO : OwnL sendV 2 W' B 51 sv' (T ++ M)) (hg : W.grownBy W' sv.ownBlock) (ha : sv'.ownBlock = sv.ownBlock ∨ sv'.ownBlock = some W.heap.size) : K3 B w h p r u m l s L cv C gv G sv' (T ++ M) W' := by
  obtain ⟨g, b, v, hS, h1, h2, h3, h4⟩ := H.sh
  have hB := H.bsz
  refine ⟨⟨g, b, v, hS.keep hg.size (fun j hj => hg.block j (hS.lt hj) (fun e => h4 j e.symm hj)), h1, h2, h3, fun q e hq => ?_⟩, H.c.keep1 (fun q e => hg.block q (H.c.lt q e).2 (fun e2 => H.cs q e e2.symm)), H.g.keep1 (fun q e => hg.block q (H.g.lt q e).2 (fun e2 => H.gs q e e2.symm)), hO, fun q e e2 => ?_, fun q e e2 => ?_, H.cg, H.bel.grown hg hB (fun k e => (H.se.lt k e).1), Nat.le_trans hB hg.size⟩
  · rcases ha with a | a
    · exact h4 q (a.symm.trans e) hq
    · rw [a] at e; cases e; have := hS.lt hq; omega
  · rcases ha with a | a
    · exact H.cs q e (a.symm.trans e2)
    · rw [a] at e2; cases e2; have := (H.c.lt _ e).2; omega
  · rcases ha with a | a
    · exact H.gs q e (a.symm.trans e2)
    · rw [a] at e2; cases e2; have := (H.g.lt _ e).2; omega
theorem K3.fresh (H : K3 B w h p r u m l s L cv C gv G sv T W) {q : Nat} (hq : W.heap.size ≤ q) : gv.ownBlock ≠ some q ∧ sv.ownBlock ≠ some q := ⟨fun e => by have := (H.g.lt q e).2; omega, fun e => by have := (H.se.lt q e).2; omega⟩
theorem K3.new {g b : Nat} (hw : Below B w W) (hW : B ≤ W.heap.size) (hS : ShAt W h g b (.slice none 0 0) p r u m l (0, u, m) 1000000000 []) (h1 : B ≤ h) (h2 : B ≤ g) (h3 : B ≤ b) : K3 B w h p r u m l (0, u, m) [] (.slice none 0 0) [] (.slice none 0 0) [] (.slice none 0 0) [] W := by
  refine ⟨⟨g, b, _, hS, fun j hj => ?_, fun q e => ?_, fun q e => ?_, fun q e => ?_⟩, OwnL.nil _ _ _, OwnL.nil _ _ _, OwnL.nil _ _ _, fun q e => ?_, fun q e => ?_, fun q e => ?_, hw, hW⟩
  · rcases hj with rfl | rfl | rfl | e
    · exact h1
    · exact h2
    · exact h3
    · cases e
  · cases e
  · cases e
  · cases e
  · cases e
  · cases e
  · cases e
end
namespace BM
theorem Inv.atK {p r u m l : Int} {T : List (Int × Int)} {s : St} (h : Inv p r u m l T s) (hp : 0 ≤ p) (hr : 0 ≤ r) (hl : 1 ≤ l) (hs : Ok u m s) {n : Int} {L : List (Int × Int)} : ∀ {k : Nat}, k ≤ L.length → (∀ i (hi : i < L.length), i < k → (BM.step p r u m l (BM.atK p r u m l s n L i) n L[i].2).2.1 = true) → Inv p r u m l (T ++ (L.take k).map fun x => (n, x.2)) (BM.atK p r u m l s n L k)
  | 0, _, _ => by rw [atK_zero]; simpa using h
  | k + 1, hk, ha => by
    have hk' : k < L.length := by omega
    have ih := Inv.atK h hp hr hl hs (n := n) (show k ≤ L.length by omega) (fun i hi h2 => ha i hi (by omega))
    have st := ih.step hp hr (by omega) (atK_ok hl hs) n L[k].2
    rw [ha k hk' (by omega)] at st
    rw [atK_succ _ _ _ _ _ _ _ hk', List.take_succ_eq_append_getElem hk', List.map_append, List.map_singleton, ← List.append_assoc]
    exact st
/-- a tick gone to takes nothing. -/
theorem Inv.move {p r u m l : Int} {T : List (Int × Int)} {s : St} (h : Inv p r u m l T s) (hp : 0 ≤ p) (hr : 0 ≤ r) (hl : 1 ≤ l) (hs : Ok u m s) (n : Int) : Inv p r u m l T (BM.step p r u m l s n 0).1 := by
  have st := h.step hp hr (by omega) hs n 0
  have e : (BM.step p r u m l s n 0).2.1 = false := by
    have nofit : fitB p r u m l s n 0 = false := by
      unfold fitB sizeB
      rw [decide_eq_false (by omega : ¬ (l ≤ 0 ∧ 0 ≤ m))]
      rfl
    unfold BM.step
    split
    · rw [if_neg (by rw [nofit]; simp)]
    · rfl
  rw [e] at st
  exact st
/-- what does not go does not keep to the spec. -/
theorem Inv.stop {p r u m l : Int} {T : List (Int × Int)} {s : St} (h : Inv p r u m l T s) (hp : 0 ≤ p) (hr : 0 ≤ r) (hs : Ok u m s) {n z : Int} (ha : askB s n = true) (hz : (BM.step p r u m l s n z).2.1 = false) : ¬ Keep p r u m l (T ++ [(n, z)]) := fun hk => by
  have := (step_is h hp hr hs n z).2 ⟨ha, hk⟩
  rw [hz] at this
  cases this
end BM
end Go.Proofs.Ytiecailfndlgoaa

/- Shapers: ShaperKeeps' walk. -/
namespace Go.Proofs.Ytiecailfndlgoaa
open Go.RowKit Go.Sort
set_option linter.unusedVariables false
theorem Lie.act3 {w : World} {B : Nat} {A : Option Addr} {l : List (Int × Int × Int)} (h : Lie actV 3 w B A l) (i : Nat) (hi : i < l.length) :
    ∃ ad, A = some ad ∧ ad.block < B ∧ w.cell? (ad.add (i * 3)) = some (.int .i64 l[i].1) ∧ w.cell? ⟨(ad.add (i * 3)).block, (ad.add (i * 3)).off + 1, none⟩ = some (.int .i64 l[i].2.1) ∧ w.cell? ⟨(ad.add (i * 3)).block, (ad.add (i * 3)).off + 2, none⟩ = some (.int .i64 l[i].2.2) := by
  obtain ⟨ad, e, hB, hc⟩ := h (by omega)
  have hx : l[i]? = some l[i] := List.getElem?_eq_getElem hi
  refine ⟨ad, e, hB, hc i _ hx 0 _ rfl, ?_, ?_⟩
  · have := hc i _ hx 1 _ rfl
    rw [← add_of_add] at this
    exact this
  · have := hc i _ hx 2 _ rfl
    rw [← add_of_add] at this
    exact this
theorem Lie.pre {w : World} {B : Nat} {A : Option Addr} {l : List (Int × Int)} (h : Lie sendV 2 w B A l) (k : Nat) : Lie sendV 2 w B A (l.take k) := fun hl => by
  have h0 : 0 < l.length := by rw [List.length_take] at hl; omega
  obtain ⟨ad, e, hB, hc⟩ := h h0
  refine ⟨ad, e, hB, fun i x hx j v hv => hc i x ?_ j v hv⟩
  rw [List.getElem?_take] at hx
  split at hx
  · exact hx
  · cases hx
set_option maxRecDepth 100000 in
set_option maxHeartbeats 8000000 in
theorem keeps13_walk (p r u m l : Int) (A : Option Addr) (L : List (Int × Int × Int)) (ca : Nat) (hL : L.length ≤ maxLen) (w : World) (lL : Lie actV 3 w w.heap.size A L) :
    Calls Try.prog 4 #[.agg #[.int .i64 p, .int .i64 r, .int .i64 u, .int .i64 m, .int .i64 l], .slice A L.length ca] w fun e w' => e = .returned (.bool true) ∧ Below w.heap.size w w' := by
  have cK := hidd (fun W => known13_any W)
  have HL := hidd lL
  unfold maxLen at hL
  clear lL
  by_cases h40 : (40 : Int) < (L.length : Int)
  · generalize hNL : L.length = N at *
    clear HL hNL
    go_enter Try.func4, Try.ntmps4
    go_wp2_with fail
    refine (cK.out _).mono ?_
    rintro e w2 ⟨rfl, hb2⟩
    go_wp2_with fail
    go_ret
    exact ⟨rfl, below_step (below_new (Below.refl _ _) _) hb2⟩
  cases hR : newB p r u m l 1000000000
  · have cN := hidd (fun W => shNew_no p r u m l 1000000000 hR W)
    generalize hNL : L.length = N at *
    clear HL hNL hR
    go_enter Try.func4, Try.ntmps4
    go_wp2_with fail
    refine (cN.out _).mono ?_
    rintro e w1 ⟨rfl, hb1⟩
    go_wp2_with fail
    refine (cK.out _).mono ?_
    rintro e w2 ⟨rfl, hb2⟩
    go_wp2_with fail
    go_ret
    exact ⟨rfl, below_step (below_step (below_new (Below.refl _ _) _) hb1) hb2⟩
  have cN := hidd (fun W => shNew_yes p r u m l 1000000000 hR W)
  obtain ⟨i0, hi0, hz0, hz1, hz2⟩ : ∃ i, Try.prog.info? 41 = some i ∧ i.zero = some (.agg #[.int .i64 0, .int .i64 0]) ∧ i.size = 2 ∧ i.bytes = 16 := by
    have q := waitInfo
    cases hi : Try.prog.info? 41 with
    | none => rw [hi] at q; cases q
    | some i => rw [hi] at q; simp at q; exact ⟨i, rfl, q.1, q.2.1, q.2.2⟩
  obtain ⟨i1, hi1, hy0, hy1, hy2⟩ : ∃ i, Try.prog.info? 51 = some i ∧ i.zero = some (.agg #[.int .i64 0, .int .i64 0]) ∧ i.size = 2 ∧ i.bytes = 16 := by
    have q := sendInfo12
    cases hi : Try.prog.info? 51 with
    | none => rw [hi] at q; cases q
    | some i => rw [hi] at q; simp at q; exact ⟨i, rfl, q.1, q.2.1, q.2.2⟩
  have hp : rightB p r u m l = true := (Bool.and_eq_true _ _ ▸ hR : rightB p r u m l = true ∧ _).1
  have HRT := hidd hp
  have HP := hidd (rightB_iff hp)
  have cR := hidd (fun A' L' n c W hn hm hl => refKeeps_any p r u m l hp A' L' n c hn hm W hl)
  unfold RKeepsEnd at cR
  clear hR hp
  obtain ⟨W0, hW0⟩ : ∃ W0 : World, w.alloc (.cells #[.int .i64 p, .int .i64 r, .int .i64 u, .int .i64 m, .int .i64 l] 23) = W0 := ⟨_, rfl⟩
  have HW0 := hidd hW0
  have B0 : Hid (Below w.heap.size w W0) := hidd (by rw [← hW0]; (repeat' (first | (with_reducible exact Below.refl _ _) | (with_reducible assumption) | (with_reducible apply Below.setCell) | (with_reducible apply Below.alloc) | (with_reducible apply Below.drew) | (with_reducible apply below_drewN) | (with_reducible refine Below.trans ?_ (Below.mono (by assumption) ?_)) | omega | (simp; done) | (simp; omega))))
  have LW := hidd (HL.out.below B0.out)
  have SP := hidd (show w.heap.size < W0.heap.size ∧ W0.cell? ⟨w.heap.size, 0, none⟩ = some (.int .i64 p) ∧ W0.cell? ⟨w.heap.size, 1, none⟩ = some (.int .i64 r) ∧ W0.cell? ⟨w.heap.size, 2, none⟩ = some (.int .i64 u) ∧ W0.cell? ⟨w.heap.size, 3, none⟩ = some (.int .i64 m) ∧ W0.cell? ⟨w.heap.size, 4, none⟩ = some (.int .i64 l) from by rw [← hW0]; exact ⟨by simp, by simp [go_sem], by simp [go_sem], by simp [go_sem], by simp [go_sem], by simp [go_sem]⟩)
  clear hW0
  go_enter Try.func4, Try.ntmps4
  go_wp2_with fail
  rw [HW0.out]
  refine (cN.out _).mono ?_
  rintro e w1 ⟨h, g, b, rfl, h1, h2, h3, hS, hb1⟩
  have K0 := hidd (K3.new (w := W0) hb1 hb1.size hS h1 h2 h3)
  clear hb1 hS h1 h2 h3 cN
  go_wp2_with fail
  go_loopg [7, 8, 9, 10] (L.length + 1) (fun gk s7 s8 s9 s10 wr => ∃ (i k : Nat) (s : BM.St) (C T : List (Int × Int)), i ≤ L.length ∧ i + gk = L.length + 1 ∧ s10 = .int .i64 (i : Int) ∧ C.length ≤ i ∧ k ≤ C.length ∧ T.length = k ∧ BM.Inv p r u m l T s ∧ K3 W0.heap.size W0 h p r u m l s (C.drop k) s7 C s8 (C.take k) s9 T wr)
  case atStart => exact ⟨0, 0, (0, u, m), [], [], by omega, by omega, rfl, by simp, by simp, rfl, BM.Inv.nil HRT.out, K0.out⟩
  case round =>
    clear K0
    obtain ⟨i, k, s, C, T, hi, hk, rfl, hC, hkC, hT, hI, hK⟩ := hrel
    have HK := hidd hk
    have KK := hidd hK
    have HC := hidd hC
    have HT := hidd hT
    have HI := hidd hI
    clear hk hK hT hI
    by_cases hlt : i < L.length
    · have z1 : (i : Int) < (L.length : Int) := by omega
      have z0 : (0 : Int) ≤ (i : Int) := by omega
      obtain ⟨ad, rfl, hadb, x0, x1, x2⟩ := (LW.out.keep KK.out.bel).act3 i hlt
      have hadw : (ad.add (i * 3)).block < W0.heap.size := by rw [block_of_add]; exact hadb
      have hcl : C.length ≤ 40 := by omega
      have AK : Hid (∀ Y, Below W0.heap.size W0 Y → Y.cell? ⟨(ad.add (i * 3)).block, (ad.add (i * 3)).off + 1, none⟩ = some (.int .i64 L[i].2.1) ∧ Y.cell? ⟨(ad.add (i * 3)).block, (ad.add (i * 3)).off + 2, none⟩ = some (.int .i64 L[i].2.2)) := hidd (fun Y hb => ⟨(hb.cell (p := ⟨(ad.add (i * 3)).block, (ad.add (i * 3)).off + 1, none⟩) hadw).trans ((KK.out.bel.cell (p := ⟨(ad.add (i * 3)).block, (ad.add (i * 3)).off + 1, none⟩) hadw).symm.trans x1), (hb.cell (p := ⟨(ad.add (i * 3)).block, (ad.add (i * 3)).off + 2, none⟩) hadw).trans ((KK.out.bel.cell (p := ⟨(ad.add (i * 3)).block, (ad.add (i * 3)).off + 2, none⟩) hadw).symm.trans x2)⟩)
      generalize L[i].1 = kind at *
      generalize L[i].2.1 = a at *
      generalize L[i].2.2 = z at *
      generalize hNL : L.length = N at *
      have HNL := hidd hNL
      clear hNL
      by_cases hkd : kind = 1
      · have cP := hidd (KK.out.put a z)
        generalize hE : putE m l 1000000000 (C.drop k) a z = E at *
        go_wp2_with fail
        refine cP.out.mono ?_
        rintro e w2 ⟨rfl, hK2⟩
        by_cases hE0 : E = 0
        · rw [if_pos hE0] at hK2
          have K2' := hidd hK2
          obtain ⟨A2, c2, rfl, hl2, hc2, hlie⟩ := OwnL.lie hK2.c sendV_len
          obtain ⟨y1, y2⟩ := AK.out w2 K2'.out.bel
          have hbz : W0.heap.size ≤ w2.heap.size := K2'.out.bsz
          clear x0 x1 x2 cP hK2 hlie
          go_wp2_with (at_builtin; refine wpList_append_some (by rfl) (.tmp 46) (.tmp 52) _ (by rfl) W0.heap.size 41 i0 _ 2 16 Try.underlying33 hi0 hz0 hz1 hz2 rfl (by omega) (.slice A2 C.length c2) C.length (rowOf sendV C) (by rfl) (World.ownsRow.alloc K2'.out.c _) (some ⟨w2.heap.size, 0, none⟩) 1 1 (sendV (a, z)) (by rfl) (by rfl) (fun _ => ⟨_, rfl, World.news_of_block (cs := #[.int .i64 a, .int .i64 z]) (t := 41) (fr := (0, 0)) (heap_alloc_new w2 _)⟩) (sendV_one _) (by simp only [maxLen]; omega) (by omega) (by simp; omega) ?_; intro va wa hown hgrow hat)
          have hk := HK.out
          have hN := HNL.out
          have KA := (K2'.out.below (below_new (Below.refl _ _) _)).came (M := [(a, z)]) (OwnL.snoc hown rfl rfl) hgrow hat
          rw [← List.drop_append_of_le_length hkC, ← List.take_append_of_le_length (l₂ := [(a, z)]) hkC] at KA
          subst hN
          go_roundg (gk - 1)
          case measure => omega
          case rel => exact ⟨i + 1, k, s, C ++ [(a, z)], T, by omega, by omega, by go_num, by have := HC.out; simp; omega, by simp; omega, HT.out, HI.out, KA⟩
        · rw [if_neg hE0] at hK2
          have K2' := hidd hK2
          clear x0 x1 x2 cP hK2
          go_wp2_with fail
          have hk := HK.out
          have hN := HNL.out
          subst hN
          go_roundg (gk - 1)
          case measure => omega
          case rel => exact ⟨i + 1, k, s, C, T, by omega, by omega, by go_num, by have := HC.out; omega, hkC, HT.out, HI.out, K2'.out⟩
      · cases ha : BM.askB s a
        · have cG := hidd (KK.out.go_no a ha)
          clear ha
          go_wp2_with fail
          refine cG.out.mono ?_
          rintro e w2 ⟨rfl, hK2⟩
          have K2' := hidd hK2
          clear x0 x1 x2 hK2
          go_wp2_with fail
          have hk := HK.out
          have hN := HNL.out
          subst hN
          go_roundg (gk - 1)
          case measure => omega
          case rel => exact ⟨i + 1, k, s, C, T, by omega, by omega, by go_num, by have := HC.out; omega, hkC, HT.out, HI.out, K2'.out⟩
        · have cG := hidd (KK.out.go a ha)
          unfold GoK3 at cG
          have HASK := hidd ha
          clear ha
          go_wp2_with fail
          refine cG.out.mono ?_
          rintro e w2 ⟨k', s', A3, c3, rfl, hg, hK2, hq, hqn⟩
          have K2' := hidd hK2
          have hkle := hg.le
          rw [List.length_drop] at hkle
          have HG := hidd hg
          have HQ := hidd hq
          have APT := hidd (fun q (e : (Value.slice A3 k' c3).ownBlock = some q) => KK.out.fresh (hqn q e))
          have hol : ((C.drop k).take k').length = k' := by rw [List.length_take, List.length_drop]; omega
          obtain ⟨A2, c2, hs7, hl2, hc2, hlie2⟩ := OwnL.lie hK2.c sendV_len
          subst hs7
          have HOL := hidd hol
          have INV0 := HI.out.move (by have := HP.out; omega) (by have := HP.out; omega) (by have := HP.out; omega) KK.out.wf.2.1 a
          have OK1 := BM.step_ok KK.out.wf.2.1 (p := p) (r := r) (l := l) (by have := HP.out; omega) a 0
          have INV1 := hidd (INV0.atK (n := a) (L := C.drop k) (k := k') (by have := HP.out; omega) (by have := HP.out; omega) (by have := HP.out; omega) OK1 (by rw [List.length_drop]; omega) hg.all)
          have HSTOP := hidd (fun (hlt2 : k' < (C.drop k).length) => hg.stop hlt2)
          have HNOW : Hid (s'.1 = a ∧ a ≤ 2147483647) := hidd ⟨by
            rw [hg.st]
            refine BM.atK_now ?_ (of_decide_eq_true HASK.out).2 (by rw [List.length_drop]; omega)
            unfold BM.step
            rw [if_pos HASK.out]
            split <;> rfl, (of_decide_eq_true HASK.out).2⟩
          have HST : Hid (s' = BM.atK p r u m l (BM.step p r u m l s a 0).1 a (C.drop k) k') := hidd hg.st
          clear x0 x1 x2 hK2 hg hq hqn cG INV0 OK1 hlie2
          obtain ⟨gk0, hgk0⟩ : ∃ g, gk = g := ⟨_, rfl⟩
          rw [hgk0] at HK
          generalize hO : (C.drop k).take k' = O at *
          have HO := hidd hO
          clear hO
          go_wp2_with fail
          go_loopg [8, 9, 13] (k' + 1) (fun gk s8 s9 s13 wx => ∃ j : Nat, j ≤ k' ∧ j + gk = k' + 1 ∧ s13 = .int .i64 (j : Int) ∧ K3 W0.heap.size W0 h p r u m l s' ((C.drop k).drop k') (.slice A2 C.length c2) C s8 (C.take k ++ O.take j) s9 (T ++ (O.take j).map (fun x => (a, x.2))) wx ∧ QL wx (.slice A3 k' c3) O ∧ ∀ q, (Value.slice A3 k' c3).ownBlock = some q → s8.ownBlock ≠ some q ∧ s9.ownBlock ≠ some q)
          case atStart => exact ⟨0, by omega, by omega, rfl, by simpa using K2'.out, HQ.out, fun q e => APT.out q e⟩
          case round =>
            clear K2' HQ APT
            obtain ⟨j, hj, hkj, rfl, hK3, hQ3, hA3⟩ := hrel
            have HKJ := hidd hkj
            have K3' := hidd hK3
            have Q3' := hidd hQ3
            have A3' := hidd hA3
            clear hkj
            by_cases hjl : j < k'
            · have z3 : (j : Int) < (k' : Int) := by omega
              have z4 : (0 : Int) ≤ (j : Int) := by omega
              obtain ⟨A9, c9, e9, _, _, hlie9⟩ := hQ3.lie
              injection e9 with e91 e92 e93
              subst e91
              obtain ⟨bd, rfl, hbd, o0, o1⟩ := hlie9.send j (by rw [HOL.out]; exact hjl)
              obtain ⟨A5, c5, hs8, hl5, hc5, _⟩ := OwnL.lie hK3.g sendV_len
              have hgl : (C.take k ++ O.take j).length = k + j := by rw [List.length_append, List.length_take, List.length_take, HOL.out]; omega
              rw [hgl] at hs8 hl5
              obtain ⟨A7, c7, hs9, hl7, hc7, _⟩ := OwnL.lie hK3.se sendV_len
              have htl : (T ++ (O.take j).map (fun x => (a, x.2))).length = k + j := by rw [List.length_append, List.length_map, List.length_take, HOL.out, HT.out]; omega
              rw [htl] at hs9 hl7
              subst hs8
              subst hs9
              have HGO := hidd (show wr.ownsRow W0.heap.size 41 2 (.slice A5 (k + j) c5) (k + j) (rowOf sendV (C.take k ++ O.take j)) from by have q := hK3.g; unfold OwnL at q; rw [hgl] at q; exact q)
              have hoj : O[j]? = some O[j] := List.getElem?_eq_getElem (by rw [HOL.out]; exact hjl)
              have hsn1 : O.take (j + 1) = O.take j ++ [O[j]] := List.take_succ_eq_append_getElem _
              have HSN := hidd hsn1
              have HGL := hidd hgl
              have HTL := hidd htl
              have HBD := hidd (show (bd.add (j * 2)).block < wr.heap.size from by rw [block_of_add]; exact hbd)
              have BW : Hid (∀ q, (Value.slice (some bd) k' c3).ownBlock = some q → (bd.add (j * 2)).block = q) := hidd (fun q e => by rw [block_of_add]; simpa [Value.ownBlock] using e)
              have OB : Hid ((Value.slice (some bd) k' c3).ownBlock = some (bd.add (j * 2)).block) := hidd (by rw [block_of_add]; rfl)
              have O0 := hidd o0
              have O1 := hidd o1
              generalize hoe : O[j] = oj at *
              obtain ⟨aj, zj⟩ := oj
              dsimp only at *
              clear hK3 hQ3 hA3 hlie9 e92 e93 hgl htl hoj hsn1
              go_wp2_with (at_builtin; refine wpList_append_some (by rfl) (.tmp 73) (.tmp 78) _ (by rfl) W0.heap.size 41 i0 _ 2 16 Try.underlying33 hi0 hz0 hz1 hz2 rfl (by omega) (.slice A5 (k + j) c5) (k + j) (rowOf sendV (C.take k ++ O.take j)) (by rfl) (World.ownsRow.alloc HGO.out _) (some ⟨wr.heap.size, 0, none⟩) 1 1 (sendV (aj, zj)) (by rfl) (by rfl) (fun _ => ⟨_, rfl, World.news_of_block (cs := #[.int .i64 aj, .int .i64 zj]) (t := 41) (fr := (0, 0)) (heap_alloc_new wr _)⟩) (sendV_one _) (by simp only [maxLen]; omega) (by omega) (by have := K3'.out.bsz; simp; omega) ?_; intro va wa hown hgrow hat)
              have hqa : ∀ q, (Value.slice (some bd) k' c3).ownBlock = some q → wa.heap[q]? = wr.heap[q]? := fun q e => (hgrow.block q (by have := Q3'.out.lt q e; simp; omega) (fun e2 => (A3'.out q e).1 e2.symm)).trans (Below.heap_alloc _ _ _ (Q3'.out.lt q e))
              have hwa : wr.heap.size + 1 ≤ wa.heap.size := by have := hgrow.size; simpa using this
              have HKB := hidd ((K3'.out.below (below_new (Below.refl _ _) (.cells #[.int .i64 aj, .int .i64 zj] 41))).went (M := [(aj, zj)]) (OwnL.snoc hown (by rw [HGL.out]) rfl) hgrow hat)
              have QB := hidd (Q3'.out.keep hqa (by omega))
              have APB : Hid (∀ q, (Value.slice (some bd) k' c3).ownBlock = some q → va.ownBlock ≠ some q ∧ (Value.slice A7 (k + j) c7).ownBlock ≠ some q) := hidd (fun q e => ⟨fun e2 => by
                rcases hat with q1 | q1
                · exact (A3'.out q e).1 (q1.symm.trans e2)
                · rw [q1] at e2; cases e2; have h8 := Q3'.out.lt _ e; simp only [World.size_alloc] at h8; omega, (A3'.out q e).2⟩)
              have o1a : wa.cell? ⟨(bd.add (j * 2)).block, (bd.add (j * 2)).off + 1, none⟩ = some (.int .i64 zj) := (World.cell?_of_block (a := ⟨(bd.add (j * 2)).block, (bd.add (j * 2)).off + 1, none⟩) (hqa _ OB.out)).trans O1.out
              have HBA : Hid ((bd.add (j * 2)).block < wa.heap.size) := hidd (by have := HBD.out; omega)
              have KS : Hid (∀ Y, Below wa.heap.size wa Y → Y.cell? ⟨(ad.add (i * 3)).block, (ad.add (i * 3)).off + 1, none⟩ = some (.int .i64 a) ∧ Y.cell? ⟨(bd.add (j * 2)).block, (bd.add (j * 2)).off + 1, none⟩ = some (.int .i64 zj)) := hidd (fun Y hb => ⟨(AK.out Y (HKB.out.bel.trans (hb.mono HKB.out.bsz))).1, (hb.cell (p := ⟨(bd.add (j * 2)).block, (bd.add (j * 2)).off + 1, none⟩) HBA.out).trans o1a⟩)
              have HSO := hidd (show wa.drew.ownsRow W0.heap.size 51 2 (.slice A7 (k + j) c7) (k + j) (rowOf sendV (T ++ (O.take j).map (fun x => (a, x.2)))) from by have q := HKB.out.se; unfold OwnL at q; rw [HTL.out] at q; exact q)
              have QKEEP : Hid (∀ wc, (wa.drew.alloc (.cells #[.int .i64 a, .int .i64 zj] 51)).grownBy wc (Value.slice A7 (k + j) c7).ownBlock → QL wc (.slice (some bd) k' c3) O) := hidd (fun wc hg => QB.out.keep (fun q e => (hg.block q (by have := QB.out.lt q e; simp; omega) (fun e2 => (APB.out q e).2 e2.symm)).trans (Below.heap_alloc wa.drew _ _ (QB.out.lt q e))) (by have := hg.size; simp at this; omega))
              have KG : Hid (∀ wc, (wa.drew.alloc (.cells #[.int .i64 a, .int .i64 zj] 51)).grownBy wc (Value.slice A7 (k + j) c7).ownBlock → wc.cell? ⟨(ad.add (i * 3)).block, (ad.add (i * 3)).off + 1, none⟩ = some (.int .i64 a) ∧ wc.cell? ⟨(bd.add (j * 2)).block, (bd.add (j * 2)).off + 1, none⟩ = some (.int .i64 zj)) := hidd (fun wc hg => ⟨(AK.out wc ((HKB.out.bel.trans ((below_new (Below.drew (Below.refl wa.heap.size wa)) (.cells #[.int .i64 a, .int .i64 zj] 51)).mono HKB.out.bsz)).grown hg (by have := HKB.out.bsz; simp; omega) (fun q e => (HKB.out.se.lt q e).1))).1, (World.cell?_of_block (a := ⟨(bd.add (j * 2)).block, (bd.add (j * 2)).off + 1, none⟩) ((hg.block _ (by have := HBA.out; simp; omega) (fun e2 => (APB.out _ OB.out).2 e2.symm)).trans (Below.heap_alloc wa.drew _ _ HBA.out))).trans o1a⟩)
              have APART : Hid (∀ vc : Value, (vc.ownBlock = (Value.slice A7 (k + j) c7).ownBlock ∨ vc.ownBlock = some (wa.drew.alloc (.cells #[.int .i64 a, .int .i64 zj] 51)).heap.size) → ∀ q, (Value.slice (some bd) k' c3).ownBlock = some q → va.ownBlock ≠ some q ∧ vc.ownBlock ≠ some q) := hidd (fun vc h9 q e => ⟨(APB.out q e).1, fun e2 => by
                rcases h9 with q1 | q1
                · exact (APB.out q e).2 (q1.symm.trans e2)
                · rw [q1] at e2; cases e2; have h8 := QB.out.lt _ e; simp only [World.size_alloc] at h8; have h9 : wa.drew.heap.size = wa.heap.size := rfl; omega⟩)
              clear hown hgrow hat hqa o1a o0 o1 hl5 hl7
              go_wp2_with fail
              refine wp_region_held_drew (S := (fun Y => Y.cell? ⟨(ad.add (i * 3)).block, (ad.add (i * 3)).off + 1, none⟩ = some (.int .i64 a) ∧ Y.cell? ⟨(bd.add (j * 2)).block, (bd.add (j * 2)).off + 1, none⟩ = some (.int .i64 zj))) (by kernel_rfl) (KS.out _ (Below.drew (Below.refl _ _))) (fun hH => ?_)
              refine wpAnyH_take (i := 0) (v := ?vs0_1) (by (conv => lhs; simp only [List.getElem?_toArray, List.getElem?_cons_succ, List.getElem?_cons_zero])) (by kernel_rfl) (by kernel_rfl) (by kernel_rfl) ?hQ (Or.inl ⟨by rfl, ?hys0_1⟩) hH ?rests0_1
              case hQ => exact fun _ _ _ h => h
              case hys0_1 => (intro Y hY; obtain ⟨y0, y1⟩ := hY; go_simp; try (with_reducible rfl))
              try simp only [Act.put, List.setIfInBounds_toArray, List.set_cons_zero, List.set_cons_succ]
              refine wpAnyH_take (i := 1) (v := ?vs1_2) (by (conv => lhs; simp only [List.getElem?_toArray, List.getElem?_cons_succ, List.getElem?_cons_zero])) (by kernel_rfl) (by kernel_rfl) (by kernel_rfl) ?hQ (Or.inl ⟨by rfl, ?hys1_2⟩) hH ?rests1_2
              case hQ => exact fun _ _ _ h => h
              case hys1_2 => (intro Y hY; obtain ⟨y0, y1⟩ := hY; go_simp; try (with_reducible rfl))
              try simp only [Act.put, List.setIfInBounds_toArray, List.set_cons_zero, List.set_cons_succ]
              refine wpAnyH_take (i := 2) (v := ?vs2_3) (by (conv => lhs; simp only [List.getElem?_toArray, List.getElem?_cons_succ, List.getElem?_cons_zero])) (by kernel_rfl) (by kernel_rfl) (by kernel_rfl) ?hQ (Or.inl ⟨by rfl, ?hys2_3⟩) hH ?rests2_3
              case hQ => exact fun _ _ _ h => h
              case hys2_3 => (intro Y hY; obtain ⟨y0, y1⟩ := hY; go_simp; try (with_reducible rfl))
              try simp only [Act.put, List.setIfInBounds_toArray, List.set_cons_zero, List.set_cons_succ]
              refine wpAnyH_take (i := 3) (v := ?vs3_4) (by (conv => lhs; simp only [List.getElem?_toArray, List.getElem?_cons_succ, List.getElem?_cons_zero])) (by kernel_rfl) (by kernel_rfl) (by kernel_rfl) ?hQ (Or.inl ⟨by rfl, ?hys3_4⟩) hH ?rests3_4
              case hQ => exact fun _ _ _ h => h
              case hys3_4 => (intro Y hY; obtain ⟨y0, y1⟩ := hY; go_simp; try (with_reducible rfl))
              try simp only [Act.put, List.setIfInBounds_toArray, List.set_cons_zero, List.set_cons_succ]
              refine wpAnyH_take (i := 4) (v := ?vs4_5) (by (conv => lhs; simp only [List.getElem?_toArray, List.getElem?_cons_succ, List.getElem?_cons_zero])) (by kernel_rfl) (by kernel_rfl) (by kernel_rfl) ?hQ (Or.inl ⟨by rfl, ?hys4_5⟩) hH ?rests4_5
              case hQ => exact fun _ _ _ h => h
              case hys4_5 => (intro Y hY; obtain ⟨y0, y1⟩ := hY; go_simp; try (with_reducible rfl))
              try simp only [Act.put, List.setIfInBounds_toArray, List.set_cons_zero, List.set_cons_succ]
              refine wpAnyH_take (i := 5) (v := ?vs5_6) (by (conv => lhs; simp only [List.getElem?_toArray, List.getElem?_cons_succ, List.getElem?_cons_zero])) (by kernel_rfl) (by kernel_rfl) (by kernel_rfl) ?hQ (Or.inl ⟨by rfl, ?hys5_6⟩) hH ?rests5_6
              case hQ => exact fun _ _ _ h => h
              case hys5_6 => (intro Y hY; obtain ⟨y0, y1⟩ := hY; go_simp; try (with_reducible rfl))
              try simp only [Act.put, List.setIfInBounds_toArray, List.set_cons_zero, List.set_cons_succ]
              refine wpAnyH_take (i := 6) (v := ?vs6_7) (by (conv => lhs; simp only [List.getElem?_toArray, List.getElem?_cons_succ, List.getElem?_cons_zero])) (by kernel_rfl) (by kernel_rfl) (by kernel_rfl) ?hQ (Or.inl ⟨by rfl, ?hys6_7⟩) hH ?rests6_7
              case hQ => exact fun _ _ _ h => h
              case hys6_7 => (intro Y hY; obtain ⟨y0, y1⟩ := hY; go_simp; try (with_reducible rfl))
              try simp only [Act.put, List.setIfInBounds_toArray, List.set_cons_zero, List.set_cons_succ]
              refine wpAnyH_take (i := 7) (v := ?vs7_8) (by (conv => lhs; simp only [List.getElem?_toArray, List.getElem?_cons_succ, List.getElem?_cons_zero])) (by kernel_rfl) (by kernel_rfl) (by kernel_rfl) ?hQ (Or.inl ⟨by rfl, ?hys7_8⟩) hH ?rests7_8
              case hQ => exact fun _ _ _ h => h
              case hys7_8 => (intro Y hY; obtain ⟨y0, y1⟩ := hY; go_simp; try (with_reducible rfl))
              try simp only [Act.put, List.setIfInBounds_toArray, List.set_cons_zero, List.set_cons_succ]
              refine wpAnyH_take (i := 8) (v := ?vs8_9) (by (conv => lhs; simp only [List.getElem?_toArray, List.getElem?_cons_succ, List.getElem?_cons_zero])) (by kernel_rfl) (by kernel_rfl) (by kernel_rfl) ?hQ (Or.inl ⟨by rfl, ?hys8_9⟩) hH ?rests8_9
              case hQ => exact fun _ _ _ h => h
              case hys8_9 => (intro Y hY; obtain ⟨y0, y1⟩ := hY; go_simp; try (with_reducible rfl))
              try simp only [Act.put, List.setIfInBounds_toArray, List.set_cons_zero, List.set_cons_succ]
              refine wpAnyH_take (i := 9) (v := ?vs9_10) (by (conv => lhs; simp only [List.getElem?_toArray, List.getElem?_cons_succ, List.getElem?_cons_zero])) (by kernel_rfl) (by kernel_rfl) (by kernel_rfl) ?hQ (Or.inl ⟨by rfl, ?hys9_10⟩) hH ?rests9_10
              case hQ => exact fun _ _ _ h => h
              case hys9_10 => (intro Y hY; obtain ⟨y0, y1⟩ := hY; go_simp; try (with_reducible rfl))
              try simp only [Act.put, List.setIfInBounds_toArray, List.set_cons_zero, List.set_cons_succ]
              refine wpAnyH_take (i := 10) (v := ?vs10_11) (by (conv => lhs; simp only [List.getElem?_toArray, List.getElem?_cons_succ, List.getElem?_cons_zero])) (by kernel_rfl) (by kernel_rfl) (by kernel_rfl) ?hQ (Or.inl ⟨by rfl, ?hys10_11⟩) hH ?rests10_11
              case hQ => exact fun _ _ _ h => h
              case hys10_11 => (intro Y hY; obtain ⟨y0, y1⟩ := hY; go_simp; try (with_reducible rfl))
              try simp only [Act.put, List.setIfInBounds_toArray, List.set_cons_zero, List.set_cons_succ]
              refine wpAnyH_take (i := 11) (v := ?vs11_12) (by (conv => lhs; simp only [List.getElem?_toArray, List.getElem?_cons_succ, List.getElem?_cons_zero])) (by kernel_rfl) (by kernel_rfl) (by kernel_rfl) ?hQ (Or.inl ⟨by rfl, ?hys11_12⟩) hH ?rests11_12
              case hQ => exact fun _ _ _ h => h
              case hys11_12 => (intro Y hY; obtain ⟨y0, y1⟩ := hY; go_simp; try (with_reducible rfl))
              try simp only [Act.put, List.setIfInBounds_toArray, List.set_cons_zero, List.set_cons_succ]
              refine wpAnyH_take (i := 12) (v := ?vs12_13) (by (conv => lhs; simp only [List.getElem?_toArray, List.getElem?_cons_succ, List.getElem?_cons_zero])) (by kernel_rfl) (by kernel_rfl) (by kernel_rfl) ?hQ (Or.inl ⟨by rfl, ?hys12_13⟩) hH ?rests12_13
              case hQ => exact fun _ _ _ h => h
              case hys12_13 => (intro Y hY; obtain ⟨y0, y1⟩ := hY; go_simp; try (with_reducible rfl))
              try simp only [Act.put, List.setIfInBounds_toArray, List.set_cons_zero, List.set_cons_succ]
              refine wpAnyH_ready (rs := [13]) (by kernel_rfl) (by simp) ?_
              refine AllReadyH.cons (by (conv => lhs; simp only [List.getElem?_toArray, List.getElem?_cons_succ, List.getElem?_cons_zero])) (fun K hK => ?_) AllReadyH.nil
              go_simp
              refine hK.out _ _ (KS.out _ (below_new (Below.drew (Below.refl _ _)) _)) (fun hHa => ?_)
              clear hK hH
              try simp only [Act.put, List.setIfInBounds_toArray, List.set_cons_zero, List.set_cons_succ]
              refine wpAnyH_ready (rs := [14]) (by kernel_rfl) (by simp) ?_
              refine AllReadyH.cons (by (conv => lhs; simp only [List.getElem?_toArray, List.getElem?_cons_succ, List.getElem?_cons_zero])) (fun K hK => ?_) AllReadyH.nil
              rw [if_pos (by rfl)]
              refine wp_append_some (.tmp 80) (.tmp 93) 30 (by rfl) W0.heap.size 51 i1 _ 2 16 Try.underlying30 hi1 hy0 hy1 hy2 rfl (by omega) (.slice A7 (k + j) c7) (k + j) (rowOf sendV (T ++ (O.take j).map (fun x => (a, x.2)))) (by rfl) (World.ownsRow.alloc HSO.out _) (some ⟨wa.drew.heap.size, 0, none⟩) 1 1 (sendV (a, zj)) (by rfl) (by rfl) (fun _ => ⟨_, rfl, World.news_of_block (cs := #[.int .i64 a, .int .i64 zj]) (t := 51) (fr := (0, 0)) (heap_alloc_new wa.drew _)⟩) (sendV_one _) (by simp only [maxLen]; omega) (by omega) (by have := HKB.out.bsz; simp; exact Nat.le_succ_of_le this) ?_
              intro vc wc hown2 hgrow2 hat2
              have HKC := hidd ((HKB.out.below (below_new (Below.drew (Below.refl _ _)) (.cells #[.int .i64 a, .int .i64 zj] 51))).sent (M := [(a, zj)]) (OwnL.snoc hown2 (by rw [HTL.out]) rfl) hgrow2 hat2)
              have HQC := hidd (QKEEP.out _ hgrow2)
              have HAP := hidd (APART.out vc hat2)
              refine hK.out _ _ (KG.out _ hgrow2) (fun hHb => ?_)
              clear hK hHa hown2 hgrow2 hat2
              try simp only [Act.put, List.setIfInBounds_toArray, List.set_cons_zero, List.set_cons_succ]
              refine wpAnyH_take (i := 15) (v := ?vs15_14) (by (conv => lhs; simp only [List.getElem?_toArray, List.getElem?_cons_succ, List.getElem?_cons_zero])) (by kernel_rfl) (by kernel_rfl) (by kernel_rfl) ?hQ (Or.inl ⟨by rfl, ?hys15_14⟩) hHb ?rests15_14
              case hQ => exact fun _ _ _ h => h
              case hys15_14 => (intro Y hY; obtain ⟨y0, y1⟩ := hY; go_simp; try (with_reducible rfl))
              try simp only [Act.put, List.setIfInBounds_toArray, List.set_cons_zero, List.set_cons_succ]
              refine wpAnyH_done (by kernel_rfl) (?_) _
              go_wp2_with fail
              have hkj := HKJ.out
              have KCC := HKC.out
              rw [List.append_assoc, List.append_assoc] at KCC
              have es : O.take j ++ [(aj, zj)] = O.take (j + 1) := HSN.out.symm
              have em : (O.take j).map (fun x : Int × Int => (a, x.2)) ++ [(a, zj)] = (O.take (j + 1)).map (fun x => (a, x.2)) := by rw [← es, List.map_append]; rfl
              rw [es, em] at KCC
              go_roundg (gk - 1)
              case measure => omega
              case rel => exact ⟨j + 1, by omega, by omega, by go_num, KCC, HQC.out, HAP.out⟩
            · have hjk : j = k' := by omega
              have z3 : ¬ (j : Int) < (k' : Int) := by omega
              subst hjk
              have htk : O.take j = O := List.take_of_length_le (by rw [HOL.out]; exact Nat.le_refl _)
              rw [htk] at hK3
              have hct : C.take k ++ O = C.take (k + j) := by rw [← HO.out, ← List.take_add]
              rw [hct, List.drop_drop] at hK3
              have htl2 : (T ++ O.map (fun x => (a, x.2))).length = k + j := by rw [List.length_append, List.length_map, HOL.out, HT.out]
              have inv2 := INV1.out
              rw [← HST.out] at inv2
              have hst2 : ∀ h9 : k + j < C.length, (BM.step p r u m l s' a C[k + j].2).2.1 = false := fun h9 => by
                have q := HSTOP.out (by rw [List.length_drop]; omega)
                rw [List.getElem_drop] at q
                exact q
              obtain ⟨kk, hkk⟩ : ∃ kk, k + j = kk := ⟨_, rfl⟩
              rw [hkk] at hK3 htl2
              have hst3 : ∀ h9 : kk < C.length, (BM.step p r u m l s' a C[kk].2).2.1 = false := by subst hkk; exact hst2
              have hkc : kk ≤ C.length := by omega
              generalize hT2 : T ++ O.map (fun x => (a, x.2)) = T2 at *
              have HT2L := hidd htl2
              have INV2 := hidd inv2
              obtain ⟨A5, c5, hs8, hl5, hc5, _⟩ := OwnL.lie hK3.g sendV_len
              have hgl : (C.take kk).length = kk := by rw [List.length_take]; omega
              rw [hgl] at hs8 hl5
              obtain ⟨A7, c7, hs9, hl7, hc7, hlie7⟩ := OwnL.lie hK3.se sendV_len
              rw [htl2] at hs9 hl7
              subst hs8
              subst hs9
              have KX := hidd hK3
              have HST3 := hidd hst3
              clear HSTOP hK3 hQ3 hA3 Q3' A3' K3' INV1 HO HOL htk hct htl2 inv2 hst2 hst3 hT2
              by_cases hlt2 : kk < C.length
              · have z5 : (kk : Int) < (C.length : Int) := by omega
                have z6 : (0 : Int) ≤ (kk : Int) := by omega
                obtain ⟨A9, c9, e9, _, _, hlie2⟩ := OwnL.lie KX.out.c sendV_len
                injection e9 with e91 e92 e93
                subst e91
                obtain ⟨b2, rfl, hb2, o0, o1⟩ := hlie2.send kk hlt2
                have hnk := INV2.out.stop (by have := HP.out; omega) (by have := HP.out; omega) KX.out.wf.2.1 (n := a) (z := C[kk].2) (decide_eq_true ⟨by rw [HNOW.out.1]; exact Int.le_refl _, HNOW.out.2⟩) (HST3.out hlt2)
                have HNK := hidd hnk
                have hsrc0 := fun W (hb : Below wr.heap.size wr W) => lie_src (hA := hlie7) hb
                have HSRC := hidd (fun W (hb : Below wr.heap.size wr W) => (show 0 < kk → ∃ ad, A7 = some ad ∧ ∀ j u, (rowOf sendV T2)[j]? = some u → W.cell? (ad.add j) = some u from by have q := hsrc0 W hb; rw [HT2L.out] at q; exact q))
                have hb2w : (b2.add (kk * 2)).block < wr.heap.size := by rw [block_of_add]; exact hb2
                generalize C[kk].2 = z2 at *
                have KS : Hid (∀ Y, Below wr.heap.size wr Y → Y.cell? ⟨(ad.add (i * 3)).block, (ad.add (i * 3)).off + 1, none⟩ = some (.int .i64 a) ∧ Y.cell? ⟨(b2.add (kk * 2)).block, (b2.add (kk * 2)).off + 1, none⟩ = some (.int .i64 z2) ∧ Y.cell? ⟨w.heap.size, 0, none⟩ = some (.int .i64 p) ∧ Y.cell? ⟨w.heap.size, 1, none⟩ = some (.int .i64 r) ∧ Y.cell? ⟨w.heap.size, 2, none⟩ = some (.int .i64 u) ∧ Y.cell? ⟨w.heap.size, 3, none⟩ = some (.int .i64 m) ∧ Y.cell? ⟨w.heap.size, 4, none⟩ = some (.int .i64 l)) := hidd (fun Y hb => by
                  have bY := KX.out.bel.trans (hb.mono KX.out.bsz)
                  have sp := SP.out
                  exact ⟨(AK.out Y bY).1, (hb.cell (p := ⟨(b2.add (kk * 2)).block, (b2.add (kk * 2)).off + 1, none⟩) hb2w).trans o1, (bY.cell (p := ⟨w.heap.size, 0, none⟩) sp.1).trans sp.2.1, (bY.cell (p := ⟨w.heap.size, 1, none⟩) sp.1).trans sp.2.2.1, (bY.cell (p := ⟨w.heap.size, 2, none⟩) sp.1).trans sp.2.2.2.1, (bY.cell (p := ⟨w.heap.size, 3, none⟩) sp.1).trans sp.2.2.2.2.1, (bY.cell (p := ⟨w.heap.size, 4, none⟩) sp.1).trans sp.2.2.2.2.2⟩)
                clear hsrc0 hnk e92 e93 hlie2 o0 o1 hlie7
                go_wp2_with fail
                refine wp_region_held_drew (S := (fun Y => Y.cell? ⟨(ad.add (i * 3)).block, (ad.add (i * 3)).off + 1, none⟩ = some (.int .i64 a) ∧ Y.cell? ⟨(b2.add (kk * 2)).block, (b2.add (kk * 2)).off + 1, none⟩ = some (.int .i64 z2) ∧ Y.cell? ⟨w.heap.size, 0, none⟩ = some (.int .i64 p) ∧ Y.cell? ⟨w.heap.size, 1, none⟩ = some (.int .i64 r) ∧ Y.cell? ⟨w.heap.size, 2, none⟩ = some (.int .i64 u) ∧ Y.cell? ⟨w.heap.size, 3, none⟩ = some (.int .i64 m) ∧ Y.cell? ⟨w.heap.size, 4, none⟩ = some (.int .i64 l))) (by kernel_rfl) (KS.out _ (Below.drew (Below.refl _ _))) (fun hH => ?_)
                refine wpAnyH_take (i := 0) (v := ?vv0_1) (by (conv => lhs; simp only [List.getElem?_toArray, List.getElem?_cons_succ, List.getElem?_cons_zero])) (by kernel_rfl) (by kernel_rfl) (by kernel_rfl) ?hQ (Or.inl ⟨by rfl, ?hyv0_1⟩) hH ?restv0_1
                case hQ => exact fun _ _ _ h => h
                case hyv0_1 => (intro Y hY; obtain ⟨y0, y1, y2, y3, y4, y5, y6⟩ := hY; go_simp; try (with_reducible rfl))
                try simp only [Act.put, List.setIfInBounds_toArray, List.set_cons_zero, List.set_cons_succ]
                refine wpAnyH_take (i := 1) (v := ?vv1_2) (by (conv => lhs; simp only [List.getElem?_toArray, List.getElem?_cons_succ, List.getElem?_cons_zero])) (by kernel_rfl) (by kernel_rfl) (by kernel_rfl) ?hQ (Or.inl ⟨by rfl, ?hyv1_2⟩) hH ?restv1_2
                case hQ => exact fun _ _ _ h => h
                case hyv1_2 => (intro Y hY; obtain ⟨y0, y1, y2, y3, y4, y5, y6⟩ := hY; go_simp; try (with_reducible rfl))
                try simp only [Act.put, List.setIfInBounds_toArray, List.set_cons_zero, List.set_cons_succ]
                refine wpAnyH_take (i := 2) (v := ?vv2_3) (by (conv => lhs; simp only [List.getElem?_toArray, List.getElem?_cons_succ, List.getElem?_cons_zero])) (by kernel_rfl) (by kernel_rfl) (by kernel_rfl) ?hQ (Or.inl ⟨by rfl, ?hyv2_3⟩) hH ?restv2_3
                case hQ => exact fun _ _ _ h => h
                case hyv2_3 => (intro Y hY; obtain ⟨y0, y1, y2, y3, y4, y5, y6⟩ := hY; go_simp; try (with_reducible rfl))
                try simp only [Act.put, List.setIfInBounds_toArray, List.set_cons_zero, List.set_cons_succ]
                refine wpAnyH_take (i := 3) (v := ?vv3_4) (by (conv => lhs; simp only [List.getElem?_toArray, List.getElem?_cons_succ, List.getElem?_cons_zero])) (by kernel_rfl) (by kernel_rfl) (by kernel_rfl) ?hQ (Or.inl ⟨by rfl, ?hyv3_4⟩) hH ?restv3_4
                case hQ => exact fun _ _ _ h => h
                case hyv3_4 => (intro Y hY; obtain ⟨y0, y1, y2, y3, y4, y5, y6⟩ := hY; go_simp; try (with_reducible rfl))
                try simp only [Act.put, List.setIfInBounds_toArray, List.set_cons_zero, List.set_cons_succ]
                refine wpAnyH_take (i := 4) (v := ?vv4_5) (by (conv => lhs; simp only [List.getElem?_toArray, List.getElem?_cons_succ, List.getElem?_cons_zero])) (by kernel_rfl) (by kernel_rfl) (by kernel_rfl) ?hQ (Or.inl ⟨by rfl, ?hyv4_5⟩) hH ?restv4_5
                case hQ => exact fun _ _ _ h => h
                case hyv4_5 => (intro Y hY; obtain ⟨y0, y1, y2, y3, y4, y5, y6⟩ := hY; go_simp; try (with_reducible rfl))
                try simp only [Act.put, List.setIfInBounds_toArray, List.set_cons_zero, List.set_cons_succ]
                refine wpAnyH_take (i := 5) (v := ?vv5_6) (by (conv => lhs; simp only [List.getElem?_toArray, List.getElem?_cons_succ, List.getElem?_cons_zero])) (by kernel_rfl) (by kernel_rfl) (by kernel_rfl) ?hQ (Or.inl ⟨by rfl, ?hyv5_6⟩) hH ?restv5_6
                case hQ => exact fun _ _ _ h => h
                case hyv5_6 => (intro Y hY; obtain ⟨y0, y1, y2, y3, y4, y5, y6⟩ := hY; go_simp; try (with_reducible rfl))
                try simp only [Act.put, List.setIfInBounds_toArray, List.set_cons_zero, List.set_cons_succ]
                refine wpAnyH_take (i := 6) (v := ?vv6_7) (by (conv => lhs; simp only [List.getElem?_toArray, List.getElem?_cons_succ, List.getElem?_cons_zero])) (by kernel_rfl) (by kernel_rfl) (by kernel_rfl) ?hQ (Or.inl ⟨by rfl, ?hyv6_7⟩) hH ?restv6_7
                case hQ => exact fun _ _ _ h => h
                case hyv6_7 => (intro Y hY; obtain ⟨y0, y1, y2, y3, y4, y5, y6⟩ := hY; go_simp; try (with_reducible rfl))
                try simp only [Act.put, List.setIfInBounds_toArray, List.set_cons_zero, List.set_cons_succ]
                refine wpAnyH_take (i := 7) (v := ?vv7_8) (by (conv => lhs; simp only [List.getElem?_toArray, List.getElem?_cons_succ, List.getElem?_cons_zero])) (by kernel_rfl) (by kernel_rfl) (by kernel_rfl) ?hQ (Or.inl ⟨by rfl, ?hyv7_8⟩) hH ?restv7_8
                case hQ => exact fun _ _ _ h => h
                case hyv7_8 => (intro Y hY; obtain ⟨y0, y1, y2, y3, y4, y5, y6⟩ := hY; go_simp; try (with_reducible rfl))
                try simp only [Act.put, List.setIfInBounds_toArray, List.set_cons_zero, List.set_cons_succ]
                refine wpAnyH_take (i := 9) (v := ?vv9_9) (by (conv => lhs; simp only [List.getElem?_toArray, List.getElem?_cons_succ, List.getElem?_cons_zero])) (by kernel_rfl) (by kernel_rfl) (by kernel_rfl) ?hQ (Or.inl ⟨by rfl, ?hyv9_9⟩) hH ?restv9_9
                case hQ => exact fun _ _ _ h => h
                case hyv9_9 => (intro Y hY; obtain ⟨y0, y1, y2, y3, y4, y5, y6⟩ := hY; go_simp; try (with_reducible rfl))
                try simp only [Act.put, List.setIfInBounds_toArray, List.set_cons_zero, List.set_cons_succ]
                refine wpAnyH_take (i := 10) (v := ?vv10_10) (by (conv => lhs; simp only [List.getElem?_toArray, List.getElem?_cons_succ, List.getElem?_cons_zero])) (by kernel_rfl) (by kernel_rfl) (by kernel_rfl) ?hQ (Or.inl ⟨by rfl, ?hyv10_10⟩) hH ?restv10_10
                case hQ => exact fun _ _ _ h => h
                case hyv10_10 => (intro Y hY; obtain ⟨y0, y1, y2, y3, y4, y5, y6⟩ := hY; go_simp; try (with_reducible rfl))
                try simp only [Act.put, List.setIfInBounds_toArray, List.set_cons_zero, List.set_cons_succ]
                refine wpAnyH_take (i := 11) (v := ?vv11_11) (by (conv => lhs; simp only [List.getElem?_toArray, List.getElem?_cons_succ, List.getElem?_cons_zero])) (by kernel_rfl) (by kernel_rfl) (by kernel_rfl) ?hQ (Or.inl ⟨by rfl, ?hyv11_11⟩) hH ?restv11_11
                case hQ => exact fun _ _ _ h => h
                case hyv11_11 => (intro Y hY; obtain ⟨y0, y1, y2, y3, y4, y5, y6⟩ := hY; go_simp; try (with_reducible rfl))
                try simp only [Act.put, List.setIfInBounds_toArray, List.set_cons_zero, List.set_cons_succ]
                refine wpAnyH_take (i := 12) (v := ?vv12_12) (by (conv => lhs; simp only [List.getElem?_toArray, List.getElem?_cons_succ, List.getElem?_cons_zero])) (by kernel_rfl) (by kernel_rfl) (by kernel_rfl) ?hQ (Or.inl ⟨by rfl, ?hyv12_12⟩) hH ?restv12_12
                case hQ => exact fun _ _ _ h => h
                case hyv12_12 => (intro Y hY; obtain ⟨y0, y1, y2, y3, y4, y5, y6⟩ := hY; go_simp; try (with_reducible rfl))
                try simp only [Act.put, List.setIfInBounds_toArray, List.set_cons_zero, List.set_cons_succ]
                refine wpAnyH_take (i := 13) (v := ?vv13_13) (by (conv => lhs; simp only [List.getElem?_toArray, List.getElem?_cons_succ, List.getElem?_cons_zero])) (by kernel_rfl) (by kernel_rfl) (by kernel_rfl) ?hQ (Or.inl ⟨by rfl, ?hyv13_13⟩) hH ?restv13_13
                case hQ => exact fun _ _ _ h => h
                case hyv13_13 => (intro Y hY; obtain ⟨y0, y1, y2, y3, y4, y5, y6⟩ := hY; go_simp; try (with_reducible rfl))
                try simp only [Act.put, List.setIfInBounds_toArray, List.set_cons_zero, List.set_cons_succ]
                refine wpAnyH_take (i := 14) (v := ?vv14_14) (by (conv => lhs; simp only [List.getElem?_toArray, List.getElem?_cons_succ, List.getElem?_cons_zero])) (by kernel_rfl) (by kernel_rfl) (by kernel_rfl) ?hQ (Or.inl ⟨by rfl, ?hyv14_14⟩) hH ?restv14_14
                case hQ => exact fun _ _ _ h => h
                case hyv14_14 => (intro Y hY; obtain ⟨y0, y1, y2, y3, y4, y5, y6⟩ := hY; go_simp; try (with_reducible rfl))
                try simp only [Act.put, List.setIfInBounds_toArray, List.set_cons_zero, List.set_cons_succ]
                refine wpAnyH_take (i := 15) (v := ?vv15_15) (by (conv => lhs; simp only [List.getElem?_toArray, List.getElem?_cons_succ, List.getElem?_cons_zero])) (by kernel_rfl) (by kernel_rfl) (by kernel_rfl) ?hQ (Or.inl ⟨by rfl, ?hyv15_15⟩) hH ?restv15_15
                case hQ => exact fun _ _ _ h => h
                case hyv15_15 => (intro Y hY; obtain ⟨y0, y1, y2, y3, y4, y5, y6⟩ := hY; go_simp; try (with_reducible rfl))
                try simp only [Act.put, List.setIfInBounds_toArray, List.set_cons_zero, List.set_cons_succ]
                refine wpAnyH_take (i := 16) (v := ?vv16_16) (by (conv => lhs; simp only [List.getElem?_toArray, List.getElem?_cons_succ, List.getElem?_cons_zero])) (by kernel_rfl) (by kernel_rfl) (by kernel_rfl) ?hQ (Or.inl ⟨by rfl, ?hyv16_16⟩) hH ?restv16_16
                case hQ => exact fun _ _ _ h => h
                case hyv16_16 => (intro Y hY; obtain ⟨y0, y1, y2, y3, y4, y5, y6⟩ := hY; go_simp; try (with_reducible rfl))
                try simp only [Act.put, List.setIfInBounds_toArray, List.set_cons_zero, List.set_cons_succ]
                refine wpAnyH_take (i := 17) (v := ?vv17_17) (by (conv => lhs; simp only [List.getElem?_toArray, List.getElem?_cons_succ, List.getElem?_cons_zero])) (by kernel_rfl) (by kernel_rfl) (by kernel_rfl) ?hQ (Or.inl ⟨by rfl, ?hyv17_17⟩) hH ?restv17_17
                case hQ => exact fun _ _ _ h => h
                case hyv17_17 => (intro Y hY; obtain ⟨y0, y1, y2, y3, y4, y5, y6⟩ := hY; go_simp; try (with_reducible rfl))
                try simp only [Act.put, List.setIfInBounds_toArray, List.set_cons_zero, List.set_cons_succ]
                refine wpAnyH_take (i := 18) (v := ?vv18_18) (by (conv => lhs; simp only [List.getElem?_toArray, List.getElem?_cons_succ, List.getElem?_cons_zero])) (by kernel_rfl) (by kernel_rfl) (by kernel_rfl) ?hQ (Or.inl ⟨by rfl, ?hyv18_18⟩) hH ?restv18_18
                case hQ => exact fun _ _ _ h => h
                case hyv18_18 => (intro Y hY; obtain ⟨y0, y1, y2, y3, y4, y5, y6⟩ := hY; go_simp; try (with_reducible rfl))
                try simp only [Act.put, List.setIfInBounds_toArray, List.set_cons_zero, List.set_cons_succ]
                refine wpAnyH_take (i := 19) (v := ?vv19_19) (by (conv => lhs; simp only [List.getElem?_toArray, List.getElem?_cons_succ, List.getElem?_cons_zero])) (by kernel_rfl) (by kernel_rfl) (by kernel_rfl) ?hQ (Or.inl ⟨by rfl, ?hyv19_19⟩) hH ?restv19_19
                case hQ => exact fun _ _ _ h => h
                case hyv19_19 => (intro Y hY; obtain ⟨y0, y1, y2, y3, y4, y5, y6⟩ := hY; go_simp; try (with_reducible rfl))
                try simp only [Act.put, List.setIfInBounds_toArray, List.set_cons_zero, List.set_cons_succ]
                refine wpAnyH_take (i := 20) (v := ?vv20_20) (by (conv => lhs; simp only [List.getElem?_toArray, List.getElem?_cons_succ, List.getElem?_cons_zero])) (by kernel_rfl) (by kernel_rfl) (by kernel_rfl) ?hQ (Or.inl ⟨by rfl, ?hyv20_20⟩) hH ?restv20_20
                case hQ => exact fun _ _ _ h => h
                case hyv20_20 => (intro Y hY; obtain ⟨y0, y1, y2, y3, y4, y5, y6⟩ := hY; go_simp; try (with_reducible rfl))
                try simp only [Act.put, List.setIfInBounds_toArray, List.set_cons_zero, List.set_cons_succ]
                refine wpAnyH_take (i := 21) (v := ?vv21_21) (by (conv => lhs; simp only [List.getElem?_toArray, List.getElem?_cons_succ, List.getElem?_cons_zero])) (by kernel_rfl) (by kernel_rfl) (by kernel_rfl) ?hQ (Or.inl ⟨by rfl, ?hyv21_21⟩) hH ?restv21_21
                case hQ => exact fun _ _ _ h => h
                case hyv21_21 => (intro Y hY; obtain ⟨y0, y1, y2, y3, y4, y5, y6⟩ := hY; go_simp; try (with_reducible rfl))
                try simp only [Act.put, List.setIfInBounds_toArray, List.set_cons_zero, List.set_cons_succ]
                refine wpAnyH_ready (rs := [8, 22]) (by kernel_rfl) (by simp) ?_
                refine AllReadyH.cons (by (conv => lhs; simp only [List.getElem?_toArray, List.getElem?_cons_succ, List.getElem?_cons_zero])) (fun K hK => ?_) (AllReadyH.cons (by (conv => lhs; simp only [List.getElem?_toArray, List.getElem?_cons_succ, List.getElem?_cons_zero])) (fun K hK => ?_) AllReadyH.nil)
                · rw [if_pos (by rfl)]
                  refine wp_append_some (.const (.slice none 0 0)) (.tmp 102) 30 (by rfl) wr.heap.size 51 i1 _ 2 16 Try.underlying30 hi1 hy0 hy1 hy2 rfl (by omega) (.slice none 0 0) 0 [] (by rfl) (World.ownsRow_nil _ _ _ _) A7 kk c7 (rowOf sendV T2) (by rfl) (by rw [row_len sendV_len T2, HT2L.out]) (HSRC.out _ (Below.drew (Below.refl wr.heap.size wr))) (rowOf_one sendV_one T2) (by simp only [maxLen]; omega) (by omega) ((Below.drew (Below.refl wr.heap.size wr)).size) ?_
                  intro v1 va1 hown1 hgrow1 hat1
                  have bla : Below wr.heap.size wr va1 := Below.grown (Below.drew (Below.refl wr.heap.size wr)) hgrow1 ((Below.drew (Below.refl wr.heap.size wr)).size) (fun k hk => by simp [Value.ownBlock] at hk)
                  refine hK.out _ _ (KS.out _ bla) (fun hHva1 => ?_)
                  clear hK hH
                  try simp only [Act.put, List.setIfInBounds_toArray, List.set_cons_zero, List.set_cons_succ]
                  refine wpAnyH_ready (rs := [22]) (by kernel_rfl) (by simp) ?_
                  refine AllReadyH.cons (by (conv => lhs; simp only [List.getElem?_toArray, List.getElem?_cons_succ, List.getElem?_cons_zero])) (fun K hK => ?_) AllReadyH.nil
                  go_simp
                  have hown1 := World.ownsRow.alloc hown1 (.cells #[.int .i64 a, .int .i64 z2] 51)
                  have bl4 : Below wr.heap.size wr (va1.alloc (.cells #[.int .i64 a, .int .i64 z2] 51)) := Below.alloc bla (bla.size) _
                  have nw4 : ∀ j v, (sendV (a, z2))[j]? = some v → (va1.alloc (.cells #[.int .i64 a, .int .i64 z2] 51)).cell? ((⟨va1.heap.size, 0, none⟩ : Addr).add j) = some v := World.news_of_block (cs := #[.int .i64 a, .int .i64 z2]) (t := 51) (fr := (0, 0)) (heap_alloc_new va1 _)
                  have nl4 : wr.heap.size ≤ va1.heap.size ∧ va1.heap.size < (va1.alloc (.cells #[.int .i64 a, .int .i64 z2] 51)).heap.size := ⟨bla.size, by simp⟩
                  refine hK.out _ _ (KS.out _ bl4) (fun hHva2 => ?_)
                  clear hK hHva1
                  try simp only [Act.put, List.setIfInBounds_toArray, List.set_cons_zero, List.set_cons_succ]
                  refine wpAnyH_ready (rs := [23]) (by kernel_rfl) (by simp) ?_
                  refine AllReadyH.cons (by (conv => lhs; simp only [List.getElem?_toArray, List.getElem?_cons_succ, List.getElem?_cons_zero])) (fun K hK => ?_) AllReadyH.nil
                  rw [if_pos (by rfl)]
                  refine wp_append_some (.tmp 103) (.tmp 117) 30 (by rfl) wr.heap.size 51 i1 _ 2 16 Try.underlying30 hi1 hy0 hy1 hy2 rfl (by omega) v1 (0 + kk) ([] ++ rowOf sendV T2) (by rfl) hown1 (some ⟨va1.heap.size, 0, none⟩) 1 1 (sendV (a, z2)) (by rfl) (by rfl) (fun _ => ⟨_, rfl, nw4⟩) (sendV_one _) (by simp only [maxLen]; omega) (by omega) (bl4.size) ?_
                  intro vb1 wb1 hown2 hgrow2 hat2
                  have blb : Below wr.heap.size wr wb1 := Below.grown bl4 hgrow2 (bl4.size) (fun k hk => (World.ownsRow.lt hown1 k hk).1)
                  have hO1 := OwnL.snoc (f := sendV) (L := T2) (x := (a, z2)) hown2 (by rw [HT2L.out]; omega) (by simp)
                  obtain ⟨A6, c6, e6, _, _, hl6⟩ := hO1.lie sendV_len
                  have e3 : vb1 = .slice A6 (kk + 1) c6 := (by rw [e6]; simp [HT2L.out])
                  subst e3
                  have HLB := hidd hl6
                  have HBB := hidd blb
                  clear e6 hO1 hl6 hown1 hown2 hgrow1 hgrow2 hat1 hat2
                  refine hK.out _ _ (KS.out _ blb) (fun hHva3 => ?_)
                  clear hK hHva2
                  try simp only [Act.put, List.setIfInBounds_toArray, List.set_cons_zero, List.set_cons_succ]
                  refine wpAnyH_ready (rs := [24]) (by kernel_rfl) (by simp) ?_
                  refine AllReadyH.cons (by (conv => lhs; simp only [List.getElem?_toArray, List.getElem?_cons_succ, List.getElem?_cons_zero])) (fun K hK => ?_) AllReadyH.nil
                  go_simp
                  go_at_call 17; refine (cR.out A6 _ (kk + 1) c6 wb1 (by rw [List.length_append, HT2L.out]; rfl) (by omega) HLB.out).mono ?_; rintro e w9 ⟨bk, rfl, hbk, hb9⟩
                  have hbkf : bk = false := by
                    cases bk
                    · rfl
                    · exact absurd (hbk.1 rfl) HNK.out
                  subst hbkf
                  have HB9 := hidd (HBB.out.trans (hb9.mono HBB.out.size))
                  clear hbk hb9 blb bla bl4 nw4 nl4
                  refine hK.out _ _ (KS.out _ HB9.out) (fun hHva4 => ?_)
                  clear hK hHva3
                  try simp only [Act.put, List.setIfInBounds_toArray, List.set_cons_zero, List.set_cons_succ]
                  refine wpAnyH_take (i := 25) (v := ?vva25_1) (by (conv => lhs; simp only [List.getElem?_toArray, List.getElem?_cons_succ, List.getElem?_cons_zero])) (by kernel_rfl) (by kernel_rfl) (by kernel_rfl) ?hQ (Or.inl ⟨by rfl, ?hyva25_1⟩) hHva4 ?restva25_1
                  case hQ => exact fun _ _ _ h => h
                  case hyva25_1 => (intro Y hY; obtain ⟨y0, y1, y2, y3, y4, y5, y6⟩ := hY; go_simp; try (with_reducible rfl))
                  try simp only [Act.put, List.setIfInBounds_toArray, List.set_cons_zero, List.set_cons_succ]
                  refine wpAnyH_done (by kernel_rfl) (?_) _
                  have KEND := hidd (KX.out.below HB9.out)
                  clear hHva4 HB9 HBB HLB
                  go_wp2_with fail
                  have hk := HK.out
                  have hN := HNL.out
                  subst hN
                  go_roundg (gk0 - 1)
                  case measure => omega
                  case rel => exact ⟨i + 1, kk, s', C, T2, by omega, by omega, by go_num, by have := HC.out; omega, by omega, HT2L.out, INV2.out, KEND.out⟩
                · go_simp
                  have bl4 : Below wr.heap.size wr (wr.drew.alloc (.cells #[.int .i64 a, .int .i64 z2] 51)) := Below.alloc (Below.drew (Below.refl wr.heap.size wr)) ((Below.drew (Below.refl wr.heap.size wr)).size) _
                  have nw4 : ∀ j v, (sendV (a, z2))[j]? = some v → (wr.drew.alloc (.cells #[.int .i64 a, .int .i64 z2] 51)).cell? ((⟨wr.drew.heap.size, 0, none⟩ : Addr).add j) = some v := World.news_of_block (cs := #[.int .i64 a, .int .i64 z2]) (t := 51) (fr := (0, 0)) (heap_alloc_new wr.drew _)
                  have nl4 : wr.heap.size ≤ wr.drew.heap.size ∧ wr.drew.heap.size < (wr.drew.alloc (.cells #[.int .i64 a, .int .i64 z2] 51)).heap.size := ⟨(Below.drew (Below.refl wr.heap.size wr)).size, by simp⟩
                  refine hK.out _ _ (KS.out _ bl4) (fun hHvb1 => ?_)
                  clear hK hH
                  try simp only [Act.put, List.setIfInBounds_toArray, List.set_cons_zero, List.set_cons_succ]
                  refine wpAnyH_ready (rs := [8]) (by kernel_rfl) (by simp) ?_
                  refine AllReadyH.cons (by (conv => lhs; simp only [List.getElem?_toArray, List.getElem?_cons_succ, List.getElem?_cons_zero])) (fun K hK => ?_) AllReadyH.nil
                  rw [if_pos (by rfl)]
                  refine wp_append_some (.const (.slice none 0 0)) (.tmp 102) 30 (by rfl) wr.heap.size 51 i1 _ 2 16 Try.underlying30 hi1 hy0 hy1 hy2 rfl (by omega) (.slice none 0 0) 0 [] (by rfl) (World.ownsRow_nil _ _ _ _) A7 kk c7 (rowOf sendV T2) (by rfl) (by rw [row_len sendV_len T2, HT2L.out]) (HSRC.out _ bl4) (rowOf_one sendV_one T2) (by simp only [maxLen]; omega) (by omega) (bl4.size) ?_
                  intro v1 va1 hown1 hgrow1 hat1
                  have bla : Below wr.heap.size wr va1 := Below.grown bl4 hgrow1 (bl4.size) (fun k hk => by simp [Value.ownBlock] at hk)
                  have nwa : ∀ j v, (sendV (a, z2))[j]? = some v → va1.cell? ((⟨wr.drew.heap.size, 0, none⟩ : Addr).add j) = some v := fun j v hj => (World.cell?_of_block (hgrow1.block _ (by rw [block_of_add]; exact nl4.2) (by simp [Value.ownBlock]))).trans (nw4 j v hj)
                  refine hK.out _ _ (KS.out _ bla) (fun hHvb2 => ?_)
                  clear hK hHvb1
                  try simp only [Act.put, List.setIfInBounds_toArray, List.set_cons_zero, List.set_cons_succ]
                  refine wpAnyH_ready (rs := [23]) (by kernel_rfl) (by simp) ?_
                  refine AllReadyH.cons (by (conv => lhs; simp only [List.getElem?_toArray, List.getElem?_cons_succ, List.getElem?_cons_zero])) (fun K hK => ?_) AllReadyH.nil
                  rw [if_pos (by rfl)]
                  refine wp_append_some (.tmp 103) (.tmp 117) 30 (by rfl) wr.heap.size 51 i1 _ 2 16 Try.underlying30 hi1 hy0 hy1 hy2 rfl (by omega) v1 (0 + kk) ([] ++ rowOf sendV T2) (by rfl) hown1 (some ⟨wr.drew.heap.size, 0, none⟩) 1 1 (sendV (a, z2)) (by rfl) (by rfl) (fun _ => ⟨_, rfl, nwa⟩) (sendV_one _) (by simp only [maxLen]; omega) (by omega) (bla.size) ?_
                  intro vb1 wb1 hown2 hgrow2 hat2
                  have blb : Below wr.heap.size wr wb1 := Below.grown bla hgrow2 (bla.size) (fun k hk => (World.ownsRow.lt hown1 k hk).1)
                  have hO1 := OwnL.snoc (f := sendV) (L := T2) (x := (a, z2)) hown2 (by rw [HT2L.out]; omega) (by simp)
                  obtain ⟨A6, c6, e6, _, _, hl6⟩ := hO1.lie sendV_len
                  have e3 : vb1 = .slice A6 (kk + 1) c6 := (by rw [e6]; simp [HT2L.out])
                  subst e3
                  have HLB := hidd hl6
                  have HBB := hidd blb
                  clear e6 hO1 hl6 hown1 hown2 hgrow1 hgrow2 hat1 hat2
                  refine hK.out _ _ (KS.out _ blb) (fun hHvb3 => ?_)
                  clear hK hHvb2
                  try simp only [Act.put, List.setIfInBounds_toArray, List.set_cons_zero, List.set_cons_succ]
                  refine wpAnyH_ready (rs := [24]) (by kernel_rfl) (by simp) ?_
                  refine AllReadyH.cons (by (conv => lhs; simp only [List.getElem?_toArray, List.getElem?_cons_succ, List.getElem?_cons_zero])) (fun K hK => ?_) AllReadyH.nil
                  go_simp
                  go_at_call 17; refine (cR.out A6 _ (kk + 1) c6 wb1 (by rw [List.length_append, HT2L.out]; rfl) (by omega) HLB.out).mono ?_; rintro e w9 ⟨bk, rfl, hbk, hb9⟩
                  have hbkf : bk = false := by
                    cases bk
                    · rfl
                    · exact absurd (hbk.1 rfl) HNK.out
                  subst hbkf
                  have HB9 := hidd (HBB.out.trans (hb9.mono HBB.out.size))
                  clear hbk hb9 blb bla bl4 nw4 nl4 nwa
                  refine hK.out _ _ (KS.out _ HB9.out) (fun hHvb4 => ?_)
                  clear hK hHvb3
                  try simp only [Act.put, List.setIfInBounds_toArray, List.set_cons_zero, List.set_cons_succ]
                  refine wpAnyH_take (i := 25) (v := ?vvb25_1) (by (conv => lhs; simp only [List.getElem?_toArray, List.getElem?_cons_succ, List.getElem?_cons_zero])) (by kernel_rfl) (by kernel_rfl) (by kernel_rfl) ?hQ (Or.inl ⟨by rfl, ?hyvb25_1⟩) hHvb4 ?restvb25_1
                  case hQ => exact fun _ _ _ h => h
                  case hyvb25_1 => (intro Y hY; obtain ⟨y0, y1, y2, y3, y4, y5, y6⟩ := hY; go_simp; try (with_reducible rfl))
                  try simp only [Act.put, List.setIfInBounds_toArray, List.set_cons_zero, List.set_cons_succ]
                  refine wpAnyH_done (by kernel_rfl) (?_) _
                  have KEND := hidd (KX.out.below HB9.out)
                  clear hHvb4 HB9 HBB HLB
                  go_wp2_with fail
                  have hk := HK.out
                  have hN := HNL.out
                  subst hN
                  go_roundg (gk0 - 1)
                  case measure => omega
                  case rel => exact ⟨i + 1, kk, s', C, T2, by omega, by omega, by go_num, by have := HC.out; omega, by omega, HT2L.out, INV2.out, KEND.out⟩
              · have z5 : ¬ (kk : Int) < (C.length : Int) := by omega
                have z7 : decide ((kk : Int) < (C.length : Int)) = false := decide_eq_false z5
                clear hlie7
                go_wp2_with fail
                refine wp_region_held_drew (S := (fun Y => True)) (by kernel_rfl) (trivial) (fun hH => ?_)
                refine wpAnyH_take (i := 0) (v := ?vw0_1) (by (conv => lhs; simp only [List.getElem?_toArray, List.getElem?_cons_succ, List.getElem?_cons_zero])) (by kernel_rfl) (by kernel_rfl) (by kernel_rfl) ?hQ (Or.inl ⟨by rfl, ?hyw0_1⟩) hH ?restw0_1
                case hQ => exact fun _ _ _ h => h
                case hyw0_1 => (intro Y hY; obtain _ := hY; go_simp; try (with_reducible rfl))
                try simp only [Act.put, List.setIfInBounds_toArray, List.set_cons_zero, List.set_cons_succ]
                refine wpAnyH_take (i := 1) (v := ?vw1_2) (by (conv => lhs; simp only [List.getElem?_toArray, List.getElem?_cons_succ, List.getElem?_cons_zero])) (by kernel_rfl) (by kernel_rfl) (by kernel_rfl) ?hQ (Or.inl ⟨by rfl, ?hyw1_2⟩) hH ?restw1_2
                case hQ => exact fun _ _ _ h => h
                case hyw1_2 => (intro Y hY; obtain _ := hY; go_simp; try (with_reducible rfl))
                try simp only [Act.put, List.setIfInBounds_toArray, List.set_cons_zero, List.set_cons_succ]
                refine wpAnyH_take (i := 2) (v := ?vw2_3) (by (conv => lhs; simp only [List.getElem?_toArray, List.getElem?_cons_succ, List.getElem?_cons_zero])) (by kernel_rfl) (by kernel_rfl) (by kernel_rfl) ?hQ (Or.inl ⟨by rfl, ?hyw2_3⟩) hH ?restw2_3
                case hQ => exact fun _ _ _ h => h
                case hyw2_3 => (intro Y hY; obtain _ := hY; go_simp; try (with_reducible rfl))
                try simp only [Act.put, List.setIfInBounds_toArray, List.set_cons_zero, List.set_cons_succ]
                refine wpAnyH_take (i := 3) (v := ?vw3_4) (by (conv => lhs; simp only [List.getElem?_toArray, List.getElem?_cons_succ, List.getElem?_cons_zero])) (by kernel_rfl) (by kernel_rfl) (by kernel_rfl) ?hQ (Or.inl ⟨by rfl, ?hyw3_4⟩) hH ?restw3_4
                case hQ => exact fun _ _ _ h => h
                case hyw3_4 => (intro Y hY; obtain _ := hY; go_simp; try (with_reducible rfl))
                try simp only [Act.put, List.setIfInBounds_toArray, List.set_cons_zero, List.set_cons_succ]
                refine wpAnyH_take (i := 4) (v := ?vw4_5) (by (conv => lhs; simp only [List.getElem?_toArray, List.getElem?_cons_succ, List.getElem?_cons_zero])) (by kernel_rfl) (by kernel_rfl) (by kernel_rfl) ?hQ (Or.inl ⟨by rfl, ?hyw4_5⟩) hH ?restw4_5
                case hQ => exact fun _ _ _ h => h
                case hyw4_5 => (intro Y hY; obtain _ := hY; go_simp; try (with_reducible rfl))
                try simp only [Act.put, List.setIfInBounds_toArray, List.set_cons_zero, List.set_cons_succ]
                refine wpAnyH_take (i := 5) (v := ?vw5_6) (by (conv => lhs; simp only [List.getElem?_toArray, List.getElem?_cons_succ, List.getElem?_cons_zero])) (by kernel_rfl) (by kernel_rfl) (by kernel_rfl) ?hQ (Or.inl ⟨by rfl, ?hyw5_6⟩) hH ?restw5_6
                case hQ => exact fun _ _ _ h => h
                case hyw5_6 => (intro Y hY; obtain _ := hY; go_simp; try (with_reducible rfl))
                try simp only [Act.put, List.setIfInBounds_toArray, List.set_cons_zero, List.set_cons_succ]
                refine wpAnyH_take (i := 6) (v := undef) (by (conv => lhs; simp only [List.getElem?_toArray, List.getElem?_cons_succ, List.getElem?_cons_zero])) (by kernel_rfl) (by kernel_rfl) (by kernel_rfl) ?hQ (Or.inr ⟨by rfl, rfl⟩) hH ?_
                case hQ => exact fun _ _ _ h => h
                try simp only [Act.put, List.setIfInBounds_toArray, List.set_cons_zero, List.set_cons_succ]
                refine wpAnyH_take (i := 7) (v := undef) (by (conv => lhs; simp only [List.getElem?_toArray, List.getElem?_cons_succ, List.getElem?_cons_zero])) (by kernel_rfl) (by kernel_rfl) (by kernel_rfl) ?hQ (Or.inr ⟨by rfl, rfl⟩) hH ?_
                case hQ => exact fun _ _ _ h => h
                try simp only [Act.put, List.setIfInBounds_toArray, List.set_cons_zero, List.set_cons_succ]
                refine wpAnyH_take (i := 8) (v := undef) (by (conv => lhs; simp only [List.getElem?_toArray, List.getElem?_cons_succ, List.getElem?_cons_zero])) (by kernel_rfl) (by kernel_rfl) (by kernel_rfl) ?hQ (Or.inr ⟨by rfl, rfl⟩) hH ?_
                case hQ => exact fun _ _ _ h => h
                try simp only [Act.put, List.setIfInBounds_toArray, List.set_cons_zero, List.set_cons_succ]
                refine wpAnyH_take (i := 9) (v := undef) (by (conv => lhs; simp only [List.getElem?_toArray, List.getElem?_cons_succ, List.getElem?_cons_zero])) (by kernel_rfl) (by kernel_rfl) (by kernel_rfl) ?hQ (Or.inr ⟨by rfl, rfl⟩) hH ?_
                case hQ => exact fun _ _ _ h => h
                try simp only [Act.put, List.setIfInBounds_toArray, List.set_cons_zero, List.set_cons_succ]
                refine wpAnyH_take (i := 10) (v := undef) (by (conv => lhs; simp only [List.getElem?_toArray, List.getElem?_cons_succ, List.getElem?_cons_zero])) (by kernel_rfl) (by kernel_rfl) (by kernel_rfl) ?hQ (Or.inr ⟨by rfl, rfl⟩) hH ?_
                case hQ => exact fun _ _ _ h => h
                try simp only [Act.put, List.setIfInBounds_toArray, List.set_cons_zero, List.set_cons_succ]
                refine wpAnyH_take (i := 11) (v := undef) (by (conv => lhs; simp only [List.getElem?_toArray, List.getElem?_cons_succ, List.getElem?_cons_zero])) (by kernel_rfl) (by kernel_rfl) (by kernel_rfl) ?hQ (Or.inr ⟨by rfl, rfl⟩) hH ?_
                case hQ => exact fun _ _ _ h => h
                try simp only [Act.put, List.setIfInBounds_toArray, List.set_cons_zero, List.set_cons_succ]
                refine wpAnyH_take (i := 12) (v := undef) (by (conv => lhs; simp only [List.getElem?_toArray, List.getElem?_cons_succ, List.getElem?_cons_zero])) (by kernel_rfl) (by kernel_rfl) (by kernel_rfl) ?hQ (Or.inr ⟨by rfl, rfl⟩) hH ?_
                case hQ => exact fun _ _ _ h => h
                try simp only [Act.put, List.setIfInBounds_toArray, List.set_cons_zero, List.set_cons_succ]
                refine wpAnyH_take (i := 13) (v := undef) (by (conv => lhs; simp only [List.getElem?_toArray, List.getElem?_cons_succ, List.getElem?_cons_zero])) (by kernel_rfl) (by kernel_rfl) (by kernel_rfl) ?hQ (Or.inr ⟨by rfl, rfl⟩) hH ?_
                case hQ => exact fun _ _ _ h => h
                try simp only [Act.put, List.setIfInBounds_toArray, List.set_cons_zero, List.set_cons_succ]
                refine wpAnyH_take (i := 14) (v := undef) (by (conv => lhs; simp only [List.getElem?_toArray, List.getElem?_cons_succ, List.getElem?_cons_zero])) (by kernel_rfl) (by kernel_rfl) (by kernel_rfl) ?hQ (Or.inr ⟨by rfl, rfl⟩) hH ?_
                case hQ => exact fun _ _ _ h => h
                try simp only [Act.put, List.setIfInBounds_toArray, List.set_cons_zero, List.set_cons_succ]
                refine wpAnyH_take (i := 15) (v := undef) (by (conv => lhs; simp only [List.getElem?_toArray, List.getElem?_cons_succ, List.getElem?_cons_zero])) (by kernel_rfl) (by kernel_rfl) (by kernel_rfl) ?hQ (Or.inr ⟨by rfl, rfl⟩) hH ?_
                case hQ => exact fun _ _ _ h => h
                try simp only [Act.put, List.setIfInBounds_toArray, List.set_cons_zero, List.set_cons_succ]
                refine wpAnyH_take (i := 16) (v := undef) (by (conv => lhs; simp only [List.getElem?_toArray, List.getElem?_cons_succ, List.getElem?_cons_zero])) (by kernel_rfl) (by kernel_rfl) (by kernel_rfl) ?hQ (Or.inr ⟨by rfl, rfl⟩) hH ?_
                case hQ => exact fun _ _ _ h => h
                try simp only [Act.put, List.setIfInBounds_toArray, List.set_cons_zero, List.set_cons_succ]
                refine wpAnyH_take (i := 17) (v := undef) (by (conv => lhs; simp only [List.getElem?_toArray, List.getElem?_cons_succ, List.getElem?_cons_zero])) (by kernel_rfl) (by kernel_rfl) (by kernel_rfl) ?hQ (Or.inr ⟨by rfl, rfl⟩) hH ?_
                case hQ => exact fun _ _ _ h => h
                try simp only [Act.put, List.setIfInBounds_toArray, List.set_cons_zero, List.set_cons_succ]
                refine wpAnyH_take (i := 18) (v := undef) (by (conv => lhs; simp only [List.getElem?_toArray, List.getElem?_cons_succ, List.getElem?_cons_zero])) (by kernel_rfl) (by kernel_rfl) (by kernel_rfl) ?hQ (Or.inr ⟨by rfl, rfl⟩) hH ?_
                case hQ => exact fun _ _ _ h => h
                try simp only [Act.put, List.setIfInBounds_toArray, List.set_cons_zero, List.set_cons_succ]
                refine wpAnyH_take (i := 19) (v := undef) (by (conv => lhs; simp only [List.getElem?_toArray, List.getElem?_cons_succ, List.getElem?_cons_zero])) (by kernel_rfl) (by kernel_rfl) (by kernel_rfl) ?hQ (Or.inr ⟨by rfl, rfl⟩) hH ?_
                case hQ => exact fun _ _ _ h => h
                try simp only [Act.put, List.setIfInBounds_toArray, List.set_cons_zero, List.set_cons_succ]
                refine wpAnyH_take (i := 20) (v := undef) (by (conv => lhs; simp only [List.getElem?_toArray, List.getElem?_cons_succ, List.getElem?_cons_zero])) (by kernel_rfl) (by kernel_rfl) (by kernel_rfl) ?hQ (Or.inr ⟨by rfl, rfl⟩) hH ?_
                case hQ => exact fun _ _ _ h => h
                try simp only [Act.put, List.setIfInBounds_toArray, List.set_cons_zero, List.set_cons_succ]
                refine wpAnyH_take (i := 21) (v := undef) (by (conv => lhs; simp only [List.getElem?_toArray, List.getElem?_cons_succ, List.getElem?_cons_zero])) (by kernel_rfl) (by kernel_rfl) (by kernel_rfl) ?hQ (Or.inr ⟨by rfl, rfl⟩) hH ?_
                case hQ => exact fun _ _ _ h => h
                try simp only [Act.put, List.setIfInBounds_toArray, List.set_cons_zero, List.set_cons_succ]
                refine wpAnyH_take (i := 22) (v := undef) (by (conv => lhs; simp only [List.getElem?_toArray, List.getElem?_cons_succ, List.getElem?_cons_zero])) (by kernel_rfl) (by kernel_rfl) (by kernel_rfl) ?hQ (Or.inr ⟨by rfl, rfl⟩) hH ?_
                case hQ => exact fun _ _ _ h => h
                try simp only [Act.put, List.setIfInBounds_toArray, List.set_cons_zero, List.set_cons_succ]
                refine wpAnyH_take (i := 23) (v := undef) (by (conv => lhs; simp only [List.getElem?_toArray, List.getElem?_cons_succ, List.getElem?_cons_zero])) (by kernel_rfl) (by kernel_rfl) (by kernel_rfl) ?hQ (Or.inr ⟨by rfl, rfl⟩) hH ?_
                case hQ => exact fun _ _ _ h => h
                try simp only [Act.put, List.setIfInBounds_toArray, List.set_cons_zero, List.set_cons_succ]
                refine wpAnyH_take (i := 24) (v := undef) (by (conv => lhs; simp only [List.getElem?_toArray, List.getElem?_cons_succ, List.getElem?_cons_zero])) (by kernel_rfl) (by kernel_rfl) (by kernel_rfl) ?hQ (Or.inr ⟨by rfl, rfl⟩) hH ?_
                case hQ => exact fun _ _ _ h => h
                try simp only [Act.put, List.setIfInBounds_toArray, List.set_cons_zero, List.set_cons_succ]
                refine wpAnyH_take (i := 25) (v := ?vw25_7) (by (conv => lhs; simp only [List.getElem?_toArray, List.getElem?_cons_succ, List.getElem?_cons_zero])) (by kernel_rfl) (by kernel_rfl) (by kernel_rfl) ?hQ (Or.inl ⟨by rfl, ?hyw25_7⟩) hH ?restw25_7
                case hQ => exact fun _ _ _ h => h
                case hyw25_7 => (intro Y hY; obtain _ := hY; go_simp; try (with_reducible rfl))
                try simp only [Act.put, List.setIfInBounds_toArray, List.set_cons_zero, List.set_cons_succ]
                refine wpAnyH_done (by kernel_rfl) (?_) _
                have KEND := hidd (KX.out.below (Below.drew (Below.refl _ _)))
                go_wp2_with fail
                have hk := HK.out
                have hN := HNL.out
                subst hN
                go_roundg (gk0 - 1)
                case measure => omega
                case rel => exact ⟨i + 1, kk, s', C, T2, by omega, by omega, by go_num, by have := HC.out; omega, by omega, HT2L.out, INV2.out, KEND.out⟩
    · have z1 : ¬ (i : Int) < (L.length : Int) := by omega
      have hcl : C.length ≤ 40 := by omega
      have hgl : (C.take k).length = k := by rw [List.length_take]; omega
      have hT2 := HT.out
      obtain ⟨A2, c2, hs7, hl2, hc2, hlie2⟩ := OwnL.lie KK.out.c sendV_len
      obtain ⟨A5, c5, hs8, hl5, hc5, hlie5⟩ := OwnL.lie KK.out.g sendV_len
      obtain ⟨A7, c7, hs9, hl7, hc7, hlie7⟩ := OwnL.lie KK.out.se sendV_len
      have cS := hidd (refSame_any A5 A2 (C.take k) (C.take k) c5 c2 (by omega) (by omega) wr hlie5 (hlie2.pre k))
      have eS : decide (C.take k = C.take k) = true := decide_eq_true rfl
      rw [eS, hgl] at cS
      rw [hgl] at hs8 hl5
      rw [hT2] at hs9 hl7
      subst hs7
      subst hs8
      subst hs9
      have HBW := hidd (B0.out.trans (KK.out.bel.mono B0.out.size))
      have SPK : Hid (∀ Y, Below W0.heap.size W0 Y → Y.cell? ⟨w.heap.size, 0, none⟩ = some (.int .i64 p) ∧ Y.cell? ⟨w.heap.size, 1, none⟩ = some (.int .i64 r) ∧ Y.cell? ⟨w.heap.size, 2, none⟩ = some (.int .i64 u) ∧ Y.cell? ⟨w.heap.size, 3, none⟩ = some (.int .i64 m) ∧ Y.cell? ⟨w.heap.size, 4, none⟩ = some (.int .i64 l)) := hidd (fun Y bY => ⟨(bY.cell (p := ⟨w.heap.size, 0, none⟩) SP.out.1).trans SP.out.2.1, (bY.cell (p := ⟨w.heap.size, 1, none⟩) SP.out.1).trans SP.out.2.2.1, (bY.cell (p := ⟨w.heap.size, 2, none⟩) SP.out.1).trans SP.out.2.2.2.1, (bY.cell (p := ⟨w.heap.size, 3, none⟩) SP.out.1).trans SP.out.2.2.2.2.1, (bY.cell (p := ⟨w.heap.size, 4, none⟩) SP.out.1).trans SP.out.2.2.2.2.2⟩)
      have HRK : Hid (∀ Y, Below wr.heap.size wr Y → Calls Try.prog 17 #[.agg #[.int .i64 p, .int .i64 r, .int .i64 u, .int .i64 m, .int .i64 l], .slice A7 k c7] Y fun e w' => e = .returned (.bool true) ∧ Below Y.heap.size Y w') := hidd (fun Y bY => by
        obtain ⟨A8, c8, e8, -, -, hlie8⟩ := OwnL.lie (KK.out.below bY).se sendV_len
        injection e8 with e81 e82 e83
        subst e81
        refine (cR.out A7 T k c7 Y HT.out (by omega) hlie8).mono ?_
        rintro e w9 ⟨bk, rfl, hbk, hb9⟩
        refine ⟨?_, hb9⟩
        rw [hbk.2 HI.out.keep])
      have z2 : (k : Int) ≤ (C.length : Int) := by omega
      have z3 : (k : Int) ≤ (c2 : Int) := by omega
      have z4 : (0 : Int) ≤ (k : Int) := by omega
      have z5 : k ≤ c2 := by omega
      have KBEL := hidd KK.out.bel
      clear HL LW HK HC HT hT2 KK hlie2 hlie5 hlie7 h40 cR hgl hC hcl HI hl5 hl7 hc5 hc7
      generalize C.length = nC at *
      generalize hNL : L.length = N at *
      clear hNL
      go_wp2_with fail
      refine cS.out.mono ?_
      rintro e w2 ⟨rfl, q, hw2⟩
      have HW2 := hidd (show Below wr.heap.size wr w2 from by rw [hw2]; exact below_drewN (Below.refl _ _) _)
      have HB2 := hidd (show Below w.heap.size w w2 from by rw [hw2]; exact below_drewN HBW.out _)
      obtain ⟨y0, y1, y2, y3, y4⟩ := SPK.out w2 (by rw [hw2]; exact below_drewN KBEL.out _)
      clear hw2
      go_wp2_with fail
      refine (HRK.out _ HW2.out).mono ?_
      rintro e w3 ⟨rfl, hb3⟩
      have HB3 := hidd (below_step HB2.out hb3)
      clear hb3
      go_wp2_with fail
      refine (cK.out _).mono ?_
      rintro e w4 ⟨rfl, hb4⟩
      have HB4 := hidd (below_step HB3.out hb4)
      clear hb4
      go_wp2_with fail
      go_ret
      exact ⟨rfl, HB4.out⟩
end Go.Proofs.Ytiecailfndlgoaa

/- Whatever the spec and the calls, ShaperKeeps answers true: what goes keeps to the spec, in the order in which it came, and what keeps to it goes at once; no conditions. -/
namespace Go.Proofs.Ytiecailfndlgoaa.shaperKeeps
open Go.ChangeShapes Go.WideShapes Go.ChangeAt Go.RowKit Go.Joins Go.Proofs.Ytiecailfndlgoaa.RowK
set_option linter.unusedVariables false
set_option maxRecDepth 100000 in
theorem lifted (os : Os) (started : os.Started) (H : Type) (enc : TypeId × Value → H) :
    ReturnsInHanded {} Try.checked os 4 .any (Rows.shaperKeepsSpec.pre6 enc Try.prog Try.f4 Rows.shaperKeepsRow.domain false) (Rows.shaperKeepsSpec.post enc Try.prog Try.f4 false true false false) := by
  refine returnsInHanded_of_change (C := Try.checked) own started (by kernel_rfl) Try.func4
    (ChangeSpec.witness6 (enc := enc) (C := Try.checked) false ⟨#[], #[.agg #[.int .i64 0, .int .i64 0, .int .i64 0, .int .i64 0, .int .i64 0], .slice none 0 0], []⟩ 8 (by kernel_rfl) (by kernel_rfl) (by kernel_rfl) (by kernel_rfl)) ?_
  intro W base args ds gs before hval0 hW hcnd _
  have hval : ∀ (j : Nat) t v, Try.f4.params[j]? = some t → args[j]? = some v → Value.okWide Try.prog W .any base t v := hval0
  have hW' := hW
  obtain ⟨p, q, hA0, hV, rfl, hfz, hnd⟩ := hW
  have hA : DataW.TrodAll enc Try.prog W 0 (fun _ => true) true Try.f4.params.toList args.toList ds p := hA0
  rw [Try.params4] at hA hval
  obtain ⟨v0, vs0, d0, ds0, p0, q0, hargs, rfl, rfl, h0, r0⟩ := trodAll_cons hA
  obtain ⟨v1, vs1, d1, ds1, p1, q1, rfl, rfl, rfl, h1, r1⟩ := trodAll_cons r0
  obtain ⟨rfl, rfl, rfl⟩ := trodAll_nil r1
  obtain rfl : args = #[v0, v1] := by cases args; simp_all
  obtain ⟨rfl, rfl⟩ := trodVars_none hV
  obtain ⟨a0, b0, c0, u0, g0, rfl⟩ := open_ints5 Try.underlying23 (by kernel_rfl) cellsSpec Try.underlying2 Try.underlying2 Try.underlying2 Try.underlying2 Try.underlying2 (hval 0 23 v0 rfl rfl) h0
  obtain ⟨A1, L1, c1, rfl, m1, l1⟩ : ∃ (A : Option Addr) (L : List (Int × Int × Int)) (c : Nat), v1 = .slice A L.length c ∧ L.length ≤ maxLen ∧ Lie actV 3 W W.heap.size A L := by
    obtain ⟨ptr, len, cap, rfl⟩ := okWide_slice Try.underlying24 (hval 1 24 v1 rfl rfl)
    obtain ⟨fuel, hf⟩ := h1
    obtain ⟨A, L, c, e, hh⟩ := open_acts hf
    exact ⟨A, L, c, by simpa [Value.cells] using e, hh⟩
  refine (Ytiecailfndlgoaa.keeps13_walk a0 b0 c0 u0 g0 A1 L1 c1 m1 W l1).mono fun e W' ⟨he, hg⟩ => ?_
  subst he
  exact ⟨_, rfl, post_law laidOut (by rw [Try.params4]; intro t ht; simp at ht; rcases ht with rfl | rfl <;> exact ⟨by kernel_rfl, of_decide_eq_true (by kernel_rfl)⟩) hW' hA0 rfl (fun _ _ _ => (trodAll_cons_mk (shut_bool Try.underlying4 _) trodAll_mk0)) (fun _ => rfl) hg (ok_one (by kernel_rfl) rfl (okWide_bool_mk Try.underlying4 _))⟩

theorem over : Rows.shaperKeepsRow.holds Try.pinned (OpenSpec.ofChange Rows.shaperKeepsSpec) :=
  OpenClaim.holds_of_wide 4 Try.f4 rfl rfl rfl rfl rfl rfl rfl ⟨rfl, rfl, rfl, rfl, rfl⟩ rfl rfl rfl rfl rfl (by kernel_rfl) Try.func4 (by kernel_rfl)
    (of_decide_eq_true (by kernel_rfl)) (by unfold Func.isWrapper; first | (rw [if_pos (by decide +kernel)]; kernel_rfl) | (rw [if_neg (by decide +kernel)]; exact ⟨rfl, rfl⟩))
    (fun os started H enc _ => lifted os started H enc)
end Go.Proofs.Ytiecailfndlgoaa.shaperKeeps
namespace Go.Proofs.Ytiecailfndlgoaa
/-- the given statement. -/
theorem shaperKeeps_proved : Rows.ShaperKeepsSaid := shaperKeeps.over
end Go.Proofs.Ytiecailfndlgoaa

