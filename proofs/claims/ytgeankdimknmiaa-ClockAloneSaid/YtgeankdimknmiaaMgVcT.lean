/- Texts that the claim hangs on, in one. -/
import Derived.Test.YtgeankdimknmiaaMgVcQ
import Derived.Test.YtgeankdimknmiaaMgVcB
import Derived.Test.YtgeankdimknmiaaMgVcA
import Derived.StillTailTactics
import Derived.Lib.QuietBelow
import Derived.Test.YtgeankdimknmiaaRows
import Derived.OpenShut
import Derived.ProofKit
import Derived.ChangeSame
import Derived.JoinedOf
import Derived.JoinedAt
import Derived.Carry
import Derived.Deep.Slices
import Derived.Deep.Fields
import Derived.Lib.SmallJoins
import Derived.Laws.Rows
/- Clocks: ClockAlone's walk. -/
namespace Go.Proofs.Ytgeankdimknmiaa.Hp
set_option linter.unusedVariables false
open Go.RowKit Go.Maps Go.Sort Go.Proofs.Ytgeankdimknmiaa.Tp
structure Ac where
  k : Int
  i : Int
  fl : Int
  z : Int
  r : Int
  m : Int
  n : Int
def acV (x : Ac) : List Value := [.int .i64 x.k, .int .i64 x.i, .int .i64 x.fl, .int .i64 x.z, .int .i64 x.r, .int .i64 x.m, .int .i64 x.n]
def acA (L : List Ac) (i : Nat) : Ac := L.getD i ⟨0, 0, 0, 0, 0, 0, 0⟩
theorem acA_at {L : List Ac} {i : Nat} (h : i < L.length) : acA L i = L[i] := by simp [acA, h]
theorem Lie.ac {w : World} {B : Nat} {A : Option Addr} {l : List Ac} (h : Lie acV 7 w B A l) (i : Nat) (hi : i < l.length) :
    ∃ ad, A = some ad ∧ (ad.add (i * 7)).block < B ∧ w.cell? ⟨(ad.add (i * 7)).block, (ad.add (i * 7)).off + 1, none⟩ = some (.int .i64 (acA l i).i) ∧ w.cell? ⟨(ad.add (i * 7)).block, (ad.add (i * 7)).off + 2, none⟩ = some (.int .i64 (acA l i).fl) ∧
      w.cell? ⟨(ad.add (i * 7)).block, (ad.add (i * 7)).off + 3, none⟩ = some (.int .i64 (acA l i).z) ∧ w.cell? ⟨(ad.add (i * 7)).block, (ad.add (i * 7)).off + 6, none⟩ = some (.int .i64 (acA l i).n) := by
  obtain ⟨ad, e, hB, hc⟩ := h (by omega)
  have hx : l[i]? = some l[i] := List.getElem?_eq_getElem hi
  rw [acA_at hi]
  have h1 := hc i _ hx 1 _ rfl
  have h2 := hc i _ hx 2 _ rfl
  have h3 := hc i _ hx 3 _ rfl
  have h6 := hc i _ hx 6 _ rfl
  rw [← add_of_add] at h1 h2 h3 h6
  exact ⟨ad, e, by rw [block_of_add]; exact hB, h1, h2, h3, h6⟩
/-- a queue of which all this holds, above W0. -/
def QQ (rt : Int → Int) (x i last c : Int) (W0 : World) (S : Nat → Prop) (W : World) (q : Nat) : Prop := ∃ F M T X, Qu S W q F M T X ∧ QI rt x i last F M T X ∧ CX F x c ∧ ∀ k, S k → W0.heap.size ≤ k
section
variable {rt : Int → Int} {x i last c : Int} {W0 : World} {S S2 S' : Nat → Prop} {W W' : World} {q : Nat}
theorem QQ.lt (h : QQ rt x i last c W0 S W q) {k : Nat} (hk : S k) : k < W.heap.size := by
  obtain ⟨F, M, T, X, h1, -⟩ := h
  exact h1.lt hk
theorem QQ.below (h : QQ rt x i last c W0 S W q) (hb : Below W.heap.size W W') : QQ rt x i last c W0 S W' q := by
  obtain ⟨F, M, T, X, h1, h2⟩ := h
  exact ⟨F, M, T, X, h1.below hb, h2⟩
theorem QQ.keep (h : QQ rt x i last c W0 S W q) (hb : ∀ k, S k → W'.heap[k]? = W.heap[k]?) : QQ rt x i last c W0 S W' q := by
  obtain ⟨F, M, T, X, h1, h2⟩ := h
  exact ⟨F, M, T, X, h1.keep hb, h2⟩
theorem QQ.sav (h : QQ rt x i last c W0 S W q) (hs : Sav S' W W') (hd : ∀ k, S' k → ¬ S k) : QQ rt x i last c W0 S W' q := h.keep (fun k hk => hs.block k (h.lt hk) (fun e => hd k e hk))
theorem QQ.mono (h : QQ rt x i last c W0 S W q) : QQ rt x (i + 1) last c W0 S W q := by
  obtain ⟨F, M, T, X, h1, h2, h3⟩ := h
  exact ⟨F, M, T, X, h1, h2.mono, h3⟩
/-- blocks apart stay so. -/
theorem apart_step (h : QQ rt x i last c W0 S2 W q) (hd : ∀ k, S k → ¬ S2 k) (n : Nxt S S' W) : ∀ k, S' k → ¬ S2 k := fun k h1 h2 => hd k (n k (h.lt h2) h1) h2
theorem putQQ {w : World} (h : QQ rt x i last c W0 S w q) (B : Below W0.heap.size W0 w) (hr : ∀ k, 1 ≤ k → k ≤ 3 → 1 ≤ rt k ∧ rt k ≤ 1000000) (hi : i < 40) (hx0 : 1 ≤ x) (hx1 : x ≤ 3) (fl z now : Int) :
    Calls Try.prog 9 #[.pointer (some ⟨q, 0, none⟩), .agg #[.int .i64 (i + 1), .int .i64 fl, .int .i64 z], .int .i64 now] w fun e w' => ∃ n d er c' S', e = .returned (.tuple #[.agg #[.int .i64 n, .int .i64 d], .int .i64 er]) ∧
      QQ rt x (i + 1) last c' W0 S' w' q ∧ (fl = x → (n, d, er, c') = PT c (rt x) (packB (i + 1) fl z && tickB now) now z) ∧ (fl ≠ x → c' = c) ∧ Sav S w w' ∧ Nxt S S' w ∧ Below W0.heap.size W0 w' := by
  obtain ⟨F, M, T, X, h1, h2, h3, h4⟩ := h
  refine (putI h1 h2 hr hi hx0 hx1 h3 fl z now).mono ?_
  rintro e w' ⟨n, d, er, c', S', F', M', T', X', rfl, k1, k2, k3, k4, k5, k6, k7⟩
  obtain ⟨b, hn⟩ := q_step B h4 k6 k7
  exact ⟨n, d, er, c', S', rfl, ⟨F', M', T', X', k1, k2, k3, hn⟩, k4, k5, k6, k7, b⟩
theorem takeQQ {w : World} (h : QQ rt x i last c W0 S w q) (B : Below W0.heap.size W0 w) :
    Calls Try.prog 10 #[.pointer (some ⟨q, 0, none⟩)] w fun e w' => ∃ (b : Bool) (id fl z n d : Int) (S' : Nat → Prop) (l' : Int), e = .returned (.tuple #[.agg #[.int .i64 id, .int .i64 fl, .int .i64 z], .agg #[.int .i64 n, .int .i64 d], .bool b]) ∧
      QQ rt x i l' c W0 S' w' q ∧ (b = true → fl = x → last < id ∧ l' = id) ∧ (¬ (b = true ∧ fl = x) → l' = last) ∧ Sav S w w' ∧ Nxt S S' w ∧ Below W0.heap.size W0 w' := by
  obtain ⟨F, M, T, X, h1, h2, h3, h4⟩ := h
  refine (takeI h1 h2 h3).mono ?_
  rintro e w' ⟨b, id, fl, z, n, d, S', F', M', l', rfl, k1, k2, k3, k4, k5, k6, k7⟩
  obtain ⟨bb, hn⟩ := q_step B h4 k6 k7
  exact ⟨b, id, fl, z, n, d, S', l', rfl, ⟨F', M', T, X, k1, k2, k3, hn⟩, k4, k5, k6, k7, bb⟩
end
/-- while flows are added: no packet yet. -/
def QN (rt : Int → Int) (n : Nat) (W0 : World) (S : Nat → Prop) (W : World) (q : Nat) : Prop := ∃ F, Qu S W q F [] 0 kX0 ∧ FI rt 0 n F ∧ (∀ f ∈ F, f.c = 0) ∧ ∀ k, S k → W0.heap.size ≤ k
section
variable {rt : Int → Int} {n : Nat} {W0 : World} {S S2 S' : Nat → Prop} {W W' : World} {q : Nat}
theorem QN.lt (h : QN rt n W0 S W q) {k : Nat} (hk : S k) : k < W.heap.size := by
  obtain ⟨F, h1, -⟩ := h
  exact h1.lt hk
theorem QN.below (h : QN rt n W0 S W q) (hb : Below W.heap.size W W') : QN rt n W0 S W' q := by
  obtain ⟨F, h1, h2⟩ := h
  exact ⟨F, h1.below hb, h2⟩
theorem QN.sav (h : QN rt n W0 S W q) (hs : Sav S' W W') (hd : ∀ k, S' k → ¬ S k) : QN rt n W0 S W' q := by
  obtain ⟨F, h1, h2⟩ := h
  exact ⟨F, h1.keep (fun k hk => hs.block k (h1.lt hk) (fun e => hd k e hk)), h2⟩
theorem QN.full (h : QN rt 3 W0 S W q) (x : Int) : QQ rt x 0 0 0 W0 S W q := by
  obtain ⟨F, h1, h2, h3, h4⟩ := h
  exact ⟨F, [], 0, kX0, h1, ⟨h2, by omega, fun y hy => (by cases hy), by simp, fun y hy => (by cases hy), fun y hy => (by cases hy), by omega⟩, fun f hf _ => h3 f hf, h4⟩
theorem apart_n (h : QN rt n W0 S2 W q) (hd : ∀ k, S k → ¬ S2 k) (hn : Nxt S S' W) : ∀ k, S' k → ¬ S2 k := fun k h1 h2 => hd k (hn k (h.lt h2) h1) h2
theorem addQN {w : World} (h : QN rt n W0 S w q) (B : Below W0.heap.size W0 w) (hn : n < 3) (h0 : 1 ≤ rt ((n : Int) + 1)) (h1 : rt ((n : Int) + 1) ≤ 1000000) :
    Calls Try.prog 8 #[.pointer (some ⟨q, 0, none⟩), .int .i64 ((n : Int) + 1), .int .i64 (rt ((n : Int) + 1)), .int .i64 1000000000, .int .i64 0] w fun e w' => e = .returned (.int .i64 0) ∧ ∃ S', QN rt (n + 1) W0 S' w' q ∧ Sav S w w' ∧ Nxt S S' w ∧ Below W0.heap.size W0 w' := by
  obtain ⟨F, k1, k2, k3, k4⟩ := h
  refine (addQ k1 (flow := (n : Int) + 1) (rate := rt ((n : Int) + 1)) (room := 1000000000) (now := 0) (by unfold flowB; exact decide_eq_true (by omega)) (by decide) (fun f hf => by have := k2.mem hf; omega) (by have := congrArg List.length k2.id; simp [ids] at this; omega)).mono ?_
  rintro e w' ⟨rfl, S', b, j1, j2, j3⟩
  obtain ⟨bb, hn2⟩ := q_step B k4 j2 j3
  have e0 : (0 : Int) * rt ((n : Int) + 1) = 0 := Int.zero_mul _
  rw [e0] at j1
  refine ⟨rfl, S', ⟨_, j1, k2.snoc (f := ⟨(n : Int) + 1, rt ((n : Int) + 1), 1000000000, 0, 0, b⟩) rfl rfl rfl (Int.le_refl _) (by show (0 : Int) ≤ _; dsimp only; omega), fun f hf => ?_, hn2⟩, j2, j3, bb⟩
  rcases List.mem_append.1 hf with p | p
  · exact k3 f p
  · rw [List.mem_singleton] at p; subst p; rfl
end
theorem ac_if {a b c : Int} (i : Nat) : (if (i : Int) = 0 then a else if (i : Int) = 1 then b else c) = (if (i : Int) + 1 = 1 then a else if (i : Int) + 1 = 2 then b else c) := by
  split <;> split <;> first | rfl | omega | (split <;> first | rfl | omega)
def TA (ad : Addr) (i P : Nat) (j fl z now : Int) (Y : World) : Prop := Y.cell? ⟨P, 0, none⟩ = some (.int .i64 j) ∧ Y.cell? ⟨P, 1, none⟩ = some (.int .i64 fl) ∧ Y.cell? ⟨P, 2, none⟩ = some (.int .i64 z) ∧ Y.cell? ⟨(ad.add (i * 7)).block, (ad.add (i * 7)).off + 6, none⟩ = some (.int .i64 now)
def rt3 (a b c : Int) : Int → Int := fun k => if k = 1 then a else if k = 2 then b else c
set_option maxRecDepth 100000 in
set_option maxHeartbeats 8000000 in
theorem alone14_walk (A : Option Addr) (L : List Ac) (c : Nat) (r0 r1 r2 x0 x1 : Int) (hlc : L.length ≤ c) (hcm : c ≤ maxLen) (w : World) (hA : Lie acV 7 w w.heap.size A L) :
    Calls Try.prog 3 #[.slice A L.length c, .agg #[.int .i64 r0, .int .i64 r1, .int .i64 r2], .agg #[.int .i64 x0, .int .i64 x1]] w fun e w' => e = .returned (.bool true) ∧ Below w.heap.size w w' := by
  have cK := hidd (fun W => known14_any W)
  have cN := hidd (fun W => newQ W)
  obtain ⟨W0, hW0⟩ : ∃ W0, (w.alloc (.cells #[.int .i64 r0, .int .i64 r1, .int .i64 r2] 23)).alloc (.cells #[.int .i64 x0, .int .i64 x1] 24) = W0 := ⟨_, rfl⟩
  have HW0 := hidd hW0
  have BW := hidd (show Below w.heap.size w W0 from by rw [← hW0]; exact below_new (below_new (Below.refl _ _) _) _)
  have row1 : W0.heap[w.heap.size]? = some (.cells #[.int .i64 r0, .int .i64 r1, .int .i64 r2] 23 (0, 0)) := by rw [← hW0]; exact (Below.heap_alloc _ _ _ (by simp)).trans (heap_alloc_new w _)
  have row2 : W0.heap[w.heap.size + 1]? = some (.cells #[.int .i64 x0, .int .i64 x1] 24 (0, 0)) := by rw [← hW0]; have q := heap_alloc_new (w.alloc (.cells #[.int .i64 r0, .int .i64 r1, .int .i64 r2] 23)) (.cells #[.int .i64 x0, .int .i64 x1] 24); simp only [World.size_alloc] at q; exact q
  have R1 := hidd row1
  have R2 := hidd row2
  have LA := hidd (hA.keep BW.out)
  have SZ := hidd (show w.heap.size + 2 = W0.heap.size from by rw [← hW0]; simp)
  clear hW0 hA
  have x00 : W0.cell? ⟨w.heap.size + 1, 0, none⟩ = some (.int .i64 x0) := by simp [World.cell?, row2]
  have x01 : W0.cell? ⟨w.heap.size + 1, 1, none⟩ = some (.int .i64 x1) := by simp [World.cell?, row2]
  clear row1 row2
  by_cases g0 : 40 < L.length
  · have z : (40 : Int) < (L.length : Int) := by omega
    generalize L.length = N at *
    go_enter Try.func3, Try.ntmps3
    go_wp2_with fail
    rw [HW0.out]
    go_wp2_with fail
    refine (cK.out _).mono ?_
    rintro e w1 ⟨rfl, hb⟩
    go_wp2_with fail
    go_ret
    exact ⟨rfl, by have b := BW.out; have b0 := b.size; (repeat' (first | (with_reducible exact Below.refl _ _) | (with_reducible assumption) | (with_reducible apply Below.setCell) | (with_reducible apply Below.alloc) | (with_reducible apply Below.drew) | (with_reducible apply below_drewN) | (with_reducible refine Below.trans ?_ (Below.mono (by assumption) ?_)) | omega | (simp; done) | (simp; omega)))⟩
  by_cases g1 : x0 < 1
  · have z : ¬ (40 : Int) < (L.length : Int) := by omega
    generalize L.length = N at *
    go_enter Try.func3, Try.ntmps3
    go_wp2_with fail
    rw [HW0.out]
    go_wp2_with fail
    refine (cK.out _).mono ?_
    rintro e w1 ⟨rfl, hb⟩
    go_wp2_with fail
    go_ret
    exact ⟨rfl, by have b := BW.out; have b0 := b.size; (repeat' (first | (with_reducible exact Below.refl _ _) | (with_reducible assumption) | (with_reducible apply Below.setCell) | (with_reducible apply Below.alloc) | (with_reducible apply Below.drew) | (with_reducible apply below_drewN) | (with_reducible refine Below.trans ?_ (Below.mono (by assumption) ?_)) | omega | (simp; done) | (simp; omega)))⟩
  by_cases g2 : 3 < x0
  · have z : ¬ (40 : Int) < (L.length : Int) := by omega
    generalize L.length = N at *
    go_enter Try.func3, Try.ntmps3
    go_wp2_with fail
    rw [HW0.out]
    go_wp2_with fail
    refine (cK.out _).mono ?_
    rintro e w1 ⟨rfl, hb⟩
    go_wp2_with fail
    go_ret
    exact ⟨rfl, by have b := BW.out; have b0 := b.size; (repeat' (first | (with_reducible exact Below.refl _ _) | (with_reducible assumption) | (with_reducible apply Below.setCell) | (with_reducible apply Below.alloc) | (with_reducible apply Below.drew) | (with_reducible apply below_drewN) | (with_reducible refine Below.trans ?_ (Below.mono (by assumption) ?_)) | omega | (simp; done) | (simp; omega)))⟩
  by_cases g3 : x1 < 1
  · have z : ¬ (40 : Int) < (L.length : Int) := by omega
    generalize L.length = N at *
    go_enter Try.func3, Try.ntmps3
    go_wp2_with fail
    rw [HW0.out]
    go_wp2_with fail
    refine (cK.out _).mono ?_
    rintro e w1 ⟨rfl, hb⟩
    go_wp2_with fail
    go_ret
    exact ⟨rfl, by have b := BW.out; have b0 := b.size; (repeat' (first | (with_reducible exact Below.refl _ _) | (with_reducible assumption) | (with_reducible apply Below.setCell) | (with_reducible apply Below.alloc) | (with_reducible apply Below.drew) | (with_reducible apply below_drewN) | (with_reducible refine Below.trans ?_ (Below.mono (by assumption) ?_)) | omega | (simp; done) | (simp; omega)))⟩
  have z40 : ¬ (40 : Int) < (L.length : Int) := by omega
  go_enter Try.func3, Try.ntmps3
  go_wp2_with fail
  rw [HW0.out]
  clear HW0
  have KX : Hid (∀ Y, Below W0.heap.size W0 Y → Y.cell? ⟨w.heap.size + 1, 0, none⟩ = some (.int .i64 x0) ∧ Y.cell? ⟨w.heap.size + 1, 1, none⟩ = some (.int .i64 x1)) := hidd (fun Y hb => by
    have e := (hb.block (w.heap.size + 1) (by have := SZ.out; omega)).trans R2.out
    exact ⟨by simp [World.cell?, e], by simp [World.cell?, e]⟩)
  have KR : Hid (∀ Y, Below W0.heap.size W0 Y → ∀ i : Nat, i < 3 → Y.cell? ⟨w.heap.size, i, none⟩ = some (.int .i64 (rt3 r0 r1 r2 ((i : Int) + 1)))) := hidd (fun Y hb i hi => by
    have e := (hb.block w.heap.size (by have := SZ.out; omega)).trans R1.out
    have hc : i = 0 ∨ i = 1 ∨ i = 2 := by omega
    rcases hc with rfl | rfl | rfl <;> simp [World.cell?, e, rt3])
  go_wp2_with fail
  refine (cN.out _).mono ?_
  rintro e w1 ⟨q, S0, rfl, hQ, hn, hb⟩
  have Q1 : Hid (QN (rt3 r0 r1 r2) 0 W0 S0 w1 q) := hidd ⟨[], hQ, ⟨rfl, fun f hf => (by cases hf)⟩, fun f hf => (by cases hf), hn⟩
  have B1 := hidd hb
  clear hQ hn hb x00 x01
  go_wp2_with fail
  refine (cN.out _).mono ?_
  rintro e w2 ⟨o, S2, rfl, hQ, hn, hb⟩
  have B2 := hidd (below_step B1.out hb)
  have Q2 : Hid (QN (rt3 r0 r1 r2) 0 W0 S2 w2 o) := hidd ⟨[], hQ, ⟨rfl, fun f hf => (by cases hf)⟩, fun f hf => (by cases hf), fun k hk => Nat.le_trans B1.out.size (hn k hk)⟩
  have Q1' := hidd (Q1.out.below hb)
  have D0 : Hid (∀ k, S0 k → ¬ S2 k) := hidd (fun k h1 h2 => by have := Q1.out.lt h1; have := hn k h2; omega)
  clear hQ hn hb Q1
  go_wp2_with fail
  go_loopg [9] 3 (fun gk s9 wr => ∃ (i : Nat) (S S2 : Nat → Prop), i + gk = 3 ∧ s9 = .int .i64 (i : Int) ∧ QN (rt3 r0 r1 r2) i W0 S wr q ∧ QN (rt3 r0 r1 r2) i W0 S2 wr o ∧ (∀ k, S k → ¬ S2 k) ∧ Below W0.heap.size W0 wr ∧ ∀ k, 1 ≤ k → k ≤ (i : Int) → 1 ≤ rt3 r0 r1 r2 k ∧ rt3 r0 r1 r2 k ≤ 1000000)
  case atStart => exact ⟨0, S0, S2, by omega, rfl, Q1'.out, Q2.out, D0.out, B2.out, fun k h1 h2 => by omega⟩
  case round =>
    clear Q1' Q2 D0 B2
    obtain ⟨i, S, S2, hg, rfl, hq, ho, hd, hb, hr⟩ := hrel
    have HQ := hidd hq
    have HO := hidd ho
    have HD := hidd hd
    have HB := hidd hb
    have HR := hidd hr
    clear hq ho hd hb hr
    by_cases hi : i < 3
    · obtain ⟨r, hr⟩ : ∃ r, rt3 r0 r1 r2 ((i : Int) + 1) = r := ⟨_, rfl⟩
      have y0 := KR.out _ HB.out i hi
      rw [hr] at y0
      have z1 : (i : Int) < 3 := by omega
      have z2 : (0 : Int) ≤ (i : Int) := by omega
      have w1 : IntKind.i64.wrap ((i : Int) + 1) = (i : Int) + 1 := by rw [IntKind.wrap_i64]; omega
      by_cases a1 : r < 1
      · clear cN
        go_wp2_with fail
        refine (cK.out _).mono ?_
        rintro e w3 ⟨rfl, hb3⟩
        go_wp2_with fail
        go_ret
        exact ⟨rfl, by have b := BW.out; have b0 := b.size; have b1 := HB.out; have b2 := b1.size; (repeat' (first | (with_reducible exact Below.refl _ _) | (with_reducible assumption) | (with_reducible apply Below.setCell) | (with_reducible apply Below.alloc) | (with_reducible apply Below.drew) | (with_reducible apply below_drewN) | (with_reducible refine Below.trans ?_ (Below.mono (by assumption) ?_)) | omega | (simp; done) | (simp; omega)))⟩
      by_cases a2 : 1000000 < r
      · clear cN
        go_wp2_with fail
        refine (cK.out _).mono ?_
        rintro e w3 ⟨rfl, hb3⟩
        go_wp2_with fail
        go_ret
        exact ⟨rfl, by have b := BW.out; have b0 := b.size; have b1 := HB.out; have b2 := b1.size; (repeat' (first | (with_reducible exact Below.refl _ _) | (with_reducible assumption) | (with_reducible apply Below.setCell) | (with_reducible apply Below.alloc) | (with_reducible apply Below.drew) | (with_reducible apply below_drewN) | (with_reducible refine Below.trans ?_ (Below.mono (by assumption) ?_)) | omega | (simp; done) | (simp; omega)))⟩
      have cA := hidd (addQN HQ.out HB.out hi (by rw [hr]; omega) (by rw [hr]; omega))
      rw [hr] at cA
      go_wp2_with fail
      refine cA.out.mono ?_
      rintro e w3 ⟨rfl, S', hq', hs, hn, hb'⟩
      have HO' := hidd (HO.out.sav hs (fun k h1 h2 => HD.out k h1 h2))
      have HD' := hidd (apart_n HO.out HD.out hn)
      have HQ' := hidd hq'
      have cA2 := hidd (addQN HO'.out hb' hi (by rw [hr]; omega) (by rw [hr]; omega))
      rw [hr] at cA2
      have y1 := KR.out _ hb' i hi
      rw [hr] at y1
      clear y0 hq' hs hn hb' cA
      go_wp2_with fail
      refine cA2.out.mono ?_
      rintro e w4 ⟨rfl, S2', ho', hs2, hn2, hb4⟩
      have HQ2 := hidd (HQ'.out.sav hs2 (fun k h1 h2 => HD'.out k h2 h1))
      have HD2 := hidd (apart_n HQ'.out (fun k h1 h2 => HD'.out k h2 h1) hn2)
      have HO2 := hidd ho'
      have HB4 := hidd hb4
      clear y1 ho' hs2 hn2 hb4 cA2
      go_wp2_with fail
      go_roundg (gk - 1)
      case measure => omega
      case rel => exact ⟨i + 1, S', S2', by omega, by congr 1, HQ2.out, HO2.out, fun k h1 h2 => HD2.out k h2 h1, HB4.out, fun k k0 k1 => by
        by_cases e : k ≤ (i : Int)
        · exact HR.out k k0 e
        · obtain rfl : k = (i : Int) + 1 := by omega
          rw [hr]
          omega⟩
    · obtain rfl : i = 3 := by omega
      go_wp2_with fail
      clear cN B1
      have hq := HQ.out
      have ho := HO.out
      have hd := HD.out
      have hb := HB.out
      have hr : ∀ k, 1 ≤ k → k ≤ 3 → 1 ≤ rt3 r0 r1 r2 k ∧ rt3 r0 r1 r2 k ≤ 1000000 := fun k k0 k1 => HR.out k k0 k1
      clear HQ HO HD HB HR KR
      have HQ0 := hidd (hq.full x0)
      have HO0 := hidd (ho.full x0)
      have HD0 := hidd hd
      have HB0 := hidd hb
      have HR := hidd hr
      clear hq ho hd hb hr hg
      generalize rt3 r0 r1 r2 = rt at *
      go_loopg [10, 11] L.length (fun gk s10 s11 wr => ∃ (i : Nat) (last cc : Int) (S S2 : Nat → Prop), i + gk = L.length ∧ s10 = .int .i64 last ∧ s11 = .int .i64 (i : Int) ∧ QQ rt x0 (i : Int) last cc W0 S wr q ∧ QQ rt x0 (i : Int) 0 cc W0 S2 wr o ∧ (∀ k, S k → ¬ S2 k) ∧ Below W0.heap.size W0 wr)
      case atStart => exact ⟨0, 0, 0, S, S2, by omega, rfl, rfl, HQ0.out, HO0.out, HD0.out, HB0.out⟩
      case round =>
        clear HQ0 HO0 HD0 HB0
        obtain ⟨i, last, cc, S, S2, hg, rfl, rfl, hq, ho, hd, hb⟩ := hrel
        have HQ := hidd hq
        have HO := hidd ho
        have HD := hidd hd
        have HB := hidd hb
        clear hq ho hd hb
        by_cases hi : i < L.length
        · have z1 : (i : Int) < (L.length : Int) := by omega
          have z2 : (0 : Int) ≤ (i : Int) := by omega
          obtain ⟨ad, rfl, ha, c1, c2, c3, c6⟩ := Lie.ac (LA.out.keep (HB.out.mono BW.out.size)) i hi
          obtain ⟨fl, hfl⟩ : ∃ x, (acA L i).fl = x := ⟨_, rfl⟩
          obtain ⟨z, hz⟩ : ∃ x, (acA L i).z = x := ⟨_, rfl⟩
          obtain ⟨now, hnow⟩ : ∃ x, (acA L i).n = x := ⟨_, rfl⟩
          rw [hfl] at c2
          rw [hz] at c3
          have KL : Hid (∀ Y, Below W0.heap.size W0 Y → Y.cell? ⟨(ad.add (i * 7)).block, (ad.add (i * 7)).off + 6, none⟩ = some (.int .i64 now)) := hidd (fun Y hb => by
            obtain ⟨ad2, e2, -, -, -, -, q6⟩ := Lie.ac (LA.out.keep (hb.mono BW.out.size)) i hi
            obtain rfl : ad = ad2 := by injection e2
            rw [hnow] at q6
            exact q6)
          clear hfl hz hnow c6
          have w1 : IntKind.i64.wrap ((i : Int) + 1) = (i : Int) + 1 := by rw [IntKind.wrap_i64]; omega
          go_wp2_with fail
          obtain ⟨P, hP⟩ : ∃ P, wr.heap.size = P := ⟨_, rfl⟩
          obtain ⟨W2, hW2⟩ : ∃ W, wr.alloc (.cells #[.int .i64 ((i : Int) + 1), .int .i64 fl, .int .i64 z] 31) = W := ⟨_, rfl⟩
          have ROWP := hidd (show W2.heap[P]? = some (.cells #[.int .i64 ((i : Int) + 1), .int .i64 fl, .int .i64 z] 31 (0, 0)) from by rw [← hW2, ← hP]; exact heap_alloc_new wr _)
          have B2 := hidd (show Below W0.heap.size W0 W2 from by rw [← hW2]; exact below_new HB.out _)
          have HQ2 := hidd (HQ.out.below (show Below wr.heap.size wr W2 from by rw [← hW2]; exact below_new (Below.refl _ _) _))
          have HO2 := hidd (HO.out.below (show Below wr.heap.size wr W2 from by rw [← hW2]; exact below_new (Below.refl _ _) _))
          have NP := hidd (show ¬ S P from fun e => by have := HQ.out.lt e; omega)
          have NP2 := hidd (show ¬ S2 P from fun e => by have := HO.out.lt e; omega)
          rw [hW2, hP]
          clear hW2 hP c1 c2 c3 HQ HO HB
          have KS : Hid (∀ Y, Below W0.heap.size W0 Y → Y.heap[P]? = some (.cells #[.int .i64 ((i : Int) + 1), .int .i64 fl, .int .i64 z] 31 (0, 0)) → TA ad i P ((i : Int) + 1) fl z now Y) := hidd (fun Y hb hr => ⟨by simp [World.cell?, hr], by simp [World.cell?, hr], by simp [World.cell?, hr], KL.out Y hb⟩)
          have cP := hidd (fun (Y : World) (h : QQ rt x0 (i : Int) last cc W0 S Y q) (b : Below W0.heap.size W0 Y) => putQQ h b HR.out (by omega) (by omega) (by omega) fl z now)
          go_cut [13, 14] (fun s13 s14 wx => ∃ (R : Nat) (S' : Nat → Prop) (n d er c' : Int), s13 = .pointer (some ⟨R, 0, none⟩) ∧ s14 = .int .i64 er ∧ wx.heap[R]? = some (.cells #[.int .i64 n, .int .i64 d] 35 (0, 0)) ∧ wx.heap[P]? = some (.cells #[.int .i64 ((i : Int) + 1), .int .i64 fl, .int .i64 z] 31 (0, 0)) ∧ QQ rt x0 ((i : Int) + 1) last c' W0 S' wx q ∧ QQ rt x0 (i : Int) 0 cc W0 S2 wx o ∧ (∀ k, S' k → ¬ S2 k) ∧ Below W0.heap.size W0 wx ∧ (fl = x0 → (n, d, er, c') = PT cc (rt x0) (packB ((i : Int) + 1) fl z && tickB now) now z) ∧ (fl ≠ x0 → c' = cc) ∧ ¬ S2 R ∧ ¬ S2 P)
          case first =>
            refine wp_region_held_drew (S := (fun Y => TA ad i P ((i : Int) + 1) fl z now Y)) (by kernel_rfl) (KS.out _ (Below.drew B2.out) ROWP.out) (fun hH => ?_)
            obtain ⟨WD, hWD⟩ : ∃ WD, W2.drew = WD := ⟨_, rfl⟩
            have BD : Below W0.heap.size W0 WD := by rw [← hWD]; exact Below.drew B2.out
            have QD := HQ2.out.below (show Below W2.heap.size W2 WD from by rw [← hWD]; exact Below.drew (Below.refl _ _))
            have OD := HO2.out.below (show Below W2.heap.size W2 WD from by rw [← hWD]; exact Below.drew (Below.refl _ _))
            have dP := ROWP.out
            have eP := congrArg (fun x : World => x.heap[P]?) hWD
            have DP := eP.symm.trans (show W2.drew.heap[P]? = _ from dP)
            clear dP eP
            rw [hWD] at hH
            rw [hWD]
            clear hWD
            refine wpAnyH_take (i := 0) (v := ?vu0_1) (by (conv => lhs; simp only [List.getElem?_toArray, List.getElem?_cons_succ, List.getElem?_cons_zero])) (by kernel_rfl) (by kernel_rfl) (by kernel_rfl) ?hQ (Or.inl ⟨by rfl, ?hyu0_1⟩) hH ?restu0_1
            case hQ => exact fun _ _ _ h => h
            case hyu0_1 => (intro Y hY; obtain ⟨y0, y1, y2, y3⟩ := hY; go_simp; try (with_reducible rfl))
            try simp only [Act.put, List.setIfInBounds_toArray, List.set_cons_zero, List.set_cons_succ]
            refine wpAnyH_take (i := 1) (v := ?vu1_2) (by (conv => lhs; simp only [List.getElem?_toArray, List.getElem?_cons_succ, List.getElem?_cons_zero])) (by kernel_rfl) (by kernel_rfl) (by kernel_rfl) ?hQ (Or.inl ⟨by rfl, ?hyu1_2⟩) hH ?restu1_2
            case hQ => exact fun _ _ _ h => h
            case hyu1_2 => (intro Y hY; obtain ⟨y0, y1, y2, y3⟩ := hY; go_simp; try (with_reducible rfl))
            try simp only [Act.put, List.setIfInBounds_toArray, List.set_cons_zero, List.set_cons_succ]
            refine wpAnyH_take (i := 2) (v := ?vu2_3) (by (conv => lhs; simp only [List.getElem?_toArray, List.getElem?_cons_succ, List.getElem?_cons_zero])) (by kernel_rfl) (by kernel_rfl) (by kernel_rfl) ?hQ (Or.inl ⟨by rfl, ?hyu2_3⟩) hH ?restu2_3
            case hQ => exact fun _ _ _ h => h
            case hyu2_3 => (intro Y hY; obtain ⟨y0, y1, y2, y3⟩ := hY; go_simp; try (with_reducible rfl))
            try simp only [Act.put, List.setIfInBounds_toArray, List.set_cons_zero, List.set_cons_succ]
            refine wpAnyH_take (i := 3) (v := ?vu3_4) (by (conv => lhs; simp only [List.getElem?_toArray, List.getElem?_cons_succ, List.getElem?_cons_zero])) (by kernel_rfl) (by kernel_rfl) (by kernel_rfl) ?hQ (Or.inl ⟨by rfl, ?hyu3_4⟩) hH ?restu3_4
            case hQ => exact fun _ _ _ h => h
            case hyu3_4 => (intro Y hY; obtain ⟨y0, y1, y2, y3⟩ := hY; go_simp; try (with_reducible rfl))
            try simp only [Act.put, List.setIfInBounds_toArray, List.set_cons_zero, List.set_cons_succ]
            refine wpAnyH_take (i := 4) (v := ?vu4_5) (by (conv => lhs; simp only [List.getElem?_toArray, List.getElem?_cons_succ, List.getElem?_cons_zero])) (by kernel_rfl) (by kernel_rfl) (by kernel_rfl) ?hQ (Or.inl ⟨by rfl, ?hyu4_5⟩) hH ?restu4_5
            case hQ => exact fun _ _ _ h => h
            case hyu4_5 => (intro Y hY; obtain ⟨y0, y1, y2, y3⟩ := hY; go_simp; try (with_reducible rfl))
            try simp only [Act.put, List.setIfInBounds_toArray, List.set_cons_zero, List.set_cons_succ]
            refine wpAnyH_take (i := 5) (v := ?vu5_6) (by (conv => lhs; simp only [List.getElem?_toArray, List.getElem?_cons_succ, List.getElem?_cons_zero])) (by kernel_rfl) (by kernel_rfl) (by kernel_rfl) ?hQ (Or.inl ⟨by rfl, ?hyu5_6⟩) hH ?restu5_6
            case hQ => exact fun _ _ _ h => h
            case hyu5_6 => (intro Y hY; obtain ⟨y0, y1, y2, y3⟩ := hY; go_simp; try (with_reducible rfl))
            try simp only [Act.put, List.setIfInBounds_toArray, List.set_cons_zero, List.set_cons_succ]
            refine wpAnyH_take (i := 6) (v := ?vu6_7) (by (conv => lhs; simp only [List.getElem?_toArray, List.getElem?_cons_succ, List.getElem?_cons_zero])) (by kernel_rfl) (by kernel_rfl) (by kernel_rfl) ?hQ (Or.inl ⟨by rfl, ?hyu6_7⟩) hH ?restu6_7
            case hQ => exact fun _ _ _ h => h
            case hyu6_7 => (intro Y hY; obtain ⟨y0, y1, y2, y3⟩ := hY; go_simp; try (with_reducible rfl))
            try simp only [Act.put, List.setIfInBounds_toArray, List.set_cons_zero, List.set_cons_succ]
            refine wpAnyH_ready (rs := [7, 11]) (by kernel_rfl) (by simp) ?_
            refine AllReadyH.cons (by (conv => lhs; simp only [List.getElem?_toArray, List.getElem?_cons_succ, List.getElem?_cons_zero])) (fun K hK => ?_) (AllReadyH.cons (by (conv => lhs; simp only [List.getElem?_toArray, List.getElem?_cons_succ, List.getElem?_cons_zero])) (fun K hK => ?_) AllReadyH.nil)
            · go_simp
              go_at_call 9; refine (cP.out _ QD BD).mono ?_; rintro e w3 ⟨n3, d3, er3, c3, S3, rfl, hq3, hpt, hne, s3, n3', hb3⟩
              have ho3 := OD.sav s3 HD.out
              have hd3 := apart_step OD HD.out n3'
              have lP := (Array.getElem?_eq_some_iff.1 DP).1
              have rP := (s3.block P lP NP.out).trans DP
              have nP : ¬ S3 P := fun e => NP.out (n3' _ lP e)
              refine hK.out _ _ (KS.out _ hb3 rP) (fun hH1 => ?_)
              clear hK hH
              try simp only [Act.put, List.setIfInBounds_toArray, List.set_cons_zero, List.set_cons_succ]
              refine wpAnyH_take (i := 8) (v := ?vua8_1) (by (conv => lhs; simp only [List.getElem?_toArray, List.getElem?_cons_succ, List.getElem?_cons_zero])) (by kernel_rfl) (by kernel_rfl) (by kernel_rfl) ?hQ (Or.inl ⟨by rfl, ?hyua8_1⟩) hH1 ?restua8_1
              case hQ => exact fun _ _ _ h => h
              case hyua8_1 => (intro Y hY; obtain ⟨y0, y1, y2, y3⟩ := hY; go_simp; try (with_reducible rfl))
              try simp only [Act.put, List.setIfInBounds_toArray, List.set_cons_zero, List.set_cons_succ]
              refine wpAnyH_take (i := 9) (v := ?vua9_2) (by (conv => lhs; simp only [List.getElem?_toArray, List.getElem?_cons_succ, List.getElem?_cons_zero])) (by kernel_rfl) (by kernel_rfl) (by kernel_rfl) ?hQ (Or.inl ⟨by rfl, ?hyua9_2⟩) hH1 ?restua9_2
              case hQ => exact fun _ _ _ h => h
              case hyua9_2 => (intro Y hY; obtain ⟨y0, y1, y2, y3⟩ := hY; go_simp; try (with_reducible rfl))
              try simp only [Act.put, List.setIfInBounds_toArray, List.set_cons_zero, List.set_cons_succ]
              refine wpAnyH_take (i := 10) (v := ?vua10_3) (by (conv => lhs; simp only [List.getElem?_toArray, List.getElem?_cons_succ, List.getElem?_cons_zero])) (by kernel_rfl) (by kernel_rfl) (by kernel_rfl) ?hQ (Or.inl ⟨by rfl, ?hyua10_3⟩) hH1 ?restua10_3
              case hQ => exact fun _ _ _ h => h
              case hyua10_3 => (intro Y hY; obtain ⟨y0, y1, y2, y3⟩ := hY; go_simp; try (with_reducible rfl))
              try simp only [Act.put, List.setIfInBounds_toArray, List.set_cons_zero, List.set_cons_succ]
              refine wpAnyH_ready (rs := [11]) (by kernel_rfl) (by simp) ?_
              refine AllReadyH.cons (by (conv => lhs; simp only [List.getElem?_toArray, List.getElem?_cons_succ, List.getElem?_cons_zero])) (fun K hK => ?_) AllReadyH.nil
              go_simp
              obtain ⟨W4, hW4⟩ : ∃ W, w3.alloc (.cells #[.int .i64 0, .int .i64 0] 35) = W := ⟨_, rfl⟩
              have b4 : Below w3.heap.size w3 W4 := by rw [← hW4]; exact below_new (Below.refl _ _) _
              have row4 : W4.heap[w3.heap.size]? = some (.cells #[.int .i64 0, .int .i64 0] 35 (0, 0)) := by rw [← hW4]; exact heap_alloc_new w3 _
              rw [hW4]
              have B4 := hb3.trans (b4.mono hb3.size)
              have Q4 := hq3.below b4
              have O4 := ho3.below b4
              have nS : ¬ S3 w3.heap.size := fun e => by have := hq3.lt e; omega
              have nO : ¬ S2 w3.heap.size := fun e => by have := ho3.lt e; omega
              have hge : W0.heap.size ≤ w3.heap.size := hb3.size
              have kP := (Array.getElem?_eq_some_iff.1 rP).1
              have qP := (b4.block P kP).trans rP
              have xP : P ≠ w3.heap.size := by omega
              refine hK.out _ _ (KS.out _ B4 qP) (fun hH2 => ?_)
              clear hK hH1
              try simp only [Act.put, List.setIfInBounds_toArray, List.set_cons_zero, List.set_cons_succ]
              refine wpAnyH_ready (rs := [12]) (by kernel_rfl) (by simp) ?_
              refine AllReadyH.cons (by (conv => lhs; simp only [List.getElem?_toArray, List.getElem?_cons_succ, List.getElem?_cons_zero])) (fun K hK => ?_) AllReadyH.nil
              rw [if_pos (by rfl)]
              have hrow := row4
              refine wp_store_row 35 (.tmp 13) (.tmp 97) (by rfl) w3.heap.size #[.int .i64 n3, .int .i64 d3] (by rfl) (by rfl) _ _ hrow (by kernel_rfl) (by rfl) (by simp [Value.oneCell']) ?_
              have hrow2 := setRow_heap W4 w3.heap.size _ #[.int .i64 n3, .int .i64 d3] _ _ hrow
              have bz := below_setRowV B4 hge #[.int .i64 n3, .int .i64 d3]
              have qz := Q4.keep (W' := W4.setRow w3.heap.size #[.int .i64 n3, .int .i64 d3]) (fun k hk => setRow_other _ _ _ _ (fun e => nS (e ▸ hk)))
              have oz := O4.keep (W' := W4.setRow w3.heap.size #[.int .i64 n3, .int .i64 d3]) (fun k hk => setRow_other _ _ _ _ (fun e => nO (e ▸ hk)))
              have zP := (setRow_other W4 w3.heap.size P #[.int .i64 n3, .int .i64 d3] (fun e => xP e)).trans qP
              refine hK.out _ _ (KS.out _ bz zP) (fun hHz => ?_)
              clear hK hH2
              try simp only [Act.put]
              refine wpAnyH_take (i := 13) (v := ?vub13_1) (by (conv => lhs; simp only [List.getElem?_toArray, List.getElem?_cons_succ, List.getElem?_cons_zero])) (by kernel_rfl) (by kernel_rfl) (by kernel_rfl) ?hQ (Or.inl ⟨by rfl, ?hyub13_1⟩) hHz ?restub13_1
              case hQ => exact fun _ _ _ h => h
              case hyub13_1 => (intro Y hY; obtain ⟨y0, y1, y2, y3⟩ := hY; go_simp; try (with_reducible rfl))
              try simp only [Act.put, List.setIfInBounds_toArray, List.set_cons_zero, List.set_cons_succ]
              refine wpAnyH_done (by kernel_rfl) (?_) _
              clear hHz
              go_wp2_with fail
              go_meet
              exact ⟨w3.heap.size, S3, n3, d3, er3, c3, rfl, rfl, hrow2, zP, qz, oz, hd3, bz, hpt, hne, nO, NP2.out⟩
            · go_simp
              obtain ⟨W4, hW4⟩ : ∃ W, WD.alloc (.cells #[.int .i64 0, .int .i64 0] 35) = W := ⟨_, rfl⟩
              have b4 : Below WD.heap.size WD W4 := by rw [← hW4]; exact below_new (Below.refl _ _) _
              have row4 : W4.heap[WD.heap.size]? = some (.cells #[.int .i64 0, .int .i64 0] 35 (0, 0)) := by rw [← hW4]; exact heap_alloc_new WD _
              have lt4 : WD.heap.size < W4.heap.size := by rw [← hW4]; simp
              rw [hW4]
              have B4 := BD.trans (b4.mono BD.size)
              have Q4 := QD.below b4
              have O4 := OD.below b4
              have nS4 : ¬ S WD.heap.size := fun e => by have := QD.lt e; omega
              have nO : ¬ S2 WD.heap.size := fun e => by have := OD.lt e; omega
              have hge : W0.heap.size ≤ WD.heap.size := BD.size
              have kP := (Array.getElem?_eq_some_iff.1 DP).1
              have EP := (b4.block P kP).trans DP
              have xP : P ≠ WD.heap.size := by omega
              refine hK.out _ _ (KS.out _ B4 EP) (fun hH2 => ?_)
              clear hK hH
              try simp only [Act.put, List.setIfInBounds_toArray, List.set_cons_zero, List.set_cons_succ]
              refine wpAnyH_ready (rs := [7]) (by kernel_rfl) (by simp) ?_
              refine AllReadyH.cons (by (conv => lhs; simp only [List.getElem?_toArray, List.getElem?_cons_succ, List.getElem?_cons_zero])) (fun K hK => ?_) AllReadyH.nil
              go_simp
              go_at_call 9; refine (cP.out _ Q4 B4).mono ?_; rintro e w3 ⟨n3, d3, er3, c3, S3, rfl, hq3, hpt, hne, s3, n3', hb3⟩
              have ho3 := O4.sav s3 HD.out
              have hd3 := apart_step O4 HD.out n3'
              have lP := (Array.getElem?_eq_some_iff.1 EP).1
              have rP := (s3.block P lP NP.out).trans EP
              have nP : ¬ S3 P := fun e => NP.out (n3' _ lP e)
              have row3 := (s3.block _ lt4 nS4).trans row4
              have nS : ¬ S3 WD.heap.size := fun e => nS4 (n3' _ lt4 e)
              have qP := rP
              refine hK.out _ _ (KS.out _ hb3 rP) (fun hH3 => ?_)
              clear hK hH2
              try simp only [Act.put, List.setIfInBounds_toArray, List.set_cons_zero, List.set_cons_succ]
              refine wpAnyH_take (i := 8) (v := ?vud8_1) (by (conv => lhs; simp only [List.getElem?_toArray, List.getElem?_cons_succ, List.getElem?_cons_zero])) (by kernel_rfl) (by kernel_rfl) (by kernel_rfl) ?hQ (Or.inl ⟨by rfl, ?hyud8_1⟩) hH3 ?restud8_1
              case hQ => exact fun _ _ _ h => h
              case hyud8_1 => (intro Y hY; obtain ⟨y0, y1, y2, y3⟩ := hY; go_simp; try (with_reducible rfl))
              try simp only [Act.put, List.setIfInBounds_toArray, List.set_cons_zero, List.set_cons_succ]
              refine wpAnyH_take (i := 9) (v := ?vud9_2) (by (conv => lhs; simp only [List.getElem?_toArray, List.getElem?_cons_succ, List.getElem?_cons_zero])) (by kernel_rfl) (by kernel_rfl) (by kernel_rfl) ?hQ (Or.inl ⟨by rfl, ?hyud9_2⟩) hH3 ?restud9_2
              case hQ => exact fun _ _ _ h => h
              case hyud9_2 => (intro Y hY; obtain ⟨y0, y1, y2, y3⟩ := hY; go_simp; try (with_reducible rfl))
              try simp only [Act.put, List.setIfInBounds_toArray, List.set_cons_zero, List.set_cons_succ]
              refine wpAnyH_take (i := 10) (v := ?vud10_3) (by (conv => lhs; simp only [List.getElem?_toArray, List.getElem?_cons_succ, List.getElem?_cons_zero])) (by kernel_rfl) (by kernel_rfl) (by kernel_rfl) ?hQ (Or.inl ⟨by rfl, ?hyud10_3⟩) hH3 ?restud10_3
              case hQ => exact fun _ _ _ h => h
              case hyud10_3 => (intro Y hY; obtain ⟨y0, y1, y2, y3⟩ := hY; go_simp; try (with_reducible rfl))
              try simp only [Act.put, List.setIfInBounds_toArray, List.set_cons_zero, List.set_cons_succ]
              refine wpAnyH_ready (rs := [12]) (by kernel_rfl) (by simp) ?_
              refine AllReadyH.cons (by (conv => lhs; simp only [List.getElem?_toArray, List.getElem?_cons_succ, List.getElem?_cons_zero])) (fun K hK => ?_) AllReadyH.nil
              rw [if_pos (by rfl)]
              have hrow := row3
              refine wp_store_row 35 (.tmp 13) (.tmp 97) (by rfl) WD.heap.size #[.int .i64 n3, .int .i64 d3] (by rfl) (by rfl) _ _ hrow (by kernel_rfl) (by rfl) (by simp [Value.oneCell']) ?_
              have hrow2 := setRow_heap w3 WD.heap.size _ #[.int .i64 n3, .int .i64 d3] _ _ hrow
              have bz := below_setRowV hb3 hge #[.int .i64 n3, .int .i64 d3]
              have qz := hq3.keep (W' := w3.setRow WD.heap.size #[.int .i64 n3, .int .i64 d3]) (fun k hk => setRow_other _ _ _ _ (fun e => nS (e ▸ hk)))
              have oz := ho3.keep (W' := w3.setRow WD.heap.size #[.int .i64 n3, .int .i64 d3]) (fun k hk => setRow_other _ _ _ _ (fun e => nO (e ▸ hk)))
              have zP := (setRow_other w3 WD.heap.size P #[.int .i64 n3, .int .i64 d3] (fun e => xP e)).trans qP
              refine hK.out _ _ (KS.out _ bz zP) (fun hHz => ?_)
              clear hK hH3
              try simp only [Act.put]
              refine wpAnyH_take (i := 13) (v := ?vue13_1) (by (conv => lhs; simp only [List.getElem?_toArray, List.getElem?_cons_succ, List.getElem?_cons_zero])) (by kernel_rfl) (by kernel_rfl) (by kernel_rfl) ?hQ (Or.inl ⟨by rfl, ?hyue13_1⟩) hHz ?restue13_1
              case hQ => exact fun _ _ _ h => h
              case hyue13_1 => (intro Y hY; obtain ⟨y0, y1, y2, y3⟩ := hY; go_simp; try (with_reducible rfl))
              try simp only [Act.put, List.setIfInBounds_toArray, List.set_cons_zero, List.set_cons_succ]
              refine wpAnyH_done (by kernel_rfl) (?_) _
              clear hHz
              go_wp2_with fail
              go_meet
              exact ⟨WD.heap.size, S3, n3, d3, er3, c3, rfl, rfl, hrow2, zP, qz, oz, hd3, bz, hpt, hne, nO, NP2.out⟩
          case rest =>
            rename_i hKc
            obtain ⟨wz, rfl⟩ : ∃ w7 : World, w7 = wc := ⟨_, rfl⟩
            obtain ⟨R, S', n, d, er, c', rfl, rfl, hrR, hrP, hq, ho, hd, hb, hpt, hne, nR, nP⟩ := hcut
            have ROWR := hidd hrR
            have ROWP5 := hidd hrP
            have HQ5 := hidd hq
            have HO5 := hidd ho
            have HD5 := hidd (fun k (h1 : S2 k) (h2 : S' k) => hd k h2 h1)
            have B5 := hidd hb
            have PT5 := hidd hpt
            have NE5 := hidd hne
            have NR25 := hidd nR
            have NP25 := hidd nP
            have p1 : wz.cell? ⟨P, 1, none⟩ = some (.int .i64 fl) := by simp [World.cell?, hrP]
            obtain ⟨x00, x01⟩ := KX.out _ hb
            clear hrR hrP hq ho hd hb hpt hne nR nP ROWP B2 HQ2 HO2 NP NP2 cP HD
            refine hKc _ _ ?_
            refine Go.wp_seq_k (fun K8 hK8 => ?_)
            go_cut [] (fun wy => ∃ S5 : Nat → Prop, QQ rt x0 ((i : Int) + 1) last c' W0 S' wy q ∧ QQ rt x0 ((i : Int) + 1) 0 c' W0 S5 wy o ∧ (∀ k, S' k → ¬ S5 k) ∧ Below W0.heap.size W0 wy)
            case first =>
              by_cases hfx : fl = x0
              · have cP := hidd (fun (Y : World) (h : QQ rt x0 (i : Int) 0 cc W0 S2 Y o) (b : Below W0.heap.size W0 Y) => putQQ h b HR.out (by omega) (by omega) (by omega) fl z now)
                go_wp2_with fail
                have HFX := hidd hfx
                clear x00 x01 p1 hfx
                go_cut [15, 16] (fun s15 s16 wy => ∃ (R2 : Nat) (S5 : Nat → Prop) (n2 d2 er2 c2 : Int), s15 = .pointer (some ⟨R2, 0, none⟩) ∧ s16 = .int .i64 er2 ∧ wy.heap[R2]? = some (.cells #[.int .i64 n2, .int .i64 d2] 35 (0, 0)) ∧ wy.heap[R]? = some (.cells #[.int .i64 n, .int .i64 d] 35 (0, 0)) ∧ QQ rt x0 ((i : Int) + 1) 0 c2 W0 S5 wy o ∧ QQ rt x0 ((i : Int) + 1) last c' W0 S' wy q ∧ (∀ k, S' k → ¬ S5 k) ∧ Below W0.heap.size W0 wy ∧ (fl = x0 → (n2, d2, er2, c2) = PT cc (rt x0) (packB ((i : Int) + 1) fl z && tickB now) now z))
                case first =>
                  refine wp_region_held_drew (S := (fun Y => TA ad i P ((i : Int) + 1) fl z now Y)) (by kernel_rfl) (KS.out _ (Below.drew B5.out) ROWP5.out) (fun hH => ?_)
                  obtain ⟨WD, hWD⟩ : ∃ WD, wz.drew = WD := ⟨_, rfl⟩
                  have BD : Below W0.heap.size W0 WD := by rw [← hWD]; exact Below.drew B5.out
                  have QD := HO5.out.below (show Below wz.heap.size wz WD from by rw [← hWD]; exact Below.drew (Below.refl _ _))
                  have OD := HQ5.out.below (show Below wz.heap.size wz WD from by rw [← hWD]; exact Below.drew (Below.refl _ _))
                  have dP := ROWP5.out
                  have eP := congrArg (fun x : World => x.heap[P]?) hWD
                  have DP := eP.symm.trans (show wz.drew.heap[P]? = _ from dP)
                  clear dP eP
                  have dR := ROWR.out
                  have eR := congrArg (fun x : World => x.heap[R]?) hWD
                  have DR := eR.symm.trans (show wz.drew.heap[R]? = _ from dR)
                  clear dR eR
                  rw [hWD] at hH
                  rw [hWD]
                  clear hWD
                  refine wpAnyH_take (i := 0) (v := ?vt0_1) (by (conv => lhs; simp only [List.getElem?_toArray, List.getElem?_cons_succ, List.getElem?_cons_zero])) (by kernel_rfl) (by kernel_rfl) (by kernel_rfl) ?hQ (Or.inl ⟨by rfl, ?hyt0_1⟩) hH ?restt0_1
                  case hQ => exact fun _ _ _ h => h
                  case hyt0_1 => (intro Y hY; obtain ⟨y0, y1, y2, y3⟩ := hY; go_simp; try (with_reducible rfl))
                  try simp only [Act.put, List.setIfInBounds_toArray, List.set_cons_zero, List.set_cons_succ]
                  refine wpAnyH_take (i := 1) (v := ?vt1_2) (by (conv => lhs; simp only [List.getElem?_toArray, List.getElem?_cons_succ, List.getElem?_cons_zero])) (by kernel_rfl) (by kernel_rfl) (by kernel_rfl) ?hQ (Or.inl ⟨by rfl, ?hyt1_2⟩) hH ?restt1_2
                  case hQ => exact fun _ _ _ h => h
                  case hyt1_2 => (intro Y hY; obtain ⟨y0, y1, y2, y3⟩ := hY; go_simp; try (with_reducible rfl))
                  try simp only [Act.put, List.setIfInBounds_toArray, List.set_cons_zero, List.set_cons_succ]
                  refine wpAnyH_take (i := 2) (v := ?vt2_3) (by (conv => lhs; simp only [List.getElem?_toArray, List.getElem?_cons_succ, List.getElem?_cons_zero])) (by kernel_rfl) (by kernel_rfl) (by kernel_rfl) ?hQ (Or.inl ⟨by rfl, ?hyt2_3⟩) hH ?restt2_3
                  case hQ => exact fun _ _ _ h => h
                  case hyt2_3 => (intro Y hY; obtain ⟨y0, y1, y2, y3⟩ := hY; go_simp; try (with_reducible rfl))
                  try simp only [Act.put, List.setIfInBounds_toArray, List.set_cons_zero, List.set_cons_succ]
                  refine wpAnyH_take (i := 3) (v := ?vt3_4) (by (conv => lhs; simp only [List.getElem?_toArray, List.getElem?_cons_succ, List.getElem?_cons_zero])) (by kernel_rfl) (by kernel_rfl) (by kernel_rfl) ?hQ (Or.inl ⟨by rfl, ?hyt3_4⟩) hH ?restt3_4
                  case hQ => exact fun _ _ _ h => h
                  case hyt3_4 => (intro Y hY; obtain ⟨y0, y1, y2, y3⟩ := hY; go_simp; try (with_reducible rfl))
                  try simp only [Act.put, List.setIfInBounds_toArray, List.set_cons_zero, List.set_cons_succ]
                  refine wpAnyH_take (i := 4) (v := ?vt4_5) (by (conv => lhs; simp only [List.getElem?_toArray, List.getElem?_cons_succ, List.getElem?_cons_zero])) (by kernel_rfl) (by kernel_rfl) (by kernel_rfl) ?hQ (Or.inl ⟨by rfl, ?hyt4_5⟩) hH ?restt4_5
                  case hQ => exact fun _ _ _ h => h
                  case hyt4_5 => (intro Y hY; obtain ⟨y0, y1, y2, y3⟩ := hY; go_simp; try (with_reducible rfl))
                  try simp only [Act.put, List.setIfInBounds_toArray, List.set_cons_zero, List.set_cons_succ]
                  refine wpAnyH_take (i := 5) (v := ?vt5_6) (by (conv => lhs; simp only [List.getElem?_toArray, List.getElem?_cons_succ, List.getElem?_cons_zero])) (by kernel_rfl) (by kernel_rfl) (by kernel_rfl) ?hQ (Or.inl ⟨by rfl, ?hyt5_6⟩) hH ?restt5_6
                  case hQ => exact fun _ _ _ h => h
                  case hyt5_6 => (intro Y hY; obtain ⟨y0, y1, y2, y3⟩ := hY; go_simp; try (with_reducible rfl))
                  try simp only [Act.put, List.setIfInBounds_toArray, List.set_cons_zero, List.set_cons_succ]
                  refine wpAnyH_take (i := 6) (v := ?vt6_7) (by (conv => lhs; simp only [List.getElem?_toArray, List.getElem?_cons_succ, List.getElem?_cons_zero])) (by kernel_rfl) (by kernel_rfl) (by kernel_rfl) ?hQ (Or.inl ⟨by rfl, ?hyt6_7⟩) hH ?restt6_7
                  case hQ => exact fun _ _ _ h => h
                  case hyt6_7 => (intro Y hY; obtain ⟨y0, y1, y2, y3⟩ := hY; go_simp; try (with_reducible rfl))
                  try simp only [Act.put, List.setIfInBounds_toArray, List.set_cons_zero, List.set_cons_succ]
                  refine wpAnyH_ready (rs := [7, 11]) (by kernel_rfl) (by simp) ?_
                  refine AllReadyH.cons (by (conv => lhs; simp only [List.getElem?_toArray, List.getElem?_cons_succ, List.getElem?_cons_zero])) (fun K hK => ?_) (AllReadyH.cons (by (conv => lhs; simp only [List.getElem?_toArray, List.getElem?_cons_succ, List.getElem?_cons_zero])) (fun K hK => ?_) AllReadyH.nil)
                  · go_simp
                    go_at_call 9; refine (cP.out _ QD BD).mono ?_; rintro e w3 ⟨n3, d3, er3, c3, S3, rfl, hq3, hpt, hne, s3, n3', hb3⟩
                    have ho3 := OD.sav s3 HD5.out
                    have hd3 := apart_step OD HD5.out n3'
                    have lP := (Array.getElem?_eq_some_iff.1 DP).1
                    have rP := (s3.block P lP NP25.out).trans DP
                    have nP : ¬ S3 P := fun e => NP25.out (n3' _ lP e)
                    have lR := (Array.getElem?_eq_some_iff.1 DR).1
                    have rR := (s3.block R lR NR25.out).trans DR
                    have nR : ¬ S3 R := fun e => NR25.out (n3' _ lR e)
                    refine hK.out _ _ (KS.out _ hb3 rP) (fun hH1 => ?_)
                    clear hK hH
                    try simp only [Act.put, List.setIfInBounds_toArray, List.set_cons_zero, List.set_cons_succ]
                    refine wpAnyH_take (i := 8) (v := ?vta8_1) (by (conv => lhs; simp only [List.getElem?_toArray, List.getElem?_cons_succ, List.getElem?_cons_zero])) (by kernel_rfl) (by kernel_rfl) (by kernel_rfl) ?hQ (Or.inl ⟨by rfl, ?hyta8_1⟩) hH1 ?restta8_1
                    case hQ => exact fun _ _ _ h => h
                    case hyta8_1 => (intro Y hY; obtain ⟨y0, y1, y2, y3⟩ := hY; go_simp; try (with_reducible rfl))
                    try simp only [Act.put, List.setIfInBounds_toArray, List.set_cons_zero, List.set_cons_succ]
                    refine wpAnyH_take (i := 9) (v := ?vta9_2) (by (conv => lhs; simp only [List.getElem?_toArray, List.getElem?_cons_succ, List.getElem?_cons_zero])) (by kernel_rfl) (by kernel_rfl) (by kernel_rfl) ?hQ (Or.inl ⟨by rfl, ?hyta9_2⟩) hH1 ?restta9_2
                    case hQ => exact fun _ _ _ h => h
                    case hyta9_2 => (intro Y hY; obtain ⟨y0, y1, y2, y3⟩ := hY; go_simp; try (with_reducible rfl))
                    try simp only [Act.put, List.setIfInBounds_toArray, List.set_cons_zero, List.set_cons_succ]
                    refine wpAnyH_take (i := 10) (v := ?vta10_3) (by (conv => lhs; simp only [List.getElem?_toArray, List.getElem?_cons_succ, List.getElem?_cons_zero])) (by kernel_rfl) (by kernel_rfl) (by kernel_rfl) ?hQ (Or.inl ⟨by rfl, ?hyta10_3⟩) hH1 ?restta10_3
                    case hQ => exact fun _ _ _ h => h
                    case hyta10_3 => (intro Y hY; obtain ⟨y0, y1, y2, y3⟩ := hY; go_simp; try (with_reducible rfl))
                    try simp only [Act.put, List.setIfInBounds_toArray, List.set_cons_zero, List.set_cons_succ]
                    refine wpAnyH_ready (rs := [11]) (by kernel_rfl) (by simp) ?_
                    refine AllReadyH.cons (by (conv => lhs; simp only [List.getElem?_toArray, List.getElem?_cons_succ, List.getElem?_cons_zero])) (fun K hK => ?_) AllReadyH.nil
                    go_simp
                    obtain ⟨W4, hW4⟩ : ∃ W, w3.alloc (.cells #[.int .i64 0, .int .i64 0] 35) = W := ⟨_, rfl⟩
                    have b4 : Below w3.heap.size w3 W4 := by rw [← hW4]; exact below_new (Below.refl _ _) _
                    have row4 : W4.heap[w3.heap.size]? = some (.cells #[.int .i64 0, .int .i64 0] 35 (0, 0)) := by rw [← hW4]; exact heap_alloc_new w3 _
                    rw [hW4]
                    have B4 := hb3.trans (b4.mono hb3.size)
                    have Q4 := hq3.below b4
                    have O4 := ho3.below b4
                    have nS : ¬ S3 w3.heap.size := fun e => by have := hq3.lt e; omega
                    have nO : ¬ S' w3.heap.size := fun e => by have := ho3.lt e; omega
                    have hge : W0.heap.size ≤ w3.heap.size := hb3.size
                    have kP := (Array.getElem?_eq_some_iff.1 rP).1
                    have qP := (b4.block P kP).trans rP
                    have xP : P ≠ w3.heap.size := by omega
                    have kR := (Array.getElem?_eq_some_iff.1 rR).1
                    have qR := (b4.block R kR).trans rR
                    have xR : R ≠ w3.heap.size := by omega
                    refine hK.out _ _ (KS.out _ B4 qP) (fun hH2 => ?_)
                    clear hK hH1
                    try simp only [Act.put, List.setIfInBounds_toArray, List.set_cons_zero, List.set_cons_succ]
                    refine wpAnyH_ready (rs := [12]) (by kernel_rfl) (by simp) ?_
                    refine AllReadyH.cons (by (conv => lhs; simp only [List.getElem?_toArray, List.getElem?_cons_succ, List.getElem?_cons_zero])) (fun K hK => ?_) AllReadyH.nil
                    rw [if_pos (by rfl)]
                    have hrow := row4
                    refine wp_store_row 35 (.tmp 15) (.tmp 113) (by rfl) w3.heap.size #[.int .i64 n3, .int .i64 d3] (by rfl) (by rfl) _ _ hrow (by kernel_rfl) (by rfl) (by simp [Value.oneCell']) ?_
                    have hrow2 := setRow_heap W4 w3.heap.size _ #[.int .i64 n3, .int .i64 d3] _ _ hrow
                    have bz := below_setRowV B4 hge #[.int .i64 n3, .int .i64 d3]
                    have qz := Q4.keep (W' := W4.setRow w3.heap.size #[.int .i64 n3, .int .i64 d3]) (fun k hk => setRow_other _ _ _ _ (fun e => nS (e ▸ hk)))
                    have oz := O4.keep (W' := W4.setRow w3.heap.size #[.int .i64 n3, .int .i64 d3]) (fun k hk => setRow_other _ _ _ _ (fun e => nO (e ▸ hk)))
                    have zP := (setRow_other W4 w3.heap.size P #[.int .i64 n3, .int .i64 d3] (fun e => xP e)).trans qP
                    have zR := (setRow_other W4 w3.heap.size R #[.int .i64 n3, .int .i64 d3] (fun e => xR e)).trans qR
                    refine hK.out _ _ (KS.out _ bz zP) (fun hHz => ?_)
                    clear hK hH2
                    try simp only [Act.put]
                    refine wpAnyH_take (i := 13) (v := ?vtb13_1) (by (conv => lhs; simp only [List.getElem?_toArray, List.getElem?_cons_succ, List.getElem?_cons_zero])) (by kernel_rfl) (by kernel_rfl) (by kernel_rfl) ?hQ (Or.inl ⟨by rfl, ?hytb13_1⟩) hHz ?resttb13_1
                    case hQ => exact fun _ _ _ h => h
                    case hytb13_1 => (intro Y hY; obtain ⟨y0, y1, y2, y3⟩ := hY; go_simp; try (with_reducible rfl))
                    try simp only [Act.put, List.setIfInBounds_toArray, List.set_cons_zero, List.set_cons_succ]
                    refine wpAnyH_done (by kernel_rfl) (?_) _
                    clear hHz
                    go_wp2_with fail
                    go_meet
                    exact ⟨w3.heap.size, S3, n3, d3, er3, c3, rfl, rfl, hrow2, zR, qz, oz, fun k h1 h2 => hd3 k h2 h1, bz, hpt⟩
                  · go_simp
                    obtain ⟨W4, hW4⟩ : ∃ W, WD.alloc (.cells #[.int .i64 0, .int .i64 0] 35) = W := ⟨_, rfl⟩
                    have b4 : Below WD.heap.size WD W4 := by rw [← hW4]; exact below_new (Below.refl _ _) _
                    have row4 : W4.heap[WD.heap.size]? = some (.cells #[.int .i64 0, .int .i64 0] 35 (0, 0)) := by rw [← hW4]; exact heap_alloc_new WD _
                    have lt4 : WD.heap.size < W4.heap.size := by rw [← hW4]; simp
                    rw [hW4]
                    have B4 := BD.trans (b4.mono BD.size)
                    have Q4 := QD.below b4
                    have O4 := OD.below b4
                    have nS4 : ¬ S2 WD.heap.size := fun e => by have := QD.lt e; omega
                    have nO : ¬ S' WD.heap.size := fun e => by have := OD.lt e; omega
                    have hge : W0.heap.size ≤ WD.heap.size := BD.size
                    have kP := (Array.getElem?_eq_some_iff.1 DP).1
                    have EP := (b4.block P kP).trans DP
                    have xP : P ≠ WD.heap.size := by omega
                    have kR := (Array.getElem?_eq_some_iff.1 DR).1
                    have ER := (b4.block R kR).trans DR
                    have xR : R ≠ WD.heap.size := by omega
                    refine hK.out _ _ (KS.out _ B4 EP) (fun hH2 => ?_)
                    clear hK hH
                    try simp only [Act.put, List.setIfInBounds_toArray, List.set_cons_zero, List.set_cons_succ]
                    refine wpAnyH_ready (rs := [7]) (by kernel_rfl) (by simp) ?_
                    refine AllReadyH.cons (by (conv => lhs; simp only [List.getElem?_toArray, List.getElem?_cons_succ, List.getElem?_cons_zero])) (fun K hK => ?_) AllReadyH.nil
                    go_simp
                    go_at_call 9; refine (cP.out _ Q4 B4).mono ?_; rintro e w3 ⟨n3, d3, er3, c3, S3, rfl, hq3, hpt, hne, s3, n3', hb3⟩
                    have ho3 := O4.sav s3 HD5.out
                    have hd3 := apart_step O4 HD5.out n3'
                    have lP := (Array.getElem?_eq_some_iff.1 EP).1
                    have rP := (s3.block P lP NP25.out).trans EP
                    have nP : ¬ S3 P := fun e => NP25.out (n3' _ lP e)
                    have lR := (Array.getElem?_eq_some_iff.1 ER).1
                    have rR := (s3.block R lR NR25.out).trans ER
                    have nR : ¬ S3 R := fun e => NR25.out (n3' _ lR e)
                    have row3 := (s3.block _ lt4 nS4).trans row4
                    have nS : ¬ S3 WD.heap.size := fun e => nS4 (n3' _ lt4 e)
                    have qP := rP
                    have qR := rR
                    refine hK.out _ _ (KS.out _ hb3 rP) (fun hH3 => ?_)
                    clear hK hH2
                    try simp only [Act.put, List.setIfInBounds_toArray, List.set_cons_zero, List.set_cons_succ]
                    refine wpAnyH_take (i := 8) (v := ?vtd8_1) (by (conv => lhs; simp only [List.getElem?_toArray, List.getElem?_cons_succ, List.getElem?_cons_zero])) (by kernel_rfl) (by kernel_rfl) (by kernel_rfl) ?hQ (Or.inl ⟨by rfl, ?hytd8_1⟩) hH3 ?resttd8_1
                    case hQ => exact fun _ _ _ h => h
                    case hytd8_1 => (intro Y hY; obtain ⟨y0, y1, y2, y3⟩ := hY; go_simp; try (with_reducible rfl))
                    try simp only [Act.put, List.setIfInBounds_toArray, List.set_cons_zero, List.set_cons_succ]
                    refine wpAnyH_take (i := 9) (v := ?vtd9_2) (by (conv => lhs; simp only [List.getElem?_toArray, List.getElem?_cons_succ, List.getElem?_cons_zero])) (by kernel_rfl) (by kernel_rfl) (by kernel_rfl) ?hQ (Or.inl ⟨by rfl, ?hytd9_2⟩) hH3 ?resttd9_2
                    case hQ => exact fun _ _ _ h => h
                    case hytd9_2 => (intro Y hY; obtain ⟨y0, y1, y2, y3⟩ := hY; go_simp; try (with_reducible rfl))
                    try simp only [Act.put, List.setIfInBounds_toArray, List.set_cons_zero, List.set_cons_succ]
                    refine wpAnyH_take (i := 10) (v := ?vtd10_3) (by (conv => lhs; simp only [List.getElem?_toArray, List.getElem?_cons_succ, List.getElem?_cons_zero])) (by kernel_rfl) (by kernel_rfl) (by kernel_rfl) ?hQ (Or.inl ⟨by rfl, ?hytd10_3⟩) hH3 ?resttd10_3
                    case hQ => exact fun _ _ _ h => h
                    case hytd10_3 => (intro Y hY; obtain ⟨y0, y1, y2, y3⟩ := hY; go_simp; try (with_reducible rfl))
                    try simp only [Act.put, List.setIfInBounds_toArray, List.set_cons_zero, List.set_cons_succ]
                    refine wpAnyH_ready (rs := [12]) (by kernel_rfl) (by simp) ?_
                    refine AllReadyH.cons (by (conv => lhs; simp only [List.getElem?_toArray, List.getElem?_cons_succ, List.getElem?_cons_zero])) (fun K hK => ?_) AllReadyH.nil
                    rw [if_pos (by rfl)]
                    have hrow := row3
                    refine wp_store_row 35 (.tmp 15) (.tmp 113) (by rfl) WD.heap.size #[.int .i64 n3, .int .i64 d3] (by rfl) (by rfl) _ _ hrow (by kernel_rfl) (by rfl) (by simp [Value.oneCell']) ?_
                    have hrow2 := setRow_heap w3 WD.heap.size _ #[.int .i64 n3, .int .i64 d3] _ _ hrow
                    have bz := below_setRowV hb3 hge #[.int .i64 n3, .int .i64 d3]
                    have qz := hq3.keep (W' := w3.setRow WD.heap.size #[.int .i64 n3, .int .i64 d3]) (fun k hk => setRow_other _ _ _ _ (fun e => nS (e ▸ hk)))
                    have oz := ho3.keep (W' := w3.setRow WD.heap.size #[.int .i64 n3, .int .i64 d3]) (fun k hk => setRow_other _ _ _ _ (fun e => nO (e ▸ hk)))
                    have zP := (setRow_other w3 WD.heap.size P #[.int .i64 n3, .int .i64 d3] (fun e => xP e)).trans qP
                    have zR := (setRow_other w3 WD.heap.size R #[.int .i64 n3, .int .i64 d3] (fun e => xR e)).trans qR
                    refine hK.out _ _ (KS.out _ bz zP) (fun hHz => ?_)
                    clear hK hH3
                    try simp only [Act.put]
                    refine wpAnyH_take (i := 13) (v := ?vte13_1) (by (conv => lhs; simp only [List.getElem?_toArray, List.getElem?_cons_succ, List.getElem?_cons_zero])) (by kernel_rfl) (by kernel_rfl) (by kernel_rfl) ?hQ (Or.inl ⟨by rfl, ?hyte13_1⟩) hHz ?restte13_1
                    case hQ => exact fun _ _ _ h => h
                    case hyte13_1 => (intro Y hY; obtain ⟨y0, y1, y2, y3⟩ := hY; go_simp; try (with_reducible rfl))
                    try simp only [Act.put, List.setIfInBounds_toArray, List.set_cons_zero, List.set_cons_succ]
                    refine wpAnyH_done (by kernel_rfl) (?_) _
                    clear hHz
                    go_wp2_with fail
                    go_meet
                    exact ⟨WD.heap.size, S3, n3, d3, er3, c3, rfl, rfl, hrow2, zR, qz, oz, fun k h1 h2 => hd3 k h2 h1, bz, hpt⟩
                case rest =>
                  obtain ⟨R2, S5, n2, d2, er2, c2, rfl, rfl, hr2, hr1, ho, hq, hd, hb, hpt⟩ := hcut
                  have ee := (hpt HFX.out).trans (PT5.out HFX.out).symm
                  obtain ⟨rfl, rfl, rfl, rfl⟩ : n2 = n ∧ d2 = d ∧ er2 = er ∧ c2 = c' := by
                    simp only [Prod.mk.injEq] at ee
                    exact ee
                  have a0 : wc.cell? ⟨R, 0, none⟩ = some (.int .i64 n2) := by simp [World.cell?, hr1]
                  have a1 : wc.cell? ⟨R, 1, none⟩ = some (.int .i64 d2) := by simp [World.cell?, hr1]
                  have b0 : wc.cell? ⟨R2, 0, none⟩ = some (.int .i64 n2) := by simp [World.cell?, hr2]
                  have b1 : wc.cell? ⟨R2, 1, none⟩ = some (.int .i64 d2) := by simp [World.cell?, hr2]
                  have FIN := hidd (show ∃ S5 : Nat → Prop, QQ rt x0 ((i : Int) + 1) last c2 W0 S' wc q ∧ QQ rt x0 ((i : Int) + 1) 0 c2 W0 S5 wc o ∧ (∀ k, S' k → ¬ S5 k) ∧ Below W0.heap.size W0 wc from ⟨S5, hq, ho, hd, hb⟩)
                  clear hr2 hr1 ho hq hd hb hpt ee
                  go_wp2_with fail
                  go_meet
                  exact FIN.out
              · skip
                go_wp2_with fail
                go_meet
                have e := NE5.out hfx
                exact ⟨S2, HQ5.out, e ▸ HO5.out.mono, fun k h1 h2 => HD5.out k h2 h1, B5.out⟩
            case rest =>
              clear PT5 NE5 NR25 NP25 HQ5 HO5 HD5 B5 ROWR ROWP5 x00 x01 p1
              obtain ⟨S5, hq, ho, hd, hb⟩ := hcut
              have HQ6 := hidd hq
              have HO6 := hidd ho
              have HD6 := hidd hd
              have B6 := hidd hb
              obtain ⟨x00, x01⟩ := KX.out _ hb
              clear hq ho hd hb
              have xz : ¬ x1 = 0 := by omega
              rcases Bool.eq_false_or_eq_true ((i : Int) % x1 == 0) with hr0 | hr0
              · have cT := hidd (takeQQ HQ6.out B6.out)
                go_wp2_with fail
                refine cT.out.mono ?_
                rintro e w7 ⟨b, id, zf, zz, tn, td, S7, l7, rfl, hq7, hk, hk2, s7, n7, hb7⟩
                have HQ7 := hidd hq7
                have HO7 := hidd (HO6.out.sav s7 (fun k h1 h2 => HD6.out k h1 h2))
                have HD7 := hidd (apart_step HO6.out HD6.out n7)
                have B7 := hidd hb7
                have HK := hidd hk
                have HK2 := hidd hk2
                have l0 : w.heap.size < w7.heap.size := by have := SZ.out; have := hb7.size; omega
                have l1 : w.heap.size + 1 < w7.heap.size := by have := SZ.out; have := hb7.size; omega
                obtain ⟨y00, y01⟩ := KX.out _ hb7
                clear hq7 hk hk2 s7 n7 hb7 cT x00 x01 HQ6 HO6 HD6 B6
                cases b with
                | false =>
                  go_wp2_with fail
                  go_roundg (gk - 1)
                  case measure => omega
                  case rel =>
                    have e : l7 = last := HK2.out (fun q => by cases q.1)
                    subst e
                    exact ⟨i + 1, _, c', S7, S5, by omega, rfl, by congr 1, (HQ7.out.below (below_new (below_new (Below.refl _ _) _) _)), (HO7.out.below (below_new (below_new (Below.refl _ _) _) _)), HD7.out, below_new (below_new B7.out _) _⟩
                | true =>
                  by_cases hz : zf = x0
                  · have hl := HK.out rfl hz
                    have hl1 : ¬ id ≤ last := by omega
                    have HL := hidd hl.2
                    clear hl
                    go_wp2_with fail
                    go_roundg (gk - 1)
                    case measure => omega
                    case rel =>
                      have e : l7 = id := HL.out
                      subst e
                      exact ⟨i + 1, _, c', S7, S5, by omega, rfl, by congr 1, (HQ7.out.below (below_new (below_new (Below.refl _ _) _) _)), (HO7.out.below (below_new (below_new (Below.refl _ _) _) _)), HD7.out, below_new (below_new B7.out _) _⟩
                  · have HZ := hidd hz
                    go_wp2_with fail
                    go_roundg (gk - 1)
                    case measure => omega
                    case rel =>
                      have e : l7 = last := HK2.out (fun q => HZ.out q.2)
                      subst e
                      exact ⟨i + 1, _, c', S7, S5, by omega, rfl, by congr 1, (HQ7.out.below (below_new (below_new (Below.refl _ _) _) _)), (HO7.out.below (below_new (below_new (Below.refl _ _) _) _)), HD7.out, below_new (below_new B7.out _) _⟩
              · go_wp2_with fail
                go_roundg (gk - 1)
                case measure => omega
                case rel => exact ⟨i + 1, last, c', S', S5, by omega, rfl, by congr 1, HQ6.out, HO6.out, HD6.out, B6.out⟩
        · have z1 : ¬ (i : Int) < (L.length : Int) := by omega
          go_wp2_with fail
          refine (cK.out _).mono ?_
          rintro e w2 ⟨rfl, hb2⟩
          go_wp2_with fail
          go_ret
          exact ⟨rfl, by have b := BW.out; have b0 := b.size; have b1 := HB.out; have b2 := b1.size; (repeat' (first | (with_reducible exact Below.refl _ _) | (with_reducible assumption) | (with_reducible apply Below.setCell) | (with_reducible apply Below.alloc) | (with_reducible apply Below.drew) | (with_reducible apply below_drewN) | (with_reducible refine Below.trans ?_ (Below.mono (by assumption) ?_)) | omega | (simp; done) | (simp; omega)))⟩
end Go.Proofs.Ytgeankdimknmiaa.Hp

/- The row's frame, for clocks: arguments are opened to numbers and lists (out of the heaps' frame). -/
namespace Go.Proofs.Ytgeankdimknmiaa.Hp
set_option linter.unusedVariables false
namespace RowK
open Go.ChangeShapes Go.WideShapes Go.ChangeAt Go.RowKit Go.Joins Go.Deep Go.Proofs.Ytgeankdimknmiaa.Tp

theorem own : ownKnob Try.prog.godebug = none := by kernel_rfl
theorem laidOut : laidOutB Try.prog = true := by kernel_rfl
theorem i64_bounds {n : Int} (h : (Lit.int .i64 n).wf = true) : -9223372036854775808 ≤ n ∧ n ≤ 9223372036854775807 := by
  simp only [Lit.wf, Bool.and_eq_true, decide_eq_true_eq] at h
  have a : IntKind.i64.min = -9223372036854775808 := rfl
  have b : IntKind.i64.max = 9223372036854775807 := rfl
  omega
section
variable {H : Type} {enc : TypeId × Value → H} {P : Program}
theorem all_stays (hl : laidOutB P = true) {W W' : World} (hb : Below W.heap.size W W') : ∀ {ts : List TypeId} {vs : List Value} {ds : List (DataW H)} {ps : List MemPlace},
    (∀ t ∈ ts, P.readableRec t = true ∧ t < P.types.size) → DataW.TrodAll enc P W 0 (fun _ => true) true ts vs ds ps → (∀ x ∈ ps, x.block < W.heap.size) → ∀ sp : Nat → Bool, (∀ x ∈ ps, sp x.block = true) → DataW.TrodAll enc P W' 0 sp true ts vs ds ps
  | [], vs, ds, ps, _, h, _, sp, _ => by
    obtain ⟨rfl, rfl, rfl⟩ := trodAll_nil h
    exact trodAll_mk0
  | t :: ts, vs, ds, ps, hr, h, hlt, sp, hsp => by
    obtain ⟨v, vs', d, ds', p, p', rfl, rfl, rfl, h0, h1⟩ := trodAll_cons h
    refine trodAll_cons_mk (WideElems.Trod_stays hl (hr t (by simp)).1 (hr t (by simp)).2 h0 (fun x hx => hb.same (hlt x (by simp [hx]))) (fun x hx => hsp x (by simp [hx]))) ?_
    exact all_stays hl hb (fun t ht => hr t (by simp [ht])) h1 (fun x hx => hlt x (by simp [hx])) sp (fun x hx => hsp x (by simp [hx]))

theorem post_law {f : Func} {s : ChangeSpec} {apart fresh handsOn again : Bool} {W W' : World} {args : Array Value} {v : Value} {ds gs : List (DataW H)} {before pv : List MemPlace}
    (hl : laidOutB P = true) (hr : ∀ t ∈ f.params.toList, P.readableRec t = true ∧ t < P.types.size)
    (hW : DataW.Whole enc P f.params.toList s.vars apart W args.toList ds gs (before ++ pv))
    (hA : DataW.TrodAll enc P W 0 (fun _ => true) true f.params.toList args.toList ds before)
    (hs : (s.fn H (ds ++ gs)).args = ds)
    (hres : ∀ (b : Nat) (sp : Nat → Bool) (hd : Bool), DataW.TrodAll enc P W' b sp hd f.resultTypes.toList (v.resultList f.resultTypes.size) (s.fn H (ds ++ gs)).results [])
    (hvars : ∀ sp : Nat → Bool, DataW.TrodVars enc P W' sp s.vars (s.fn H (ds ++ gs)).vars pv)
    (hb : Below W.heap.size W W')
    (hok : ∀ (j : Nat) (t : TypeId) (r : Value), f.resultTypes[j]? = some t → (v.resultList f.resultTypes.size)[j]? = some r → Value.okWide P W' .any 0 t r) :
    s.post enc P f apart fresh handsOn again W args v W' := by
  have hlt : ∀ p ∈ before ++ pv, p.block < W.heap.size := fun p hp => hW.lt p hp
  have hargs : ∀ sp : Nat → Bool, (∀ p ∈ before ++ pv, sp p.block = true) → DataW.TrodAll enc P W' 0 sp true f.params.toList args.toList (s.fn H (ds ++ gs)).args before := fun sp hsp => by
    rw [hs]
    exact all_stays hl hb hr hA (fun x hx => hlt x (by simp [hx])) sp (fun x hx => hsp x (by simp [hx]))
  have hold : ∀ p ∈ before ++ pv, (fun b => decide (b < W.heap.size)) p.block = true := fun p hp => by simpa using hlt p hp
  refine ⟨ds, gs, before ++ pv, [], before, pv, hW, hres _ _ _, hargs _ hold, hvars _, World.keptBut_mono (fun p hp => ⟨hp, ?_⟩) (hb.frame (· ∈ before ++ pv)), fun _ => ?_⟩
  · rw [List.mem_append] at hp
    exact Or.inr hp
  · obtain ⟨_, _, _, _, _, hz, hn⟩ := hW
    refine ⟨hok, _, _, ([] ++ before) ++ pv, ⟨[] ++ before, pv, trodAll_append (hargs _ (fun _ _ => rfl)) (hres _ _ _), hvars _, rfl, ?_, ?_⟩, ?_⟩
    · intro b off hp
      have hin : MemPlace.cell b off ∈ before ++ pv := by simpa using hp
      rw [hb.frozen (hlt _ hin)]
      exact hz b off hin
    · intro ha
      have := hn ha
      simpa using this
    · intro p hp _
      simpa using hp
end

section
variable {H : Type} {enc : TypeId × Value → H} {P : Program} {w : World} {base : Nat} {spare : Nat → Bool} {held : Bool}
theorem open_slice_fields {t e : TypeId} {fs : Array Field} {fuel : Nat} {cs : List Value} {x : DataW H × List MemPlace} (ht : P.underlying t = some (.slice e)) (he : P.underlying e = some (.struct fs))
    (hone : oneCellFields P fs = true) (hC : P.cellsOf e = fs.size) (h : DataW.trod enc P w base spare held fuel t cs = some x) :
    cs = [.slice none 0 0] ∨
    ∃ (a : Addr) (len cap : Nat), cs = [.slice (some a) len cap] ∧ len ≤ cap ∧ cap ≤ maxLen ∧
      ∀ i, i < len → ∀ (j : Nat) (f : Field), fs[j]? = some f → ∃ (v : Value) (n : Nat) (y : DataW H × List MemPlace), w.cell? (a.add (i * fs.size + j)) = some v ∧ DataW.trod enc P w base spare held n f.type [v] = some y := by
  rcases open_slice ht h with h0 | ⟨a, len, cap, m, n, D, Pl, hcs, hb, hl, hm, hmm, hx, hi⟩
  · exact .inl h0.1
  · refine .inr ⟨a, len, cap, hcs, hl, hm, fun i hil j f hj => ?_⟩
    have him : i < m := by rw [hmm]; split <;> omega
    obtain ⟨cs', hc, ht'⟩ := hi i him
    rw [hC] at hc
    obtain ⟨ys, n', hn', hy, hlen, hyl, hf⟩ := DataW.trod_struct he ht'
    obtain ⟨_, hcl, hat⟩ := World.cells?_some hc
    obtain ⟨ho, hk⟩ := hone_of hone j f hj
    have hjl : j < fs.size := (Array.getElem?_eq_some_iff.1 hj).1
    have hcell := hat j hjl
    have hv : cs'[j]? = some (cs'[j]'(by omega)) := List.getElem?_eq_getElem (by omega)
    have h1 := hf j f hj
    rw [ho, hk] at h1
    have hone' : (cs'.drop j).take 1 = [cs'[j]'(by omega)] := by
      rw [List.drop_eq_getElem_cons (by omega)]
      rfl
    rw [hone'] at h1
    have hys : ys[j]? = some (ys[j]'(by omega)) := List.getElem?_eq_getElem (by omega)
    refine ⟨_, n', _, ?_, h1.trans hys⟩
    rw [← Go.Deep.add_add, hcell, hv]
theorem list_of {α : Type} {Q : Nat → α → Prop} : ∀ {n : Nat}, (∀ i, i < n → ∃ x, Q i x) → ∃ L : List α, L.length = n ∧ ∀ i x, L[i]? = some x → Q i x
  | 0, _ => ⟨[], rfl, fun i x h => by simp at h⟩
  | n + 1, h => by
    obtain ⟨L, hL, hQ⟩ := list_of (n := n) (fun i hi => h i (by omega))
    obtain ⟨x, hx⟩ := h n (by omega)
    refine ⟨L ++ [x], by simp [hL], fun i y hy => ?_⟩
    rw [List.getElem?_append] at hy
    split at hy
    · exact hQ i y hy
    · have : i = n := by
        have := (List.getElem?_eq_some_iff.1 hy).1
        simp at this
        omega
      subst this
      rw [hL] at hy
      simp at hy
      exact hy ▸ hx
end

section
variable {H : Type} {enc : TypeId × Value → H} {P : Program} {w : World} {base : Nat} {spare : Nat → Bool} {held : Bool}
theorem open_ints3 {r : Reach} {b0 : Nat} {t : TypeId} {f0 f1 f2 : Field} {v : Value} {d : DataW H} {p : List MemPlace} (hs : P.underlying t = some (.struct #[f0, f1, f2])) (hone : oneCellFields P #[f0, f1, f2] = true) (hC : P.cellsOf t = 3)
    (i0 : P.underlying f0.type = some (.int .i64)) (i1 : P.underlying f1.type = some (.int .i64)) (i2 : P.underlying f2.type = some (.int .i64))
    (hv : Value.okWide P w r b0 t v) (h : DataW.Trod enc P w base spare held t v d p) :
    ∃ a0 a1 a2 : Int, v = .agg #[.int .i64 a0, .int .i64 a1, .int .i64 a2] ∧ (-9223372036854775808 ≤ a0 ∧ a0 ≤ 9223372036854775807) ∧ (-9223372036854775808 ≤ a1 ∧ a1 ≤ 9223372036854775807) ∧ (-9223372036854775808 ≤ a2 ∧ a2 ≤ 9223372036854775807) := by
  obtain ⟨cs, rfl, hsz⟩ := okWide_struct hs hv
  obtain ⟨l⟩ := cs
  match l, hsz.trans hC with
  | [c0, c1, c2], _ =>
    obtain ⟨fuel, hf⟩ := h
    obtain ⟨xs, n, _, hx, _, hlen, hg⟩ := DataW.trod_struct hs hf
    obtain ⟨o0, k0⟩ := hone_of hone 0 f0 rfl
    obtain ⟨o1, k1⟩ := hone_of hone 1 f1 rfl
    obtain ⟨o2, k2⟩ := hone_of hone 2 f2 rfl
    match xs, hlen with
    | [y0, y1, y2], _ =>
      have g0 : DataW.trod enc P w base spare held n f0.type [c0] = some y0 := by simpa [Value.cells, o0, k0] using hg 0 f0 rfl
      have g1 : DataW.trod enc P w base spare held n f1.type [c1] = some y1 := by simpa [Value.cells, o1, k1] using hg 1 f1 rfl
      have g2 : DataW.trod enc P w base spare held n f2.type [c2] = some y2 := by simpa [Value.cells, o2, k2] using hg 2 f2 rfl
      obtain ⟨a0, e0, -, z0⟩ := DataW.trod_int i0 g0
      obtain ⟨a1, e1, -, z1⟩ := DataW.trod_int i1 g1
      obtain ⟨a2, e2, -, z2⟩ := DataW.trod_int i2 g2
      simp at e0 e1 e2
      exact ⟨a0, a1, a2, by rw [e0, e1, e2], i64_bounds z0, i64_bounds z1, i64_bounds z2⟩
theorem open_ints2 {r : Reach} {b0 : Nat} {t : TypeId} {f0 f1 : Field} {v : Value} {d : DataW H} {p : List MemPlace} (hs : P.underlying t = some (.struct #[f0, f1])) (hone : oneCellFields P #[f0, f1] = true) (hC : P.cellsOf t = 2)
    (i0 : P.underlying f0.type = some (.int .i64)) (i1 : P.underlying f1.type = some (.int .i64))
    (hv : Value.okWide P w r b0 t v) (h : DataW.Trod enc P w base spare held t v d p) :
    ∃ a0 a1 : Int, v = .agg #[.int .i64 a0, .int .i64 a1] ∧ (-9223372036854775808 ≤ a0 ∧ a0 ≤ 9223372036854775807) ∧ (-9223372036854775808 ≤ a1 ∧ a1 ≤ 9223372036854775807) := by
  obtain ⟨cs, rfl, hsz⟩ := okWide_struct hs hv
  obtain ⟨l⟩ := cs
  match l, hsz.trans hC with
  | [c0, c1], _ =>
    obtain ⟨fuel, hf⟩ := h
    obtain ⟨xs, n, _, hx, _, hlen, hg⟩ := DataW.trod_struct hs hf
    obtain ⟨o0, k0⟩ := hone_of hone 0 f0 rfl
    obtain ⟨o1, k1⟩ := hone_of hone 1 f1 rfl
    match xs, hlen with
    | [y0, y1], _ =>
      have g0 : DataW.trod enc P w base spare held n f0.type [c0] = some y0 := by simpa [Value.cells, o0, k0] using hg 0 f0 rfl
      have g1 : DataW.trod enc P w base spare held n f1.type [c1] = some y1 := by simpa [Value.cells, o1, k1] using hg 1 f1 rfl
      obtain ⟨a0, e0, -, z0⟩ := DataW.trod_int i0 g0
      obtain ⟨a1, e1, -, z1⟩ := DataW.trod_int i1 g1
      simp at e0 e1
      exact ⟨a0, a1, by rw [e0, e1], i64_bounds z0, i64_bounds z1⟩
end
end RowK
end Go.Proofs.Ytgeankdimknmiaa.Hp

/- Rows whose arguments are calls of a queue by clocks, and arrays of two and three numbers: opened. -/
namespace Go.Proofs.Ytgeankdimknmiaa.Hp
set_option linter.unusedVariables false
namespace RowK
open Go.ChangeShapes Go.WideShapes Go.ChangeAt Go.RowKit Go.Joins Go.Deep Go.Proofs.Ytgeankdimknmiaa.Tp
theorem cellsAct14 : Try.prog.cellsOf 33 = 7 := by kernel_rfl
theorem cellsPk14 : Try.prog.cellsOf 31 = 3 := by kernel_rfl
theorem cellsI14 : Try.prog.cellsOf 3 = 1 := by kernel_rfl
theorem cellsL14 : Try.prog.cellsOf 2 = 1 := by kernel_rfl
section
variable {H : Type} {enc : TypeId × Value → H} {w : World} {base : Nat} {spare : Nat → Bool} {held : Bool}
theorem okWide_array {P : Program} {r : Reach} {b0 : Nat} {t e : TypeId} {n : Nat} {v : Value} (ht : P.underlying t = some (.array n e)) (h : Value.okWide P w r b0 t v) : ∃ cs, v = .agg cs ∧ cs.size = P.cellsOf t := by
  simp only [Value.okWide, ht] at h
  obtain ⟨cs, h1, h2, _⟩ := h
  exact ⟨cs, h1, h2⟩
theorem open_arr2 {P : Program} {r : Reach} {b0 : Nat} {t e : TypeId} {v : Value} {d : DataW H} {p : List MemPlace} (ht : P.underlying t = some (.array 2 e)) (hC : P.cellsOf t = 2) (hE : P.cellsOf e = 1) (he : P.underlying e = some (.int .i64))
    (hv : Value.okWide P w r b0 t v) (h : DataW.Trod enc P w base spare held t v d p) : ∃ a b : Int, v = .agg #[.int .i64 a, .int .i64 b] ∧ (-9223372036854775808 ≤ a ∧ a ≤ 9223372036854775807) ∧ (-9223372036854775808 ≤ b ∧ b ≤ 9223372036854775807) := by
  obtain ⟨cs, rfl, hsz⟩ := okWide_array ht hv
  obtain ⟨l⟩ := cs
  match l, hsz.trans hC with
  | [c0, c1], _ =>
    obtain ⟨fuel, hf⟩ := h
    obtain ⟨xs, m, _, _, _, hlen, hg⟩ := DataW.trod_array ht hf
    match xs, hlen with
    | [y0, y1], _ =>
      have g0 : DataW.trod enc P w base spare held m e [c0] = some y0 := by simpa [Value.cells, hE] using hg 0 (by omega)
      have g1 : DataW.trod enc P w base spare held m e [c1] = some y1 := by simpa [Value.cells, hE] using hg 1 (by omega)
      obtain ⟨a0, e0, -, z0⟩ := DataW.trod_int he g0
      obtain ⟨a1, e1, -, z1⟩ := DataW.trod_int he g1
      simp at e0 e1
      subst e0 e1
      exact ⟨a0, a1, rfl, i64_bounds z0, i64_bounds z1⟩
theorem open_arr3 {P : Program} {r : Reach} {b0 : Nat} {t e : TypeId} {v : Value} {d : DataW H} {p : List MemPlace} (ht : P.underlying t = some (.array 3 e)) (hC : P.cellsOf t = 3) (hE : P.cellsOf e = 1) (he : P.underlying e = some (.int .i64))
    (hv : Value.okWide P w r b0 t v) (h : DataW.Trod enc P w base spare held t v d p) : ∃ a b c : Int, v = .agg #[.int .i64 a, .int .i64 b, .int .i64 c] := by
  obtain ⟨cs, rfl, hsz⟩ := okWide_array ht hv
  obtain ⟨l⟩ := cs
  match l, hsz.trans hC with
  | [c0, c1, c2], _ =>
    obtain ⟨fuel, hf⟩ := h
    obtain ⟨xs, m, _, _, _, hlen, hg⟩ := DataW.trod_array ht hf
    match xs, hlen with
    | [y0, y1, y2], _ =>
      have g0 : DataW.trod enc P w base spare held m e [c0] = some y0 := by simpa [Value.cells, hE] using hg 0 (by omega)
      have g1 : DataW.trod enc P w base spare held m e [c1] = some y1 := by simpa [Value.cells, hE] using hg 1 (by omega)
      have g2 : DataW.trod enc P w base spare held m e [c2] = some y2 := by simpa [Value.cells, hE] using hg 2 (by omega)
      obtain ⟨a0, e0, -, -⟩ := DataW.trod_int he g0
      obtain ⟨a1, e1, -, -⟩ := DataW.trod_int he g1
      obtain ⟨a2, e2, -, -⟩ := DataW.trod_int he g2
      simp at e0 e1 e2
      subst e0 e1 e2
      exact ⟨a0, a1, a2, rfl⟩
theorem open_pk3 {P : Program} {t : TypeId} {f0 f1 f2 : Field} (hs : P.underlying t = some (.struct #[f0, f1, f2])) (o : f0.offset = 0 ∧ f1.offset = 1 ∧ f2.offset = 2) (k : P.cellsOf f0.type = 1 ∧ P.cellsOf f1.type = 1 ∧ P.cellsOf f2.type = 1)
    (i : P.underlying f0.type = some (.int .i64) ∧ P.underlying f1.type = some (.int .i64) ∧ P.underlying f2.type = some (.int .i64)) {fuel : Nat} {c0 c1 c2 : Value} {x : DataW H × List MemPlace} (h : DataW.trod enc P w base spare held fuel t [c0, c1, c2] = some x) :
    ∃ a b c : Int, c0 = .int .i64 a ∧ c1 = .int .i64 b ∧ c2 = .int .i64 c := by
  obtain ⟨xs, n, _, hx, _, hlen, hg⟩ := DataW.trod_struct hs h
  match xs, hlen with
  | [y0, y1, y2], _ =>
    have g0 : DataW.trod enc P w base spare held n f0.type [c0] = some y0 := by simpa [o.1, k.1] using hg 0 f0 rfl
    have g1 : DataW.trod enc P w base spare held n f1.type [c1] = some y1 := by simpa [o.2.1, k.2.1] using hg 1 f1 rfl
    have g2 : DataW.trod enc P w base spare held n f2.type [c2] = some y2 := by simpa [o.2.2, k.2.2] using hg 2 f2 rfl
    obtain ⟨a0, e0, -, z0⟩ := DataW.trod_int i.1 g0
    obtain ⟨a1, e1, -, z1⟩ := DataW.trod_int i.2.1 g1
    obtain ⟨a2, e2, -, z2⟩ := DataW.trod_int i.2.2 g2
    simp at e0 e1 e2
    exact ⟨a0, a1, a2, e0, e1, e2⟩
theorem open_act7 {P : Program} {t : TypeId} {f0 f1 f2 f3 f4 : Field} (hs : P.underlying t = some (.struct #[f0, f1, f2, f3, f4])) (o : f0.offset = 0 ∧ f1.offset = 1 ∧ f2.offset = 4 ∧ f3.offset = 5 ∧ f4.offset = 6) (k : P.cellsOf f0.type = 1 ∧ P.cellsOf f1.type = 3 ∧ P.cellsOf f2.type = 1 ∧ P.cellsOf f3.type = 1 ∧ P.cellsOf f4.type = 1)
    (i : P.underlying f0.type = some (.int .i64) ∧ P.underlying f2.type = some (.int .i64) ∧ P.underlying f3.type = some (.int .i64) ∧ P.underlying f4.type = some (.int .i64)) {fuel : Nat} {cs : List Value} (hcl : cs.length = 7) {x : DataW H × List MemPlace} (h : DataW.trod enc P w base spare held fuel t cs = some x) :
    ∃ (a : Int) (c1 c2 c3 : Value) (b c d : Int) (n : Nat) (y : DataW H × List MemPlace), cs = [.int .i64 a, c1, c2, c3, .int .i64 b, .int .i64 c, .int .i64 d] ∧ DataW.trod enc P w base spare held n f1.type [c1, c2, c3] = some y := by
  obtain ⟨xs, n, _, hx, _, hlen, hg⟩ := DataW.trod_struct hs h
  match cs, hcl, xs, hlen with
  | [c0, c1, c2, c3, c4, c5, c6], _, [y0, y1, y2, y3, y4], _ =>
    have g0 : DataW.trod enc P w base spare held n f0.type [c0] = some y0 := by simpa [o.1, k.1] using hg 0 f0 rfl
    have g1 : DataW.trod enc P w base spare held n f1.type [c1, c2, c3] = some y1 := by simpa [o.2.1, k.2.1] using hg 1 f1 rfl
    have g2 : DataW.trod enc P w base spare held n f2.type [c4] = some y2 := by simpa [o.2.2.1, k.2.2.1] using hg 2 f2 rfl
    have g3 : DataW.trod enc P w base spare held n f3.type [c5] = some y3 := by simpa [o.2.2.2.1, k.2.2.2.1] using hg 3 f3 rfl
    have g4 : DataW.trod enc P w base spare held n f4.type [c6] = some y4 := by simpa [o.2.2.2.2, k.2.2.2.2] using hg 4 f4 rfl
    obtain ⟨a0, e0, -, -⟩ := DataW.trod_int i.1 g0
    obtain ⟨a2, e2, -, -⟩ := DataW.trod_int i.2.1 g2
    obtain ⟨a3, e3, -, -⟩ := DataW.trod_int i.2.2.1 g3
    obtain ⟨a4, e4, -, -⟩ := DataW.trod_int i.2.2.2 g4
    simp at e0 e2 e3 e4
    subst e0 e2 e3 e4
    exact ⟨a0, c1, c2, c3, a2, a3, a4, n, y1, rfl, g1⟩
set_option maxRecDepth 1000000 in
theorem open_acts14 {fuel : Nat} {cs : List Value} {x : DataW H × List MemPlace} (h : DataW.trod enc Try.prog w base spare held fuel 22 cs = some x) :
    ∃ (A : Option Addr) (L : List Ac) (c : Nat), cs = [.slice A L.length c] ∧ L.length ≤ c ∧ c ≤ maxLen ∧ Lie acV 7 w w.heap.size A L := by
  rcases open_slice Try.underlying22 h with h0 | ⟨a, len, cap, m, n, D, Pl, hcs, hb, hl, hm, hmm, hx, hi⟩
  · exact ⟨none, [], 0, h0.1, by simp, by simp [maxLen], Lie.nil⟩
  · obtain ⟨L, hLl, hL⟩ := list_of (α := Ac) (n := len) (Q := fun i x => w.cell? (a.add (i * 7 + 0)) = some (.int .i64 x.k) ∧ w.cell? (a.add (i * 7 + 1)) = some (.int .i64 x.i) ∧ w.cell? (a.add (i * 7 + 2)) = some (.int .i64 x.fl) ∧ w.cell? (a.add (i * 7 + 3)) = some (.int .i64 x.z) ∧ w.cell? (a.add (i * 7 + 4)) = some (.int .i64 x.r) ∧ w.cell? (a.add (i * 7 + 5)) = some (.int .i64 x.m) ∧ w.cell? (a.add (i * 7 + 6)) = some (.int .i64 x.n)) (fun i hil => by
      have him : i < m := by rw [hmm]; split <;> omega
      obtain ⟨cs', hc, ht'⟩ := hi i him
      rw [cellsAct14] at hc
      obtain ⟨_, hcl, hat⟩ := World.cells?_some hc
      have q := fun j (hj : j < 7) => hat j hj
      obtain ⟨a0, c1, c2, c3, a4, a5, a6, n', y2, rfl, g2⟩ := open_act7 Try.underlying33 ⟨rfl, rfl, rfl, rfl, rfl⟩ ⟨cellsI14, cellsPk14, cellsL14, cellsL14, cellsL14⟩ ⟨Try.underlying3, Try.underlying2, Try.underlying2, Try.underlying2⟩ hcl ht'
      obtain ⟨a1, a2, a3, rfl, rfl, rfl⟩ := open_pk3 Try.underlying31 ⟨rfl, rfl, rfl⟩ ⟨cellsL14, cellsL14, cellsL14⟩ ⟨Try.underlying2, Try.underlying2, Try.underlying2⟩ g2
      refine ⟨⟨a0, a1, a2, a3, a4, a5, a6⟩, ?_, ?_, ?_, ?_, ?_, ?_, ?_⟩
      · have := q 0 (by omega); rw [add_of_add] at this; exact this
      · have := q 1 (by omega); rw [add_of_add] at this; exact this
      · have := q 2 (by omega); rw [add_of_add] at this; exact this
      · have := q 3 (by omega); rw [add_of_add] at this; exact this
      · have := q 4 (by omega); rw [add_of_add] at this; exact this
      · have := q 5 (by omega); rw [add_of_add] at this; exact this
      · have := q 6 (by omega); rw [add_of_add] at this; exact this)
    subst hLl
    refine ⟨some a, L, cap, hcs, hl, hm, fun hlen => ⟨a, rfl, ?_, fun i x hx j v hv => ?_⟩⟩
    · have := (hL 0 L[0] (List.getElem?_eq_getElem hlen)).1
      have := World.block_lt_of_cell? _ _ this
      rwa [block_of_add] at this
    · obtain ⟨h0, h1, h2, h3, h4, h5, h6⟩ := hL i x hx
      match j, hv with
      | 0, hv => simp [acV] at hv; subst hv; exact h0
      | 1, hv => simp [acV] at hv; subst hv; exact h1
      | 2, hv => simp [acV] at hv; subst hv; exact h2
      | 3, hv => simp [acV] at hv; subst hv; exact h3
      | 4, hv => simp [acV] at hv; subst hv; exact h4
      | 5, hv => simp [acV] at hv; subst hv; exact h5
      | 6, hv => simp [acV] at hv; subst hv; exact h6
      | j + 7, hv => simp [acV] at hv
end
end RowK
end Go.Proofs.Ytgeankdimknmiaa.Hp

/- Whatever the packets, the rates, which flow and behind how many puts one is taken, ClockAlone answers true: a stamp hangs on its own flow alone, a flow's packets are taken in order; no conditions. -/
namespace Go.Proofs.Ytgeankdimknmiaa.clockAlone
open Go.ChangeShapes Go.WideShapes Go.ChangeAt Go.RowKit Go.Joins Go.Proofs.Ytgeankdimknmiaa.Tp Go.Proofs.Ytgeankdimknmiaa.Hp Go.Proofs.Ytgeankdimknmiaa.Hp.RowK
set_option linter.unusedVariables false
set_option maxRecDepth 100000 in
theorem lifted (os : Os) (started : os.Started) (H : Type) (enc : TypeId × Value → H) :
    ReturnsInHanded {} Try.checked os 3 .any (Rows.clockAloneSpec.pre6 enc Try.prog Try.f3 Rows.clockAloneRow.domain false) (Rows.clockAloneSpec.post enc Try.prog Try.f3 false true false false) := by
  refine returnsInHanded_of_change (C := Try.checked) RowK.own started (by kernel_rfl) Try.func3
    (ChangeSpec.witness6 (enc := enc) (C := Try.checked) false ⟨#[], #[.slice none 0 0, .agg #[.int .i64 0, .int .i64 0, .int .i64 0], .agg #[.int .i64 0, .int .i64 0]], []⟩ 8 (by kernel_rfl) (by kernel_rfl) (by kernel_rfl) (by kernel_rfl)) ?_
  intro W base args ds gs before hval0 hW hcnd _
  have hval : ∀ (j : Nat) t v, Try.f3.params[j]? = some t → args[j]? = some v → Value.okWide Try.prog W .any base t v := hval0
  have hW' := hW
  obtain ⟨p, q, hA0, hV, rfl, hfz, hnd⟩ := hW
  have hA : DataW.TrodAll enc Try.prog W 0 (fun _ => true) true Try.f3.params.toList args.toList ds p := hA0
  rw [Try.params3] at hA hval
  obtain ⟨v0, vs0, d0, ds0, p0, q0, hargs, rfl, rfl, h0, r0⟩ := trodAll_cons hA
  obtain ⟨v1, vs1, d1, ds1, p1, q1, rfl, rfl, rfl, h1, r1⟩ := trodAll_cons r0
  obtain ⟨v2, vs2, d2, ds2, p2, q2, rfl, rfl, rfl, h2, r2⟩ := trodAll_cons r1
  obtain ⟨rfl, rfl, rfl⟩ := trodAll_nil r2
  obtain rfl : args = #[v0, v1, v2] := by cases args; simp_all
  obtain ⟨rfl, rfl⟩ := trodVars_none hV
  obtain ⟨A0, L0, c0, rfl, m0, n0, l0⟩ : ∃ (A : Option Addr) (L : List Ac) (c : Nat), v0 = .slice A L.length c ∧ L.length ≤ c ∧ c ≤ maxLen ∧ Lie acV 7 W W.heap.size A L := by
    obtain ⟨ptr, len, cap, rfl⟩ := okWide_slice Try.underlying22 (hval 0 22 v0 rfl rfl)
    obtain ⟨fuel, hf⟩ := h0
    obtain ⟨A, L, c, e, hh⟩ := open_acts14 hf
    exact ⟨A, L, c, by simpa [Value.cells] using e, hh⟩
  obtain ⟨x0, x1, x2, rfl⟩ := open_arr3 Try.underlying23 (by kernel_rfl) cellsL14 Try.underlying2 (hval 1 23 v1 rfl rfl) h1
  obtain ⟨y0, y1, rfl, yb0, yb1⟩ := open_arr2 Try.underlying24 (by kernel_rfl) cellsI14 Try.underlying3 (hval 2 24 v2 rfl rfl) h2
  refine (Ytgeankdimknmiaa.Hp.alone14_walk A0 L0 c0 x0 x1 x2 y0 y1 m0 n0 W l0).mono fun e W' ⟨he, hg⟩ => ?_
  subst he
  exact ⟨_, rfl, post_law RowK.laidOut (by rw [Try.params3]; intro t ht; simp at ht; rcases ht with rfl | rfl | rfl <;> exact ⟨by kernel_rfl, of_decide_eq_true (by kernel_rfl)⟩) hW' hA0 rfl (fun _ _ _ => (trodAll_cons_mk (shut_bool Try.underlying4 _) trodAll_mk0)) (fun _ => rfl) hg (ok_one (by kernel_rfl) rfl (okWide_bool_mk Try.underlying4 _))⟩

theorem over : Rows.clockAloneRow.holds Try.pinned (OpenSpec.ofChange Rows.clockAloneSpec) :=
  OpenClaim.holds_of_wide 3 Try.f3 rfl rfl rfl rfl rfl rfl rfl ⟨rfl, rfl, rfl, rfl, rfl⟩ rfl rfl rfl rfl rfl (by kernel_rfl) Try.func3 (by kernel_rfl)
    (of_decide_eq_true (by kernel_rfl)) (by unfold Func.isWrapper; first | (rw [if_pos (by decide +kernel)]; kernel_rfl) | (rw [if_neg (by decide +kernel)]; exact ⟨rfl, rfl⟩))
    (fun os started H enc _ => lifted os started H enc)
end Go.Proofs.Ytgeankdimknmiaa.clockAlone
namespace Go.Proofs.Ytgeankdimknmiaa
/-- the given statement. -/
theorem clockAlone_proved : Rows.ClockAloneSaid := clockAlone.over
end Go.Proofs.Ytgeankdimknmiaa

