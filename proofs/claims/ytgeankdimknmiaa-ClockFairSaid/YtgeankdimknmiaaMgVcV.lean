/- Texts that the claim hangs on, in one. -/
import Derived.Test.YtgeankdimknmiaaMgVcQ
import Derived.Test.YtgeankdimknmiaaMgVcB
import Derived.Test.YtgeankdimknmiaaMgVcA
import Derived.StillTailTactics
import Derived.Lib.QuietBelow
import Derived.Test.YtgeankdimknmiaaRows
import Derived.OpenShut
import Derived.ProofKit
import Derived.ChangeSame
import Derived.JoinedOf
import Derived.JoinedAt
import Derived.Carry
import Derived.Deep.Slices
import Derived.Deep.Fields
import Derived.Lib.SmallJoins
import Derived.Laws.Rows
/- Clocks: three flows of which each always has packets: what is put, what is taken. -/
namespace Go.Proofs.Ytgeankdimknmiaa.Hp
set_option linter.unusedVariables false
open Go.RowKit Go.Maps Go.Sort Go.Proofs.Ytgeankdimknmiaa.Tp
def uF (j : Nat) : Int := if j % 3 = 2 then ((j / 3 : Nat) : Int) + 1 else 2 * (((j / 3 : Nat) : Int) + 1)
def itF (s r : Int) (j : Nat) : It := ((j : Int) + 1, frN (uF j * s) (2 * r), frD (uF j * s) (2 * r), (j : Int) + 1)
def leftF (t j : Nat) : Prop := (j % 3 = 0 → (t + 2) / 4 ≤ j / 3) ∧ (j % 3 = 1 → (t + 1) / 4 ≤ j / 3) ∧ (j % 3 = 2 → (t + 3) / 4 + t / 4 ≤ j / 3)
def ordF (t : Nat) : Nat := if t % 4 = 0 then 6 * (t / 4) + 2 else if t % 4 = 1 then 3 * (t / 4) else if t % 4 = 2 then 3 * (t / 4) + 1 else 6 * (t / 4) + 5
theorem ord_lt {t : Nat} (h : t < 60) : ordF t < 210 := by unfold ordF; split <;> (try split) <;> (try split) <;> omega
theorem ord_left (t : Nat) : leftF t (ordF t) := by
  unfold leftF ordF
  split
  · refine ⟨fun _ => ?_, fun _ => ?_, fun _ => ?_⟩ <;> omega
  · split
    · refine ⟨fun _ => ?_, fun _ => ?_, fun _ => ?_⟩ <;> omega
    · split
      · refine ⟨fun _ => ?_, fun _ => ?_, fun _ => ?_⟩ <;> omega
      · refine ⟨fun _ => ?_, fun _ => ?_, fun _ => ?_⟩ <;> omega
theorem ord_min {t j : Nat} (h : leftF t j) : uF (ordF t) < uF j ∨ (uF (ordF t) = uF j ∧ ordF t ≤ j) := by
  obtain ⟨a, b, c⟩ := h
  have hm : j % 3 = 0 ∨ j % 3 = 1 ∨ j % 3 = 2 := by omega
  have ht : t % 4 = 0 ∨ t % 4 = 1 ∨ t % 4 = 2 ∨ t % 4 = 3 := by omega
  unfold uF ordF
  rcases ht with q | q | q | q <;> rcases hm with p | p | p <;> simp only [q, p] <;> simp <;> (first | have a := a p | skip) <;> (first | have b := b p | skip) <;> (first | have c := c p | skip) <;> (repeat' split) <;> omega
theorem left_succ (t j : Nat) : leftF (t + 1) j ↔ leftF t j ∧ j ≠ ordF t := by
  unfold leftF ordF
  have hm : j % 3 = 0 ∨ j % 3 = 1 ∨ j % 3 = 2 := by omega
  have ht : t % 4 = 0 ∨ t % 4 = 1 ∨ t % 4 = 2 ∨ t % 4 = 3 := by omega
  rcases ht with q | q | q | q <;> rcases hm with p | p | p <;> simp [q, p] <;> omega
theorem uF_b {j : Nat} (h : j < 210) : 1 ≤ uF j ∧ uF j ≤ 140 := by unfold uF; split <;> omega
theorem clk_u {s r : Int} (hs : 1 ≤ s) (hs2 : s ≤ 200) (hr : 1 ≤ r) (hr2 : r ≤ 1000) {j : Nat} (h : j < 210) : ClkB (uF j * s) (2 * r) := by
  obtain ⟨a, b⟩ := uF_b h
  have h1 : 0 ≤ uF j * s := Int.mul_nonneg (by omega) (by omega)
  have h2 : uF j * s ≤ 140 * s := Int.mul_le_mul_of_nonneg_right b (by omega)
  exact ⟨h1, by omega, by omega, by omega⟩
theorem itF_le {s r : Int} (hs : 1 ≤ s) (hs2 : s ≤ 200) (hr : 1 ≤ r) (hr2 : r ≤ 1000) {a b : Nat} (ha : a < 210) (hb : b < 210) (h : uF a < uF b ∨ (uF a = uF b ∧ a ≤ b)) : Le (itF s r a) (itF s r b) := by
  rw [le_iff]
  rcases h with h | ⟨h, h2⟩
  · refine .inl ((fr_lt (clk_u hs hs2 hr hr2 ha) (clk_u hs hs2 hr hr2 hb)).2 ?_)
    exact Int.mul_lt_mul_of_pos_right h (by omega)
  · refine .inr ⟨?_, by show (a : Int) + 1 ≤ (b : Int) + 1; omega⟩
    show frN (uF a * s) (2 * r) * frD (uF b * s) (2 * r) = frN (uF b * s) (2 * r) * frD (uF a * s) (2 * r)
    rw [h]
theorem fr_double {c r : Int} (h : ClkB c r) (h2 : ClkB (2 * c) (2 * r)) : frN c r = frN (2 * c) (2 * r) ∧ frD c r = frD (2 * c) (2 * r) := by
  obtain ⟨a, b⟩ := fr_right h
  exact fr_uniq h2 a (by
    have : frN c r * (2 * r) = 2 * (frN c r * r) := by grind
    rw [this, b]
    grind)
def MF (s r : Int) (m : Nat) : List It := (List.range m).map (itF s r)
theorem MF_succ (s r : Int) (m : Nat) : MF s r (m + 1) = MF s r m ++ [itF s r m] := by unfold MF; rw [List.range_succ, List.map_append]; rfl
def FF (s r : Int) (k1 k2 k3 : Nat) (b1 b2 b3 : Nat) : List Fw := [⟨1, r, 1000000, (k1 : Int) * s, (k1 : Int) * s, b1⟩, ⟨2, r, 1000000, (k2 : Int) * s, (k2 : Int) * s, b2⟩, ⟨3, 2 * r, 1000000, (k3 : Int) * s, (k3 : Int) * s, b3⟩]
def XF (s : Int) (m : Nat) (X : Int → Int × Int) : Prop := ∀ j, j < m → X ((j : Int) + 1) = (((j % 3 : Nat) : Int) + 1, s)
theorem XF.step {s : Int} {m : Nat} {X : Int → Int × Int} (h : XF s m X) {f : Int} (hf : f = ((m % 3 : Nat) : Int) + 1) : XF s (m + 1) (fun k => if k = (m : Int) + 1 then (f, s) else X k) := fun j hj => by
  dsimp only
  by_cases e : j = m
  · subst e
    rw [if_pos rfl, hf]
  · rw [if_neg (by omega)]
    exact h j (by omega)
theorem clock_step {k : Nat} {s r : Int} (hs : 1 ≤ s) : max ((k : Int) * s) (0 * r) + s = ((k + 1 : Nat) : Int) * s := by
  have h : 0 ≤ (k : Int) * s := Int.mul_nonneg (by omega) (by omega)
  rw [Int.zero_mul, Int.max_eq_left h]
  have : ((k + 1 : Nat) : Int) * s = (k : Int) * s + s := by
    rw [show ((k + 1 : Nat) : Int) = (k : Int) + 1 by omega]
    grind
  omega
theorem clk_k {k : Nat} {s r : Int} (hs : 1 ≤ s) (hs2 : s ≤ 200) (hr : 1 ≤ r) (hr2 : r ≤ 2000) (hk : k ≤ 80) : ClkB ((k : Int) * s) r := by
  have h1 : 0 ≤ (k : Int) * s := Int.mul_nonneg (by omega) (by omega)
  have h2 : (k : Int) * s ≤ 80 * s := Int.mul_le_mul_of_nonneg_right (by omega) (by omega)
  exact ⟨h1, by omega, by omega, by omega⟩
section
variable {S : Nat → Prop} {w : World} {q : Nat} {X : Int → Int × Int} {s r : Int} {b1 b2 b3 : Nat}
/-- the m-th packet comes. -/
theorem putFair {m : Nat} (H : Qu S w q (FF s r ((m + 2) / 3) ((m + 1) / 3) (m / 3) b1 b2 b3) (MF s r m) (m : Int) X) (hX : XF s m X) (hs : 1 ≤ s) (hs2 : s ≤ 200) (hr : 1 ≤ r) (hr2 : r ≤ 1000) (hm : m < 210) :
    Calls Try.prog 9 #[.pointer (some ⟨q, 0, none⟩), .agg #[.int .i64 ((m : Int) + 1), .int .i64 (((m % 3 : Nat) : Int) + 1), .int .i64 s], .int .i64 0] w fun e w' => (∃ n d, e = .returned (.tuple #[.agg #[.int .i64 n, .int .i64 d], .int .i64 0])) ∧
      ∃ S' X', Qu S' w' q (FF s r ((m + 1 + 2) / 3) ((m + 1 + 1) / 3) ((m + 1) / 3) b1 b2 b3) (MF s r (m + 1)) ((m + 1 : Nat) : Int) X' ∧ XF s (m + 1) X' ∧ Sav S w w' ∧ Nxt S S' w := by
  have hlen : (MF s r m).length = m := by simp [MF]
  have hi : ¬ ∃ y ∈ MF s r m, iD y = (m : Int) + 1 := fun ⟨y, hy, e⟩ => by
    obtain ⟨j, hj, rfl⟩ := List.mem_map.1 hy
    have := List.mem_range.1 hj
    have e2 : (j : Int) + 1 = (m : Int) + 1 := e
    omega
  have hp : ∀ k : Int, 1 ≤ k → k ≤ 3 → packB ((m : Int) + 1) k s = true := fun k h1 h2 => by unfold packB; exact decide_eq_true (by omega)
  have rm : ∀ k : Nat, k ≤ 80 → s ≤ 1000000 - (k : Int) * s := fun k hk => by
    have h2 : (k : Int) * s ≤ 80 * s := Int.mul_le_mul_of_nonneg_right (by omega) (by omega)
    omega
  have eT : ((m + 1 : Nat) : Int) = (m : Int) + 1 := by omega
  have hc : m % 3 = 0 ∨ m % 3 = 1 ∨ m % 3 = 2 := by omega
  rw [MF_succ, eT]
  rcases hc with q0 | q0 | q0
  · have hk : (m + 2) / 3 = m / 3 := by omega
    have hx : ((m % 3 : Nat) : Int) + 1 = 1 := by omega
    rw [hx]
    refine (putQ H (hp 1 (by omega) (by omega)) (by decide) (f := ⟨1, r, 1000000, (((m + 2) / 3 : Nat) : Int) * s, (((m + 2) / 3 : Nat) : Int) * s, b1⟩) (by simp [FF]) rfl hi (rm _ (by omega)) (by omega) (by omega) (by dsimp only; rw [clock_step hs]; exact clk_k hs hs2 hr (by omega) (by omega))).mono ?_
    rintro e w' ⟨rfl, S', h1, h2, h3⟩
    dsimp only at h1 ⊢
    rw [clock_step hs] at h1 ⊢
    refine ⟨⟨_, _, rfl⟩, S', _, ?_, hX.step hx.symm, h2, h3⟩
    have e1 : (((m + 2) / 3 : Nat) : Int) * s + s = (((m + 1 + 2) / 3 : Nat) : Int) * s := by
      have := clock_step (k := (m + 2) / 3) (r := r) hs
      rw [show (m + 1 + 2) / 3 = (m + 2) / 3 + 1 by omega, ← this]
      have h : 0 ≤ (((m + 2) / 3 : Nat) : Int) * s := Int.mul_nonneg (by omega) (by omega)
      rw [Int.zero_mul, Int.max_eq_left h]
    have e2 := fr_double (clk_k (k := (m + 2) / 3 + 1) hs hs2 hr (by omega) (by omega)) (show ClkB (2 * ((((m + 2) / 3 + 1 : Nat) : Int) * s)) (2 * r) from by
      have := clk_k (k := (m + 2) / 3 + 1) (r := r) hs hs2 hr (by omega) (by omega)
      obtain ⟨a1, a2, a3, a4⟩ := this
      have h2 : (((m + 2) / 3 + 1 : Nat) : Int) * s ≤ 80 * s := Int.mul_le_mul_of_nonneg_right (by omega) (by omega)
      exact ⟨by omega, by omega, by omega, by omega⟩)
    have e3 : 2 * ((((m + 2) / 3 + 1 : Nat) : Int) * s) = uF m * s := by
      unfold uF
      rw [if_neg (by omega), hk, show ((m / 3 + 1 : Nat) : Int) = ((m / 3 : Nat) : Int) + 1 by omega, Int.mul_assoc]
    rw [e3] at e2
    rw [e2.1, e2.2, e1, ← show (m + 1 + 2) / 3 = (m + 2) / 3 + 1 by omega] at h1
    have e4 : (FF s r ((m + 2) / 3) ((m + 1) / 3) (m / 3) b1 b2 b3).map (upF ⟨1, r, 1000000, (((m + 1 + 2) / 3 : Nat) : Int) * s, (((m + 1 + 2) / 3 : Nat) : Int) * s, b1⟩) = FF s r ((m + 1 + 2) / 3) ((m + 1 + 1) / 3) ((m + 1) / 3) b1 b2 b3 := by
      rw [show (m + 1 + 1) / 3 = (m + 1) / 3 by omega, show (m + 1) / 3 = m / 3 by omega]
      simp [FF, upF]
    rw [e4] at h1
    exact h1
  · have hx : ((m % 3 : Nat) : Int) + 1 = 2 := by omega
    have hk : (m + 1) / 3 = m / 3 := by omega
    rw [hx]
    refine (putQ H (hp 2 (by omega) (by omega)) (by decide) (f := ⟨2, r, 1000000, (((m + 1) / 3 : Nat) : Int) * s, (((m + 1) / 3 : Nat) : Int) * s, b2⟩) (by simp [FF]) rfl hi (rm _ (by omega)) (by omega) (by omega) (by dsimp only; rw [clock_step hs]; exact clk_k hs hs2 hr (by omega) (by omega))).mono ?_
    rintro e w' ⟨rfl, S', h1, h2, h3⟩
    dsimp only at h1 ⊢
    rw [clock_step hs] at h1 ⊢
    refine ⟨⟨_, _, rfl⟩, S', _, ?_, hX.step hx.symm, h2, h3⟩
    have e1 : (((m + 1) / 3 : Nat) : Int) * s + s = (((m + 1 + 1) / 3 : Nat) : Int) * s := by
      have := clock_step (k := (m + 1) / 3) (r := r) hs
      rw [show (m + 1 + 1) / 3 = (m + 1) / 3 + 1 by omega, ← this]
      have h : 0 ≤ (((m + 1) / 3 : Nat) : Int) * s := Int.mul_nonneg (by omega) (by omega)
      rw [Int.zero_mul, Int.max_eq_left h]
    have e2 := fr_double (clk_k (k := (m + 1) / 3 + 1) hs hs2 hr (by omega) (by omega)) (show ClkB (2 * ((((m + 1) / 3 + 1 : Nat) : Int) * s)) (2 * r) from by
      have := clk_k (k := (m + 1) / 3 + 1) (r := r) hs hs2 hr (by omega) (by omega)
      obtain ⟨a1, a2, a3, a4⟩ := this
      have h2 : (((m + 1) / 3 + 1 : Nat) : Int) * s ≤ 80 * s := Int.mul_le_mul_of_nonneg_right (by omega) (by omega)
      exact ⟨by omega, by omega, by omega, by omega⟩)
    have e3 : 2 * ((((m + 1) / 3 + 1 : Nat) : Int) * s) = uF m * s := by
      unfold uF
      rw [if_neg (by omega), hk, show ((m / 3 + 1 : Nat) : Int) = ((m / 3 : Nat) : Int) + 1 by omega, Int.mul_assoc]
    rw [e3] at e2
    rw [e2.1, e2.2, e1, ← show (m + 1 + 1) / 3 = (m + 1) / 3 + 1 by omega] at h1
    have e4 : (FF s r ((m + 2) / 3) ((m + 1) / 3) (m / 3) b1 b2 b3).map (upF ⟨2, r, 1000000, (((m + 1 + 1) / 3 : Nat) : Int) * s, (((m + 1 + 1) / 3 : Nat) : Int) * s, b2⟩) = FF s r ((m + 1 + 2) / 3) ((m + 1 + 1) / 3) ((m + 1) / 3) b1 b2 b3 := by
      rw [show (m + 1 + 2) / 3 = (m + 2) / 3 by omega, show (m + 1) / 3 = m / 3 by omega]
      simp [FF, upF]
    rw [e4] at h1
    exact h1
  · have hx : ((m % 3 : Nat) : Int) + 1 = 3 := by omega
    rw [hx]
    refine (putQ H (hp 3 (by omega) (by omega)) (by decide) (f := ⟨3, 2 * r, 1000000, ((m / 3 : Nat) : Int) * s, ((m / 3 : Nat) : Int) * s, b3⟩) (by simp [FF]) rfl hi (rm _ (by omega)) (by omega) (by omega) (by dsimp only; rw [clock_step hs]; exact clk_k hs hs2 (by omega) (by omega) (by omega))).mono ?_
    rintro e w' ⟨rfl, S', h1, h2, h3⟩
    dsimp only at h1 ⊢
    rw [clock_step hs] at h1 ⊢
    refine ⟨⟨_, _, rfl⟩, S', _, ?_, hX.step hx.symm, h2, h3⟩
    have e1 : ((m / 3 : Nat) : Int) * s + s = (((m + 1) / 3 : Nat) : Int) * s := by
      have := clock_step (k := m / 3) (r := r) hs
      rw [show (m + 1) / 3 = m / 3 + 1 by omega, ← this]
      have h : 0 ≤ ((m / 3 : Nat) : Int) * s := Int.mul_nonneg (by omega) (by omega)
      rw [Int.zero_mul, Int.max_eq_left h]
    have e3 : ((m / 3 + 1 : Nat) : Int) * s = uF m * s := by
      unfold uF
      rw [if_pos q0, show ((m / 3 + 1 : Nat) : Int) = ((m / 3 : Nat) : Int) + 1 by omega]
    have e5 : ((m / 3 + 1 : Nat) : Int) * s = (((m + 1) / 3 : Nat) : Int) * s := by rw [show (m + 1) / 3 = m / 3 + 1 by omega]
    have e4 : (FF s r ((m + 2) / 3) ((m + 1) / 3) (m / 3) b1 b2 b3).map (upF ⟨3, 2 * r, 1000000, (((m + 1) / 3 : Nat) : Int) * s, (((m + 1) / 3 : Nat) : Int) * s, b3⟩) = FF s r ((m + 1 + 2) / 3) ((m + 1 + 1) / 3) ((m + 1) / 3) b1 b2 b3 := by
      rw [show (m + 1 + 2) / 3 = (m + 2) / 3 by omega, show (m + 1 + 1) / 3 = (m + 1) / 3 by omega]
      simp [FF, upF]
    rw [e1, e5, e4, ← e5, e3] at h1
    exact h1
/-- what is left behind t takes. -/
structure ML (s r : Int) (t : Nat) (M : List It) : Prop where
  mem : ∀ y, y ∈ M ↔ ∃ j, j < 210 ∧ leftF t j ∧ y = itF s r j
  nd : M.Nodup
  len : M.length + t = 210
theorem ML.first (s r : Int) : ML s r 0 (MF s r 210) := by
  refine ⟨fun y => ?_, ?_, by simp [MF]⟩
  · unfold MF
    rw [List.mem_map]
    constructor
    · rintro ⟨j, hj, rfl⟩
      exact ⟨j, List.mem_range.1 hj, ⟨fun _ => by omega, fun _ => by omega, fun _ => by omega⟩, rfl⟩
    · rintro ⟨j, hj, -, rfl⟩
      exact ⟨j, List.mem_range.2 hj, rfl⟩
  · unfold MF
    refine List.Pairwise.map _ (fun a b h e => h ?_) List.nodup_range
    have e1 := congrArg iD e
    have e2 : (a : Int) + 1 = (b : Int) + 1 := e1
    omega
theorem itF_inj {a b : Nat} (e : itF s r a = itF s r b) : a = b := by
  have e1 := congrArg iD e
  have e2 : (a : Int) + 1 = (b : Int) + 1 := e1
  omega
theorem ML.min {t : Nat} {M : List It} (h : ML s r t M) (hs : 1 ≤ s) (hs2 : s ≤ 200) (hr : 1 ≤ r) (hr2 : r ≤ 1000) (ht : t < 60) : MinOf M (itF s r (ordF t)) := by
  refine ⟨(h.mem _).2 ⟨_, ord_lt ht, ord_left t, rfl⟩, fun y hy => ?_⟩
  obtain ⟨j, hj, hl, rfl⟩ := (h.mem y).1 hy
  exact itF_le hs hs2 hr hr2 (ord_lt ht) hj (ord_min hl)
theorem ML.step {t : Nat} {M : List It} (h : ML s r t M) (ht : t < 60) : ML s r (t + 1) (M.erase (itF s r (ordF t))) := by
  have hm : itF s r (ordF t) ∈ M := (h.mem _).2 ⟨_, ord_lt ht, ord_left t, rfl⟩
  refine ⟨fun y => ?_, h.nd.sublist List.erase_sublist, ?_⟩
  · rw [h.nd.mem_erase_iff, h.mem]
    constructor
    · rintro ⟨hne, j, hj, hl, rfl⟩
      exact ⟨j, hj, (left_succ t j).2 ⟨hl, fun e => hne (by rw [e])⟩, rfl⟩
    · rintro ⟨j, hj, hl, rfl⟩
      obtain ⟨a, b⟩ := (left_succ t j).1 hl
      exact ⟨fun e => b (itF_inj e), j, hj, a, rfl⟩
  · have := List.length_erase_of_mem hm
    have := List.length_pos_of_mem hm
    have := h.len
    omega
theorem takeFair {F : List Fw} {M : List It} {T : Int} {t : Nat} (H : Qu S w q F M T X) (h : ML s r t M) (hX : XF s 210 X) (hs : 1 ≤ s) (hs2 : s ≤ 200) (hr : 1 ≤ r) (hr2 : r ≤ 1000) (ht : t < 60) :
    Calls Try.prog 10 #[.pointer (some ⟨q, 0, none⟩)] w fun e w' => ∃ n d, e = .returned (.tuple #[.agg #[.int .i64 ((ordF t : Int) + 1), .int .i64 (((ordF t % 3 : Nat) : Int) + 1), .int .i64 s], .agg #[.int .i64 n, .int .i64 d], .bool true]) ∧
      ∃ S' F' M', Qu S' w' q F' M' T X ∧ ML s r (t + 1) M' ∧ Sav S w w' ∧ Nxt S S' w := by
  refine (takeQ H (h.min hs hs2 hr hr2 ht)).mono ?_
  rintro e w' ⟨rfl, S', f, hf, hid, h1, h2, h3⟩
  have e1 : X (iD (itF s r (ordF t))) = (((ordF t % 3 : Nat) : Int) + 1, s) := hX _ (ord_lt ht)
  rw [e1]
  exact ⟨_, _, rfl, S', _, _, h1, h.step ht, h2, h3⟩
end
end Go.Proofs.Ytgeankdimknmiaa.Hp

/- Clocks: ClockFair's walk. -/
namespace Go.Proofs.Ytgeankdimknmiaa.Hp
set_option linter.unusedVariables false
open Go.RowKit Go.Maps Go.Sort Go.Proofs.Ytgeankdimknmiaa.Tp
/-- m packets have come. -/
def PF (w : World) (q : Nat) (s r : Int) (b1 b2 b3 : Nat) (m : Nat) (W : World) : Prop := ∃ S X, Qu S W q (FF s r ((m + 2) / 3) ((m + 1) / 3) (m / 3) b1 b2 b3) (MF s r m) (m : Int) X ∧ XF s m X ∧ (∀ k, S k → w.heap.size ≤ k) ∧ Below w.heap.size w W
theorem PF.put {w W : World} {q : Nat} {s r : Int} {b1 b2 b3 m : Nat} (h : PF w q s r b1 b2 b3 m W) (hs : 1 ≤ s) (hs2 : s ≤ 200) (hr : 1 ≤ r) (hr2 : r ≤ 1000) (hm : m < 210) {f : Int} (hf : f = ((m % 3 : Nat) : Int) + 1) :
    Calls Try.prog 9 #[.pointer (some ⟨q, 0, none⟩), .agg #[.int .i64 ((m : Int) + 1), .int .i64 f, .int .i64 s], .int .i64 0] W fun e w' => ∃ n d, e = .returned (.tuple #[.agg #[.int .i64 n, .int .i64 d], .int .i64 0]) ∧ PF w q s r b1 b2 b3 (m + 1) w' := by
  obtain ⟨S, X, h1, h2, h3, h4⟩ := h
  rw [hf]
  refine (putFair h1 h2 hs hs2 hr hr2 hm).mono ?_
  rintro e w' ⟨⟨n, d, rfl⟩, S', X', k1, k2, k3, k4⟩
  obtain ⟨bb, hn⟩ := q_step h4 h3 k3 k4
  exact ⟨n, d, rfl, S', X', k1, k2, hn, bb⟩
theorem PF.below {w W W' : World} {q : Nat} {s r : Int} {b1 b2 b3 m : Nat} (h : PF w q s r b1 b2 b3 m W) (hb : Below W.heap.size W W') : PF w q s r b1 b2 b3 m W' := by
  obtain ⟨S, X, h1, h2, h3, h4⟩ := h
  exact ⟨S, X, h1.below hb, h2, h3, h4.trans (hb.mono h4.size)⟩
def gF (t : Nat) (k : Nat) : Int := if k = 1 then (((t + 2) / 4 : Nat) : Int) else if k = 2 then (((t + 1) / 4 : Nat) : Int) else if k = 3 then (((t + 3) / 4 + t / 4 : Nat) : Int) else 0
/-- t packets were taken; where the counts lie. -/
def TF (w : World) (q g : Nat) (s r : Int) (t : Nat) (W : World) : Prop := ∃ S F M X, Qu S W q F M 210 X ∧ ML s r t M ∧ XF s 210 X ∧ (∀ k, S k → w.heap.size ≤ k) ∧ Below w.heap.size w W ∧ ¬ S g ∧ w.heap.size ≤ g
theorem TF.take {w W : World} {q g : Nat} {s r : Int} {t : Nat} (h : TF w q g s r t W) (hs : 1 ≤ s) (hs2 : s ≤ 200) (hr : 1 ≤ r) (hr2 : r ≤ 1000) (ht : t < 60) (hg : g < W.heap.size) :
    Calls Try.prog 10 #[.pointer (some ⟨q, 0, none⟩)] W fun e w' => ∃ n d, e = .returned (.tuple #[.agg #[.int .i64 ((ordF t : Int) + 1), .int .i64 (((ordF t % 3 : Nat) : Int) + 1), .int .i64 s], .agg #[.int .i64 n, .int .i64 d], .bool true]) ∧ TF w q g s r (t + 1) w' ∧ w'.heap[g]? = W.heap[g]? ∧ g < w'.heap.size := by
  obtain ⟨S, F, M, X, h1, h2, h3, h4, h5, h6, h7⟩ := h
  refine (takeFair h1 h2 h3 hs hs2 hr hr2 ht).mono ?_
  rintro e w' ⟨n, d, rfl, S', F', M', k1, k2, k3, k4⟩
  obtain ⟨bb, hn⟩ := q_step h5 h4 k3 k4
  exact ⟨n, d, rfl, ⟨S', F', M', X, k1, k2, h3, hn, bb, fun e => h6 (k4 g hg e), h7⟩, k3.block g hg h6, Nat.lt_of_lt_of_le hg k3.size⟩
theorem TF.keep {w W W' : World} {q g : Nat} {s r : Int} {t : Nat} (h : TF w q g s r t W) (hk : ∀ k, k < W.heap.size → k ≠ g → W'.heap[k]? = W.heap[k]?) (hb : Below w.heap.size W W') : TF w q g s r t W' := by
  obtain ⟨S, F, M, X, h1, h2, h3, h4, h5, h6, h7⟩ := h
  exact ⟨S, F, M, X, h1.keep (fun k hk2 => hk k (h1.lt hk2) (fun e => h6 (e ▸ hk2))), h2, h3, h4, h5.trans hb, h6, h7⟩
theorem TF.sav {w W W' : World} {q g : Nat} {s r : Int} {t : Nat} (h : TF w q g s r t W) (hs : Sav (fun k => k = g) W W') : TF w q g s r t W' := by
  obtain ⟨S, F, M, X, h1, h2, h3, h4, h5, h6, h7⟩ := h
  exact ⟨S, F, M, X, h1.keep (fun k hk2 => hs.block k (h1.lt hk2) (fun e => h6 (e ▸ hk2))), h2, h3, h4, h5.trans (hs.below h5.size (fun j e => e ▸ h7)), h6, h7⟩
theorem rowG1 {W : World} {b : Nat} {c0 c1 c2 c3 v : Value} {t : TypeId} (h : W.heap[b]? = some (.cells #[c0, c1, c2, c3] t (0, 0))) : (W.setCell ⟨b, 1, none⟩ v).heap[b]? = some (.cells #[c0, v, c2, c3] t (0, 0)) := by
  have h3 := heap_setCell_same W b 1 _ _ v h
  simp only [List.setIfInBounds_toArray, List.set_cons_zero, List.set_cons_succ] at h3
  exact h3
theorem rowG2 {W : World} {b : Nat} {c0 c1 c2 c3 v : Value} {t : TypeId} (h : W.heap[b]? = some (.cells #[c0, c1, c2, c3] t (0, 0))) : (W.setCell ⟨b, 2, none⟩ v).heap[b]? = some (.cells #[c0, c1, v, c3] t (0, 0)) := by
  have h3 := heap_setCell_same W b 2 _ _ v h
  simp only [List.setIfInBounds_toArray, List.set_cons_zero, List.set_cons_succ] at h3
  exact h3
theorem rowG3 {W : World} {b : Nat} {c0 c1 c2 c3 v : Value} {t : TypeId} (h : W.heap[b]? = some (.cells #[c0, c1, c2, c3] t (0, 0))) : (W.setCell ⟨b, 3, none⟩ v).heap[b]? = some (.cells #[c0, c1, c2, v] t (0, 0)) := by
  have h3 := heap_setCell_same W b 3 _ _ v h
  simp only [List.setIfInBounds_toArray, List.set_cons_zero, List.set_cons_succ] at h3
  exact h3
/-- who is served how often: a packet of flow k is the t-th. -/
theorem gF_step {t : Nat} (ht : t < 60) :
    (ordF t % 3 = 0 → gF (t + 1) 1 = gF t 1 + 1 ∧ gF (t + 1) 2 = gF t 2 ∧ gF (t + 1) 3 = gF t 3) ∧ (ordF t % 3 = 1 → gF (t + 1) 1 = gF t 1 ∧ gF (t + 1) 2 = gF t 2 + 1 ∧ gF (t + 1) 3 = gF t 3) ∧ (ordF t % 3 = 2 → gF (t + 1) 1 = gF t 1 ∧ gF (t + 1) 2 = gF t 2 ∧ gF (t + 1) 3 = gF t 3 + 1) := by
  have hc : t % 4 = 0 ∨ t % 4 = 1 ∨ t % 4 = 2 ∨ t % 4 = 3 := by omega
  unfold gF ordF
  rcases hc with q | q | q | q <;> simp [q] <;> omega
theorem gF_near {t : Nat} (ht : t ≤ 60) : (0 ≤ gF t 1 ∧ gF t 1 ≤ 30) ∧ (0 ≤ gF t 2 ∧ gF t 2 ≤ 30) ∧ (0 ≤ gF t 3 ∧ gF t 3 ≤ 60) ∧ ¬ 1 < gF t 1 - gF t 2 ∧ ¬ 1 < gF t 2 - gF t 1 ∧ ¬ 2 < gF t 3 - 2 * gF t 1 ∧ ¬ 2 < 2 * gF t 1 - gF t 3 := by
  unfold gF
  simp
  omega
set_option maxRecDepth 100000 in
set_option maxHeartbeats 8000000 in
theorem fair14_walk (r s n : Int) (hn0 : -9223372036854775808 ≤ n) (hn1 : n ≤ 9223372036854775807) (w : World) :
    Calls Try.prog 5 #[.int .i64 r, .int .i64 s, .int .i64 n] w fun e w' => e = .returned (.bool true) ∧ Below w.heap.size w w' := by
  have cK := hidd (fun W => known14_any W)
  have cN := hidd (fun W => newQ W)
  by_cases h0a : r < 1
  · go_enter Try.func5, Try.ntmps5
    go_wp2_with fail
    refine (cK.out _).mono ?_
    rintro e w1 ⟨rfl, hb⟩
    go_wp2_with fail
    go_ret
    exact ⟨rfl, by (repeat' (first | (with_reducible exact Below.refl _ _) | (with_reducible assumption) | (with_reducible apply Below.setCell) | (with_reducible apply Below.alloc) | (with_reducible apply Below.drew) | (with_reducible apply below_drewN) | (with_reducible refine Below.trans ?_ (Below.mono (by assumption) ?_)) | omega | (simp; done) | (simp; omega)))⟩
  by_cases h2a : 1000 < r
  · go_enter Try.func5, Try.ntmps5
    go_wp2_with fail
    refine (cK.out _).mono ?_
    rintro e w1 ⟨rfl, hb⟩
    go_wp2_with fail
    go_ret
    exact ⟨rfl, by (repeat' (first | (with_reducible exact Below.refl _ _) | (with_reducible assumption) | (with_reducible apply Below.setCell) | (with_reducible apply Below.alloc) | (with_reducible apply Below.drew) | (with_reducible apply below_drewN) | (with_reducible refine Below.trans ?_ (Below.mono (by assumption) ?_)) | omega | (simp; done) | (simp; omega)))⟩
  by_cases h1a : s < 1
  · go_enter Try.func5, Try.ntmps5
    go_wp2_with fail
    refine (cK.out _).mono ?_
    rintro e w1 ⟨rfl, hb⟩
    go_wp2_with fail
    go_ret
    exact ⟨rfl, by (repeat' (first | (with_reducible exact Below.refl _ _) | (with_reducible assumption) | (with_reducible apply Below.setCell) | (with_reducible apply Below.alloc) | (with_reducible apply Below.drew) | (with_reducible apply below_drewN) | (with_reducible refine Below.trans ?_ (Below.mono (by assumption) ?_)) | omega | (simp; done) | (simp; omega)))⟩
  by_cases h3a : 200 < s
  · go_enter Try.func5, Try.ntmps5
    go_wp2_with fail
    refine (cK.out _).mono ?_
    rintro e w1 ⟨rfl, hb⟩
    go_wp2_with fail
    go_ret
    exact ⟨rfl, by (repeat' (first | (with_reducible exact Below.refl _ _) | (with_reducible assumption) | (with_reducible apply Below.setCell) | (with_reducible apply Below.alloc) | (with_reducible apply Below.drew) | (with_reducible apply below_drewN) | (with_reducible refine Below.trans ?_ (Below.mono (by assumption) ?_)) | omega | (simp; done) | (simp; omega)))⟩
  by_cases h4a : n < 0
  · go_enter Try.func5, Try.ntmps5
    go_wp2_with fail
    refine (cK.out _).mono ?_
    rintro e w1 ⟨rfl, hb⟩
    go_wp2_with fail
    go_ret
    exact ⟨rfl, by (repeat' (first | (with_reducible exact Below.refl _ _) | (with_reducible assumption) | (with_reducible apply Below.setCell) | (with_reducible apply Below.alloc) | (with_reducible apply Below.drew) | (with_reducible apply below_drewN) | (with_reducible refine Below.trans ?_ (Below.mono (by assumption) ?_)) | omega | (simp; done) | (simp; omega)))⟩
  by_cases h5a : 60 < n
  · go_enter Try.func5, Try.ntmps5
    go_wp2_with fail
    refine (cK.out _).mono ?_
    rintro e w1 ⟨rfl, hb⟩
    go_wp2_with fail
    go_ret
    exact ⟨rfl, by (repeat' (first | (with_reducible exact Below.refl _ _) | (with_reducible assumption) | (with_reducible apply Below.setCell) | (with_reducible apply Below.alloc) | (with_reducible apply Below.drew) | (with_reducible apply below_drewN) | (with_reducible refine Below.trans ?_ (Below.mono (by assumption) ?_)) | omega | (simp; done) | (simp; omega)))⟩
  have h0 : 1 ≤ r := by omega
  have h2 : r ≤ 1000 := by omega
  have h1 : 1 ≤ s := by omega
  have h3 : s ≤ 200 := by omega
  have wr2 : IntKind.i64.wrap (2 * r) = 2 * r := by rw [IntKind.wrap_i64]; omega
  go_enter Try.func5, Try.ntmps5
  go_wp2_with fail
  refine (cN.out _).mono ?_
  rintro e w0 ⟨q, S0, rfl, hQ, hn, hb⟩
  have cA := hidd (addQ hQ (flow := 1) (rate := r) (room := 1000000) (now := 0) (by unfold flowB; exact decide_eq_true (by omega)) (by decide) (by simp) (by decide))
  have B0 := hidd hb
  have N0 := hidd hn
  clear hQ hn hb
  go_wp2_with fail
  refine cA.out.mono ?_
  rintro e w1 ⟨rfl, S1, b1, hq1, s1, n1⟩
  have st1 := q_step B0.out N0.out s1 n1
  have B1 := hidd st1.1
  have N1 := hidd st1.2
  rw [Int.zero_mul] at hq1
  have cA2 := hidd (addQ hq1 (flow := 2) (rate := r) (room := 1000000) (now := 0) (by unfold flowB; exact decide_eq_true (by omega)) (by decide) (by simp) (by simp))
  clear hq1 s1 n1 st1 cA B0 N0
  go_wp2_with fail
  refine cA2.out.mono ?_
  rintro e w2 ⟨rfl, S2, b2, hq2, s2, n2⟩
  have st2 := q_step B1.out N1.out s2 n2
  have B2 := hidd st2.1
  have N2 := hidd st2.2
  rw [Int.zero_mul] at hq2
  have cA3 := hidd (addQ hq2 (flow := 3) (rate := 2 * r) (room := 1000000) (now := 0) (by unfold flowB; exact decide_eq_true (by omega)) (by decide) (by simp) (by simp))
  clear hq2 s2 n2 st2 cA2 B1 N1
  go_wp2_with fail
  refine cA3.out.mono ?_
  rintro e w3 ⟨rfl, S3, b3, hq3, s3, n3⟩
  have st3 := q_step B2.out N2.out s3 n3
  rw [Int.zero_mul] at hq3
  have P0 : Hid (PF w q s r b1 b2 b3 0 w3) := hidd ⟨S3, kX0, by
    have e0 : FF s r 0 0 0 b1 b2 b3 = [⟨1, r, 1000000, 0, 0, b1⟩, ⟨2, r, 1000000, 0, 0, b2⟩, ⟨3, 2 * r, 1000000, 0, 0, b3⟩] := by simp [FF]
    show Qu S3 w3 q (FF s r 0 0 0 b1 b2 b3) [] 0 kX0
    rw [e0]
    exact hq3, fun j hj => by omega, st3.2, st3.1⟩
  clear hq3 s3 n3 st3 cA3 B2 N2
  go_wp2_with fail
  go_loopg [11] 70 (fun gk s11 wr => ∃ i : Nat, i + gk = 70 ∧ s11 = .int .i64 (i : Int) ∧ PF w q s r b1 b2 b3 (3 * i) wr)
  case atStart => exact ⟨0, by omega, rfl, P0.out⟩
  case round =>
    obtain ⟨i, hg, rfl, hP⟩ := hrel
    have HP := hidd hP
    clear hP
    by_cases hi : i < 70
    · have z1 : (i : Int) < 70 := by omega
      go_wp2_with fail
      generalize gk = G at *
      go_loopg [12] 3 (fun gk s12 wq => ∃ m : Nat, m + gk = 3 * i + 3 ∧ 3 * i ≤ m ∧ s12 = .int .i64 ((m : Int) - 3 * (i : Int) + 1) ∧ PF w q s r b1 b2 b3 m wq)
      case atStart => exact ⟨3 * i, by omega, by omega, by congr 1; omega, HP.out⟩
      case round =>
        obtain ⟨m, hmg, hmi, rfl, hPm⟩ := hrel
        have HPm := hidd hPm
        clear hPm
        by_cases hm : m < 3 * i + 3
        · skip
          obtain ⟨f, hf⟩ : ∃ f : Int, (m : Int) - 3 * (i : Int) + 1 = f := ⟨_, rfl⟩
          have hf2 : f = ((m % 3 : Nat) : Int) + 1 := by omega
          have hf3 : f ≤ 3 := by omega
          have cP := hidd (HPm.out.put h1 h3 h0 h2 (by omega) hf2)
          rw [hf]
          have HF := hidd hf
          have w1 : IntKind.i64.wrap (3 * (i : Int)) = 3 * (i : Int) := by rw [IntKind.wrap_i64]; omega
          have w2 : IntKind.i64.wrap (3 * (i : Int) + f) = (m : Int) + 1 := by rw [IntKind.wrap_i64]; omega
          have w3 : IntKind.i64.wrap (f + 1) = f + 1 := by rw [IntKind.wrap_i64]; omega
          clear hf hf2
          go_wp2_with fail
          refine cP.out.mono ?_
          rintro e w4 ⟨a, d, rfl, hP4⟩
          have HP4 := hidd hP4
          clear hP4
          go_wp2_with fail
          go_roundg (gk - 1)
          case measure => omega
          case rel => exact ⟨m + 1, by omega, by omega, by have := HF.out; congr 1; omega, HP4.out.below (below_new (Below.refl _ _) _)⟩
        · obtain rfl : m = 3 * i + 3 := by omega
          have ef : ((3 * i + 3 : Nat) : Int) - 3 * (i : Int) + 1 = 4 := by omega
          have w4 : IntKind.i64.wrap ((i : Int) + 1) = (i : Int) + 1 := by rw [IntKind.wrap_i64]; omega
          rw [ef]
          clear ef hmg hmi
          go_wp2_with fail
          go_roundg (G - 1)
          case measure => omega
          case rel => exact ⟨i + 1, by omega, by congr 1, HPm.out⟩
    · obtain rfl : i = 70 := by omega
      obtain ⟨W5, hW5⟩ : ∃ W, wr.alloc (.cells #[.int .i64 0, .int .i64 0, .int .i64 0, .int .i64 0] 48) = W := ⟨_, rfl⟩
      have T0 : Hid (TF w q wr.heap.size s r 0 W5) := hidd (by
        obtain ⟨S, X, h1, h2, h3, h4⟩ := HP.out
        rw [← hW5]
        exact ⟨S, _, _, X, h1.below (below_new (Below.refl _ _) _), ML.first s r, h2, h3, h4.trans ((below_new (Below.refl _ _) _).mono h4.size), fun e => by have := h1.lt e; omega, h4.size⟩)
      have ROW : Hid (W5.heap[wr.heap.size]? = some (.cells #[.int .i64 0, .int .i64 (gF 0 1), .int .i64 (gF 0 2), .int .i64 (gF 0 3)] 48 (0, 0))) := hidd (by rw [← hW5]; exact heap_alloc_new wr _)
      go_wp2_with fail
      clear hW5 HP
      generalize wr.heap.size = g at *
      go_loopg [16] n.toNat (fun gk s16 wq => ∃ t : Nat, (t : Int) + gk = n ∧ s16 = .int .i64 (t : Int) ∧ TF w q g s r t wq ∧ wq.heap[g]? = some (.cells #[.int .i64 0, .int .i64 (gF t 1), .int .i64 (gF t 2), .int .i64 (gF t 3)] 48 (0, 0)))
      case atStart => exact ⟨0, by omega, rfl, T0.out, ROW.out⟩
      case round =>
        clear T0 ROW
        obtain ⟨t, hg, rfl, hT, hrow⟩ := hrel
        have HT := hidd hT
        have ROW := hidd hrow
        clear hT hrow
        by_cases ht : (t : Int) < n
        · have cT := hidd (HT.out.take h1 h3 h0 h2 (by omega) (Array.getElem?_eq_some_iff.1 ROW.out).1)
          have ROWT := hidd ROW.out
          obtain ⟨st1, st2, st3⟩ := gF_step (t := t) (by omega)
          obtain ⟨⟨p1, p2⟩, ⟨p3, p4⟩, ⟨p5, p6⟩, z1, z2, z3, z4⟩ := gF_near (t := t + 1) (by omega)
          have wt : IntKind.i64.wrap ((t : Int) + 1) = (t : Int) + 1 := by rw [IntKind.wrap_i64]; omega
          have hmod : ordF t % 3 = 0 ∨ ordF t % 3 = 1 ∨ ordF t % 3 = 2 := by omega
          rcases hmod with hm | hm | hm
          · obtain ⟨e1, e2, e3⟩ := st1 hm
            have ef : ((ordF t % 3 : Nat) : Int) + 1 = 1 := by omega
            rw [ef] at cT
            have row0 := ROW.out
            rw [← e2, ← e3] at row0
            have R0 := hidd row0
            have wk : IntKind.i64.wrap (gF t 1 + 1) = gF (t + 1) 1 := by rw [IntKind.wrap_i64]; omega
            clear st1 st2 st3 e1 e2 e3 ef hm row0 ROW
            have w1 : IntKind.i64.wrap (gF (t + 1) 1 - gF (t + 1) 2) = gF (t + 1) 1 - gF (t + 1) 2 := by rw [IntKind.wrap_i64]; omega
            have w2 : IntKind.i64.wrap (gF (t + 1) 2 - gF (t + 1) 1) = gF (t + 1) 2 - gF (t + 1) 1 := by rw [IntKind.wrap_i64]; omega
            have w3 : IntKind.i64.wrap (2 * gF (t + 1) 1) = 2 * gF (t + 1) 1 := by rw [IntKind.wrap_i64]; omega
            have w4 : IntKind.i64.wrap (gF (t + 1) 3 - 2 * gF (t + 1) 1) = gF (t + 1) 3 - 2 * gF (t + 1) 1 := by rw [IntKind.wrap_i64]; omega
            have w5 : IntKind.i64.wrap (2 * gF (t + 1) 1 - gF (t + 1) 3) = 2 * gF (t + 1) 1 - gF (t + 1) 3 := by rw [IntKind.wrap_i64]; omega
            obtain ⟨u1, hu1⟩ : ∃ x, gF (t + 1) 1 = x := ⟨_, rfl⟩
            obtain ⟨u2, hu2⟩ : ∃ x, gF (t + 1) 2 = x := ⟨_, rfl⟩
            obtain ⟨u3, hu3⟩ : ∃ x, gF (t + 1) 3 = x := ⟨_, rfl⟩
            obtain ⟨u0, hu0⟩ : ∃ x, gF t 1 = x := ⟨_, rfl⟩
            simp only [hu1, hu2, hu3, hu0] at R0 wk w1 w2 w3 w4 w5 p1 p2 p3 p4 p5 p6 z1 z2 z3 z4
            have HU := hidd (And.intro hu1 (And.intro hu2 hu3))
            clear hu1 hu2 hu3 hu0
            go_wp2_with fail
            refine cT.out.mono ?_
            rintro e w8 ⟨a, d, rfl, hT4, hr4, hl4⟩
            have HT4 := hidd hT4
            have row4 := hr4.trans R0.out
            have ROW4 := hidd row4
            have k1 : w8.cell? ⟨g, 1, none⟩ = some (.int .i64 u0) := by simp [World.cell?, row4]
            have k2 : w8.cell? ⟨g, 2, none⟩ = some (.int .i64 u2) := by simp [World.cell?, row4]
            have k3 : w8.cell? ⟨g, 3, none⟩ = some (.int .i64 u3) := by simp [World.cell?, row4]
            have kf : w8.frozen? ⟨g, 1, none⟩ = false := by simp [World.frozen?, row4]
            have hl5 : g ≤ w8.heap.size := by omega
            have HL := hidd hl4
            clear hT4 hr4 cT row4
            go_wp2_with fail
            go_roundg (gk - 1)
            case measure => omega
            case rel =>
              obtain ⟨hu1, hu2, hu3⟩ := HU.out
              have sv := (Sav.setCell (S := fun k => k = g) (p := ⟨g, 1, none⟩) rfl w8 (.int .i64 u1)).tr (Sav.of (below_new (below_new (Below.refl _ (w8.setCell ⟨g, 1, none⟩ (.int .i64 u1))) (.cells #[.int .i64 ((ordF t : Int) + 1), .int .i64 1, .int .i64 s] 31)) (.cells #[.int .i64 a, .int .i64 d] 35)))
              refine ⟨t + 1, by omega, by congr 1, HT4.out.sav sv, ?_⟩
              rw [hu1, hu2, hu3]
              exact (Below.heap_alloc _ _ _ (by simp [World.setCell]; omega)).trans ((Below.heap_alloc _ _ _ (by simp [World.setCell]; exact HL.out)).trans (rowG1 ROW4.out))
          · obtain ⟨e1, e2, e3⟩ := st2 hm
            have ef : ((ordF t % 3 : Nat) : Int) + 1 = 2 := by omega
            rw [ef] at cT
            have row0 := ROW.out
            rw [← e1, ← e3] at row0
            have R0 := hidd row0
            have wk : IntKind.i64.wrap (gF t 2 + 1) = gF (t + 1) 2 := by rw [IntKind.wrap_i64]; omega
            clear st1 st2 st3 e1 e2 e3 ef hm row0 ROW
            have w1 : IntKind.i64.wrap (gF (t + 1) 1 - gF (t + 1) 2) = gF (t + 1) 1 - gF (t + 1) 2 := by rw [IntKind.wrap_i64]; omega
            have w2 : IntKind.i64.wrap (gF (t + 1) 2 - gF (t + 1) 1) = gF (t + 1) 2 - gF (t + 1) 1 := by rw [IntKind.wrap_i64]; omega
            have w3 : IntKind.i64.wrap (2 * gF (t + 1) 1) = 2 * gF (t + 1) 1 := by rw [IntKind.wrap_i64]; omega
            have w4 : IntKind.i64.wrap (gF (t + 1) 3 - 2 * gF (t + 1) 1) = gF (t + 1) 3 - 2 * gF (t + 1) 1 := by rw [IntKind.wrap_i64]; omega
            have w5 : IntKind.i64.wrap (2 * gF (t + 1) 1 - gF (t + 1) 3) = 2 * gF (t + 1) 1 - gF (t + 1) 3 := by rw [IntKind.wrap_i64]; omega
            obtain ⟨u1, hu1⟩ : ∃ x, gF (t + 1) 1 = x := ⟨_, rfl⟩
            obtain ⟨u2, hu2⟩ : ∃ x, gF (t + 1) 2 = x := ⟨_, rfl⟩
            obtain ⟨u3, hu3⟩ : ∃ x, gF (t + 1) 3 = x := ⟨_, rfl⟩
            obtain ⟨u0, hu0⟩ : ∃ x, gF t 2 = x := ⟨_, rfl⟩
            simp only [hu1, hu2, hu3, hu0] at R0 wk w1 w2 w3 w4 w5 p1 p2 p3 p4 p5 p6 z1 z2 z3 z4
            have HU := hidd (And.intro hu1 (And.intro hu2 hu3))
            clear hu1 hu2 hu3 hu0
            go_wp2_with fail
            refine cT.out.mono ?_
            rintro e w8 ⟨a, d, rfl, hT4, hr4, hl4⟩
            have HT4 := hidd hT4
            have row4 := hr4.trans R0.out
            have ROW4 := hidd row4
            have k1 : w8.cell? ⟨g, 1, none⟩ = some (.int .i64 u1) := by simp [World.cell?, row4]
            have k2 : w8.cell? ⟨g, 2, none⟩ = some (.int .i64 u0) := by simp [World.cell?, row4]
            have k3 : w8.cell? ⟨g, 3, none⟩ = some (.int .i64 u3) := by simp [World.cell?, row4]
            have kf : w8.frozen? ⟨g, 2, none⟩ = false := by simp [World.frozen?, row4]
            have hl5 : g ≤ w8.heap.size := by omega
            have HL := hidd hl4
            clear hT4 hr4 cT row4
            go_wp2_with fail
            go_roundg (gk - 1)
            case measure => omega
            case rel =>
              obtain ⟨hu1, hu2, hu3⟩ := HU.out
              have sv := (Sav.setCell (S := fun k => k = g) (p := ⟨g, 2, none⟩) rfl w8 (.int .i64 u2)).tr (Sav.of (below_new (below_new (Below.refl _ (w8.setCell ⟨g, 2, none⟩ (.int .i64 u2))) (.cells #[.int .i64 ((ordF t : Int) + 1), .int .i64 2, .int .i64 s] 31)) (.cells #[.int .i64 a, .int .i64 d] 35)))
              refine ⟨t + 1, by omega, by congr 1, HT4.out.sav sv, ?_⟩
              rw [hu1, hu2, hu3]
              exact (Below.heap_alloc _ _ _ (by simp [World.setCell]; omega)).trans ((Below.heap_alloc _ _ _ (by simp [World.setCell]; exact HL.out)).trans (rowG2 ROW4.out))
          · obtain ⟨e1, e2, e3⟩ := st3 hm
            have ef : ((ordF t % 3 : Nat) : Int) + 1 = 3 := by omega
            rw [ef] at cT
            have row0 := ROW.out
            rw [← e1, ← e2] at row0
            have R0 := hidd row0
            have wk : IntKind.i64.wrap (gF t 3 + 1) = gF (t + 1) 3 := by rw [IntKind.wrap_i64]; omega
            clear st1 st2 st3 e1 e2 e3 ef hm row0 ROW
            have w1 : IntKind.i64.wrap (gF (t + 1) 1 - gF (t + 1) 2) = gF (t + 1) 1 - gF (t + 1) 2 := by rw [IntKind.wrap_i64]; omega
            have w2 : IntKind.i64.wrap (gF (t + 1) 2 - gF (t + 1) 1) = gF (t + 1) 2 - gF (t + 1) 1 := by rw [IntKind.wrap_i64]; omega
            have w3 : IntKind.i64.wrap (2 * gF (t + 1) 1) = 2 * gF (t + 1) 1 := by rw [IntKind.wrap_i64]; omega
            have w4 : IntKind.i64.wrap (gF (t + 1) 3 - 2 * gF (t + 1) 1) = gF (t + 1) 3 - 2 * gF (t + 1) 1 := by rw [IntKind.wrap_i64]; omega
            have w5 : IntKind.i64.wrap (2 * gF (t + 1) 1 - gF (t + 1) 3) = 2 * gF (t + 1) 1 - gF (t + 1) 3 := by rw [IntKind.wrap_i64]; omega
            obtain ⟨u1, hu1⟩ : ∃ x, gF (t + 1) 1 = x := ⟨_, rfl⟩
            obtain ⟨u2, hu2⟩ : ∃ x, gF (t + 1) 2 = x := ⟨_, rfl⟩
            obtain ⟨u3, hu3⟩ : ∃ x, gF (t + 1) 3 = x := ⟨_, rfl⟩
            obtain ⟨u0, hu0⟩ : ∃ x, gF t 3 = x := ⟨_, rfl⟩
            simp only [hu1, hu2, hu3, hu0] at R0 wk w1 w2 w3 w4 w5 p1 p2 p3 p4 p5 p6 z1 z2 z3 z4
            have HU := hidd (And.intro hu1 (And.intro hu2 hu3))
            clear hu1 hu2 hu3 hu0
            go_wp2_with fail
            refine cT.out.mono ?_
            rintro e w8 ⟨a, d, rfl, hT4, hr4, hl4⟩
            have HT4 := hidd hT4
            have row4 := hr4.trans R0.out
            have ROW4 := hidd row4
            have k1 : w8.cell? ⟨g, 1, none⟩ = some (.int .i64 u1) := by simp [World.cell?, row4]
            have k2 : w8.cell? ⟨g, 2, none⟩ = some (.int .i64 u2) := by simp [World.cell?, row4]
            have k3 : w8.cell? ⟨g, 3, none⟩ = some (.int .i64 u0) := by simp [World.cell?, row4]
            have kf : w8.frozen? ⟨g, 3, none⟩ = false := by simp [World.frozen?, row4]
            have hl5 : g ≤ w8.heap.size := by omega
            have HL := hidd hl4
            clear hT4 hr4 cT row4
            go_wp2_with fail
            go_roundg (gk - 1)
            case measure => omega
            case rel =>
              obtain ⟨hu1, hu2, hu3⟩ := HU.out
              have sv := (Sav.setCell (S := fun k => k = g) (p := ⟨g, 3, none⟩) rfl w8 (.int .i64 u3)).tr (Sav.of (below_new (below_new (Below.refl _ (w8.setCell ⟨g, 3, none⟩ (.int .i64 u3))) (.cells #[.int .i64 ((ordF t : Int) + 1), .int .i64 3, .int .i64 s] 31)) (.cells #[.int .i64 a, .int .i64 d] 35)))
              refine ⟨t + 1, by omega, by congr 1, HT4.out.sav sv, ?_⟩
              rw [hu1, hu2, hu3]
              exact (Below.heap_alloc _ _ _ (by simp [World.setCell]; omega)).trans ((Below.heap_alloc _ _ _ (by simp [World.setCell]; exact HL.out)).trans (rowG3 ROW4.out))
        · obtain rfl : n = (t : Int) := by omega
          obtain ⟨S, F, M, X, j1, j2, j3, j4, j5, j6, j7⟩ := HT.out
          have cL := hidd (lenQ j1)
          have hlen : (M.length : Int) = 210 - (t : Int) := by have := j2.len; omega
          rw [hlen] at cL
          have BE := hidd j5
          clear j1 j2 j3 j4 j5 j6 j7 hlen HT ROW
          have wt : IntKind.i64.wrap (210 - (t : Int)) = 210 - (t : Int) := by rw [IntKind.wrap_i64]; omega
          go_wp2_with fail
          refine cL.out.mono ?_
          rintro e w8 ⟨rfl, rfl⟩
          go_wp2_with fail
          refine (cK.out _).mono ?_
          rintro e w9 ⟨rfl, hb9⟩
          go_wp2_with fail
          go_ret
          exact ⟨rfl, by have b := BE.out; have b0 := b.size; (repeat' (first | (with_reducible exact Below.refl _ _) | (with_reducible assumption) | (with_reducible apply Below.setCell) | (with_reducible apply Below.alloc) | (with_reducible apply Below.drew) | (with_reducible apply below_drewN) | (with_reducible refine Below.trans ?_ (Below.mono (by assumption) ?_)) | omega | (simp; done) | (simp; omega)))⟩
end Go.Proofs.Ytgeankdimknmiaa.Hp

/- The row's frame, for clocks: arguments are opened to numbers and lists (out of the heaps' frame). -/
namespace Go.Proofs.Ytgeankdimknmiaa.Hp
set_option linter.unusedVariables false
namespace RowK
open Go.ChangeShapes Go.WideShapes Go.ChangeAt Go.RowKit Go.Joins Go.Deep Go.Proofs.Ytgeankdimknmiaa.Tp

theorem own : ownKnob Try.prog.godebug = none := by kernel_rfl
theorem laidOut : laidOutB Try.prog = true := by kernel_rfl
theorem i64_bounds {n : Int} (h : (Lit.int .i64 n).wf = true) : -9223372036854775808 ≤ n ∧ n ≤ 9223372036854775807 := by
  simp only [Lit.wf, Bool.and_eq_true, decide_eq_true_eq] at h
  have a : IntKind.i64.min = -9223372036854775808 := rfl
  have b : IntKind.i64.max = 9223372036854775807 := rfl
  omega
section
variable {H : Type} {enc : TypeId × Value → H} {P : Program}
theorem all_stays (hl : laidOutB P = true) {W W' : World} (hb : Below W.heap.size W W') : ∀ {ts : List TypeId} {vs : List Value} {ds : List (DataW H)} {ps : List MemPlace},
    (∀ t ∈ ts, P.readableRec t = true ∧ t < P.types.size) → DataW.TrodAll enc P W 0 (fun _ => true) true ts vs ds ps → (∀ x ∈ ps, x.block < W.heap.size) → ∀ sp : Nat → Bool, (∀ x ∈ ps, sp x.block = true) → DataW.TrodAll enc P W' 0 sp true ts vs ds ps
  | [], vs, ds, ps, _, h, _, sp, _ => by
    obtain ⟨rfl, rfl, rfl⟩ := trodAll_nil h
    exact trodAll_mk0
  | t :: ts, vs, ds, ps, hr, h, hlt, sp, hsp => by
    obtain ⟨v, vs', d, ds', p, p', rfl, rfl, rfl, h0, h1⟩ := trodAll_cons h
    refine trodAll_cons_mk (WideElems.Trod_stays hl (hr t (by simp)).1 (hr t (by simp)).2 h0 (fun x hx => hb.same (hlt x (by simp [hx]))) (fun x hx => hsp x (by simp [hx]))) ?_
    exact all_stays hl hb (fun t ht => hr t (by simp [ht])) h1 (fun x hx => hlt x (by simp [hx])) sp (fun x hx => hsp x (by simp [hx]))

theorem post_law {f : Func} {s : ChangeSpec} {apart fresh handsOn again : Bool} {W W' : World} {args : Array Value} {v : Value} {ds gs : List (DataW H)} {before pv : List MemPlace}
    (hl : laidOutB P = true) (hr : ∀ t ∈ f.params.toList, P.readableRec t = true ∧ t < P.types.size)
    (hW : DataW.Whole enc P f.params.toList s.vars apart W args.toList ds gs (before ++ pv))
    (hA : DataW.TrodAll enc P W 0 (fun _ => true) true f.params.toList args.toList ds before)
    (hs : (s.fn H (ds ++ gs)).args = ds)
    (hres : ∀ (b : Nat) (sp : Nat → Bool) (hd : Bool), DataW.TrodAll enc P W' b sp hd f.resultTypes.toList (v.resultList f.resultTypes.size) (s.fn H (ds ++ gs)).results [])
    (hvars : ∀ sp : Nat → Bool, DataW.TrodVars enc P W' sp s.vars (s.fn H (ds ++ gs)).vars pv)
    (hb : Below W.heap.size W W')
    (hok : ∀ (j : Nat) (t : TypeId) (r : Value), f.resultTypes[j]? = some t → (v.resultList f.resultTypes.size)[j]? = some r → Value.okWide P W' .any 0 t r) :
    s.post enc P f apart fresh handsOn again W args v W' := by
  have hlt : ∀ p ∈ before ++ pv, p.block < W.heap.size := fun p hp => hW.lt p hp
  have hargs : ∀ sp : Nat → Bool, (∀ p ∈ before ++ pv, sp p.block = true) → DataW.TrodAll enc P W' 0 sp true f.params.toList args.toList (s.fn H (ds ++ gs)).args before := fun sp hsp => by
    rw [hs]
    exact all_stays hl hb hr hA (fun x hx => hlt x (by simp [hx])) sp (fun x hx => hsp x (by simp [hx]))
  have hold : ∀ p ∈ before ++ pv, (fun b => decide (b < W.heap.size)) p.block = true := fun p hp => by simpa using hlt p hp
  refine ⟨ds, gs, before ++ pv, [], before, pv, hW, hres _ _ _, hargs _ hold, hvars _, World.keptBut_mono (fun p hp => ⟨hp, ?_⟩) (hb.frame (· ∈ before ++ pv)), fun _ => ?_⟩
  · rw [List.mem_append] at hp
    exact Or.inr hp
  · obtain ⟨_, _, _, _, _, hz, hn⟩ := hW
    refine ⟨hok, _, _, ([] ++ before) ++ pv, ⟨[] ++ before, pv, trodAll_append (hargs _ (fun _ _ => rfl)) (hres _ _ _), hvars _, rfl, ?_, ?_⟩, ?_⟩
    · intro b off hp
      have hin : MemPlace.cell b off ∈ before ++ pv := by simpa using hp
      rw [hb.frozen (hlt _ hin)]
      exact hz b off hin
    · intro ha
      have := hn ha
      simpa using this
    · intro p hp _
      simpa using hp
end

section
variable {H : Type} {enc : TypeId × Value → H} {P : Program} {w : World} {base : Nat} {spare : Nat → Bool} {held : Bool}
theorem open_slice_fields {t e : TypeId} {fs : Array Field} {fuel : Nat} {cs : List Value} {x : DataW H × List MemPlace} (ht : P.underlying t = some (.slice e)) (he : P.underlying e = some (.struct fs))
    (hone : oneCellFields P fs = true) (hC : P.cellsOf e = fs.size) (h : DataW.trod enc P w base spare held fuel t cs = some x) :
    cs = [.slice none 0 0] ∨
    ∃ (a : Addr) (len cap : Nat), cs = [.slice (some a) len cap] ∧ len ≤ cap ∧ cap ≤ maxLen ∧
      ∀ i, i < len → ∀ (j : Nat) (f : Field), fs[j]? = some f → ∃ (v : Value) (n : Nat) (y : DataW H × List MemPlace), w.cell? (a.add (i * fs.size + j)) = some v ∧ DataW.trod enc P w base spare held n f.type [v] = some y := by
  rcases open_slice ht h with h0 | ⟨a, len, cap, m, n, D, Pl, hcs, hb, hl, hm, hmm, hx, hi⟩
  · exact .inl h0.1
  · refine .inr ⟨a, len, cap, hcs, hl, hm, fun i hil j f hj => ?_⟩
    have him : i < m := by rw [hmm]; split <;> omega
    obtain ⟨cs', hc, ht'⟩ := hi i him
    rw [hC] at hc
    obtain ⟨ys, n', hn', hy, hlen, hyl, hf⟩ := DataW.trod_struct he ht'
    obtain ⟨_, hcl, hat⟩ := World.cells?_some hc
    obtain ⟨ho, hk⟩ := hone_of hone j f hj
    have hjl : j < fs.size := (Array.getElem?_eq_some_iff.1 hj).1
    have hcell := hat j hjl
    have hv : cs'[j]? = some (cs'[j]'(by omega)) := List.getElem?_eq_getElem (by omega)
    have h1 := hf j f hj
    rw [ho, hk] at h1
    have hone' : (cs'.drop j).take 1 = [cs'[j]'(by omega)] := by
      rw [List.drop_eq_getElem_cons (by omega)]
      rfl
    rw [hone'] at h1
    have hys : ys[j]? = some (ys[j]'(by omega)) := List.getElem?_eq_getElem (by omega)
    refine ⟨_, n', _, ?_, h1.trans hys⟩
    rw [← Go.Deep.add_add, hcell, hv]
theorem list_of {α : Type} {Q : Nat → α → Prop} : ∀ {n : Nat}, (∀ i, i < n → ∃ x, Q i x) → ∃ L : List α, L.length = n ∧ ∀ i x, L[i]? = some x → Q i x
  | 0, _ => ⟨[], rfl, fun i x h => by simp at h⟩
  | n + 1, h => by
    obtain ⟨L, hL, hQ⟩ := list_of (n := n) (fun i hi => h i (by omega))
    obtain ⟨x, hx⟩ := h n (by omega)
    refine ⟨L ++ [x], by simp [hL], fun i y hy => ?_⟩
    rw [List.getElem?_append] at hy
    split at hy
    · exact hQ i y hy
    · have : i = n := by
        have := (List.getElem?_eq_some_iff.1 hy).1
        simp at this
        omega
      subst this
      rw [hL] at hy
      simp at hy
      exact hy ▸ hx
end

section
variable {H : Type} {enc : TypeId × Value → H} {P : Program} {w : World} {base : Nat} {spare : Nat → Bool} {held : Bool}
theorem open_ints3 {r : Reach} {b0 : Nat} {t : TypeId} {f0 f1 f2 : Field} {v : Value} {d : DataW H} {p : List MemPlace} (hs : P.underlying t = some (.struct #[f0, f1, f2])) (hone : oneCellFields P #[f0, f1, f2] = true) (hC : P.cellsOf t = 3)
    (i0 : P.underlying f0.type = some (.int .i64)) (i1 : P.underlying f1.type = some (.int .i64)) (i2 : P.underlying f2.type = some (.int .i64))
    (hv : Value.okWide P w r b0 t v) (h : DataW.Trod enc P w base spare held t v d p) :
    ∃ a0 a1 a2 : Int, v = .agg #[.int .i64 a0, .int .i64 a1, .int .i64 a2] ∧ (-9223372036854775808 ≤ a0 ∧ a0 ≤ 9223372036854775807) ∧ (-9223372036854775808 ≤ a1 ∧ a1 ≤ 9223372036854775807) ∧ (-9223372036854775808 ≤ a2 ∧ a2 ≤ 9223372036854775807) := by
  obtain ⟨cs, rfl, hsz⟩ := okWide_struct hs hv
  obtain ⟨l⟩ := cs
  match l, hsz.trans hC with
  | [c0, c1, c2], _ =>
    obtain ⟨fuel, hf⟩ := h
    obtain ⟨xs, n, _, hx, _, hlen, hg⟩ := DataW.trod_struct hs hf
    obtain ⟨o0, k0⟩ := hone_of hone 0 f0 rfl
    obtain ⟨o1, k1⟩ := hone_of hone 1 f1 rfl
    obtain ⟨o2, k2⟩ := hone_of hone 2 f2 rfl
    match xs, hlen with
    | [y0, y1, y2], _ =>
      have g0 : DataW.trod enc P w base spare held n f0.type [c0] = some y0 := by simpa [Value.cells, o0, k0] using hg 0 f0 rfl
      have g1 : DataW.trod enc P w base spare held n f1.type [c1] = some y1 := by simpa [Value.cells, o1, k1] using hg 1 f1 rfl
      have g2 : DataW.trod enc P w base spare held n f2.type [c2] = some y2 := by simpa [Value.cells, o2, k2] using hg 2 f2 rfl
      obtain ⟨a0, e0, -, z0⟩ := DataW.trod_int i0 g0
      obtain ⟨a1, e1, -, z1⟩ := DataW.trod_int i1 g1
      obtain ⟨a2, e2, -, z2⟩ := DataW.trod_int i2 g2
      simp at e0 e1 e2
      exact ⟨a0, a1, a2, by rw [e0, e1, e2], i64_bounds z0, i64_bounds z1, i64_bounds z2⟩
theorem open_ints2 {r : Reach} {b0 : Nat} {t : TypeId} {f0 f1 : Field} {v : Value} {d : DataW H} {p : List MemPlace} (hs : P.underlying t = some (.struct #[f0, f1])) (hone : oneCellFields P #[f0, f1] = true) (hC : P.cellsOf t = 2)
    (i0 : P.underlying f0.type = some (.int .i64)) (i1 : P.underlying f1.type = some (.int .i64))
    (hv : Value.okWide P w r b0 t v) (h : DataW.Trod enc P w base spare held t v d p) :
    ∃ a0 a1 : Int, v = .agg #[.int .i64 a0, .int .i64 a1] ∧ (-9223372036854775808 ≤ a0 ∧ a0 ≤ 9223372036854775807) ∧ (-9223372036854775808 ≤ a1 ∧ a1 ≤ 9223372036854775807) := by
  obtain ⟨cs, rfl, hsz⟩ := okWide_struct hs hv
  obtain ⟨l⟩ := cs
  match l, hsz.trans hC with
  | [c0, c1], _ =>
    obtain ⟨fuel, hf⟩ := h
    obtain ⟨xs, n, _, hx, _, hlen, hg⟩ := DataW.trod_struct hs hf
    obtain ⟨o0, k0⟩ := hone_of hone 0 f0 rfl
    obtain ⟨o1, k1⟩ := hone_of hone 1 f1 rfl
    match xs, hlen with
    | [y0, y1], _ =>
      have g0 : DataW.trod enc P w base spare held n f0.type [c0] = some y0 := by simpa [Value.cells, o0, k0] using hg 0 f0 rfl
      have g1 : DataW.trod enc P w base spare held n f1.type [c1] = some y1 := by simpa [Value.cells, o1, k1] using hg 1 f1 rfl
      obtain ⟨a0, e0, -, z0⟩ := DataW.trod_int i0 g0
      obtain ⟨a1, e1, -, z1⟩ := DataW.trod_int i1 g1
      simp at e0 e1
      exact ⟨a0, a1, by rw [e0, e1], i64_bounds z0, i64_bounds z1⟩
end
end RowK
end Go.Proofs.Ytgeankdimknmiaa.Hp

/- Whatever the rate, the size and how many are taken, ClockFair answers true: flows of one rate are served alike, one of twice the rate twice as often; no conditions. -/
namespace Go.Proofs.Ytgeankdimknmiaa.clockFair
open Go.ChangeShapes Go.WideShapes Go.ChangeAt Go.RowKit Go.Joins Go.Proofs.Ytgeankdimknmiaa.Tp Go.Proofs.Ytgeankdimknmiaa.Hp Go.Proofs.Ytgeankdimknmiaa.Hp.RowK
set_option linter.unusedVariables false
set_option maxRecDepth 100000 in
theorem lifted (os : Os) (started : os.Started) (H : Type) (enc : TypeId × Value → H) :
    ReturnsInHanded {} Try.checked os 5 .any (Rows.clockFairSpec.pre6 enc Try.prog Try.f5 Rows.clockFairRow.domain false) (Rows.clockFairSpec.post enc Try.prog Try.f5 false true false false) := by
  refine returnsInHanded_of_change (C := Try.checked) RowK.own started (by kernel_rfl) Try.func5
    (ChangeSpec.witness6 (enc := enc) (C := Try.checked) false ⟨#[], #[.int .i64 0, .int .i64 0, .int .i64 0], []⟩ 8 (by kernel_rfl) (by kernel_rfl) (by kernel_rfl) (by kernel_rfl)) ?_
  intro W base args ds gs before hval0 hW hcnd _
  have hval : ∀ (j : Nat) t v, Try.f5.params[j]? = some t → args[j]? = some v → Value.okWide Try.prog W .any base t v := hval0
  have hW' := hW
  obtain ⟨p, q, hA0, hV, rfl, hfz, hnd⟩ := hW
  have hA : DataW.TrodAll enc Try.prog W 0 (fun _ => true) true Try.f5.params.toList args.toList ds p := hA0
  rw [Try.params5] at hA hval
  obtain ⟨v0, vs0, d0, ds0, p0, q0, hargs, rfl, rfl, h0, r0⟩ := trodAll_cons hA
  obtain ⟨v1, vs1, d1, ds1, p1, q1, rfl, rfl, rfl, h1, r1⟩ := trodAll_cons r0
  obtain ⟨v2, vs2, d2, ds2, p2, q2, rfl, rfl, rfl, h2, r2⟩ := trodAll_cons r1
  obtain ⟨rfl, rfl, rfl⟩ := trodAll_nil r2
  obtain rfl : args = #[v0, v1, v2] := by cases args; simp_all
  obtain ⟨rfl, rfl⟩ := trodVars_none hV
  obtain ⟨a0, rfl, e0, f0, y0⟩ := open_int Try.underlying2 (hval 0 2 v0 rfl rfl) h0
  obtain ⟨a1, rfl, e1, f1, y1⟩ := open_int Try.underlying2 (hval 1 2 v1 rfl rfl) h1
  obtain ⟨a2, rfl, e2, f2, y2⟩ := open_int Try.underlying3 (hval 2 3 v2 rfl rfl) h2
  have nb := i64_bounds y2
  refine (Ytgeankdimknmiaa.Hp.fair14_walk a0 a1 a2 nb.1 nb.2 W).mono fun e W' ⟨he, hg⟩ => ?_
  subst he
  exact ⟨_, rfl, post_law RowK.laidOut (by rw [Try.params5]; intro t ht; simp at ht; rcases ht with rfl | rfl | rfl <;> exact ⟨by kernel_rfl, of_decide_eq_true (by kernel_rfl)⟩) hW' hA0 rfl (fun _ _ _ => (trodAll_cons_mk (shut_bool Try.underlying4 _) trodAll_mk0)) (fun _ => rfl) hg (ok_one (by kernel_rfl) rfl (okWide_bool_mk Try.underlying4 _))⟩

theorem over : Rows.clockFairRow.holds Try.pinned (OpenSpec.ofChange Rows.clockFairSpec) :=
  OpenClaim.holds_of_wide 5 Try.f5 rfl rfl rfl rfl rfl rfl rfl ⟨rfl, rfl, rfl, rfl, rfl⟩ rfl rfl rfl rfl rfl (by kernel_rfl) Try.func5 (by kernel_rfl)
    (of_decide_eq_true (by kernel_rfl)) (by unfold Func.isWrapper; first | (rw [if_pos (by decide +kernel)]; kernel_rfl) | (rw [if_neg (by decide +kernel)]; exact ⟨rfl, rfl⟩))
    (fun os started H enc _ => lifted os started H enc)
end Go.Proofs.Ytgeankdimknmiaa.clockFair
namespace Go.Proofs.Ytgeankdimknmiaa
/-- the given statement. -/
theorem clockFair_proved : Rows.ClockFairSaid := clockFair.over
end Go.Proofs.Ytgeankdimknmiaa

