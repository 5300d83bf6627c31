/- Buckets: the document's Take. -/
import Derived.Test.YthaiphkmkchhoaaBkQ
namespace Go.Proofs.Ythaiphkmkchhoaa
open Go.RowKit
set_option linter.unusedVariables false
def gV (p r u m l : Int) (A : Option Addr) (n c : Nat) (now : Int) : Value := .agg #[.int .i64 p, .int .i64 r, .int .i64 u, .int .i64 m, .int .i64 l, .slice A n c, .int .i64 now]
/-- a list that lies from block F on. -/
def FarB (F : Nat) (A : Option Addr) (T : List (Int × Int)) : Prop := 0 < T.length → ∀ ad, A = some ad → F ≤ ad.block
/-- behind the document's Take. -/
def Take12End (p r u m l : Int) (A0 : Option Addr) (L : List (Int × Int)) (T : List (Int × Int)) (now : Int) (is : Bool) (no : Int) (w : World) (e : Ending) (w' : World) : Prop :=
  ∃ A c, e = .returned (.tuple #[gV p r u m l A T.length c now, .bool is, .int .i64 no]) ∧ Lie sendV 2 w' w'.heap.size A T ∧ ((A = A0 ∧ T = L) ∨ FarB w.heap.size A T) ∧ Below w.heap.size w w'
theorem OwnL.far {α : Type} {f : α → List Value} {sz : Nat} {w w' : World} {base : Nat} {e : TypeId} {v : Value} {L : List α} (h : OwnL f sz w base e v L) (hb : ∀ k, base ≤ k → k < w.heap.size → w'.heap[k]? = w.heap[k]?) (hs : w.heap.size ≤ w'.heap.size) : OwnL f sz w' base e v L := by
  refine ⟨h.1, ?_⟩
  rcases h.2 with h0 | ⟨g, cap, cur, rfl, hbs, hh, hr⟩
  · exact .inl h0
  · exact .inr ⟨g, cap, cur, rfl, hbs, (hb g hbs (Array.getElem?_eq_some_iff.1 hh).1).trans hh, hr⟩
set_option maxRecDepth 100000 in
set_option maxHeartbeats 4000000 in
theorem take12_ask (p r u m l : Int) (A : Option Addr) (L : List (Int × Int)) (c : Nat) (now t z : Int) (hn : decide (now ≤ t ∧ t ≤ 2147483647) = false) (w : World) (hl : Lie sendV 2 w w.heap.size A L) :
    Calls Try.prog 43 #[gV p r u m l A L.length c now, .int .i64 t, .int .i64 z] w (Take12End p r u m l A L L now false 2 w) := by
  have ca := hidd (fun W => asked12_any p r u m l A L.length c now t W)
  rw [hn] at ca
  have HL := hidd (fun W (hb : Below w.heap.size w W) => hl.below hb)
  clear hl hn
  unfold Take12End gV
  generalize hN : L.length = N at *
  have HN := hidd hN
  clear hN
  obtain ⟨PO, hPO⟩ : ∃ PO : Ending → World → Prop, (fun e w' => ∃ A' c, e = .returned (.tuple #[.agg #[.int .i64 p, .int .i64 r, .int .i64 u, .int .i64 m, .int .i64 l, .slice A' N c, .int .i64 now], .bool false, .int .i64 2]) ∧ Lie sendV 2 w' w'.heap.size A' L ∧ ((A' = A ∧ L = L) ∨ FarB w.heap.size A' L) ∧ Below w.heap.size w w') = PO := ⟨_, rfl⟩
  have HPO := hidd hPO
  show Calls _ _ _ _ (fun e w' => ∃ A' c, e = .returned (.tuple #[.agg #[.int .i64 p, .int .i64 r, .int .i64 u, .int .i64 m, .int .i64 l, .slice A' N c, .int .i64 now], .bool false, .int .i64 2]) ∧ Lie sendV 2 w' w'.heap.size A' L ∧ ((A' = A ∧ L = L) ∨ FarB w.heap.size A' L) ∧ Below w.heap.size w w')
  rw [hPO]
  clear hPO
  go_enter Try.func43, Try.ntmps43
  go_wp2_with fail
  refine (ca.out _).mono ?_
  rintro e w1 ⟨rfl, hb1⟩
  obtain ⟨bc, bf⟩ := bcell hb1
  have z0 : w.heap.size + 1 < w1.heap.size := by have := hb1.size; simp at this; omega
  have k0 : w1.cell? ⟨w.heap.size, 0, none⟩ = some (.int .i64 p) := by rw [bc _ _ (by (first | omega | (simp; done) | (simp; omega)))]; simp [go_sem]
  have f0 : w1.frozen? ⟨w.heap.size, 0, none⟩ = false := by rw [bf _ _ (by (first | omega | (simp; done) | (simp; omega)))]; simp [go_sem]
  have k1 : w1.cell? ⟨w.heap.size, 1, none⟩ = some (.int .i64 r) := by rw [bc _ _ (by (first | omega | (simp; done) | (simp; omega)))]; simp [go_sem]
  have f1 : w1.frozen? ⟨w.heap.size, 1, none⟩ = false := by rw [bf _ _ (by (first | omega | (simp; done) | (simp; omega)))]; simp [go_sem]
  have k2 : w1.cell? ⟨w.heap.size, 2, none⟩ = some (.int .i64 u) := by rw [bc _ _ (by (first | omega | (simp; done) | (simp; omega)))]; simp [go_sem]
  have f2 : w1.frozen? ⟨w.heap.size, 2, none⟩ = false := by rw [bf _ _ (by (first | omega | (simp; done) | (simp; omega)))]; simp [go_sem]
  have k3 : w1.cell? ⟨w.heap.size, 3, none⟩ = some (.int .i64 m) := by rw [bc _ _ (by (first | omega | (simp; done) | (simp; omega)))]; simp [go_sem]
  have f3 : w1.frozen? ⟨w.heap.size, 3, none⟩ = false := by rw [bf _ _ (by (first | omega | (simp; done) | (simp; omega)))]; simp [go_sem]
  have k4 : w1.cell? ⟨w.heap.size, 4, none⟩ = some (.int .i64 l) := by rw [bc _ _ (by (first | omega | (simp; done) | (simp; omega)))]; simp [go_sem]
  have f4 : w1.frozen? ⟨w.heap.size, 4, none⟩ = false := by rw [bf _ _ (by (first | omega | (simp; done) | (simp; omega)))]; simp [go_sem]
  have k5 : w1.cell? ⟨w.heap.size, 5, none⟩ = some (.slice A N c) := by rw [bc _ _ (by (first | omega | (simp; done) | (simp; omega)))]; simp [go_sem]
  have f5 : w1.frozen? ⟨w.heap.size, 5, none⟩ = false := by rw [bf _ _ (by (first | omega | (simp; done) | (simp; omega)))]; simp [go_sem]
  have k6 : w1.cell? ⟨w.heap.size, 6, none⟩ = some (.int .i64 now) := by rw [bc _ _ (by (first | omega | (simp; done) | (simp; omega)))]; simp [go_sem]
  have f6 : w1.frozen? ⟨w.heap.size, 6, none⟩ = false := by rw [bf _ _ (by (first | omega | (simp; done) | (simp; omega)))]; simp [go_sem]
  have q0 : w1.cell? ⟨w.heap.size + 1, 0, none⟩ = some (.int .i64 0) := by rw [bc _ _ (by (first | omega | (simp; done) | (simp; omega)))]; simp [go_sem]
  have g0 : w1.frozen? ⟨w.heap.size + 1, 0, none⟩ = false := by rw [bf _ _ (by (first | omega | (simp; done) | (simp; omega)))]; simp [go_sem]
  have q1 : w1.cell? ⟨w.heap.size + 1, 1, none⟩ = some (.int .i64 0) := by rw [bc _ _ (by (first | omega | (simp; done) | (simp; omega)))]; simp [go_sem]
  have g1 : w1.frozen? ⟨w.heap.size + 1, 1, none⟩ = false := by rw [bf _ _ (by (first | omega | (simp; done) | (simp; omega)))]; simp [go_sem]
  have q2 : w1.cell? ⟨w.heap.size + 1, 2, none⟩ = some (.int .i64 0) := by rw [bc _ _ (by (first | omega | (simp; done) | (simp; omega)))]; simp [go_sem]
  have g2 : w1.frozen? ⟨w.heap.size + 1, 2, none⟩ = false := by rw [bf _ _ (by (first | omega | (simp; done) | (simp; omega)))]; simp [go_sem]
  have q3 : w1.cell? ⟨w.heap.size + 1, 3, none⟩ = some (.int .i64 0) := by rw [bc _ _ (by (first | omega | (simp; done) | (simp; omega)))]; simp [go_sem]
  have g3 : w1.frozen? ⟨w.heap.size + 1, 3, none⟩ = false := by rw [bf _ _ (by (first | omega | (simp; done) | (simp; omega)))]; simp [go_sem]
  have q4 : w1.cell? ⟨w.heap.size + 1, 4, none⟩ = some (.int .i64 0) := by rw [bc _ _ (by (first | omega | (simp; done) | (simp; omega)))]; simp [go_sem]
  have g4 : w1.frozen? ⟨w.heap.size + 1, 4, none⟩ = false := by rw [bf _ _ (by (first | omega | (simp; done) | (simp; omega)))]; simp [go_sem]
  have q5 : w1.cell? ⟨w.heap.size + 1, 5, none⟩ = some (.slice none 0 0) := by rw [bc _ _ (by (first | omega | (simp; done) | (simp; omega)))]; simp [go_sem]
  have g5 : w1.frozen? ⟨w.heap.size + 1, 5, none⟩ = false := by rw [bf _ _ (by (first | omega | (simp; done) | (simp; omega)))]; simp [go_sem]
  have q6 : w1.cell? ⟨w.heap.size + 1, 6, none⟩ = some (.int .i64 0) := by rw [bc _ _ (by (first | omega | (simp; done) | (simp; omega)))]; simp [go_sem]
  have g6 : w1.frozen? ⟨w.heap.size + 1, 6, none⟩ = false := by rw [bf _ _ (by (first | omega | (simp; done) | (simp; omega)))]; simp [go_sem]
  have H1 := hidd (show Below w.heap.size w w1 by (repeat' (first | (with_reducible exact Below.refl _ _) | (with_reducible assumption) | (with_reducible apply Below.setCell) | (with_reducible apply Below.alloc) | (with_reducible apply Below.drew) | (with_reducible apply below_drewN) | (with_reducible refine Below.trans ?_ (Below.mono (by assumption) ?_)) | omega | (simp; done) | (simp; omega))))
  clear bc bf hb1
  go_wp2_with fail
  have H2 : Hid (Below w.heap.size w ((((((((w1.setCell ⟨w.heap.size + 1, 0, none⟩ (.int .i64 p)).setCell ⟨w.heap.size + 1, 1, none⟩ (.int .i64 r)).setCell ⟨w.heap.size + 1, 2, none⟩ (.int .i64 u)).setCell ⟨w.heap.size + 1, 3, none⟩ (.int .i64 m)).setCell ⟨w.heap.size + 1, 4, none⟩ (.int .i64 l)).setCell ⟨w.heap.size + 1, 5, none⟩ (.slice A N c)).setCell ⟨w.heap.size + 1, 6, none⟩ (.int .i64 now)))) := hidd (by have := H1.out; (repeat' (first | (with_reducible exact Below.refl _ _) | (with_reducible assumption) | (with_reducible apply Below.setCell) | (with_reducible apply Below.alloc) | (with_reducible apply Below.drew) | (with_reducible apply below_drewN) | (with_reducible refine Below.trans ?_ (Below.mono (by assumption) ?_)) | omega | (simp; done) | (simp; omega))))
  refine bodyPost_ret (v := .tuple #[.agg #[.int .i64 p, .int .i64 r, .int .i64 u, .int .i64 m, .int .i64 l, .slice A N c, .int .i64 now], .bool false, .int .i64 2]) (by simp [results, Try.results43, go_sem, q0, q1, q2, q3, q4, q5, q6]) rfl ?_
  rw [← HPO.out]
  exact ⟨A, c, rfl, HL.out _ H2.out, .inl ⟨rfl, by first | trivial | rfl⟩, H2.out⟩
set_option maxRecDepth 100000 in
set_option maxHeartbeats 4000000 in
theorem take12_no (p r u m l : Int) (hr : rightB p r u m l = true) (A : Option Addr) (L : List (Int × Int)) (c : Nat) (now t z : Int) (hn : decide (now ≤ t ∧ t ≤ 2147483647) = true) (hm : L.length ≤ 999) (hk : ¬ BM.Keep p r u m l (L ++ [(t, z)])) (w : World) (hl : Lie sendV 2 w w.heap.size A L) :
    Calls Try.prog 43 #[gV p r u m l A L.length c now, .int .i64 t, .int .i64 z] w (Take12End p r u m l A L L t false 0 w) := by
  have ca := hidd (fun W => asked12_any p r u m l A L.length c now t W)
  rw [hn] at ca
  have ck : Hid (∀ W, Lie sendV 2 W W.heap.size A L → Calls Try.prog 42 #[gV p r u m l A L.length c t, .int .i64 t, .int .i64 z] W fun e w' => e = .returned (.bool false) ∧ Below W.heap.size W w') := hidd (fun W h => (keeps12_any p r u m l hr A L c t t z (by omega) W h).mono (by
    rintro e w' ⟨b, rfl, hb, hB⟩
    refine ⟨?_, hB⟩
    cases b
    · rfl
    · exact absurd (hb.1 rfl) hk))
  have HL := hidd (fun W (hb : Below w.heap.size w W) => hl.below hb)
  have HS := hidd (fun W (hb : Below w.heap.size w W) => hl.src hb)
  clear hl hn hk hr
  unfold Take12End gV at *
  generalize hN : L.length = N at *
  have HN := hidd hN
  obtain ⟨PO, hPO⟩ : ∃ PO : Ending → World → Prop, (fun e w' => ∃ A' c, e = .returned (.tuple #[.agg #[.int .i64 p, .int .i64 r, .int .i64 u, .int .i64 m, .int .i64 l, .slice A' N c, .int .i64 t], .bool false, .int .i64 0]) ∧ Lie sendV 2 w' w'.heap.size A' L ∧ ((A' = A ∧ L = L) ∨ FarB w.heap.size A' L) ∧ Below w.heap.size w w') = PO := ⟨_, rfl⟩
  have HPO := hidd hPO
  show Calls _ _ _ _ (fun e w' => ∃ A' c, e = .returned (.tuple #[.agg #[.int .i64 p, .int .i64 r, .int .i64 u, .int .i64 m, .int .i64 l, .slice A' N c, .int .i64 t], .bool false, .int .i64 0]) ∧ Lie sendV 2 w' w'.heap.size A' L ∧ ((A' = A ∧ L = L) ∨ FarB w.heap.size A' L) ∧ Below w.heap.size w w')
  rw [hPO]
  clear hPO hN
  go_enter Try.func43, Try.ntmps43
  go_wp2_with fail
  refine (ca.out _).mono ?_
  rintro e w1 ⟨rfl, hb1⟩
  obtain ⟨bc, bf⟩ := bcell hb1
  have z0 : w.heap.size + 1 < w1.heap.size := by have := hb1.size; simp at this; omega
  have k0 : w1.cell? ⟨w.heap.size, 0, none⟩ = some (.int .i64 p) := by rw [bc _ _ (by (first | omega | (simp; done) | (simp; omega)))]; simp [go_sem]
  have f0 : w1.frozen? ⟨w.heap.size, 0, none⟩ = false := by rw [bf _ _ (by (first | omega | (simp; done) | (simp; omega)))]; simp [go_sem]
  have k1 : w1.cell? ⟨w.heap.size, 1, none⟩ = some (.int .i64 r) := by rw [bc _ _ (by (first | omega | (simp; done) | (simp; omega)))]; simp [go_sem]
  have f1 : w1.frozen? ⟨w.heap.size, 1, none⟩ = false := by rw [bf _ _ (by (first | omega | (simp; done) | (simp; omega)))]; simp [go_sem]
  have k2 : w1.cell? ⟨w.heap.size, 2, none⟩ = some (.int .i64 u) := by rw [bc _ _ (by (first | omega | (simp; done) | (simp; omega)))]; simp [go_sem]
  have f2 : w1.frozen? ⟨w.heap.size, 2, none⟩ = false := by rw [bf _ _ (by (first | omega | (simp; done) | (simp; omega)))]; simp [go_sem]
  have k3 : w1.cell? ⟨w.heap.size, 3, none⟩ = some (.int .i64 m) := by rw [bc _ _ (by (first | omega | (simp; done) | (simp; omega)))]; simp [go_sem]
  have f3 : w1.frozen? ⟨w.heap.size, 3, none⟩ = false := by rw [bf _ _ (by (first | omega | (simp; done) | (simp; omega)))]; simp [go_sem]
  have k4 : w1.cell? ⟨w.heap.size, 4, none⟩ = some (.int .i64 l) := by rw [bc _ _ (by (first | omega | (simp; done) | (simp; omega)))]; simp [go_sem]
  have f4 : w1.frozen? ⟨w.heap.size, 4, none⟩ = false := by rw [bf _ _ (by (first | omega | (simp; done) | (simp; omega)))]; simp [go_sem]
  have k5 : w1.cell? ⟨w.heap.size, 5, none⟩ = some (.slice A N c) := by rw [bc _ _ (by (first | omega | (simp; done) | (simp; omega)))]; simp [go_sem]
  have f5 : w1.frozen? ⟨w.heap.size, 5, none⟩ = false := by rw [bf _ _ (by (first | omega | (simp; done) | (simp; omega)))]; simp [go_sem]
  have k6 : w1.cell? ⟨w.heap.size, 6, none⟩ = some (.int .i64 now) := by rw [bc _ _ (by (first | omega | (simp; done) | (simp; omega)))]; simp [go_sem]
  have f6 : w1.frozen? ⟨w.heap.size, 6, none⟩ = false := by rw [bf _ _ (by (first | omega | (simp; done) | (simp; omega)))]; simp [go_sem]
  have q0 : w1.cell? ⟨w.heap.size + 1, 0, none⟩ = some (.int .i64 0) := by rw [bc _ _ (by (first | omega | (simp; done) | (simp; omega)))]; simp [go_sem]
  have g0 : w1.frozen? ⟨w.heap.size + 1, 0, none⟩ = false := by rw [bf _ _ (by (first | omega | (simp; done) | (simp; omega)))]; simp [go_sem]
  have q1 : w1.cell? ⟨w.heap.size + 1, 1, none⟩ = some (.int .i64 0) := by rw [bc _ _ (by (first | omega | (simp; done) | (simp; omega)))]; simp [go_sem]
  have g1 : w1.frozen? ⟨w.heap.size + 1, 1, none⟩ = false := by rw [bf _ _ (by (first | omega | (simp; done) | (simp; omega)))]; simp [go_sem]
  have q2 : w1.cell? ⟨w.heap.size + 1, 2, none⟩ = some (.int .i64 0) := by rw [bc _ _ (by (first | omega | (simp; done) | (simp; omega)))]; simp [go_sem]
  have g2 : w1.frozen? ⟨w.heap.size + 1, 2, none⟩ = false := by rw [bf _ _ (by (first | omega | (simp; done) | (simp; omega)))]; simp [go_sem]
  have q3 : w1.cell? ⟨w.heap.size + 1, 3, none⟩ = some (.int .i64 0) := by rw [bc _ _ (by (first | omega | (simp; done) | (simp; omega)))]; simp [go_sem]
  have g3 : w1.frozen? ⟨w.heap.size + 1, 3, none⟩ = false := by rw [bf _ _ (by (first | omega | (simp; done) | (simp; omega)))]; simp [go_sem]
  have q4 : w1.cell? ⟨w.heap.size + 1, 4, none⟩ = some (.int .i64 0) := by rw [bc _ _ (by (first | omega | (simp; done) | (simp; omega)))]; simp [go_sem]
  have g4 : w1.frozen? ⟨w.heap.size + 1, 4, none⟩ = false := by rw [bf _ _ (by (first | omega | (simp; done) | (simp; omega)))]; simp [go_sem]
  have q5 : w1.cell? ⟨w.heap.size + 1, 5, none⟩ = some (.slice none 0 0) := by rw [bc _ _ (by (first | omega | (simp; done) | (simp; omega)))]; simp [go_sem]
  have g5 : w1.frozen? ⟨w.heap.size + 1, 5, none⟩ = false := by rw [bf _ _ (by (first | omega | (simp; done) | (simp; omega)))]; simp [go_sem]
  have q6 : w1.cell? ⟨w.heap.size + 1, 6, none⟩ = some (.int .i64 0) := by rw [bc _ _ (by (first | omega | (simp; done) | (simp; omega)))]; simp [go_sem]
  have g6 : w1.frozen? ⟨w.heap.size + 1, 6, none⟩ = false := by rw [bf _ _ (by (first | omega | (simp; done) | (simp; omega)))]; simp [go_sem]
  have H1 := hidd (show Below w.heap.size w w1 by (repeat' (first | (with_reducible exact Below.refl _ _) | (with_reducible assumption) | (with_reducible apply Below.setCell) | (with_reducible apply Below.alloc) | (with_reducible apply Below.drew) | (with_reducible apply below_drewN) | (with_reducible refine Below.trans ?_ (Below.mono (by assumption) ?_)) | omega | (simp; done) | (simp; omega))))
  clear bc bf hb1
  go_wp2_with fail
  obtain ⟨w2, hw2⟩ : ∃ w2 : World, w1.setCell ⟨w.heap.size, 6, none⟩ (.int .i64 t) = w2 := ⟨_, rfl⟩
  have m0 : w2.cell? ⟨w.heap.size, 0, none⟩ = some (.int .i64 p) := by subst hw2; simp [go_sem, k0]
  have n0 : w2.frozen? ⟨w.heap.size, 0, none⟩ = false := by subst hw2; simp [go_sem, f0]
  have m1 : w2.cell? ⟨w.heap.size, 1, none⟩ = some (.int .i64 r) := by subst hw2; simp [go_sem, k1]
  have n1 : w2.frozen? ⟨w.heap.size, 1, none⟩ = false := by subst hw2; simp [go_sem, f1]
  have m2 : w2.cell? ⟨w.heap.size, 2, none⟩ = some (.int .i64 u) := by subst hw2; simp [go_sem, k2]
  have n2 : w2.frozen? ⟨w.heap.size, 2, none⟩ = false := by subst hw2; simp [go_sem, f2]
  have m3 : w2.cell? ⟨w.heap.size, 3, none⟩ = some (.int .i64 m) := by subst hw2; simp [go_sem, k3]
  have n3 : w2.frozen? ⟨w.heap.size, 3, none⟩ = false := by subst hw2; simp [go_sem, f3]
  have m4 : w2.cell? ⟨w.heap.size, 4, none⟩ = some (.int .i64 l) := by subst hw2; simp [go_sem, k4]
  have n4 : w2.frozen? ⟨w.heap.size, 4, none⟩ = false := by subst hw2; simp [go_sem, f4]
  have m5 : w2.cell? ⟨w.heap.size, 5, none⟩ = some (.slice A N c) := by subst hw2; simp [go_sem, k5]
  have n5 : w2.frozen? ⟨w.heap.size, 5, none⟩ = false := by subst hw2; simp [go_sem, f5]
  have m6 : w2.cell? ⟨w.heap.size, 6, none⟩ = some (.int .i64 t) := by subst hw2; simp [go_sem, k6]
  have n6 : w2.frozen? ⟨w.heap.size, 6, none⟩ = false := by subst hw2; simp [go_sem, f6]
  have r0 : w2.cell? ⟨w.heap.size + 1, 0, none⟩ = some (.int .i64 0) := by subst hw2; simp [go_sem, q0]
  have s0 : w2.frozen? ⟨w.heap.size + 1, 0, none⟩ = false := by subst hw2; simp [go_sem, g0]
  have r1 : w2.cell? ⟨w.heap.size + 1, 1, none⟩ = some (.int .i64 0) := by subst hw2; simp [go_sem, q1]
  have s1 : w2.frozen? ⟨w.heap.size + 1, 1, none⟩ = false := by subst hw2; simp [go_sem, g1]
  have r2 : w2.cell? ⟨w.heap.size + 1, 2, none⟩ = some (.int .i64 0) := by subst hw2; simp [go_sem, q2]
  have s2 : w2.frozen? ⟨w.heap.size + 1, 2, none⟩ = false := by subst hw2; simp [go_sem, g2]
  have r3 : w2.cell? ⟨w.heap.size + 1, 3, none⟩ = some (.int .i64 0) := by subst hw2; simp [go_sem, q3]
  have s3 : w2.frozen? ⟨w.heap.size + 1, 3, none⟩ = false := by subst hw2; simp [go_sem, g3]
  have r4 : w2.cell? ⟨w.heap.size + 1, 4, none⟩ = some (.int .i64 0) := by subst hw2; simp [go_sem, q4]
  have s4 : w2.frozen? ⟨w.heap.size + 1, 4, none⟩ = false := by subst hw2; simp [go_sem, g4]
  have r5 : w2.cell? ⟨w.heap.size + 1, 5, none⟩ = some (.slice none 0 0) := by subst hw2; simp [go_sem, q5]
  have s5 : w2.frozen? ⟨w.heap.size + 1, 5, none⟩ = false := by subst hw2; simp [go_sem, g5]
  have r6 : w2.cell? ⟨w.heap.size + 1, 6, none⟩ = some (.int .i64 0) := by subst hw2; simp [go_sem, q6]
  have s6 : w2.frozen? ⟨w.heap.size + 1, 6, none⟩ = false := by subst hw2; simp [go_sem, g6]
  have z2 : w.heap.size + 1 < w2.heap.size := by rw [← hw2]; simpa [World.setCell] using z0
  have H2 : Hid (Below w.heap.size w w2) := hidd (by rw [← hw2]; exact H1.out.setCell (p := ⟨w.heap.size, 6, none⟩) (Nat.le_refl _) _)
  rw [hw2]
  clear hw2 H1 z0 k0 k1 k2 k3 k4 k5 k6 f0 f1 f2 f3 f4 f5 f6 q0 q1 q2 q3 q4 q5 q6 g0 g1 g2 g3 g4 g5 g6
  refine (ck.out _ (HL.out _ H2.out)).mono ?_
  rintro e w3 ⟨rfl, hb3⟩
  obtain ⟨bc, bf⟩ := bcell hb3
  have z3 : w.heap.size + 1 < w3.heap.size := Nat.lt_of_lt_of_le z2 hb3.size
  have x0 : w3.cell? ⟨w.heap.size, 0, none⟩ = some (.int .i64 p) := (bc _ _ (by omega)).trans m0
  have y0 : w3.frozen? ⟨w.heap.size, 0, none⟩ = false := (bf _ _ (by omega)).trans n0
  have x1 : w3.cell? ⟨w.heap.size, 1, none⟩ = some (.int .i64 r) := (bc _ _ (by omega)).trans m1
  have y1 : w3.frozen? ⟨w.heap.size, 1, none⟩ = false := (bf _ _ (by omega)).trans n1
  have x2 : w3.cell? ⟨w.heap.size, 2, none⟩ = some (.int .i64 u) := (bc _ _ (by omega)).trans m2
  have y2 : w3.frozen? ⟨w.heap.size, 2, none⟩ = false := (bf _ _ (by omega)).trans n2
  have x3 : w3.cell? ⟨w.heap.size, 3, none⟩ = some (.int .i64 m) := (bc _ _ (by omega)).trans m3
  have y3 : w3.frozen? ⟨w.heap.size, 3, none⟩ = false := (bf _ _ (by omega)).trans n3
  have x4 : w3.cell? ⟨w.heap.size, 4, none⟩ = some (.int .i64 l) := (bc _ _ (by omega)).trans m4
  have y4 : w3.frozen? ⟨w.heap.size, 4, none⟩ = false := (bf _ _ (by omega)).trans n4
  have x5 : w3.cell? ⟨w.heap.size, 5, none⟩ = some (.slice A N c) := (bc _ _ (by omega)).trans m5
  have y5 : w3.frozen? ⟨w.heap.size, 5, none⟩ = false := (bf _ _ (by omega)).trans n5
  have x6 : w3.cell? ⟨w.heap.size, 6, none⟩ = some (.int .i64 t) := (bc _ _ (by omega)).trans m6
  have y6 : w3.frozen? ⟨w.heap.size, 6, none⟩ = false := (bf _ _ (by omega)).trans n6
  have u0 : w3.cell? ⟨w.heap.size + 1, 0, none⟩ = some (.int .i64 0) := (bc _ _ (by omega)).trans r0
  have v0 : w3.frozen? ⟨w.heap.size + 1, 0, none⟩ = false := (bf _ _ (by omega)).trans s0
  have u1 : w3.cell? ⟨w.heap.size + 1, 1, none⟩ = some (.int .i64 0) := (bc _ _ (by omega)).trans r1
  have v1 : w3.frozen? ⟨w.heap.size + 1, 1, none⟩ = false := (bf _ _ (by omega)).trans s1
  have u2 : w3.cell? ⟨w.heap.size + 1, 2, none⟩ = some (.int .i64 0) := (bc _ _ (by omega)).trans r2
  have v2 : w3.frozen? ⟨w.heap.size + 1, 2, none⟩ = false := (bf _ _ (by omega)).trans s2
  have u3 : w3.cell? ⟨w.heap.size + 1, 3, none⟩ = some (.int .i64 0) := (bc _ _ (by omega)).trans r3
  have v3 : w3.frozen? ⟨w.heap.size + 1, 3, none⟩ = false := (bf _ _ (by omega)).trans s3
  have u4 : w3.cell? ⟨w.heap.size + 1, 4, none⟩ = some (.int .i64 0) := (bc _ _ (by omega)).trans r4
  have v4 : w3.frozen? ⟨w.heap.size + 1, 4, none⟩ = false := (bf _ _ (by omega)).trans s4
  have u5 : w3.cell? ⟨w.heap.size + 1, 5, none⟩ = some (.slice none 0 0) := (bc _ _ (by omega)).trans r5
  have v5 : w3.frozen? ⟨w.heap.size + 1, 5, none⟩ = false := (bf _ _ (by omega)).trans s5
  have u6 : w3.cell? ⟨w.heap.size + 1, 6, none⟩ = some (.int .i64 0) := (bc _ _ (by omega)).trans r6
  have v6 : w3.frozen? ⟨w.heap.size + 1, 6, none⟩ = false := (bf _ _ (by omega)).trans s6
  have H3 := hidd (H2.out.trans (hb3.mono (by omega)))
  clear bc bf hb3 H2 z2 m0 m1 m2 m3 m4 m5 m6 n0 n1 n2 n3 n4 n5 n6 r0 r1 r2 r3 r4 r5 r6 s0 s1 s2 s3 s4 s5 s6
  go_wp2_with fail
  have H4 : Hid (Below w.heap.size w ((((((((w3.setCell ⟨w.heap.size + 1, 0, none⟩ (.int .i64 p)).setCell ⟨w.heap.size + 1, 1, none⟩ (.int .i64 r)).setCell ⟨w.heap.size + 1, 2, none⟩ (.int .i64 u)).setCell ⟨w.heap.size + 1, 3, none⟩ (.int .i64 m)).setCell ⟨w.heap.size + 1, 4, none⟩ (.int .i64 l)).setCell ⟨w.heap.size + 1, 5, none⟩ (.slice A N c)).setCell ⟨w.heap.size + 1, 6, none⟩ (.int .i64 t)))) := hidd (by have := H3.out; (repeat' (first | (with_reducible exact Below.refl _ _) | (with_reducible assumption) | (with_reducible apply Below.setCell) | (with_reducible apply Below.alloc) | (with_reducible apply Below.drew) | (with_reducible apply below_drewN) | (with_reducible refine Below.trans ?_ (Below.mono (by assumption) ?_)) | omega | (simp; done) | (simp; omega))))
  refine bodyPost_ret (v := .tuple #[.agg #[.int .i64 p, .int .i64 r, .int .i64 u, .int .i64 m, .int .i64 l, .slice A N c, .int .i64 t], .bool false, .int .i64 0]) (by simp [results, Try.results43, go_sem, u0, u1, u2, u3, u4, u5, u6]) rfl ?_
  rw [← HPO.out]
  exact ⟨A, c, rfl, HL.out _ H4.out, .inl ⟨rfl, by first | trivial | rfl⟩, H4.out⟩
set_option maxRecDepth 100000 in
set_option maxHeartbeats 4000000 in
theorem take12_yes (p r u m l : Int) (hr : rightB p r u m l = true) (A : Option Addr) (L : List (Int × Int)) (c : Nat) (now t z : Int) (hn : decide (now ≤ t ∧ t ≤ 2147483647) = true) (hm : L.length ≤ 999) (hk : BM.Keep p r u m l (L ++ [(t, z)])) (w : World) (hl : Lie sendV 2 w w.heap.size A L) :
    Calls Try.prog 43 #[gV p r u m l A L.length c now, .int .i64 t, .int .i64 z] w (Take12End p r u m l A L (L ++ [(t, z)]) t true 0 w) := by
  have ca := hidd (fun W => asked12_any p r u m l A L.length c now t W)
  rw [hn] at ca
  have ck : Hid (∀ W, Lie sendV 2 W W.heap.size A L → Calls Try.prog 42 #[gV p r u m l A L.length c t, .int .i64 t, .int .i64 z] W fun e w' => e = .returned (.bool true) ∧ Below W.heap.size W w') := hidd (fun W h => (keeps12_any p r u m l hr A L c t t z (by omega) W h).mono (by
    rintro e w' ⟨b, rfl, hb, hB⟩
    refine ⟨?_, hB⟩
    cases b
    · exact absurd (hb.2 hk) (by decide)
    · rfl))
  have HL := hidd (fun W (hb : Below w.heap.size w W) => hl.below hb)
  have HS := hidd (fun W (hb : Below w.heap.size w W) => hl.src hb)
  clear hl hn hk hr
  unfold Take12End gV at *
  generalize hN : L.length = N at *
  have HN := hidd hN
  obtain ⟨PO, hPO⟩ : ∃ PO : Ending → World → Prop, (fun e w' => ∃ A' c, e = .returned (.tuple #[.agg #[.int .i64 p, .int .i64 r, .int .i64 u, .int .i64 m, .int .i64 l, .slice A' (L ++ [(t, z)]).length c, .int .i64 t], .bool true, .int .i64 0]) ∧ Lie sendV 2 w' w'.heap.size A' (L ++ [(t, z)]) ∧ ((A' = A ∧ (L ++ [(t, z)]) = L) ∨ FarB w.heap.size A' (L ++ [(t, z)])) ∧ Below w.heap.size w w') = PO := ⟨_, rfl⟩
  have HPO := hidd hPO
  show Calls _ _ _ _ (fun e w' => ∃ A' c, e = .returned (.tuple #[.agg #[.int .i64 p, .int .i64 r, .int .i64 u, .int .i64 m, .int .i64 l, .slice A' (L ++ [(t, z)]).length c, .int .i64 t], .bool true, .int .i64 0]) ∧ Lie sendV 2 w' w'.heap.size A' (L ++ [(t, z)]) ∧ ((A' = A ∧ (L ++ [(t, z)]) = L) ∨ FarB w.heap.size A' (L ++ [(t, z)])) ∧ Below w.heap.size w w')
  rw [hPO]
  clear hPO hN
  obtain ⟨i0, hi0, hz0, hz1, hz2⟩ := info_parts sendInfo12
  go_enter Try.func43, Try.ntmps43
  go_wp2_with fail
  refine (ca.out _).mono ?_
  rintro e w1 ⟨rfl, hb1⟩
  obtain ⟨bc, bf⟩ := bcell hb1
  have z0 : w.heap.size + 1 < w1.heap.size := by have := hb1.size; simp at this; omega
  have k0 : w1.cell? ⟨w.heap.size, 0, none⟩ = some (.int .i64 p) := by rw [bc _ _ (by (first | omega | (simp; done) | (simp; omega)))]; simp [go_sem]
  have f0 : w1.frozen? ⟨w.heap.size, 0, none⟩ = false := by rw [bf _ _ (by (first | omega | (simp; done) | (simp; omega)))]; simp [go_sem]
  have k1 : w1.cell? ⟨w.heap.size, 1, none⟩ = some (.int .i64 r) := by rw [bc _ _ (by (first | omega | (simp; done) | (simp; omega)))]; simp [go_sem]
  have f1 : w1.frozen? ⟨w.heap.size, 1, none⟩ = false := by rw [bf _ _ (by (first | omega | (simp; done) | (simp; omega)))]; simp [go_sem]
  have k2 : w1.cell? ⟨w.heap.size, 2, none⟩ = some (.int .i64 u) := by rw [bc _ _ (by (first | omega | (simp; done) | (simp; omega)))]; simp [go_sem]
  have f2 : w1.frozen? ⟨w.heap.size, 2, none⟩ = false := by rw [bf _ _ (by (first | omega | (simp; done) | (simp; omega)))]; simp [go_sem]
  have k3 : w1.cell? ⟨w.heap.size, 3, none⟩ = some (.int .i64 m) := by rw [bc _ _ (by (first | omega | (simp; done) | (simp; omega)))]; simp [go_sem]
  have f3 : w1.frozen? ⟨w.heap.size, 3, none⟩ = false := by rw [bf _ _ (by (first | omega | (simp; done) | (simp; omega)))]; simp [go_sem]
  have k4 : w1.cell? ⟨w.heap.size, 4, none⟩ = some (.int .i64 l) := by rw [bc _ _ (by (first | omega | (simp; done) | (simp; omega)))]; simp [go_sem]
  have f4 : w1.frozen? ⟨w.heap.size, 4, none⟩ = false := by rw [bf _ _ (by (first | omega | (simp; done) | (simp; omega)))]; simp [go_sem]
  have k5 : w1.cell? ⟨w.heap.size, 5, none⟩ = some (.slice A N c) := by rw [bc _ _ (by (first | omega | (simp; done) | (simp; omega)))]; simp [go_sem]
  have f5 : w1.frozen? ⟨w.heap.size, 5, none⟩ = false := by rw [bf _ _ (by (first | omega | (simp; done) | (simp; omega)))]; simp [go_sem]
  have k6 : w1.cell? ⟨w.heap.size, 6, none⟩ = some (.int .i64 now) := by rw [bc _ _ (by (first | omega | (simp; done) | (simp; omega)))]; simp [go_sem]
  have f6 : w1.frozen? ⟨w.heap.size, 6, none⟩ = false := by rw [bf _ _ (by (first | omega | (simp; done) | (simp; omega)))]; simp [go_sem]
  have q0 : w1.cell? ⟨w.heap.size + 1, 0, none⟩ = some (.int .i64 0) := by rw [bc _ _ (by (first | omega | (simp; done) | (simp; omega)))]; simp [go_sem]
  have g0 : w1.frozen? ⟨w.heap.size + 1, 0, none⟩ = false := by rw [bf _ _ (by (first | omega | (simp; done) | (simp; omega)))]; simp [go_sem]
  have q1 : w1.cell? ⟨w.heap.size + 1, 1, none⟩ = some (.int .i64 0) := by rw [bc _ _ (by (first | omega | (simp; done) | (simp; omega)))]; simp [go_sem]
  have g1 : w1.frozen? ⟨w.heap.size + 1, 1, none⟩ = false := by rw [bf _ _ (by (first | omega | (simp; done) | (simp; omega)))]; simp [go_sem]
  have q2 : w1.cell? ⟨w.heap.size + 1, 2, none⟩ = some (.int .i64 0) := by rw [bc _ _ (by (first | omega | (simp; done) | (simp; omega)))]; simp [go_sem]
  have g2 : w1.frozen? ⟨w.heap.size + 1, 2, none⟩ = false := by rw [bf _ _ (by (first | omega | (simp; done) | (simp; omega)))]; simp [go_sem]
  have q3 : w1.cell? ⟨w.heap.size + 1, 3, none⟩ = some (.int .i64 0) := by rw [bc _ _ (by (first | omega | (simp; done) | (simp; omega)))]; simp [go_sem]
  have g3 : w1.frozen? ⟨w.heap.size + 1, 3, none⟩ = false := by rw [bf _ _ (by (first | omega | (simp; done) | (simp; omega)))]; simp [go_sem]
  have q4 : w1.cell? ⟨w.heap.size + 1, 4, none⟩ = some (.int .i64 0) := by rw [bc _ _ (by (first | omega | (simp; done) | (simp; omega)))]; simp [go_sem]
  have g4 : w1.frozen? ⟨w.heap.size + 1, 4, none⟩ = false := by rw [bf _ _ (by (first | omega | (simp; done) | (simp; omega)))]; simp [go_sem]
  have q5 : w1.cell? ⟨w.heap.size + 1, 5, none⟩ = some (.slice none 0 0) := by rw [bc _ _ (by (first | omega | (simp; done) | (simp; omega)))]; simp [go_sem]
  have g5 : w1.frozen? ⟨w.heap.size + 1, 5, none⟩ = false := by rw [bf _ _ (by (first | omega | (simp; done) | (simp; omega)))]; simp [go_sem]
  have q6 : w1.cell? ⟨w.heap.size + 1, 6, none⟩ = some (.int .i64 0) := by rw [bc _ _ (by (first | omega | (simp; done) | (simp; omega)))]; simp [go_sem]
  have g6 : w1.frozen? ⟨w.heap.size + 1, 6, none⟩ = false := by rw [bf _ _ (by (first | omega | (simp; done) | (simp; omega)))]; simp [go_sem]
  have H1 := hidd (show Below w.heap.size w w1 by (repeat' (first | (with_reducible exact Below.refl _ _) | (with_reducible assumption) | (with_reducible apply Below.setCell) | (with_reducible apply Below.alloc) | (with_reducible apply Below.drew) | (with_reducible apply below_drewN) | (with_reducible refine Below.trans ?_ (Below.mono (by assumption) ?_)) | omega | (simp; done) | (simp; omega))))
  clear bc bf hb1
  go_wp2_with fail
  obtain ⟨w2, hw2⟩ : ∃ w2 : World, w1.setCell ⟨w.heap.size, 6, none⟩ (.int .i64 t) = w2 := ⟨_, rfl⟩
  have m0 : w2.cell? ⟨w.heap.size, 0, none⟩ = some (.int .i64 p) := by subst hw2; simp [go_sem, k0]
  have n0 : w2.frozen? ⟨w.heap.size, 0, none⟩ = false := by subst hw2; simp [go_sem, f0]
  have m1 : w2.cell? ⟨w.heap.size, 1, none⟩ = some (.int .i64 r) := by subst hw2; simp [go_sem, k1]
  have n1 : w2.frozen? ⟨w.heap.size, 1, none⟩ = false := by subst hw2; simp [go_sem, f1]
  have m2 : w2.cell? ⟨w.heap.size, 2, none⟩ = some (.int .i64 u) := by subst hw2; simp [go_sem, k2]
  have n2 : w2.frozen? ⟨w.heap.size, 2, none⟩ = false := by subst hw2; simp [go_sem, f2]
  have m3 : w2.cell? ⟨w.heap.size, 3, none⟩ = some (.int .i64 m) := by subst hw2; simp [go_sem, k3]
  have n3 : w2.frozen? ⟨w.heap.size, 3, none⟩ = false := by subst hw2; simp [go_sem, f3]
  have m4 : w2.cell? ⟨w.heap.size, 4, none⟩ = some (.int .i64 l) := by subst hw2; simp [go_sem, k4]
  have n4 : w2.frozen? ⟨w.heap.size, 4, none⟩ = false := by subst hw2; simp [go_sem, f4]
  have m5 : w2.cell? ⟨w.heap.size, 5, none⟩ = some (.slice A N c) := by subst hw2; simp [go_sem, k5]
  have n5 : w2.frozen? ⟨w.heap.size, 5, none⟩ = false := by subst hw2; simp [go_sem, f5]
  have m6 : w2.cell? ⟨w.heap.size, 6, none⟩ = some (.int .i64 t) := by subst hw2; simp [go_sem, k6]
  have n6 : w2.frozen? ⟨w.heap.size, 6, none⟩ = false := by subst hw2; simp [go_sem, f6]
  have r0 : w2.cell? ⟨w.heap.size + 1, 0, none⟩ = some (.int .i64 0) := by subst hw2; simp [go_sem, q0]
  have s0 : w2.frozen? ⟨w.heap.size + 1, 0, none⟩ = false := by subst hw2; simp [go_sem, g0]
  have r1 : w2.cell? ⟨w.heap.size + 1, 1, none⟩ = some (.int .i64 0) := by subst hw2; simp [go_sem, q1]
  have s1 : w2.frozen? ⟨w.heap.size + 1, 1, none⟩ = false := by subst hw2; simp [go_sem, g1]
  have r2 : w2.cell? ⟨w.heap.size + 1, 2, none⟩ = some (.int .i64 0) := by subst hw2; simp [go_sem, q2]
  have s2 : w2.frozen? ⟨w.heap.size + 1, 2, none⟩ = false := by subst hw2; simp [go_sem, g2]
  have r3 : w2.cell? ⟨w.heap.size + 1, 3, none⟩ = some (.int .i64 0) := by subst hw2; simp [go_sem, q3]
  have s3 : w2.frozen? ⟨w.heap.size + 1, 3, none⟩ = false := by subst hw2; simp [go_sem, g3]
  have r4 : w2.cell? ⟨w.heap.size + 1, 4, none⟩ = some (.int .i64 0) := by subst hw2; simp [go_sem, q4]
  have s4 : w2.frozen? ⟨w.heap.size + 1, 4, none⟩ = false := by subst hw2; simp [go_sem, g4]
  have r5 : w2.cell? ⟨w.heap.size + 1, 5, none⟩ = some (.slice none 0 0) := by subst hw2; simp [go_sem, q5]
  have s5 : w2.frozen? ⟨w.heap.size + 1, 5, none⟩ = false := by subst hw2; simp [go_sem, g5]
  have r6 : w2.cell? ⟨w.heap.size + 1, 6, none⟩ = some (.int .i64 0) := by subst hw2; simp [go_sem, q6]
  have s6 : w2.frozen? ⟨w.heap.size + 1, 6, none⟩ = false := by subst hw2; simp [go_sem, g6]
  have z2 : w.heap.size + 1 < w2.heap.size := by rw [← hw2]; simpa [World.setCell] using z0
  have H2 : Hid (Below w.heap.size w w2) := hidd (by rw [← hw2]; exact H1.out.setCell (p := ⟨w.heap.size, 6, none⟩) (Nat.le_refl _) _)
  rw [hw2]
  clear hw2 H1 z0 k0 k1 k2 k3 k4 k5 k6 f0 f1 f2 f3 f4 f5 f6 q0 q1 q2 q3 q4 q5 q6 g0 g1 g2 g3 g4 g5 g6
  refine (ck.out _ (HL.out _ H2.out)).mono ?_
  rintro e w3 ⟨rfl, hb3⟩
  obtain ⟨bc, bf⟩ := bcell hb3
  have z3 : w.heap.size + 1 < w3.heap.size := Nat.lt_of_lt_of_le z2 hb3.size
  have x0 : w3.cell? ⟨w.heap.size, 0, none⟩ = some (.int .i64 p) := (bc _ _ (by omega)).trans m0
  have y0 : w3.frozen? ⟨w.heap.size, 0, none⟩ = false := (bf _ _ (by omega)).trans n0
  have x1 : w3.cell? ⟨w.heap.size, 1, none⟩ = some (.int .i64 r) := (bc _ _ (by omega)).trans m1
  have y1 : w3.frozen? ⟨w.heap.size, 1, none⟩ = false := (bf _ _ (by omega)).trans n1
  have x2 : w3.cell? ⟨w.heap.size, 2, none⟩ = some (.int .i64 u) := (bc _ _ (by omega)).trans m2
  have y2 : w3.frozen? ⟨w.heap.size, 2, none⟩ = false := (bf _ _ (by omega)).trans n2
  have x3 : w3.cell? ⟨w.heap.size, 3, none⟩ = some (.int .i64 m) := (bc _ _ (by omega)).trans m3
  have y3 : w3.frozen? ⟨w.heap.size, 3, none⟩ = false := (bf _ _ (by omega)).trans n3
  have x4 : w3.cell? ⟨w.heap.size, 4, none⟩ = some (.int .i64 l) := (bc _ _ (by omega)).trans m4
  have y4 : w3.frozen? ⟨w.heap.size, 4, none⟩ = false := (bf _ _ (by omega)).trans n4
  have x5 : w3.cell? ⟨w.heap.size, 5, none⟩ = some (.slice A N c) := (bc _ _ (by omega)).trans m5
  have y5 : w3.frozen? ⟨w.heap.size, 5, none⟩ = false := (bf _ _ (by omega)).trans n5
  have x6 : w3.cell? ⟨w.heap.size, 6, none⟩ = some (.int .i64 t) := (bc _ _ (by omega)).trans m6
  have y6 : w3.frozen? ⟨w.heap.size, 6, none⟩ = false := (bf _ _ (by omega)).trans n6
  have u0 : w3.cell? ⟨w.heap.size + 1, 0, none⟩ = some (.int .i64 0) := (bc _ _ (by omega)).trans r0
  have v0 : w3.frozen? ⟨w.heap.size + 1, 0, none⟩ = false := (bf _ _ (by omega)).trans s0
  have u1 : w3.cell? ⟨w.heap.size + 1, 1, none⟩ = some (.int .i64 0) := (bc _ _ (by omega)).trans r1
  have v1 : w3.frozen? ⟨w.heap.size + 1, 1, none⟩ = false := (bf _ _ (by omega)).trans s1
  have u2 : w3.cell? ⟨w.heap.size + 1, 2, none⟩ = some (.int .i64 0) := (bc _ _ (by omega)).trans r2
  have v2 : w3.frozen? ⟨w.heap.size + 1, 2, none⟩ = false := (bf _ _ (by omega)).trans s2
  have u3 : w3.cell? ⟨w.heap.size + 1, 3, none⟩ = some (.int .i64 0) := (bc _ _ (by omega)).trans r3
  have v3 : w3.frozen? ⟨w.heap.size + 1, 3, none⟩ = false := (bf _ _ (by omega)).trans s3
  have u4 : w3.cell? ⟨w.heap.size + 1, 4, none⟩ = some (.int .i64 0) := (bc _ _ (by omega)).trans r4
  have v4 : w3.frozen? ⟨w.heap.size + 1, 4, none⟩ = false := (bf _ _ (by omega)).trans s4
  have u5 : w3.cell? ⟨w.heap.size + 1, 5, none⟩ = some (.slice none 0 0) := (bc _ _ (by omega)).trans r5
  have v5 : w3.frozen? ⟨w.heap.size + 1, 5, none⟩ = false := (bf _ _ (by omega)).trans s5
  have u6 : w3.cell? ⟨w.heap.size + 1, 6, none⟩ = some (.int .i64 0) := (bc _ _ (by omega)).trans r6
  have v6 : w3.frozen? ⟨w.heap.size + 1, 6, none⟩ = false := (bf _ _ (by omega)).trans s6
  have H3 := hidd (H2.out.trans (hb3.mono (by omega)))
  clear bc bf hb3 H2 z2 m0 m1 m2 m3 m4 m5 m6 n0 n1 n2 n3 n4 n5 n6 r0 r1 r2 r3 r4 r5 r6 s0 s1 s2 s3 s4 s5 s6
  go_wp2_with (first
    | (at_builtin; refine wpList_append_some (by rfl) (.const (.slice none 0 0)) (.tmp 26) _ (by rfl) w3.heap.size 107 i0 _ 2 16 Try.underlying30 hi0 hz0 hz1 hz2 rfl (by omega) (.slice none 0 0) 0 [] (by rfl) (World.ownsRow_nil _ _ _ _) A N c (rowOf sendV L) (by rfl) (by rw [row_len sendV_len L, HN.out]) (HS.out _ H3.out) (rowOf_one sendV_one L) (by simp only [maxLen]; omega) (by omega) (by (first | omega | (simp; done) | (simp; omega))) ?_; intro va wa hown1 hgrow1 hat1)
    | (at_builtin; refine wpList_append_some (by rfl) (.tmp 27) (.tmp 31) _ (by rfl) w3.heap.size 107 i0 _ 2 16 Try.underlying30 hi0 hz0 hz1 hz2 rfl (by omega) va (0 + N) ([] ++ rowOf sendV L) (by rfl) (World.ownsRow.alloc hown1 _) (some ⟨wa.heap.size, 0, none⟩) 1 1 [.int .i64 t, .int .i64 z] (by rfl) (by rfl) (fun _ => ⟨_, rfl, World.news_of_block (cs := #[.int .i64 t, .int .i64 z]) (t := 107) (fr := (0, 0)) (heap_alloc_new wa _)⟩) (by simp [Value.oneCell']) (by simp only [maxLen]; omega) (by omega) (by have := hgrow1.size; (first | omega | (simp; done) | (simp; omega))) ?_; intro vb wb hown2 hgrow2 hat2; have hA : Below w3.heap.size w3 wa := Below.grown (Below.refl _ _) hgrow1 (by (first | omega | (simp; done) | (simp; omega))) (by intro k hk; simp [Value.ownBlock] at hk); have hB : Below w3.heap.size w3 wb := Below.grown (below_new hA _) hgrow2 (by have := hA.size; (first | omega | (simp; done) | (simp; omega))) (fun k hk => (World.ownsRow.lt hown1 k hk).1); have X0 : wb.cell? ⟨w.heap.size, 0, none⟩ = some (.int .i64 p) := (hB.cell (p := ⟨w.heap.size, 0, none⟩) (by show w.heap.size < _; omega)).trans x0; have Y0 : wb.frozen? ⟨w.heap.size, 0, none⟩ = false := (hB.frozen (p := ⟨w.heap.size, 0, none⟩) (by show w.heap.size < _; omega)).trans y0; have X1 : wb.cell? ⟨w.heap.size, 1, none⟩ = some (.int .i64 r) := (hB.cell (p := ⟨w.heap.size, 1, none⟩) (by show w.heap.size < _; omega)).trans x1; have Y1 : wb.frozen? ⟨w.heap.size, 1, none⟩ = false := (hB.frozen (p := ⟨w.heap.size, 1, none⟩) (by show w.heap.size < _; omega)).trans y1; have X2 : wb.cell? ⟨w.heap.size, 2, none⟩ = some (.int .i64 u) := (hB.cell (p := ⟨w.heap.size, 2, none⟩) (by show w.heap.size < _; omega)).trans x2; have Y2 : wb.frozen? ⟨w.heap.size, 2, none⟩ = false := (hB.frozen (p := ⟨w.heap.size, 2, none⟩) (by show w.heap.size < _; omega)).trans y2; have X3 : wb.cell? ⟨w.heap.size, 3, none⟩ = some (.int .i64 m) := (hB.cell (p := ⟨w.heap.size, 3, none⟩) (by show w.heap.size < _; omega)).trans x3; have Y3 : wb.frozen? ⟨w.heap.size, 3, none⟩ = false := (hB.frozen (p := ⟨w.heap.size, 3, none⟩) (by show w.heap.size < _; omega)).trans y3; have X4 : wb.cell? ⟨w.heap.size, 4, none⟩ = some (.int .i64 l) := (hB.cell (p := ⟨w.heap.size, 4, none⟩) (by show w.heap.size < _; omega)).trans x4; have Y4 : wb.frozen? ⟨w.heap.size, 4, none⟩ = false := (hB.frozen (p := ⟨w.heap.size, 4, none⟩) (by show w.heap.size < _; omega)).trans y4; have X5 : wb.cell? ⟨w.heap.size, 5, none⟩ = some (.slice A N c) := (hB.cell (p := ⟨w.heap.size, 5, none⟩) (by show w.heap.size < _; omega)).trans x5; have Y5 : wb.frozen? ⟨w.heap.size, 5, none⟩ = false := (hB.frozen (p := ⟨w.heap.size, 5, none⟩) (by show w.heap.size < _; omega)).trans y5; have X6 : wb.cell? ⟨w.heap.size, 6, none⟩ = some (.int .i64 t) := (hB.cell (p := ⟨w.heap.size, 6, none⟩) (by show w.heap.size < _; omega)).trans x6; have Y6 : wb.frozen? ⟨w.heap.size, 6, none⟩ = false := (hB.frozen (p := ⟨w.heap.size, 6, none⟩) (by show w.heap.size < _; omega)).trans y6; have U0 : wb.cell? ⟨w.heap.size + 1, 0, none⟩ = some (.int .i64 0) := (hB.cell (p := ⟨w.heap.size + 1, 0, none⟩) (by show w.heap.size + 1 < _; omega)).trans u0; have V0 : wb.frozen? ⟨w.heap.size + 1, 0, none⟩ = false := (hB.frozen (p := ⟨w.heap.size + 1, 0, none⟩) (by show w.heap.size + 1 < _; omega)).trans v0; have U1 : wb.cell? ⟨w.heap.size + 1, 1, none⟩ = some (.int .i64 0) := (hB.cell (p := ⟨w.heap.size + 1, 1, none⟩) (by show w.heap.size + 1 < _; omega)).trans u1; have V1 : wb.frozen? ⟨w.heap.size + 1, 1, none⟩ = false := (hB.frozen (p := ⟨w.heap.size + 1, 1, none⟩) (by show w.heap.size + 1 < _; omega)).trans v1; have U2 : wb.cell? ⟨w.heap.size + 1, 2, none⟩ = some (.int .i64 0) := (hB.cell (p := ⟨w.heap.size + 1, 2, none⟩) (by show w.heap.size + 1 < _; omega)).trans u2; have V2 : wb.frozen? ⟨w.heap.size + 1, 2, none⟩ = false := (hB.frozen (p := ⟨w.heap.size + 1, 2, none⟩) (by show w.heap.size + 1 < _; omega)).trans v2; have U3 : wb.cell? ⟨w.heap.size + 1, 3, none⟩ = some (.int .i64 0) := (hB.cell (p := ⟨w.heap.size + 1, 3, none⟩) (by show w.heap.size + 1 < _; omega)).trans u3; have V3 : wb.frozen? ⟨w.heap.size + 1, 3, none⟩ = false := (hB.frozen (p := ⟨w.heap.size + 1, 3, none⟩) (by show w.heap.size + 1 < _; omega)).trans v3; have U4 : wb.cell? ⟨w.heap.size + 1, 4, none⟩ = some (.int .i64 0) := (hB.cell (p := ⟨w.heap.size + 1, 4, none⟩) (by show w.heap.size + 1 < _; omega)).trans u4; have V4 : wb.frozen? ⟨w.heap.size + 1, 4, none⟩ = false := (hB.frozen (p := ⟨w.heap.size + 1, 4, none⟩) (by show w.heap.size + 1 < _; omega)).trans v4; have U5 : wb.cell? ⟨w.heap.size + 1, 5, none⟩ = some (.slice none 0 0) := (hB.cell (p := ⟨w.heap.size + 1, 5, none⟩) (by show w.heap.size + 1 < _; omega)).trans u5; have V5 : wb.frozen? ⟨w.heap.size + 1, 5, none⟩ = false := (hB.frozen (p := ⟨w.heap.size + 1, 5, none⟩) (by show w.heap.size + 1 < _; omega)).trans v5; have U6 : wb.cell? ⟨w.heap.size + 1, 6, none⟩ = some (.int .i64 0) := (hB.cell (p := ⟨w.heap.size + 1, 6, none⟩) (by show w.heap.size + 1 < _; omega)).trans u6; have V6 : wb.frozen? ⟨w.heap.size + 1, 6, none⟩ = false := (hB.frozen (p := ⟨w.heap.size + 1, 6, none⟩) (by show w.heap.size + 1 < _; omega)).trans v6; have hO := OwnL.snoc (f := sendV) (L := L) (x := (t, z)) hown2 (by rw [HN.out]; omega) (by simp [sendV]); obtain ⟨A2, c2, e2, _, _, _⟩ := hO.lie sendV_len; have e3 : vb = .slice A2 (N + 1) c2 := (by rw [e2]; simp [HN.out]); subst e3; have HO := hidd hO; have HB := hidd hB; clear e2 hO hA hB hown1 hown2 hgrow1 hgrow2 hat1 hat2 x0 x1 x2 x3 x4 x5 x6 y0 y1 y2 y3 y4 y5 y6 u0 u1 u2 u3 u4 u5 u6 v0 v1 v2 v3 v4 v5 v6))
  have H4 : Hid (Below w.heap.size w wb) := hidd (H3.out.trans (HB.out.mono (by omega)))
  have H5 : Hid (Below w.heap.size w (((((((((wb.setCell ⟨w.heap.size, 5, none⟩ (.slice A2 (N + 1) c2)).setCell ⟨w.heap.size + 1, 0, none⟩ (.int .i64 p)).setCell ⟨w.heap.size + 1, 1, none⟩ (.int .i64 r)).setCell ⟨w.heap.size + 1, 2, none⟩ (.int .i64 u)).setCell ⟨w.heap.size + 1, 3, none⟩ (.int .i64 m)).setCell ⟨w.heap.size + 1, 4, none⟩ (.int .i64 l)).setCell ⟨w.heap.size + 1, 5, none⟩ (.slice A2 (N + 1) c2)).setCell ⟨w.heap.size + 1, 6, none⟩ (.int .i64 t)))) := hidd (by have := H4.out; (repeat' (first | (with_reducible exact Below.refl _ _) | (with_reducible assumption) | (with_reducible apply Below.setCell) | (with_reducible apply Below.alloc) | (with_reducible apply Below.drew) | (with_reducible apply below_drewN) | (with_reducible refine Below.trans ?_ (Below.mono (by assumption) ?_)) | omega | (simp; done) | (simp; omega))))
  have L5 : Hid (Lie sendV 2 (((((((((wb.setCell ⟨w.heap.size, 5, none⟩ (.slice A2 (N + 1) c2)).setCell ⟨w.heap.size + 1, 0, none⟩ (.int .i64 p)).setCell ⟨w.heap.size + 1, 1, none⟩ (.int .i64 r)).setCell ⟨w.heap.size + 1, 2, none⟩ (.int .i64 u)).setCell ⟨w.heap.size + 1, 3, none⟩ (.int .i64 m)).setCell ⟨w.heap.size + 1, 4, none⟩ (.int .i64 l)).setCell ⟨w.heap.size + 1, 5, none⟩ (.slice A2 (N + 1) c2)).setCell ⟨w.heap.size + 1, 6, none⟩ (.int .i64 t))) (((((((((wb.setCell ⟨w.heap.size, 5, none⟩ (.slice A2 (N + 1) c2)).setCell ⟨w.heap.size + 1, 0, none⟩ (.int .i64 p)).setCell ⟨w.heap.size + 1, 1, none⟩ (.int .i64 r)).setCell ⟨w.heap.size + 1, 2, none⟩ (.int .i64 u)).setCell ⟨w.heap.size + 1, 3, none⟩ (.int .i64 m)).setCell ⟨w.heap.size + 1, 4, none⟩ (.int .i64 l)).setCell ⟨w.heap.size + 1, 5, none⟩ (.slice A2 (N + 1) c2)).setCell ⟨w.heap.size + 1, 6, none⟩ (.int .i64 t))).heap.size A2 (L ++ [(t, z)])) := hidd (by
    have h6 := OwnL.far HO.out (w' := ((((((((wb.setCell ⟨w.heap.size, 5, none⟩ (.slice A2 (N + 1) c2)).setCell ⟨w.heap.size + 1, 0, none⟩ (.int .i64 p)).setCell ⟨w.heap.size + 1, 1, none⟩ (.int .i64 r)).setCell ⟨w.heap.size + 1, 2, none⟩ (.int .i64 u)).setCell ⟨w.heap.size + 1, 3, none⟩ (.int .i64 m)).setCell ⟨w.heap.size + 1, 4, none⟩ (.int .i64 l)).setCell ⟨w.heap.size + 1, 5, none⟩ (.slice A2 (N + 1) c2)).setCell ⟨w.heap.size + 1, 6, none⟩ (.int .i64 t))) (fun k hk _ => by (repeat rw [Below.heap_setCell _ _ _ _ (by show _ ≠ _; simp only []; omega)])) (by simp [World.setCell])
    obtain ⟨A3, c3, e3, _, _, h7⟩ := h6.lie sendV_len
    have e4 : A2 = A3 := by injection e3
    subst e4
    exact h7)
  refine bodyPost_ret (v := .tuple #[.agg #[.int .i64 p, .int .i64 r, .int .i64 u, .int .i64 m, .int .i64 l, .slice A2 (N + 1) c2, .int .i64 t], .bool true, .int .i64 0]) (by simp [results, Try.results43, go_sem, U0, U1, U2, U3, U4, U5, U6]) rfl ?_
  rw [← HPO.out]
  exact ⟨A2, c2, by rw [List.length_append, HN.out]; rfl, L5.out, (.inr fun _ ad had => by have := (World.ownsRow.lt HO.out ad.block (by rw [had]; rfl)).1; have := H3.out.size; omega), H5.out⟩
theorem take12_any {p r u m l : Int} (hr : rightB p r u m l = true) (A : Option Addr) {T : List (Int × Int)} {s : BM.St} (hI : BM.Inv p r u m l T s) (hs : BM.Ok u m s) (c : Nat) (t z : Int) (hm : T.length ≤ 999) (w : World) (hl : Lie sendV 2 w w.heap.size A T) :
    Calls Try.prog 43 #[gV p r u m l A T.length c s.1, .int .i64 t, .int .i64 z] w (Take12End p r u m l A T (BM.took T (BM.step p r u m l s t z).2.1 t z) (BM.step p r u m l s t z).1.1 (BM.step p r u m l s t z).2.1 (BM.step p r u m l s t z).2.2 w) := by
  have hb := rightB_iff hr
  have hi := BM.step_is hI (by omega) (by omega) hs t z
  cases hq : BM.askB s t
  · have e : BM.step p r u m l s t z = (s, false, 2) := by unfold BM.step; rw [if_neg (by rw [hq]; simp)]
    rw [e]
    exact take12_ask p r u m l A T c s.1 t z hq w hl
  · by_cases hk : BM.Keep p r u m l (T ++ [(t, z)])
    · have h1 := hi.2 ⟨hq, hk⟩
      have e : BM.step p r u m l s t z = ((t, BM.lev0 r u s t - z, BM.lev1 p m s t - z), true, 0) := by
        unfold BM.step at h1 ⊢
        rw [if_pos hq] at h1 ⊢
        split at h1
        · rename_i hf; rw [if_pos hf]
        · cases h1
      rw [e]
      exact take12_yes p r u m l hr A T c s.1 t z hq hm hk w hl
    · have e : BM.step p r u m l s t z = ((t, BM.lev0 r u s t, BM.lev1 p m s t), false, 0) := by
        have h1 : ¬ (BM.step p r u m l s t z).2.1 = true := fun h => hk (hi.1 h).2
        unfold BM.step at h1 ⊢
        rw [if_pos hq] at h1 ⊢
        split at h1
        · exact absurd rfl h1
        · rename_i hf; rw [if_neg hf]
      rw [e]
      exact take12_no p r u m l hr A T c s.1 t z hq hm hk w hl
end Go.Proofs.Ythaiphkmkchhoaa
