/- minplus: the bend of a curve for a rate, how high it is there. -/
import Derived.Test.YtokcalmmmfakcaaGreatMpE
import Derived.Deep.DeepCutAuto
namespace Go.Proofs.YtokcalmmmfakcaaGreat
set_option linter.unusedVariables false
open Go.RowKit

theorem fracN_small (b : Bool) (n d : Nat) (hd : 0 < d) (h1 : n < 9223372036854775808) (h2 : d < 9223372036854775808) : RM.fracN b n d = (RM.sgn b (n / Nat.gcd n d), ((d / Nat.gcd n d : Nat) : Int), 0) := by
  unfold RM.fracN RM.fracP
  rw [if_neg (by omega)]
  have l1 : n / Nat.gcd n d ≤ n := Nat.div_le_self _ _
  have l2 : d / Nat.gcd n d ≤ d := Nat.div_le_self _ _
  rw [if_pos ⟨by omega, by omega⟩]
/-- a quotient of two numbers from 0 and 1 on. -/
theorem times_small {x y d e : Int} (h0 : 0 ≤ x * y) (h1 : x * y ≤ 9223372036854775807) (hd : 1 ≤ d) (he : 1 ≤ e) (h2 : d * e ≤ 9223372036854775807) : ∃ N D, RM.timesR x d y e = (N, D, 0) ∧ RM.Right N D ∧ 0 ≤ N ∧ N ≤ x * y ∧ D ≤ d * e := by
  have hpos : 0 < d * e := Int.mul_pos (by omega) (by omega)
  have e1 : (x.natAbs * y.natAbs : Nat) = (x * y).natAbs := (Int.natAbs_mul x y).symm
  have e2 : (d.natAbs * e.natAbs : Nat) = (d * e).natAbs := (Int.natAbs_mul d e).symm
  have hs := fracN_small (decide (x < 0) != decide (y < 0)) (x.natAbs * y.natAbs) (d.natAbs * e.natAbs) (by rw [e2]; omega) (by rw [e1]; omega) (by rw [e2]; omega)
  have ht : RM.timesR x d y e = _ := hs
  obtain ⟨hr, hq⟩ := (RM.timesR_ok x d y e _ _ hd he).1 ht
  have l1 : (x.natAbs * y.natAbs) / Nat.gcd (x.natAbs * y.natAbs) (d.natAbs * e.natAbs) ≤ x.natAbs * y.natAbs := Nat.div_le_self _ _
  have l2 : (d.natAbs * e.natAbs) / Nat.gcd (x.natAbs * y.natAbs) (d.natAbs * e.natAbs) ≤ d.natAbs * e.natAbs := Nat.div_le_self _ _
  have hN : 0 ≤ RM.sgn (decide (x < 0) != decide (y < 0)) ((x.natAbs * y.natAbs) / Nat.gcd (x.natAbs * y.natAbs) (d.natAbs * e.natAbs)) := by
    have hD := hr.1
    have h3 : 0 ≤ (x * y) * ((d.natAbs * e.natAbs / Nat.gcd (x.natAbs * y.natAbs) (d.natAbs * e.natAbs) : Nat) : Int) := Int.mul_nonneg h0 (by omega)
    rw [← hq] at h3
    exact Int.nonneg_of_mul_nonneg_left h3 hpos
  refine ⟨_, _, ht, hr, hN, ?_, ?_⟩
  · have := RM.sgn_natAbs (decide (x < 0) != decide (y < 0)) ((x.natAbs * y.natAbs) / Nat.gcd (x.natAbs * y.natAbs) (d.natAbs * e.natAbs))
    omega
  · omega
theorem plus_small {x d y e : Int} (h0 : 0 ≤ x * e + y * d) (h1 : x * e + y * d ≤ 9223372036854775807) (hd : 1 ≤ d) (he : 1 ≤ e) (h2 : d * e ≤ 9223372036854775807) : ∃ N D, RM.plusR x d y e = (N, D, 0) ∧ RM.Right N D := by
  have hpos : 0 < d * e := Int.mul_pos (by omega) (by omega)
  have e2 : (d.natAbs * e.natAbs : Nat) = (d * e).natAbs := (Int.natAbs_mul d e).symm
  have hsg := RM.tog2_sgn (decide (x < 0)) (x.natAbs * e.natAbs) (decide (y < 0)) (y.natAbs * d.natAbs)
  have en := RM.sgn_natAbs (RM.tog2 (decide (x < 0)) (x.natAbs * e.natAbs) (decide (y < 0)) (y.natAbs * d.natAbs)).1 (RM.tog2 (decide (x < 0)) (x.natAbs * e.natAbs) (decide (y < 0)) (y.natAbs * d.natAbs)).2
  rw [hsg, RM.sgn_mul, RM.sgn_mul, RM.sgn_self, RM.sgn_self] at en
  have ee : ((e.natAbs : Nat) : Int) = e := by omega
  have ed : ((d.natAbs : Nat) : Int) = d := by omega
  rw [ee, ed] at en
  have ht : RM.plusR x d y e = _ := fracN_small _ _ _ (by rw [e2]; omega) (by rw [← en]; omega) (by rw [e2]; omega)
  exact ⟨_, _, ht, ((RM.plusR_ok x d y e _ _ hd he).1 ht).1⟩
/-- lines one behind the other: Bursts rise, Rates fall. -/
def SlopeL (l : List (Int × Int)) : Prop := ∀ i (h : i + 1 < l.length), (l[i]).1 < (l[i + 1]).1 ∧ (l[i + 1]).2 < (l[i]).2
/-- at how many ticks the curve bends for a rate, at the i-th line. -/
def bendR (l : List (Int × Int)) (i : Nat) : Num3 := if i = 0 then (0, 1, 0) else divT ((l.getD i (0, 0)).1 - (l.getD (i - 1) (0, 0)).1) 1 ((l.getD (i - 1) (0, 0)).2 - (l.getD i (0, 0)).2) 1
theorem bend_fits {l : List (Int × Int)} (hm : MayL l) (hs : SlopeL l) {i : Nat} (hi : i < l.length) : ∃ N D, bendR l i = (N, D, 0) ∧ RM.Right N D ∧ (0 ≤ N ∧ N ≤ 1000000000) ∧ D ≤ 1000000000 := by
  unfold bendR
  by_cases h0 : i = 0
  · rw [if_pos h0]
    exact ⟨0, 1, rfl, ⟨by decide, by decide, by decide, by decide, by decide⟩, by decide, by decide⟩
  · rw [if_neg h0]
    obtain ⟨j, rfl⟩ : ∃ j, i = j + 1 := ⟨i - 1, by omega⟩
    have g1 : l.getD (j + 1) (0, 0) = l[j + 1] := by simp [List.getD_eq_getElem?_getD, hi]
    have g2 : l.getD (j + 1 - 1) (0, 0) = l[j] := by
      have : j < l.length := by omega
      simp [List.getD_eq_getElem?_getD, this]
    rw [g1, g2]
    obtain ⟨s1, s2⟩ := hs j hi
    have m1 := hm _ (List.getElem_mem hi)
    have m2 := hm _ (List.getElem_mem (show j < l.length by omega))
    unfold divT
    rw [if_neg (by omega), if_neg (by omega)]
    obtain ⟨N, D, a, b, c, d, e⟩ := times_small (x := (l[j + 1]).1 - (l[j]).1) (y := 1) (d := 1) (e := (l[j]).2 - (l[j + 1]).2) (by omega) (by omega) (by omega) (by omega) (by omega)
    exact ⟨N, D, a, b, ⟨c, by omega⟩, by omega⟩
theorem hgt_fits {b r N D : Int} (hb : 0 ≤ b ∧ b ≤ 1000000000) (hr : 0 ≤ r ∧ r ≤ 1000000000) (h : RM.Right N D) (h0 : 0 ≤ N ∧ N ≤ 1000000000) (h1 : D ≤ 1000000000) : ∃ P Q, hgtR b r N D = (P, Q, 0) ∧ RM.Right P Q := by
  have hD := h.1
  have p1 : 0 ≤ r * N := Int.mul_nonneg hr.1 h0.1
  have p2 : r * N ≤ 1000000000 * 1000000000 := Int.mul_le_mul hr.2 h0.2 h0.1 (by decide)
  obtain ⟨P, Q, a, c, d, e, f⟩ := times_small (x := r) (y := N) (d := 1) (e := D) p1 (by omega) (by decide) hD (by omega)
  have hQ := c.1
  have q1 : 0 ≤ b * Q := Int.mul_nonneg hb.1 (by omega)
  have q2 : b * Q ≤ 1000000000 * 1000000000 := Int.mul_le_mul hb.2 (by omega) (by omega) (by decide)
  obtain ⟨U, V, g, k⟩ := plus_small (x := b) (d := 1) (y := P) (e := Q) (by omega) (by omega) (by decide) hQ (by omega)
  exact ⟨U, V, by unfold hgtR; rw [a, thenR_ok, g], k⟩
/-- how bendFor ends. -/
def BendEnd (l : List (Int × Int)) (i : Nat) (w : World) (E : Ending) (w' : World) : Prop :=
  (∃ (h : i < l.length) (N D : Int), E = .returned (.agg #[.int .i64 N, .int .i64 D, .int .i64 (l[i]).1, .int .i64 (l[i]).2]) ∧ bendR l i = (N, D, 0) ∧ RM.Right N D ∧ Below w.heap.size w w') ∨ (¬ i < l.length ∧ E = errPanic 140 ∧ Below w.heap.size w w')
theorem liesO_first {w : World} {ad : Addr} {l : List (Int × Int)} (h : LiesO w (some ad) l) (h0 : 0 < l.length) : ad.block < w.heap.size ∧ w.cell? ad = some (.int .i64 (l[0]).1) ∧ w.cell? ⟨ad.block, ad.off + 1, none⟩ = some (.int .i64 (l[0]).2) := by
  obtain ⟨ad', e, hb, hc⟩ := h h0
  obtain rfl : ad = ad' := by injection e
  have e0 : ad.add (0 * 2) = ad := by simp [Addr.add]
  have := hc 0 h0
  rw [e0] at this
  exact ⟨hb, this⟩
theorem liesO_first_any {w : World} {A : Option Addr} {l : List (Int × Int)} (h : LiesO w A l) (h0 : 0 < l.length) {ad : Addr} (e : A = some ad) : ad.block < w.heap.size ∧ w.cell? ad = some (.int .i64 (l[0]'h0).1) ∧ w.cell? ⟨ad.block, ad.off + 1, none⟩ = some (.int .i64 (l[0]'h0).2) := by
  subst e
  exact liesO_first h h0
def QuadBox (w : World) (b : Nat) (x y z u : Int) : Prop := b < w.heap.size ∧ ((w.cell? ⟨b, 0, none⟩ = some (.int .i64 x) ∧ w.cell? ⟨b, 1, none⟩ = some (.int .i64 y)) ∧ w.cell? ⟨b, 2, none⟩ = some (.int .i64 z) ∧ w.cell? ⟨b, 3, none⟩ = some (.int .i64 u)) ∧ (w.frozen? ⟨b, 0, none⟩ = false ∧ w.frozen? ⟨b, 1, none⟩ = false) ∧ w.frozen? ⟨b, 2, none⟩ = false ∧ w.frozen? ⟨b, 3, none⟩ = false
theorem QuadBox.step {w w' : World} {b : Nat} {x y z u : Int} (h : QuadBox w b x y z u) (hb : Below w.heap.size w w') : QuadBox w' b x y z u :=
  ⟨Nat.lt_of_lt_of_le h.1 hb.size, ⟨⟨(hb.cell (p := ⟨b, 0, none⟩) h.1).trans h.2.1.1.1, (hb.cell (p := ⟨b, 1, none⟩) h.1).trans h.2.1.1.2⟩, (hb.cell (p := ⟨b, 2, none⟩) h.1).trans h.2.1.2.1, (hb.cell (p := ⟨b, 3, none⟩) h.1).trans h.2.1.2.2⟩, ⟨(hb.frozen (p := ⟨b, 0, none⟩) h.1).trans h.2.2.1.1, (hb.frozen (p := ⟨b, 1, none⟩) h.1).trans h.2.2.1.2⟩, (hb.frozen (p := ⟨b, 2, none⟩) h.1).trans h.2.2.2.1, (hb.frozen (p := ⟨b, 3, none⟩) h.1).trans h.2.2.2.2⟩
theorem QuadBox.new {w : World} {b : Nat} (hb : w.heap.size = b) (t : TypeId) (x y z u : Int) : QuadBox (w.alloc (.cells #[.int .i64 x, .int .i64 y, .int .i64 z, .int .i64 u] t)) b x y z u := by
  subst hb
  exact ⟨by simp, ⟨⟨by simp [go_sem], by simp [go_sem]⟩, by simp [go_sem], by simp [go_sem]⟩, ⟨by simp [go_sem], by simp [go_sem]⟩, by simp [go_sem], by simp [go_sem]⟩
theorem need_any (z : Bool) (k : Int) (w : World) : Calls Tryz.prog 36 #[.bool z, .int .i64 k] w fun e w' => e = (if z then .returned (.tuple #[]) else errPanic k) ∧ w = w' := by
  cases z
  · exact need_no k w
  · exact need_yes k w
set_option maxRecDepth 100000 in
set_option maxHeartbeats 8000000 in
theorem bendFor_any (A : Option Addr) (l : List (Int × Int)) (c : Nat) (h0 : 0 < l.length) (hm : l.length ≤ 1000000) (hl1 : MayL l) (hsl : SlopeL l) (rn rd : Int) (hn : Fit rn rd) (w : World) (hl : LiesO w A l) :
    Calls Tryz.prog 39 #[.slice A l.length c, .agg #[.int .i64 rn, .int .i64 rd]] w (BendEnd l (flatAt rn rd l) w) := by
  have hmf : ∀ (fn : Fn) (first cap : Array Value) (w : World), (Instr.makeFunc fn first cap).run Tryz.prog w = .ok (.func fn first cap) w := fun _ _ _ _ => rfl
  have CI := hidd (fun W (hW : Below ((w.alloc (.cells #[.int .i64 rn, .int .i64 rd] 25)).alloc (.cells #[.int .i64 0, .int .i64 0, .int .i64 0, .int .i64 0] 70)).heap.size ((w.alloc (.cells #[.int .i64 rn, .int .i64 rd] 25)).alloc (.cells #[.int .i64 0, .int .i64 0, .int .i64 0, .int .i64 0] 70)) W) => idxFlat_any A l c hm hl1 rn rd hn w.heap.size W (((HasRat.new w rn rd 25).step (by (repeat' (first | (with_reducible exact Below.refl _ _) | (with_reducible assumption) | (with_reducible apply Below.setCell) | (with_reducible apply Below.alloc) | (with_reducible apply Below.drew) | (with_reducible apply below_drewN) | (with_reducible refine Below.trans ?_ (Below.mono (by assumption) ?_)) | omega | (simp; done) | (simp; omega))))).step hW) ((hl.below (by (repeat' (first | (with_reducible exact Below.refl _ _) | (with_reducible assumption) | (with_reducible apply Below.setCell) | (with_reducible apply Below.alloc) | (with_reducible apply Below.drew) | (with_reducible apply below_drewN) | (with_reducible refine Below.trans ?_ (Below.mono (by assumption) ?_)) | omega | (simp; done) | (simp; omega))))).below hW))
  have HL := hidd (fun W (hW : Below w.heap.size w W) => hl.below hW)
  have HFIT := hidd (fun i (hi : i < l.length) => bend_fits hl1 hsl hi)
  have HM := hidd hl1
  have HSL := hidd hsl
  have cw := hidd (fun n W => whole_any n W)
  have cb := hidd (fun x y (h1 : Fit x 1) (h2 : Fit y 1) W => by_num x 1 y 1 h1 h2 W)
  have cn1 := hidd (fun W => need_yes 140 W)
  have cn0 := hidd (fun W => need_no 140 W)
  have hfd := field_num
  obtain ⟨i, hi⟩ : ∃ i, flatAt rn rd l = i := ⟨_, rfl⟩
  rw [hi] at CI ⊢
  clear hl hl1 hsl hn hi
  unfold BendEnd
  by_cases hil : i < l.length
  · rw [if_pos hil] at CI
    have HIL := hidd hil
    have hi0 : (0 : Int) ≤ (i : Int) := by omega
    have hin2 : (i : Int) < (l.length : Int) := by omega
    by_cases hz : i = 0
    · subst hz
      rw [show ((0 : Nat) : Int) = 0 from rfl] at CI
      obtain ⟨x, hx⟩ : ∃ x, l[0]'hil = x := ⟨_, rfl⟩
      have HX := hidd hx
      obtain ⟨ad, rfl⟩ : ∃ ad, A = some ad := by
        obtain ⟨ad, e, _⟩ := HL.out w (Below.refl _ _) (by omega)
        exact ⟨ad, e⟩
      have HFI := hidd (fun W (hW : Below w.heap.size w W) => (liesO_first (HL.out W hW) hil))
      rw [hx] at HFI
      obtain ⟨b, r⟩ := x
      have had : ad.block < w.heap.size := (HFI.out w (Below.refl _ _)).1
      have hne1 : ¬ ad.block = w.heap.size + 1 := by omega
      have hne2 : ∀ o, ¬ ad = ⟨w.heap.size + 1, o, none⟩ := fun o h => by rw [h] at had; simp at had; omega
      have hne3 : ∀ o, ¬ (⟨w.heap.size + 1, o, none⟩ : Addr) = ad := fun o h => hne2 o h.symm
      have HB0 := hidd (show bendR l 0 = (0, 1, 0) from by unfold bendR; rw [if_pos rfl])
      have HXE := hidd (show (l[0]'hil).1 = b ∧ (l[0]'hil).2 = r from by rw [hx]; exact ⟨rfl, rfl⟩)
      clear hx HX
      go_enter Tryz.func39, Tryz.ntmps39
      go_wp2_with fail
      refine (CI.out _ (Below.refl _ _)).mono ?_
      rintro E1 w1 ⟨rfl, hb1⟩
      have HB1 := hidd (Below.trans (show Below w.heap.size w ((w.alloc (.cells #[.int .i64 rn, .int .i64 rd] 25)).alloc (.cells #[.int .i64 0, .int .i64 0, .int .i64 0, .int .i64 0] 70)) by (repeat' (first | (with_reducible exact Below.refl _ _) | (with_reducible assumption) | (with_reducible apply Below.setCell) | (with_reducible apply Below.alloc) | (with_reducible apply Below.drew) | (with_reducible apply below_drewN) | (with_reducible refine Below.trans ?_ (Below.mono (by assumption) ?_)) | omega | (simp; done) | (simp; omega)))) (hb1.mono (by simp; omega)))
      have HQ1 := hidd ((QuadBox.new (w := w.alloc (.cells #[.int .i64 rn, .int .i64 rd] 25)) (b := w.heap.size + 1) (by simp) 70 0 0 0 0).step hb1)
      clear hb1
      go_wp2_with fail
      refine (cn1.out _).mono ?_
      rintro E2 w2 ⟨rfl, rfl⟩
      obtain ⟨hbk, x0, x1⟩ := HFI.out w1 HB1.out
      obtain ⟨dz, ⟨⟨p0, p1⟩, p2, p3⟩, ⟨z0, z1⟩, z2, z3⟩ := HQ1.out
      have hBw := HB1.out
      have hnb : ad.block < w1.heap.size := hbk
      have q0 := x0
      have q1 := x1
      have d0 := hnb
      have d1 : (⟨ad.block, ad.off + 1, none⟩ : Addr).block < w1.heap.size := hnb
      have KEEP := hidd (fun (w' : World) (hb : Below w1.heap.size w1 w') => (show w'.cell? ad = some (.int .i64 b) ∧ w'.cell? ⟨ad.block, ad.off + 1, none⟩ = some (.int .i64 r) from ⟨(hb.cell (p := ad) d0).trans q0, (hb.cell (p := ⟨ad.block, ad.off + 1, none⟩) d1).trans q1⟩))
      have OUT := hidd (fun (w' : World) (hb : Below w1.heap.size w1 w') => (show (w'.cell? ⟨w.heap.size + 1, 0, none⟩ = some (.int .i64 0) ∧ w'.cell? ⟨w.heap.size + 1, 1, none⟩ = some (.int .i64 0) ∧ w'.cell? ⟨w.heap.size + 1, 2, none⟩ = some (.int .i64 0) ∧ w'.cell? ⟨w.heap.size + 1, 3, none⟩ = some (.int .i64 0)) ∧ (w'.frozen? ⟨w.heap.size + 1, 0, none⟩ = false ∧ w'.frozen? ⟨w.heap.size + 1, 1, none⟩ = false ∧ w'.frozen? ⟨w.heap.size + 1, 2, none⟩ = false ∧ w'.frozen? ⟨w.heap.size + 1, 3, none⟩ = false) ∧ w.heap.size + 1 < w'.heap.size ∧ Below w.heap.size w w' from ⟨⟨(hb.cell (p := ⟨w.heap.size + 1, 0, none⟩) dz).trans p0, (hb.cell (p := ⟨w.heap.size + 1, 1, none⟩) dz).trans p1, (hb.cell (p := ⟨w.heap.size + 1, 2, none⟩) dz).trans p2, (hb.cell (p := ⟨w.heap.size + 1, 3, none⟩) dz).trans p3⟩, ⟨(hb.frozen (p := ⟨w.heap.size + 1, 0, none⟩) dz).trans z0, (hb.frozen (p := ⟨w.heap.size + 1, 1, none⟩) dz).trans z1, (hb.frozen (p := ⟨w.heap.size + 1, 2, none⟩) dz).trans z2, (hb.frozen (p := ⟨w.heap.size + 1, 3, none⟩) dz).trans z3⟩, Nat.lt_of_lt_of_le dz hb.size, below_step hBw hb⟩))
      clear q0 q1 d0 d1 hnb hbk dz p0 p1 p2 p3 z0 z1 z2 z3 hBw
      go_wp2_with fail
      go_region_held (fun w' => w'.cell? ad = some (.int .i64 b) ∧ w'.cell? ⟨ad.block, ad.off + 1, none⟩ = some (.int .i64 r))
        ((first | exact KEEP.out _ cum1 | exact KEEP.out _ (Below.refl _ _) | exact KEEP.out _ (Below.drew (Below.refl _ _)) | (obtain ⟨j0, j1⟩ := KEEP.out _ cum1; refine ⟨?_, ?_⟩ <;> simp [go_sem, *]; done) | go_keep))
        ((first
          | (go_at_call 52; refine (cw.out 0 _).mono ?_; rintro E1 v1 ⟨rfl, l1⟩; have cum1 : Below w1.heap.size w1 v1 := (by first | exact below_step (Below.drew (Below.refl _ _)) l1 | exact below_step (Below.refl _ _) l1); obtain ⟨⟨o0, o1, o2, o3⟩, ⟨f0, f1, f2, f3⟩, o5, _⟩ := OUT.out _ cum1)))
      all_goals go_wp2_with fail
      all_goals exact bodyPost_ret (v := .agg #[.int .i64 0, .int .i64 1, .int .i64 b, .int .i64 r]) (by simp [results, Tryz.results39, go_sem, *]) rfl (.inl ⟨HIL.out, 0, 1, by rw [HXE.out.1, HXE.out.2], HB0.out, ⟨by decide, by decide, by decide, by decide, by decide⟩, by have q := (OUT.out _ cum1).2.2.2; (repeat' (first | (with_reducible exact Below.refl _ _) | (with_reducible assumption) | (with_reducible apply Below.setCell) | (with_reducible apply Below.alloc) | (with_reducible apply Below.drew) | (with_reducible apply below_drewN) | (with_reducible refine Below.trans ?_ (Below.mono (by assumption) ?_)) | omega | (simp; done) | (simp; omega)))⟩)
    · obtain ⟨j, rfl⟩ : ∃ j, i = j + 1 := ⟨i - 1, by omega⟩
      obtain ⟨N, D, hN, hNr, hN2, hD2⟩ := HFIT.out (j + 1) hil
      have hjl : j < l.length := by omega
      have hdiv : divT ((l[j + 1]'hil).1 - (l[j]'hjl).1) 1 ((l[j]'hjl).2 - (l[j + 1]'hil).2) 1 = (N, D, 0) := by
        have h := hN
        unfold bendR at h
        rw [if_neg (by omega)] at h
        have g1 : l.getD (j + 1) (0, 0) = l[j + 1]'hil := by simp [List.getD_eq_getElem?_getD, hil]
        have g2 : l.getD (j + 1 - 1) (0, 0) = l[j]'hjl := by simp [List.getD_eq_getElem?_getD, hjl]
        rw [g1, g2] at h
        exact h
      obtain ⟨ad, rfl⟩ : ∃ ad, A = some ad := by
        obtain ⟨ad, e, _⟩ := HL.out w (Below.refl _ _) (by omega)
        exact ⟨ad, e⟩
      have HFI := hidd (fun W (hW : Below w.heap.size w W) => (by
        obtain ⟨ad', e, hb, hc⟩ := HL.out W hW (by omega)
        obtain rfl : ad = ad' := by injection e
        exact ⟨hb, hc j hjl, hc (j + 1) hil⟩ : ad.block < W.heap.size ∧ (W.cell? (ad.add (j * 2)) = some (.int .i64 (l[j]'hjl).1) ∧ W.cell? ⟨(ad.add (j * 2)).block, (ad.add (j * 2)).off + 1, none⟩ = some (.int .i64 (l[j]'hjl).2)) ∧ W.cell? (ad.add ((j + 1) * 2)) = some (.int .i64 (l[j + 1]'hil).1) ∧ W.cell? ⟨(ad.add ((j + 1) * 2)).block, (ad.add ((j + 1) * 2)).off + 1, none⟩ = some (.int .i64 (l[j + 1]'hil).2)))
      have m1 := HM.out _ (List.getElem_mem hil)
      have m2 := HM.out _ (List.getElem_mem hjl)
      have s1 := HSL.out j hil
      obtain ⟨x, hx⟩ : ∃ x, l[j]'hjl = x := ⟨_, rfl⟩
      obtain ⟨y, hy⟩ : ∃ y, l[j + 1]'hil = y := ⟨_, rfl⟩
      have HXE := hidd (show (l[j + 1]'hil).1 = y.1 ∧ (l[j + 1]'hil).2 = y.2 from by rw [hy]; exact ⟨rfl, rfl⟩)
      rw [hx] at HFI hdiv m2 s1
      rw [hy] at HFI hdiv m1 s1
      obtain ⟨b0, r0⟩ := x
      obtain ⟨b1, r1⟩ := y
      simp only at hdiv m1 m2 s1 HXE
      have cby := hidd (fun W => cb.out (b1 - b0) (r0 - r1) (fit_whole (by omega) (by omega)) (fit_whole (by omega) (by omega)) W)
      rw [hdiv] at cby
      have e1 : IntKind.i64.wrap (r0 - r1) = r0 - r1 := IntWalk.i64_in _ (by omega)
      have e2 : IntKind.i64.wrap (b1 - b0) = b1 - b0 := IntWalk.i64_in _ (by omega)
      have e3 : IntKind.i64.wrap ((j : Int) + 1 - 1) = (j : Int) := by rw [IntWalk.i64_in _ (by omega)]; omega
      have e4 : IntKind.i64.wrap (j : Int) = (j : Int) := IntWalk.i64_in _ (by omega)
      have hj1 : (0 : Int) ≤ (j : Int) := by omega
      have hj2 : (j : Int) < (l.length : Int) := by omega
      have hj3 : (0 : Int) ≤ (j : Int) + 1 := by omega
      have hj4 : (j : Int) + 1 < (l.length : Int) := by omega
      have hj5 : ¬ ((j : Int) + 1 = 0) := by omega
      have had : ad.block < w.heap.size := (HFI.out w (Below.refl _ _)).1
      have HNr := hidd hNr
      have HNb := hidd hN
      clear hx hy hdiv hN hNr hN2 hD2 hjl m1 m2 s1
      unfold NumEnd at cby
      go_enter Tryz.func39, Tryz.ntmps39
      go_wp2_with fail
      refine (CI.out _ (Below.refl _ _)).mono ?_
      rintro E1 w1 ⟨rfl, hb1⟩
      have HB1 := hidd (Below.trans (show Below w.heap.size w ((w.alloc (.cells #[.int .i64 rn, .int .i64 rd] 25)).alloc (.cells #[.int .i64 0, .int .i64 0, .int .i64 0, .int .i64 0] 70)) by (repeat' (first | (with_reducible exact Below.refl _ _) | (with_reducible assumption) | (with_reducible apply Below.setCell) | (with_reducible apply Below.alloc) | (with_reducible apply Below.drew) | (with_reducible apply below_drewN) | (with_reducible refine Below.trans ?_ (Below.mono (by assumption) ?_)) | omega | (simp; done) | (simp; omega)))) (hb1.mono (by simp; omega)))
      have HQ1 := hidd ((QuadBox.new (w := w.alloc (.cells #[.int .i64 rn, .int .i64 rd] 25)) (b := w.heap.size + 1) (by simp) 70 0 0 0 0).step hb1)
      clear hb1
      go_wp2_with fail
      refine (cn1.out _).mono ?_
      rintro E2 w2 ⟨rfl, rfl⟩
      have hj6 : ((j : Int) + 1 == 0) = false := beq_eq_false_iff_ne.2 hj5
      obtain ⟨hbk, ⟨x0, x1⟩, x2, x3⟩ := HFI.out w1 HB1.out
      have hbkj : (ad.add (j * 2)).block < w1.heap.size := by rw [block_of_add]; exact hbk
      have hbkk : (ad.add ((j + 1) * 2)).block < w1.heap.size := by rw [block_of_add]; exact hbk
      have KEEP := hidd (fun (w' : World) (hb : Below w1.heap.size w1 w') => (show (w'.cell? (ad.add (j * 2)) = some (.int .i64 b0) ∧ w'.cell? ⟨(ad.add (j * 2)).block, (ad.add (j * 2)).off + 1, none⟩ = some (.int .i64 r0)) ∧ w'.cell? (ad.add ((j + 1) * 2)) = some (.int .i64 b1) ∧ w'.cell? ⟨(ad.add ((j + 1) * 2)).block, (ad.add ((j + 1) * 2)).off + 1, none⟩ = some (.int .i64 r1) from
        ⟨⟨(hb.cell (p := ad.add (j * 2)) hbkj).trans x0, (hb.cell (p := ⟨(ad.add (j * 2)).block, (ad.add (j * 2)).off + 1, none⟩) hbkj).trans x1⟩, (hb.cell (p := ad.add ((j + 1) * 2)) hbkk).trans x2, (hb.cell (p := ⟨(ad.add ((j + 1) * 2)).block, (ad.add ((j + 1) * 2)).off + 1, none⟩) hbkk).trans x3⟩))
      go_wp2_with fail
      go_cut [7, 8] (fun s7 s8 wx => ∃ p q : Nat, s7 = .pointer (some ⟨p, 0, none⟩) ∧ s8 = .pointer (some ⟨q, 0, none⟩) ∧ (w1.heap.size ≤ p ∧ w1.heap.size ≤ q) ∧ HasRat wx p b0 r0 ∧ HasRat wx q b1 r1 ∧ Below w1.heap.size w1 wx)
      case first =>
        go_region_held (fun w' => (w'.cell? (ad.add (j * 2)) = some (.int .i64 b0) ∧ w'.cell? ⟨(ad.add (j * 2)).block, (ad.add (j * 2)).off + 1, none⟩ = some (.int .i64 r0)) ∧ w'.cell? (ad.add ((j + 1) * 2)) = some (.int .i64 b1) ∧ w'.cell? ⟨(ad.add ((j + 1) * 2)).block, (ad.add ((j + 1) * 2)).off + 1, none⟩ = some (.int .i64 r1))
          ((first | exact KEEP.out _ (by (repeat' (first | (with_reducible exact Below.refl _ _) | (with_reducible assumption) | (with_reducible apply Below.setCell) | (with_reducible apply Below.alloc) | (with_reducible apply Below.drew) | (with_reducible apply below_drewN) | (with_reducible refine Below.trans ?_ (Below.mono (by assumption) ?_)) | omega | (simp; done) | (simp; omega)))) | go_keep))
          (fail)
        all_goals go_wp2_with fail
        all_goals go_meet
        all_goals exact ⟨_, _, rfl, rfl, ⟨by omega, by omega⟩, ⟨by simp [go_sem], by simp [go_sem], by first | (simp; done) | (simp; omega)⟩, ⟨by simp [go_sem], by simp [go_sem], by first | (simp; done) | (simp; omega)⟩, by (repeat' (first | (with_reducible exact Below.refl _ _) | (with_reducible assumption) | (with_reducible apply Below.setCell) | (with_reducible apply Below.alloc) | (with_reducible apply Below.drew) | (with_reducible apply below_drewN) | (with_reducible refine Below.trans ?_ (Below.mono (by assumption) ?_)) | omega | (simp; done) | (simp; omega)))⟩
      case rest =>
        obtain ⟨p, q, rfl, rfl, ⟨hpg, hqg⟩, hp, hq, hB⟩ := hcut
        have hq10 := HQ1.out.1
        have HP := hidd hp
        have HQ := hidd hq
        have HBc := hidd (below_step HB1.out hB)
        have HQc := hidd (HQ1.out.step hB)
        obtain ⟨y0, y1, y2⟩ := hp
        obtain ⟨y3, y4, y5⟩ := hq
        have cwr := hidd (fun W => cw.out (r0 - r1) W)
        have cwb := hidd (fun W => cw.out (b1 - b0) W)
        clear hB x0 x1 x2 x3 hbk hbkj hbkk KEEP HFI
        go_wp2_with fail
        refine (cwr.out _).mono ?_
        rintro E3 v3 ⟨rfl, hb3⟩
        have HB3 := hidd (below_new (below_step HBc.out hb3) (.cells #[.int .i64 (r0 - r1), .int .i64 1] 66))
        have HP3 := hidd ((HP.out.step hb3).past (.cells #[.int .i64 (r0 - r1), .int .i64 1] 66))
        have HQ3 := hidd ((HQ.out.step hb3).past (.cells #[.int .i64 (r0 - r1), .int .i64 1] 66))
        have HR3 := hidd (HasRat.new v3 (r0 - r1) 1 66)
        have HO3 := hidd ((HQc.out.step hb3).step (below_new (Below.refl _ _) (.cells #[.int .i64 (r0 - r1), .int .i64 1] 66)))
        have hs3 := hb3.size
        clear hb3 y0 y1 y2 y3 y4 y5
        obtain ⟨q0, q1, d0⟩ := HP3.out
        obtain ⟨q2, q3, d2⟩ := HQ3.out
        obtain ⟨q4, q5, d4⟩ := HR3.out
        have d1 := d0
        have d3 := d2
        have d5 := d4
        obtain ⟨dz, ⟨⟨p0, p1⟩, p2, p3⟩, ⟨z0, z1⟩, z2, z3⟩ := HO3.out
        have hBw := HB3.out
        have hnp : ¬ p = w.heap.size + 1 := by omega
        have hnq : ¬ q = w.heap.size + 1 := by omega
        have hn9 : ¬ v3.heap.size = w.heap.size + 1 := by have := HQc.out.1; omega
        have KEEP := hidd (fun (w' : World) (hb : Below (v3.alloc (.cells #[.int .i64 (r0 - r1), .int .i64 1] 66)).heap.size (v3.alloc (.cells #[.int .i64 (r0 - r1), .int .i64 1] 66)) w') => (show w'.cell? ⟨p, 0, none⟩ = some (.int .i64 b0) ∧ w'.cell? ⟨p, 1, none⟩ = some (.int .i64 r0) ∧ w'.cell? ⟨q, 0, none⟩ = some (.int .i64 b1) ∧ w'.cell? ⟨q, 1, none⟩ = some (.int .i64 r1) ∧ w'.cell? ⟨v3.heap.size, 0, none⟩ = some (.int .i64 (r0 - r1)) ∧ w'.cell? ⟨v3.heap.size, 1, none⟩ = some (.int .i64 1) from ⟨(hb.cell (p := ⟨p, 0, none⟩) d0).trans q0, (hb.cell (p := ⟨p, 1, none⟩) d1).trans q1, (hb.cell (p := ⟨q, 0, none⟩) d2).trans q2, (hb.cell (p := ⟨q, 1, none⟩) d3).trans q3, (hb.cell (p := ⟨v3.heap.size, 0, none⟩) d4).trans q4, (hb.cell (p := ⟨v3.heap.size, 1, none⟩) d5).trans q5⟩))
        have OUT := hidd (fun (w' : World) (hb : Below (v3.alloc (.cells #[.int .i64 (r0 - r1), .int .i64 1] 66)).heap.size (v3.alloc (.cells #[.int .i64 (r0 - r1), .int .i64 1] 66)) w') => (show (w'.cell? ⟨w.heap.size + 1, 0, none⟩ = some (.int .i64 0) ∧ w'.cell? ⟨w.heap.size + 1, 1, none⟩ = some (.int .i64 0) ∧ w'.cell? ⟨w.heap.size + 1, 2, none⟩ = some (.int .i64 0) ∧ w'.cell? ⟨w.heap.size + 1, 3, none⟩ = some (.int .i64 0)) ∧ (w'.frozen? ⟨w.heap.size + 1, 0, none⟩ = false ∧ w'.frozen? ⟨w.heap.size + 1, 1, none⟩ = false ∧ w'.frozen? ⟨w.heap.size + 1, 2, none⟩ = false ∧ w'.frozen? ⟨w.heap.size + 1, 3, none⟩ = false) ∧ w.heap.size + 1 < w'.heap.size ∧ Below w.heap.size w w' from ⟨⟨(hb.cell (p := ⟨w.heap.size + 1, 0, none⟩) dz).trans p0, (hb.cell (p := ⟨w.heap.size + 1, 1, none⟩) dz).trans p1, (hb.cell (p := ⟨w.heap.size + 1, 2, none⟩) dz).trans p2, (hb.cell (p := ⟨w.heap.size + 1, 3, none⟩) dz).trans p3⟩, ⟨(hb.frozen (p := ⟨w.heap.size + 1, 0, none⟩) dz).trans z0, (hb.frozen (p := ⟨w.heap.size + 1, 1, none⟩) dz).trans z1, (hb.frozen (p := ⟨w.heap.size + 1, 2, none⟩) dz).trans z2, (hb.frozen (p := ⟨w.heap.size + 1, 3, none⟩) dz).trans z3⟩, Nat.lt_of_lt_of_le dz hb.size, below_step hBw hb⟩))
        clear q0 q1 q2 q3 q4 q5 d0 d1 d2 d3 d4 d5 dz p0 p1 p2 p3 z0 z1 z2 z3 hBw
        obtain ⟨k0, k1, k2, k3, k4, k5⟩ := KEEP.out _ (Below.refl _ _)
        go_wp2_with fail
        go_region_held (fun w' => w'.cell? ⟨p, 0, none⟩ = some (.int .i64 b0) ∧ w'.cell? ⟨p, 1, none⟩ = some (.int .i64 r0) ∧ w'.cell? ⟨q, 0, none⟩ = some (.int .i64 b1) ∧ w'.cell? ⟨q, 1, none⟩ = some (.int .i64 r1) ∧ w'.cell? ⟨v3.heap.size, 0, none⟩ = some (.int .i64 (r0 - r1)) ∧ w'.cell? ⟨v3.heap.size, 1, none⟩ = some (.int .i64 1))
          ((first | exact KEEP.out _ cum2 | exact KEEP.out _ cum1 | exact KEEP.out _ (Below.refl _ _) | exact KEEP.out _ (Below.drew (Below.refl _ _)) | (obtain ⟨j0, j1, j2, j3, j4, j5⟩ := KEEP.out _ cum2; refine ⟨?_, ?_, ?_, ?_, ?_, ?_⟩ <;> simp [go_sem, *]; done) | go_keep))
          ((first
            | (go_at_call 52; refine (cwb.out _).mono ?_; rintro E1 v1 ⟨rfl, l1⟩; have cum1 : Below (v3.alloc (.cells #[.int .i64 (r0 - r1), .int .i64 1] 66)).heap.size (v3.alloc (.cells #[.int .i64 (r0 - r1), .int .i64 1] 66)) v1 := (by first | exact below_step (Below.drew (Below.refl _ _)) l1 | exact below_step (Below.refl _ _) l1))
            | (go_at_call 41; refine (cby.out _).mono ?_; rintro E2 v2 (⟨P, Q, rfl, hP, hPr, l2⟩ | ⟨k, rfl, hk, hk0, l2⟩); rotate_left; (exfalso; injection hk with hk1 hk2; injection hk2 with hk2 hk3; exact hk0 hk3.symm); (injection hP with hP1 hP2; injection hP2 with hP2 hP3; subst hP1; subst hP2); have cum2 : Below (v3.alloc (.cells #[.int .i64 (r0 - r1), .int .i64 1] 66)).heap.size (v3.alloc (.cells #[.int .i64 (r0 - r1), .int .i64 1] 66)) v2 := (by exact below_step cum1 l2); obtain ⟨⟨o0, o1, o2, o3⟩, ⟨f0, f1, f2, f3⟩, o5, _⟩ := OUT.out _ cum2)))
        all_goals go_wp2_with fail
        all_goals exact bodyPost_ret (v := .agg #[.int .i64 N, .int .i64 D, .int .i64 b1, .int .i64 r1]) (by simp [results, Tryz.results39, go_sem, *]) rfl (.inl ⟨HIL.out, N, D, by rw [HXE.out.1, HXE.out.2], HNb.out, HNr.out, by have q := (OUT.out _ cum2).2.2.2; (repeat' (first | (with_reducible exact Below.refl _ _) | (with_reducible assumption) | (with_reducible apply Below.setCell) | (with_reducible apply Below.alloc) | (with_reducible apply Below.drew) | (with_reducible apply below_drewN) | (with_reducible refine Below.trans ?_ (Below.mono (by assumption) ?_)) | omega | (simp; done) | (simp; omega)))⟩)
  · rw [if_neg hil] at CI
    have HIL := hidd hil
    clear hil
    go_enter Tryz.func39, Tryz.ntmps39
    go_wp2_with fail
    refine (CI.out _ (Below.refl _ _)).mono ?_
    rintro E1 w1 ⟨rfl, hb1⟩
    have HB1 := hidd (Below.trans (show Below w.heap.size w ((w.alloc (.cells #[.int .i64 rn, .int .i64 rd] 25)).alloc (.cells #[.int .i64 0, .int .i64 0, .int .i64 0, .int .i64 0] 70)) by (repeat' (first | (with_reducible exact Below.refl _ _) | (with_reducible assumption) | (with_reducible apply Below.setCell) | (with_reducible apply Below.alloc) | (with_reducible apply Below.drew) | (with_reducible apply below_drewN) | (with_reducible refine Below.trans ?_ (Below.mono (by assumption) ?_)) | omega | (simp; done) | (simp; omega)))) (hb1.mono (by simp; omega)))
    clear hb1
    go_wp2_with fail
    refine (cn0.out _).mono ?_
    rintro E2 w2 ⟨rfl, rfl⟩
    go_wp2_with fail
    exact ⟨rfl, .inr ⟨HIL.out, rfl, HB1.out⟩⟩
end Go.Proofs.YtokcalmmmfakcaaGreat
