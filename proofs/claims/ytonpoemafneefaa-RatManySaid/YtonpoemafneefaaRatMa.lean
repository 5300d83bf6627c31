/- The walk of RatMany: the sum of many, the least and the greatest. -/
import Derived.Test.YtonpoemafneefaaRatLe
import Derived.Test.YtonpoemafneefaaBgP
import Derived.Test.YtonpoemafneefaaBgU
import Derived.Test.YtonpoemafneefaaBgH
import Derived.Test.YtonpoemafneefaaRatPn
import Derived.Deep.RegionWith
import Derived.Deep.DrawnRows
namespace Go.Proofs.Ytonpoemafneefaa
set_option linter.unusedVariables false
open Go.RowKit

theorem rat_eq_same (a b : Int) (w : World) : (binOp .eql 23 (.agg #[.int .i64 a, .int .i64 b]) (.agg #[.int .i64 a, .int .i64 b])).run Try.prog w = .ok (.bool true) w := by
  simp [go_sem, Op.eqFields]
theorem told_same (x d e : Int) (w : World) : Calls Try.prog 17 #[.agg #[.int .i64 x, .int .i64 d], .int .i64 e, .agg #[.int .i64 x, .int .i64 d], .int .i64 e] w fun E w' => E = .returned (.bool true) ∧ Below w.heap.size w w' := by
  have hs := fun w => rat_eq_same x d w
  go_enter Try.func17, Try.ntmps17
  go_wp2_with fail
  go_ret
  exact ⟨rfl, by (repeat' (first | (with_reducible exact Below.refl _ _) | (with_reducible assumption) | (with_reducible apply Below.setCell) | (with_reducible apply Below.alloc) | (with_reducible apply Below.drew) | (with_reducible apply below_drewN) | (with_reducible refine Below.trans ?_ (Below.mono (by assumption) ?_)) | omega | (simp; done) | (simp; omega)))⟩
theorem GBox.put {W : World} {b : Nat} {u v : Int} (h : GBox W b u v) (x y : Int) : GBox ((W.setCell ⟨b, 0, none⟩ (.int .i64 x)).setCell ⟨b, 1, none⟩ (.int .i64 y)) b x y := by
  obtain ⟨h0, h1, h2, h3, h4⟩ := h
  exact ⟨by simpa using h0, by simp [go_sem, *], by simp [go_sem, *], by simp [go_sem, *], by simp [go_sem, *]⟩
theorem GBox.far {W : World} {b c : Nat} {u v : Int} (hne : ¬ c = b) (h : GBox W c u v) (x y : Int) : GBox ((W.setCell ⟨b, 0, none⟩ (.int .i64 x)).setCell ⟨b, 1, none⟩ (.int .i64 y)) c u v := by
  obtain ⟨h0, h1, h2, h3, h4⟩ := h
  exact ⟨by simpa using h0, by simp [go_sem, *], by simp [go_sem, *], by simp [go_sem, *], by simp [go_sem, *]⟩
def Six (W : World) (Bs Ba Bb : Nat) (s m g u p q : Int × Int) : Prop :=
  (GBox W Bs s.1 s.2 ∧ GBox W Ba m.1 m.2 ∧ GBox W Bb g.1 g.2) ∧ GBox W (Bb + 1) u.1 u.2 ∧ GBox W (Bb + 1 + 1) p.1 p.2 ∧ GBox W (Bb + 1 + 1 + 1) q.1 q.2
theorem Six.step {W W' : World} {Bs Ba Bb : Nat} {s m g u p q : Int × Int} (h : Six W Bs Ba Bb s m g u p q) (hb : Below W.heap.size W W') : Six W' Bs Ba Bb s m g u p q :=
  ⟨⟨h.1.1.step hb, h.1.2.1.step hb, h.1.2.2.step hb⟩, h.2.1.step hb, h.2.2.1.step hb, h.2.2.2.step hb⟩
theorem Six.putU {W : World} {Bs Ba Bb : Nat} {s m g u p q : Int × Int} (h1 : Bs < Bb) (h2 : Ba < Bb) (h : Six W Bs Ba Bb s m g u p q) {b : Nat} (hb : b = Bb + 1) (x y : Int) : Six ((W.setCell ⟨b, 0, none⟩ (.int .i64 x)).setCell ⟨b, 1, none⟩ (.int .i64 y)) Bs Ba Bb s m g (x, y) p q := by
  subst hb
  exact ⟨⟨GBox.far (by omega) h.1.1 x y, GBox.far (by omega) h.1.2.1 x y, GBox.far (by omega) h.1.2.2 x y⟩, h.2.1.put x y, GBox.far (by omega) h.2.2.1 x y, GBox.far (by omega) h.2.2.2 x y⟩
theorem Six.putP {W : World} {Bs Ba Bb : Nat} {s m g u p q : Int × Int} (h1 : Bs < Bb) (h2 : Ba < Bb) (h : Six W Bs Ba Bb s m g u p q) {b : Nat} (hb : b = Bb + 1 + 1) (x y : Int) : Six ((W.setCell ⟨b, 0, none⟩ (.int .i64 x)).setCell ⟨b, 1, none⟩ (.int .i64 y)) Bs Ba Bb s m g u (x, y) q := by
  subst hb
  exact ⟨⟨GBox.far (by omega) h.1.1 x y, GBox.far (by omega) h.1.2.1 x y, GBox.far (by omega) h.1.2.2 x y⟩, GBox.far (by omega) h.2.1 x y, h.2.2.1.put x y, GBox.far (by omega) h.2.2.2 x y⟩
theorem Six.putQ {W : World} {Bs Ba Bb : Nat} {s m g u p q : Int × Int} (h1 : Bs < Bb) (h2 : Ba < Bb) (h : Six W Bs Ba Bb s m g u p q) {b : Nat} (hb : b = Bb + 1 + 1 + 1) (x y : Int) : Six ((W.setCell ⟨b, 0, none⟩ (.int .i64 x)).setCell ⟨b, 1, none⟩ (.int .i64 y)) Bs Ba Bb s m g u p (x, y) := by
  subst hb
  exact ⟨⟨GBox.far (by omega) h.1.1 x y, GBox.far (by omega) h.1.2.1 x y, GBox.far (by omega) h.1.2.2 x y⟩, GBox.far (by omega) h.2.1 x y, GBox.far (by omega) h.2.2.1 x y, h.2.2.2.put x y⟩
theorem below_set {w W : World} {b : Nat} (h : Below w.heap.size w W) (hb : w.heap.size ≤ b) (x y : Int) : Below w.heap.size w ((W.setCell ⟨b, 0, none⟩ (.int .i64 x)).setCell ⟨b, 1, none⟩ (.int .i64 y)) := (h.setCell (by simpa using hb) _).setCell (by simpa using hb) _
def InvS (l : List (Int × Int)) (S : Int × Int × Int) (i : Nat) (no : Int) (a : Int × Int) : Prop :=
  (no = 0 ∧ RightW a ∧ S = foldR addF a (l.drop i)) ∨ (¬ no = 0 ∧ S = (a.1, a.2, no))
def InvM (ah : Int × Int → Int × Int → Bool) (l : List (Int × Int)) (F : Int × Int × Int) (i : Nat) (m : Int × Int) : Prop :=
  (i = 0 ∧ m = (0, 0)) ∨ (1 ≤ i ∧ RightW m ∧ F = foldR (pickF ah) m (l.drop i))
theorem invM_step {ah : Int × Int → Int × Int → Bool} {l : List (Int × Int)} {F : Int × Int × Int} {i : Nat} {m : Int × Int} (hF : F = firstR ah l) (hi : i < l.length) (hx : RightW l[i]) (h : InvM ah l F i m) (B : Bool) (hB : B = true ↔ i = 0 ∨ ah l[i] m = true) :
    InvM ah l F (i + 1) (if B then l[i] else m) := by
  refine .inr ⟨by omega, ?_⟩
  rcases h with ⟨rfl, rfl⟩ | ⟨h1, h2, h3⟩
  · have : B = true := hB.2 (.inl rfl)
    rw [this, if_pos rfl]
    refine ⟨hx, ?_⟩
    rw [hF]
    cases l with
    | nil => simp at hi
    | cons x l => rfl
  · have e := foldR_next (f := pickF ah) (a := m) hi
    rw [if_pos (pickF_ok ah m l[i])] at e
    rw [h3, e]
    unfold pickF
    cases B
    · have : ah l[i] m = false := by
        cases g : ah l[i] m
        · rfl
        · exact absurd (hB.2 (.inr g)) Bool.false_ne_true
      rw [this]
      exact ⟨h2, rfl⟩
    · have : ah l[i] m = true := (hB.1 rfl).resolve_left (by omega)
      rw [this]
      exact ⟨hx, rfl⟩
theorem invS_step {l : List (Int × Int)} {S : Int × Int × Int} {i : Nat} {a : Int × Int} (hi : i < l.length) (hx : RightW l[i]) (ha : RightW a) (h : S = foldR addF a (l.drop i)) :
    InvS l S (i + 1) (addF a l[i]).2.2 ((addF a l[i]).1, (addF a l[i]).2.1) := by
  have e := foldR_next (f := addF) (a := a) hi
  by_cases h0 : (addF a l[i]).2.2 = 0
  · rw [if_pos h0] at e
    exact .inl ⟨h0, rightW_plus ha hx h0, by rw [h, e]⟩
  · rw [if_neg h0] at e
    exact .inr ⟨h0, by rw [h, e]⟩
theorem invS_end {l : List (Int × Int)} {S : Int × Int × Int} {no : Int} {a : Int × Int} (h : InvS l S l.length no a) : S = (a.1, a.2, no) := by
  rcases h with ⟨rfl, _, h⟩ | ⟨_, h⟩
  · rw [h]; simp [foldR]
  · exact h
theorem invM_end {ah : Int × Int → Int × Int → Bool} {l : List (Int × Int)} {F : Int × Int × Int} {m : Int × Int} (hF : F = firstR ah l) (h : InvM ah l F l.length m) : F = (m.1, m.2, if l.length = 0 then 2 else 0) := by
  rcases h with ⟨h0, rfl⟩ | ⟨h1, _, h⟩
  · rw [if_pos h0, hF]
    cases l with
    | nil => rfl
    | cons x l => simp at h0
  · rw [if_neg (by omega), h]; simp [foldR]
set_option maxRecDepth 100000 in
set_option maxHeartbeats 8000000 in
theorem many_walk (A : Option Addr) (l : List (Int × Int)) (c : Nat) (hw : Words l) (hc : l.length ≤ c) (hcm : c ≤ maxLen) (w : World) (hl : LiesO w A l) :
    Calls Try.prog 4 #[.slice A l.length c] w fun e w' => e = .returned (.bool true) ∧ Below w.heap.size w w' := by
  have ck := hidd (fun W => known_any W)
  have hLm : l.length ≤ maxLen := Nat.le_trans hc hcm
  unfold maxLen at hLm
  by_cases h20 : 20 < l.length
  · have h20' : (20 : Int) < (l.length : Int) := by omega
    clear hl
    go_enter Try.func4, Try.ntmps4
    go_wp2_with fail
    refine (ck.out _).mono ?_
    rintro e w1 ⟨rfl, hb1⟩
    go_wp2_with fail
    go_ret
    exact ⟨rfl, hb1⟩
  have h20' : ¬ (20 : Int) < (l.length : Int) := by omega
  have hm6 : l.length ≤ 1000000 := by omega
  have HL := hidd hl
  have HW := hidd hw
  have cS := hidd (fun W (hb : Below w.heap.size w W) => sum_any A l c hw hm6 W (hl.below hb))
  have cA := hidd (fun W (hb : Below w.heap.size w W) => Least_any A l c hw hm6 hc hcm W (hl.below hb))
  have cB := hidd (fun W (hb : Below w.heap.size w W) => Greatest_any A l c hw hm6 hc hcm W (hl.below hb))
  obtain ⟨S, hS⟩ : ∃ S, sumR l = S := ⟨_, rfl⟩
  obtain ⟨M, hM⟩ : ∃ M, LeastR l = M := ⟨_, rfl⟩
  obtain ⟨G, hG⟩ : ∃ G, GreatestR l = G := ⟨_, rfl⟩
  rw [hS] at cS
  rw [hM] at cA
  rw [hG] at cB
  obtain ⟨s1, s2, se⟩ := S
  obtain ⟨m1, m2, me⟩ := M
  obtain ⟨g1, g2, ge⟩ := G
  unfold pairOf at cS cA cB
  dsimp only at cS cA cB
  have HS := hidd hS
  have HM := hidd hM
  have HG := hidd hG
  clear hS hM hG hl hw
  go_enter Try.func4, Try.ntmps4
  go_wp2_with fail
  refine (cS.out _ (Below.refl _ _)).mono ?_
  rintro E1 w1 ⟨rfl, hb1⟩
  have HB1 := hidd hb1
  clear hb1
  go_wp2_with fail
  refine (cA.out _ (below_new HB1.out _)).mono ?_
  rintro E2 w2 ⟨rfl, hb2⟩
  have Hs2 := hidd ((GBox.new (rfl : w1.heap.size = w1.heap.size) 23 s1 s2).step hb2)
  have HB2 := hidd (below_step (below_new HB1.out _) hb2)
  clear hb2
  go_wp2_with fail
  refine (cB.out _ (below_new HB2.out _)).mono ?_
  rintro E3 w3 ⟨rfl, hb3⟩
  have Hs3 := hidd ((Hs2.out.past _).step hb3)
  have Ha3 := hidd ((GBox.new (rfl : w2.heap.size = w2.heap.size) 23 m1 m2).step hb3)
  have HB3 := hidd (below_step (below_new HB2.out _) hb3)
  clear hb3 Hs2
  go_wp2_with fail
  have HB4 := hidd (below_new (below_new (below_new (below_new HB3.out (.cells #[.int .i64 g1, .int .i64 g2] 23)) (.cells #[.int .i64 0, .int .i64 1] 23)) (.cells #[.int .i64 0, .int .i64 0] 23)) (.cells #[.int .i64 0, .int .i64 0] 23))
  have H6 : Six ((((w3.alloc (.cells #[.int .i64 g1, .int .i64 g2] 23)).alloc (.cells #[.int .i64 0, .int .i64 1] 23)).alloc (.cells #[.int .i64 0, .int .i64 0] 23)).alloc (.cells #[.int .i64 0, .int .i64 0] 23)) w1.heap.size w2.heap.size w3.heap.size (s1, s2) (m1, m2) (g1, g2) (0, 1) (0, 0) (0, 0) :=
    ⟨⟨(((Hs3.out.past _).past _).past _).past _, (((Ha3.out.past _).past _).past _).past _, (((GBox.new rfl _ g1 g2).past _).past _).past _⟩, ((GBox.new (by simp) _ 0 1).past _).past _, (GBox.new (by simp) _ 0 0).past _, GBox.new (by simp) _ 0 0⟩
  have hz1 : w1.heap.size < w3.heap.size := Hs3.out.1
  have hz2 : w2.heap.size < w3.heap.size := Ha3.out.1
  have hz3 : w.heap.size ≤ w1.heap.size := HB1.out.size
  have H6' := hidd H6
  clear H6 Hs3 Ha3 HB1 HB2 HB3
  generalize ((((w3.alloc (.cells #[.int .i64 g1, .int .i64 g2] 23)).alloc (.cells #[.int .i64 0, .int .i64 1] 23)).alloc (.cells #[.int .i64 0, .int .i64 0] 23)).alloc (.cells #[.int .i64 0, .int .i64 0] 23)) = W4 at *
  have hw3 : w.heap.size ≤ w3.heap.size := by omega
  generalize w1.heap.size = Bs at *
  generalize w2.heap.size = Ba at *
  generalize w3.heap.size = Bb at *
  have cR := hidd (fun (x d : Int) (h0 : -9223372036854775808 ≤ x) (h1 : x ≤ 9223372036854775807) (h2 : -9223372036854775808 ≤ d) (h3 : d ≤ 9223372036854775807) W => refRight_any x d h0 h1 h2 h3 W)
  have ct := hidd (fun x d e W => told_same x d e W)
  go_loopg [13] (l.length + 1) (fun g s13 wr => ∃ i : Nat, i ≤ l.length ∧ i + g = l.length + 1 ∧ s13 = .int .i64 (i : Int) ∧ allRight (l.take i) = true ∧ Below w.heap.size w wr ∧ Six wr Bs Ba Bb (s1, s2) (m1, m2) (g1, g2) (0, 1) (0, 0) (0, 0))
  case atStart => exact ⟨0, by omega, by omega, by first | rfl | simp, rfl, HB4.out, H6'.out⟩
  case round =>
    obtain ⟨i, hi1, hg, rfl, ha, hB, h6⟩ := hrel
    have HGG := hidd hg
    have HA := hidd ha
    have HB := hidd hB
    have H6 := hidd h6
    clear hg ha hB h6 HB4 H6'
    by_cases hlt : i < l.length
    · obtain ⟨ad, rfl, hbs, hll⟩ := (HL.out.below HB.out) (by omega)
      obtain ⟨p0, p1⟩ := hll i hlt
      have hww := HW.out _ (List.getElem_mem hlt)
      have htk : allRight (l.take (i + 1)) = (allRight (l.take i) && rightB (l[i]'hlt).1 (l[i]'hlt).2) := by
        unfold allRight
        rw [List.take_succ_eq_append_getElem hlt, List.all_append]; simp
      have hal : rightB (l[i]'hlt).1 (l[i]'hlt).2 = false → allRight l = false := by
        intro h
        unfold allRight
        exact List.all_eq_false.2 ⟨_, List.getElem_mem hlt, by simp [h]⟩
      have hin2 : (i : Int) < (l.length : Int) := by omega
      have hi0 : (0 : Int) ≤ (i : Int) := by omega
      have cr := hidd (cR.out (l[i]'hlt).1 (l[i]'hlt).2 hww.1 hww.2.1 hww.2.2.1 hww.2.2.2)
      have HTK := hidd htk
      have HAL := hidd hal
      clear htk hal hll hww
      generalize (l[i]'hlt).1 = N at *
      generalize (l[i]'hlt).2 = D at *
      generalize rightB N D = R at *
      cases R
      · have hr := HAL.out rfl
        have e1 : sumR l = (0, 0, 2) := by simp [sumR, hr]
        have e2 : LeastR l = (0, 0, 2) := by simp [LeastR, hr]
        have e3 : GreatestR l = (0, 0, 2) := by simp [GreatestR, hr]
        have f1 := HS.out
        have f2 := HM.out
        have f3 := HG.out
        rw [e1] at f1
        rw [e2] at f2
        rw [e3] at f3
        simp only [Prod.mk.injEq] at f1 f2 f3
        obtain ⟨rfl, rfl, rfl⟩ := f1
        obtain ⟨rfl, rfl, rfl⟩ := f2
        obtain ⟨rfl, rfl, rfl⟩ := f3
        clear hr e1 e2 e3
        go_wp2_with fail
        refine (cr.out _).mono ?_
        rintro e w5 ⟨rfl, hb5⟩
        have H65 := hidd (H6.out.step hb5)
        have HB5 := hidd (below_step HB.out hb5)
        clear hb5 p0 p1
        obtain ⟨⟨⟨_, z1, z2, _, _⟩, ⟨_, z3, z4, _, _⟩, ⟨_, z5, z6, _, _⟩⟩, _⟩ := H65.out
        go_wp2_with fail
        refine (ct.out 0 0 2 _).mono ?_
        rintro e w6 ⟨rfl, hb6⟩
        have H66 := hidd (H65.out.step hb6)
        have HB6 := hidd (below_step HB5.out hb6)
        clear hb6 z1 z2 z3 z4 z5 z6
        obtain ⟨⟨⟨_, z1, z2, _, _⟩, ⟨_, z3, z4, _, _⟩, ⟨_, z5, z6, _, _⟩⟩, _⟩ := H66.out
        go_wp2_with fail
        refine (ct.out 0 0 2 _).mono ?_
        rintro e w7 ⟨rfl, hb7⟩
        have H67 := hidd (H66.out.step hb7)
        have HB7 := hidd (below_step HB6.out hb7)
        clear hb7 z1 z2 z3 z4 z5 z6
        obtain ⟨⟨⟨_, z1, z2, _, _⟩, ⟨_, z3, z4, _, _⟩, ⟨_, z5, z6, _, _⟩⟩, _⟩ := H67.out
        go_wp2_with fail
        refine (ct.out 0 0 2 _).mono ?_
        rintro e w8 ⟨rfl, hb8⟩
        have HB8 := hidd (below_step HB7.out hb8)
        clear hb8 z1 z2 z3 z4 z5 z6
        go_wp2_with fail
        refine (ck.out _).mono ?_
        rintro e w9 ⟨rfl, hb9⟩
        go_wp2_with fail
        go_ret
        exact ⟨by first | rfl | simp, below_step HB8.out hb9⟩
      · go_wp2_with fail
        refine (cr.out _).mono ?_
        rintro e w5 ⟨rfl, hb5⟩
        have H65 := hidd (H6.out.step hb5)
        have HB5 := hidd (below_step HB.out hb5)
        clear hb5
        go_wp2_with fail
        have hg := HGG.out
        go_roundg (gk - 1)
        case measure => omega
        case rel => exact ⟨i + 1, by omega, by omega, by go_num, by rw [HTK.out, HA.out]; rfl, HB5.out, H65.out⟩
    · obtain rfl : i = l.length := by omega
      have hr : allRight l = true := by have := HA.out; rwa [List.take_length] at this
      have HR := hidd hr
      have HS2 := hidd (show (s1, s2, se) = foldR addF (0, 1) l by have := HS.out; simp only [sumR, hr, if_true] at this; exact this.symm)
      have HM2 := hidd (show (m1, m2, me) = firstR lessB l by have := HM.out; simp only [LeastR, hr, if_true] at this; exact this.symm)
      have HG2 := hidd (show (g1, g2, ge) = firstR moreB l by have := HG.out; simp only [GreatestR, hr, if_true] at this; exact this.symm)
      clear hr HA HGG HS HM HG cR
      go_wp2_with fail
      go_loopg [10, 14] (l.length + 1) (fun g s10 s14 wr => ∃ (i : Nat) (no : Int) (u p q : Int × Int), i ≤ l.length ∧ i + g = l.length + 1 ∧ s14 = .int .i64 (i : Int) ∧ s10 = .int .i64 no ∧ InvS l (s1, s2, se) i no u ∧ InvM lessB l (m1, m2, me) i p ∧ InvM moreB l (g1, g2, ge) i q ∧ Below w.heap.size w wr ∧ Six wr Bs Ba Bb (s1, s2) (m1, m2) (g1, g2) u p q)
      case atStart => exact ⟨0, 0, (0, 1), (0, 0), (0, 0), by omega, by omega, by first | rfl | simp, by first | rfl | simp, .inl ⟨rfl, ⟨by decide +kernel, by decide, by decide, by decide⟩, by rw [HS2.out]; simp⟩, .inl ⟨rfl, rfl⟩, .inl ⟨rfl, rfl⟩, HB.out, H6.out⟩
      case round =>
        clear HB H6
        obtain ⟨i, no, u, p, q, hi1, hg, rfl, rfl, hS, hM, hQ, hB, h6⟩ := hrel
        have HGG := hidd hg
        have HS := hidd hS
        have HM := hidd hM
        have HQ := hidd hQ
        have HB := hidd hB
        have H6 := hidd h6
        clear hg hS hM hQ hB h6
        by_cases hlt : i < l.length
        · obtain ⟨ad, rfl, hbs, hll⟩ := HL.out (by omega)
          obtain ⟨y0, y1⟩ := hll i hlt
          have hbs2 : (ad.add (i * 2)).block < w.heap.size := by rw [block_of_add]; exact hbs
          have hxr := allRight_mem HR.out HW.out (List.getElem_mem hlt)
          have stM := hidd (fun (B : Bool) (hB : B = true ↔ i = 0 ∨ lessB (l[i]'hlt) p = true) => invM_step HM2.out hlt hxr HM.out B hB)
          have stQ := hidd (fun (B : Bool) (hB : B = true ↔ i = 0 ∨ moreB (l[i]'hlt) q = true) => invM_step HG2.out hlt hxr HQ.out B hB)
          have stS := hidd (fun (ha : RightW u) (h : (s1, s2, se) = foldR addF u (l.drop i)) => invS_step hlt hxr ha h)
          have stS0 := hidd (fun (hn : ¬ no = 0) => (show InvS l (s1, s2, se) (i + 1) no u from by rcases HS.out with h | h; exact absurd h.1 hn; exact .inr h))
          have hin2 : (i : Int) < (l.length : Int) := by omega
          have hi0 : (0 : Int) ≤ (i : Int) := by omega
          have hj : IntKind.i64.wrap ((i : Int) + 1) = (i : Int) + 1 := IntWalk.i64_in _ (by omega)
          have HXR := hidd hxr
          generalize (l[i]'hlt) = x at *
          obtain ⟨x1, x2⟩ := x
          obtain ⟨u1, u2⟩ := u
          obtain ⟨p1, p2⟩ := p
          obtain ⟨q1, q2⟩ := q
          dsimp only at y0 y1
          have KX := hidd (fun W' (hb : Below w.heap.size w W') => (⟨(hb.cell (p := ad.add (i * 2)) hbs2).trans y0, (hb.cell (p := ⟨(ad.add (i * 2)).block, (ad.add (i * 2)).off + 1, none⟩) hbs2).trans y1⟩ : W'.cell? (ad.add (i * 2)) = some (.int .i64 x1) ∧ W'.cell? ⟨(ad.add (i * 2)).block, (ad.add (i * 2)).off + 1, none⟩ = some (.int .i64 x2)))
          have hxb := right_bounds x1 x2 HXR.out.2.1 HXR.out.1
          have cC := hidd (fun (t1 t2 : Int) (ht : RightW (t1, t2)) W => refCmp_any x1 x2 t1 t2 hxb.2 HXR.out.2.2.1 hxb.1 HXR.out.2.2.2 (right_bounds t1 t2 ht.2.1 ht.1).2 ht.2.2.1 (right_bounds t1 t2 ht.2.1 ht.1).1 ht.2.2.2 W)
          have cP := hidd (fun (t1 t2 : Int) (ht : RightW (t1, t2)) W => refPlus_any t1 t2 x1 x2 (right_bounds t1 t2 ht.2.1 ht.1).2 ht.2.2.1 (right_bounds t1 t2 ht.2.1 ht.1).1 ht.2.2.2 hxb.2 HXR.out.2.2.1 hxb.1 HXR.out.2.2.2 W)
          have RP := hidd (show ¬ i = 0 → RightW (p1, p2) from fun h => by rcases HM.out with g | g; exact absurd g.1 h; exact g.2.1)
          have RQ := hidd (show ¬ i = 0 → RightW (q1, q2) from fun h => by rcases HQ.out with g | g; exact absurd g.1 h; exact g.2.1)
          have hbB : w.heap.size ≤ Bb + 1 + 1 := by omega
          have hbC : w.heap.size ≤ Bb + 1 + 1 + 1 := by omega
          have hbA : w.heap.size ≤ Bb + 1 := by omega
          clear hxr hll hxb y0 y1 hbs2 HM HQ
          obtain ⟨y0, y1⟩ := KX.out _ HB.out
          obtain ⟨_, _, ⟨lz, c0, c1, _, _⟩, _⟩ := H6.out
          obtain ⟨rP, hrP⟩ : ∃ r, ordZ (x1 * p2) (p1 * x2) = r := ⟨_, rfl⟩
          have HrP := hidd hrP
          clear hrP
          go_wp2_with fail
          go_cut [85] (fun s wx => ∃ B : Bool, s = .bool B ∧ (B = true ↔ i = 0 ∨ rP < 0) ∧ Below wr.heap.size wr wx)
          case first =>
            by_cases hiz : i = 0
            · subst hiz
              go_quiet (fail)
              go_wp2_with fail
              go_meet
              exact ⟨true, rfl, by simp, by (repeat' (first | (with_reducible exact Below.refl _ _) | (with_reducible assumption) | (with_reducible apply Below.setCell) | (with_reducible apply Below.alloc) | (with_reducible apply Below.drew) | (with_reducible apply below_drewN) | (with_reducible refine Below.trans ?_ (Below.mono (by assumption) ?_)) | omega | (simp; done) | (simp; omega)))⟩
            · have c0' := fun W => cC.out p1 p2 (RP.out hiz) W
              rw [HrP.out] at c0'
              have c := hidd c0'
              clear c0'
              have hz1 : decide ((i : Int) = 0) = false := decide_eq_false (by omega)
              have hz2 : ((i : Int) == 0) = false := beq_eq_false_iff_ne.2 (by omega)
              have HIZ := hidd hiz
              clear hiz
              go_region_held3 (fun w' => w'.cell? (ad.add (i * 2)) = some (.int .i64 x1) ∧ w'.cell? ⟨(ad.add (i * 2)).block, (ad.add (i * 2)).off + 1, none⟩ = some (.int .i64 x2) ∧ w'.cell? ⟨Bb + 1 + 1, 0, none⟩ = some (.int .i64 p1) ∧ w'.cell? ⟨Bb + 1 + 1, 1, none⟩ = some (.int .i64 p2))
                ((first | exact ⟨(KX.out _ (below_step HB.out hb5)).1, (KX.out _ (below_step HB.out hb5)).2, (hb5.cell (p := ⟨Bb + 1 + 1, 0, none⟩) lz).trans c0, (hb5.cell (p := ⟨Bb + 1 + 1, 1, none⟩) lz).trans c1⟩ | exact ⟨(KX.out _ (below_step (Below.drew HB.out) hb5)).1, (KX.out _ (below_step (Below.drew HB.out) hb5)).2, (hb5.cell (p := ⟨Bb + 1 + 1, 0, none⟩) lz).trans c0, (hb5.cell (p := ⟨Bb + 1 + 1, 1, none⟩) lz).trans c1⟩ | exact ⟨(KX.out _ (below_step (below_drewN HB.out _) hb5)).1, (KX.out _ (below_step (below_drewN HB.out _) hb5)).2, (hb5.cell (p := ⟨Bb + 1 + 1, 0, none⟩) lz).trans c0, (hb5.cell (p := ⟨Bb + 1 + 1, 1, none⟩) lz).trans c1⟩ | go_keep))
                ((go_at_call 13; refine (c.out _).mono ?_; rintro E w5 ⟨rfl, hb5⟩))
              all_goals go_wp2_with fail
              all_goals go_meet
              all_goals exact ⟨decide (rP < 0), rfl, by have := HIZ.out; simp [this], by (repeat' (first | (with_reducible exact Below.refl _ _) | (with_reducible assumption) | (with_reducible apply Below.setCell) | (with_reducible apply Below.alloc) | (with_reducible apply Below.drew) | (with_reducible apply below_drewN) | (with_reducible refine Below.trans ?_ (Below.mono (by assumption) ?_)) | omega | (simp; done) | (simp; omega)))⟩
          case rest =>
          obtain ⟨B, rfl, hBB, hbx⟩ := hcut
          obtain ⟨wA, rfl⟩ : ∃ wA : World, wA = wc := ⟨_, rfl⟩
          have H6A := hidd (H6.out.step hbx)
          have HBA := hidd (below_step HB.out hbx)
          have HIM := hidd (stM.out B (by rw [hBB, ← HrP.out]; simp [lessB]))
          clear hbx hBB y0 y1 lz c0 c1 HB H6 stM
          obtain ⟨y0, y1⟩ := KX.out _ HBA.out
          obtain ⟨_, _, ⟨lz, c0, c1, f0, f1⟩, _⟩ := H6A.out
          go_upto_if 85 with fail
          go_cut [] (fun wx => ∃ p' : Int × Int, InvM lessB l (m1, m2, me) (i + 1) p' ∧ Six wx Bs Ba Bb (s1, s2) (m1, m2) (g1, g2) (u1, u2) p' (q1, q2) ∧ Below w.heap.size w wx)
          case first =>
            cases B
            · go_wp2_with fail
              go_meet
              exact ⟨(p1, p2), HIM.out, H6A.out, HBA.out⟩
            · go_wp2_with fail
              go_meet
              exact ⟨(x1, x2), HIM.out, H6A.out.putP hz1 hz2 rfl x1 x2, below_set HBA.out hbB x1 x2⟩
          case rest =>
          obtain ⟨p', HIM', h6B, hBB⟩ := hcut
          obtain ⟨wB, rfl⟩ : ∃ wB : World, wB = wc := ⟨_, rfl⟩
          have HIM2 := hidd HIM'
          have H6B := hidd h6B
          have HBB := hidd hBB
          clear HIM' h6B hBB y0 y1 lz c0 c1 f0 f1 HIM H6A HBA
          obtain ⟨y0, y1⟩ := KX.out _ HBB.out
          obtain ⟨_, _, _, ⟨lz, c0, c1, _, _⟩⟩ := H6B.out
          obtain ⟨rQ, hrQ⟩ : ∃ r, ordZ (x1 * q2) (q1 * x2) = r := ⟨_, rfl⟩
          have HrQ := hidd hrQ
          clear hrQ
          go_wp2_with fail
          go_cut [100] (fun s wx => ∃ B : Bool, s = .bool B ∧ (B = true ↔ i = 0 ∨ 0 < rQ) ∧ Below wB.heap.size wB wx)
          case first =>
            by_cases hiz : i = 0
            · subst hiz
              go_quiet (fail)
              go_wp2_with fail
              go_meet
              exact ⟨true, rfl, by simp, by (repeat' (first | (with_reducible exact Below.refl _ _) | (with_reducible assumption) | (with_reducible apply Below.setCell) | (with_reducible apply Below.alloc) | (with_reducible apply Below.drew) | (with_reducible apply below_drewN) | (with_reducible refine Below.trans ?_ (Below.mono (by assumption) ?_)) | omega | (simp; done) | (simp; omega)))⟩
            · have c0' := fun W => cC.out q1 q2 (RQ.out hiz) W
              rw [HrQ.out] at c0'
              have c := hidd c0'
              clear c0'
              have hz1 : decide ((i : Int) = 0) = false := decide_eq_false (by omega)
              have hz2 : ((i : Int) == 0) = false := beq_eq_false_iff_ne.2 (by omega)
              have HIZ := hidd hiz
              clear hiz
              go_region_held3 (fun w' => w'.cell? (ad.add (i * 2)) = some (.int .i64 x1) ∧ w'.cell? ⟨(ad.add (i * 2)).block, (ad.add (i * 2)).off + 1, none⟩ = some (.int .i64 x2) ∧ w'.cell? ⟨Bb + 1 + 1 + 1, 0, none⟩ = some (.int .i64 q1) ∧ w'.cell? ⟨Bb + 1 + 1 + 1, 1, none⟩ = some (.int .i64 q2))
                ((first | exact ⟨(KX.out _ (below_step HBB.out hb5)).1, (KX.out _ (below_step HBB.out hb5)).2, (hb5.cell (p := ⟨Bb + 1 + 1 + 1, 0, none⟩) lz).trans c0, (hb5.cell (p := ⟨Bb + 1 + 1 + 1, 1, none⟩) lz).trans c1⟩ | exact ⟨(KX.out _ (below_step (Below.drew HBB.out) hb5)).1, (KX.out _ (below_step (Below.drew HBB.out) hb5)).2, (hb5.cell (p := ⟨Bb + 1 + 1 + 1, 0, none⟩) lz).trans c0, (hb5.cell (p := ⟨Bb + 1 + 1 + 1, 1, none⟩) lz).trans c1⟩ | exact ⟨(KX.out _ (below_step (below_drewN HBB.out _) hb5)).1, (KX.out _ (below_step (below_drewN HBB.out _) hb5)).2, (hb5.cell (p := ⟨Bb + 1 + 1 + 1, 0, none⟩) lz).trans c0, (hb5.cell (p := ⟨Bb + 1 + 1 + 1, 1, none⟩) lz).trans c1⟩ | go_keep))
                ((go_at_call 13; refine (c.out _).mono ?_; rintro E w5 ⟨rfl, hb5⟩))
              all_goals go_wp2_with fail
              all_goals go_meet
              all_goals exact ⟨decide (0 < rQ), rfl, by have := HIZ.out; simp [this], by (repeat' (first | (with_reducible exact Below.refl _ _) | (with_reducible assumption) | (with_reducible apply Below.setCell) | (with_reducible apply Below.alloc) | (with_reducible apply Below.drew) | (with_reducible apply below_drewN) | (with_reducible refine Below.trans ?_ (Below.mono (by assumption) ?_)) | omega | (simp; done) | (simp; omega)))⟩
          case rest =>
          obtain ⟨B, rfl, hBB, hbx⟩ := hcut
          obtain ⟨wC, rfl⟩ : ∃ wC : World, wC = wc := ⟨_, rfl⟩
          have H6C := hidd (H6B.out.step hbx)
          have HBC := hidd (below_step HBB.out hbx)
          have HIQ := hidd (stQ.out B (by rw [hBB, ← HrQ.out]; simp [moreB]))
          clear hbx hBB y0 y1 lz c0 c1 HBB H6B stQ
          obtain ⟨y0, y1⟩ := KX.out _ HBC.out
          obtain ⟨_, _, _, ⟨lz, c0, c1, f0, f1⟩⟩ := H6C.out
          go_upto_if 100 with fail
          go_cut [] (fun wx => ∃ q' : Int × Int, InvM moreB l (g1, g2, ge) (i + 1) q' ∧ Six wx Bs Ba Bb (s1, s2) (m1, m2) (g1, g2) (u1, u2) p' q' ∧ Below w.heap.size w wx)
          case first =>
            cases B
            · go_wp2_with fail
              go_meet
              exact ⟨(q1, q2), HIQ.out, H6C.out, HBC.out⟩
            · go_wp2_with fail
              go_meet
              exact ⟨(x1, x2), HIQ.out, H6C.out.putQ hz1 hz2 rfl x1 x2, below_set HBC.out hbC x1 x2⟩
          case rest =>
          obtain ⟨q', HIQ', h6D, hBD⟩ := hcut
          obtain ⟨wD, rfl⟩ : ∃ wD : World, wD = wc := ⟨_, rfl⟩
          have HIQ2 := hidd HIQ'
          have H6D := hidd h6D
          have HBD := hidd hBD
          clear HIQ' h6D hBD y0 y1 lz c0 c1 f0 f1 HIQ H6C HBC
          obtain ⟨y0, y1⟩ := KX.out _ HBD.out
          obtain ⟨_, ⟨lz, c0, c1, f0, f1⟩, _, _⟩ := H6D.out
          by_cases hn : no = 0
          · subst hn
            obtain ⟨hru, hSe⟩ : RightW (u1, u2) ∧ (s1, s2, se) = foldR addF (u1, u2) (l.drop i) := by
              rcases HS.out with h | h
              · exact h.2
              · exact absurd rfl h.1
            have c := cP.out u1 u2 hru
            have st := stS.out hru hSe
            have ef : addF (u1, u2) (x1, x2) = RM.plusR u1 u2 x1 x2 := rfl
            rw [ef] at st
            obtain ⟨r, hr⟩ : ∃ r, RM.plusR u1 u2 x1 x2 = r := ⟨_, rfl⟩
            rw [hr] at c st
            obtain ⟨r1, r2, r3⟩ := r
            have ST := hidd st
            unfold pairOf at c
            dsimp only at c
            have CC := hidd c
            clear hru hSe st ef hr c
            go_wp2_with fail
            go_region_with (go_at_call 18; refine (CC.out _).mono ?_; rintro E w5 ⟨rfl, hb5⟩; have H6E := hidd ((show Six wD.drew Bs Ba Bb (s1, s2) (m1, m2) (g1, g2) (u1, u2) p' q' from H6D.out).step hb5); have HBE := hidd (below_step (Below.drew HBD.out) hb5); obtain ⟨_, ⟨vz, v0, v1, e0, e1⟩, _, _⟩ := H6E.out)
            all_goals go_wp2_with fail
            all_goals (
              have hg := HGG.out
              go_roundg (gk - 1)
              case measure => omega
              case rel => exact ⟨i + 1, r3, (r1, r2), p', q', by omega, by omega, by go_num, rfl, ST.out, HIM2.out, HIQ2.out, below_set HBE.out hbA r1 r2, H6E.out.putU hz1 hz2 rfl r1 r2⟩)
          · have hn1 : decide (no = 0) = false := decide_eq_false hn
            have hn2 : (no == 0) = false := beq_eq_false_iff_ne.2 hn
            have ST := hidd (stS0.out hn)
            clear hn
            go_wp2_with fail
            have hg := HGG.out
            go_roundg (gk - 1)
            case measure => omega
            case rel => exact ⟨i + 1, no, (u1, u2), p', q', by omega, by omega, by go_num, rfl, ST.out, HIM2.out, HIQ2.out, HBD.out, H6D.out⟩
        · obtain rfl : i = l.length := by omega
          have f1 := invS_end HS.out
          have f2 := invM_end HM2.out HM.out
          have f3 := invM_end HG2.out HQ.out
          obtain ⟨u1, u2⟩ := u
          obtain ⟨q1, q2⟩ := p
          obtain ⟨r1, r2⟩ := q
          simp only [Prod.mk.injEq] at f1 f2 f3
          obtain ⟨rfl, rfl, rfl⟩ := f1
          obtain ⟨rfl, rfl, f2⟩ := f2
          obtain ⟨rfl, rfl, f3⟩ := f3
          clear HS HM HQ HS2 HM2 HG2 HGG
          have hsp : (l.length = 0 ∧ me = 2 ∧ ge = 2) ∨ (0 < l.length ∧ me = 0 ∧ ge = 0) := by
            by_cases h : l.length = 0
            · rw [if_pos h] at f2 f3; exact .inl ⟨h, f2, f3⟩
            · rw [if_neg h] at f2 f3; exact .inr ⟨by omega, f2, f3⟩
          clear f2 f3
          rcases hsp with ⟨h0, rfl, rfl⟩ | ⟨h0, rfl, rfl⟩
          all_goals
            obtain ⟨⟨⟨_, z1, z2, _, _⟩, ⟨_, z3, z4, _, _⟩, ⟨_, z5, z6, _, _⟩⟩, ⟨_, z7, z8, _, _⟩, ⟨_, z9, z10, _, _⟩, ⟨_, z11, z12, _, _⟩⟩ := H6.out
            first | (have h0' : ¬ (l.length : Int) = 0 := by omega) | skip
            go_wp2_with fail
            refine (ct.out _ _ _ _).mono ?_
            rintro e w6 ⟨rfl, hb6⟩
            have H66 := hidd (H6.out.step hb6)
            have HB6 := hidd (below_step HB.out hb6)
            clear hb6 z1 z2 z3 z4 z5 z6 z7 z8 z9 z10 z11 z12
            obtain ⟨⟨⟨_, z1, z2, _, _⟩, ⟨_, z3, z4, _, _⟩, ⟨_, z5, z6, _, _⟩⟩, ⟨_, z7, z8, _, _⟩, ⟨_, z9, z10, _, _⟩, ⟨_, z11, z12, _, _⟩⟩ := H66.out
            go_wp2_with fail
            refine (ct.out _ _ _ _).mono ?_
            rintro e w7 ⟨rfl, hb7⟩
            have H67 := hidd (H66.out.step hb7)
            have HB7 := hidd (below_step HB6.out hb7)
            clear hb7 z1 z2 z3 z4 z5 z6 z7 z8 z9 z10 z11 z12
            obtain ⟨⟨⟨_, z1, z2, _, _⟩, ⟨_, z3, z4, _, _⟩, ⟨_, z5, z6, _, _⟩⟩, ⟨_, z7, z8, _, _⟩, ⟨_, z9, z10, _, _⟩, ⟨_, z11, z12, _, _⟩⟩ := H67.out
            go_wp2_with fail
            refine (ct.out _ _ _ _).mono ?_
            rintro e w8 ⟨rfl, hb8⟩
            have HB8 := hidd (below_step HB7.out hb8)
            clear hb8 z1 z2 z3 z4 z5 z6 z7 z8 z9 z10 z11 z12
            go_wp2_with fail
            refine (ck.out _).mono ?_
            rintro e w9 ⟨rfl, hb9⟩
            go_wp2_with fail
            go_ret
            exact ⟨by first | rfl | simp, below_step HB8.out hb9⟩
end Go.Proofs.Ytonpoemafneefaa
