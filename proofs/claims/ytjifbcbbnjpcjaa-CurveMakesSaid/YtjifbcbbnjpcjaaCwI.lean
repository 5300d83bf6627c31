/- The walk of CurveMakes: the curve of any lines, or why there is none. -/
import Derived.Test.YtjifbcbbnjpcjaaCwH
namespace Go.Proofs.Ytjifbcbbnjpcjaa
set_option linter.unusedVariables false
open Go.RowKit Go.Proofs.Ytjifbcbbnjpcjaa.RowK

set_option maxRecDepth 100000 in
set_option maxHeartbeats 8000000 in
theorem makes_walk (A : Option Addr) (L : List (Int × Int)) (c : Nat) (n d : Int) (hc : L.length ≤ c) (hcm : c ≤ maxLen) (n0 : -9223372036854775808 ≤ n) (n1 : n ≤ 9223372036854775807) (d0 : -9223372036854775808 ≤ d) (d1 : d ≤ 9223372036854775807) (w : World) (hA : Lie sendV 2 w w.heap.size A L) :
    Calls Try.prog 3 #[.slice A L.length c, .int .i64 n, .int .i64 d] w fun e w' => e = .returned (.bool true) ∧ Below w.heap.size w w' := by
  have ck := hidd (fun W => known3_any W)
  have hLm : L.length ≤ maxLen := Nat.le_trans hc hcm
  unfold maxLen at hLm
  by_cases h40 : 40 < L.length
  · have h40' : (40 : Int) < (L.length : Int) := by omega
    clear hA
    go_enter Try.func3, Try.ntmps3
    go_wp2_with fail
    refine (ck.out _).mono ?_
    rintro e w1 ⟨rfl, hb1⟩
    go_wp2_with fail
    go_ret
    exact ⟨rfl, hb1⟩
  have h40' : ¬ (40 : Int) < (L.length : Int) := by omega
  have hL6 : L.length ≤ 1000000 := by omega
  have HA := hidd hA
  have cy := hidd (fun W (hW : Lie sendV 2 W W.heap.size A L) => may3_any A L c hL6 W hW)
  have ct := hidd (fun (A' : Option Addr) (c' : Nat) (k : Int) (W : World) (hW : Lie sendV 2 W W.heap.size A' []) => told3_any A' none [] [] c' 0 k (by decide) (by decide) W hW Lie.nil)
  by_cases hmp : MayAll L ∧ 0 < L.length
  case neg =>
    have cm := hidd (fun W (hW : Lie sendV 2 W W.heap.size A L) => make_bad A L c hL6 W hW hmp)
    have HMP := hidd hmp
    unfold MakeEnd at cm
    clear hmp hA
    go_enter Try.func3, Try.ntmps3
    go_wp2_with fail
    refine (cm.out _ HA.out).mono ?_
    rintro e w1 ⟨v1, rfl, hO, hb1⟩
    obtain ⟨A1, c1, rfl, _, _, hl1⟩ := hO.lie sendV_len
    have HL1 := hidd hl1
    have HA1 := hidd (HA.out.below hb1)
    have HB1 := hidd hb1
    clear hO hb1 hl1
    go_wp2_with fail
    refine (cy.out _ HA1.out).mono ?_
    rintro e w2 ⟨R, rfl, hR, hb2⟩
    obtain rfl : R = false := by cases R; rfl; exact absurd (hR.1 rfl) HMP.out
    have HL2 := hidd (HL1.out.below hb2)
    have HB2 := hidd (below_step HB1.out hb2)
    clear hR hb2
    go_wp2_with fail
    refine (ct.out A1 c1 2 _ HL2.out).mono ?_
    rintro e w3 ⟨rfl, q, rfl⟩
    have HB3 := hidd (show Below w.heap.size w (w2.drewN q) by have := HB2.out; (repeat' (first | (with_reducible exact Below.refl _ _) | (with_reducible assumption) | (with_reducible apply Below.setCell) | (with_reducible apply Below.alloc) | (with_reducible apply Below.drew) | (with_reducible apply below_drewN) | (with_reducible refine Below.trans ?_ (Below.mono (by assumption) ?_)) | omega | (simp; done) | (simp; omega))))
    go_wp2_with fail
    refine (ck.out _).mono ?_
    rintro e w4 ⟨rfl, hb4⟩
    go_wp2_with fail
    go_ret
    exact ⟨by first | rfl | simp, below_step HB3.out hb4⟩
  case pos =>
    obtain ⟨hm, h0⟩ := hmp
    have HM := hidd hm
    have hyes : ∀ R : Bool, (R = true ↔ MayAll L ∧ 0 < L.length) → R = true := fun R h => h.2 ⟨HM.out, h0⟩
    have HYES := hidd hyes
    clear hyes
    by_cases h32 : (CM.low L).length ≤ 32
    case neg =>
      have cm := hidd (fun W (hW : Lie sendV 2 W W.heap.size A L) => (make_good A L c hL6 W hW HM.out h0).2 h32)
      have cd := hidd (fun W (hW : Lie sendV 2 W W.heap.size A L) => made_any false A L c (by omega) h0 HM.out (by simp [h32]) W hW)
      have ct2 := hidd (fun (A' B' : Option Addr) (c' d' : Nat) (W : World) (hW : Lie sendV 2 W W.heap.size A' []) (hV : Lie sendV 2 W W.heap.size B' []) => told3_any A' B' [] [] c' d' 3 (by decide) (by decide) W hW hV)
      unfold MakeEnd at cm cd
      simp only [Bool.false_eq_true, if_false] at cd
      clear hm hA h32 ct
      go_enter Try.func3, Try.ntmps3
      go_wp2_with fail
      refine (cm.out _ HA.out).mono ?_
      rintro e w1 ⟨v1, rfl, hO, hb1⟩
      obtain ⟨A1, c1, rfl, _, _, hl1⟩ := hO.lie sendV_len
      have HL1 := hidd hl1
      have HA1 := hidd (HA.out.below hb1)
      have HB1 := hidd hb1
      clear hO hb1 hl1
      go_wp2_with fail
      refine (cy.out _ HA1.out).mono ?_
      rintro e w2 ⟨R, rfl, hR, hb2⟩
      obtain rfl : R = true := HYES.out R hR
      have HL2 := hidd (HL1.out.below hb2)
      have HA2 := hidd (HA1.out.below hb2)
      have HB2 := hidd (below_step HB1.out hb2)
      clear hR hb2
      go_wp2_with fail
      refine (cd.out _ HA2.out).mono ?_
      rintro e w3 ⟨v3, rfl, hO3, hb3⟩
      obtain ⟨A3, c3, rfl, _, _, hl3⟩ := hO3.lie sendV_len
      have HL3 := hidd hl3
      have HL23 := hidd (HL2.out.below hb3)
      have HB3 := hidd (below_step HB2.out hb3)
      clear hO3 hb3 hl3
      go_wp2_with fail
      refine (ct2.out A1 A3 c1 c3 _ HL23.out HL3.out).mono ?_
      rintro e w4 ⟨rfl, q, rfl⟩
      have HB4 := hidd (show Below w.heap.size w (w3.drewN q) by have := HB3.out; (repeat' (first | (with_reducible exact Below.refl _ _) | (with_reducible assumption) | (with_reducible apply Below.setCell) | (with_reducible apply Below.alloc) | (with_reducible apply Below.drew) | (with_reducible apply below_drewN) | (with_reducible refine Below.trans ?_ (Below.mono (by assumption) ?_)) | omega | (simp; done) | (simp; omega))))
      go_wp2_with fail
      refine (ck.out _).mono ?_
      rintro e w5 ⟨rfl, hb5⟩
      go_wp2_with fail
      go_ret
      exact ⟨by first | rfl | simp, below_step HB4.out hb5⟩
    case pos =>
      have cm := hidd (fun W (hW : Lie sendV 2 W W.heap.size A L) => (make_good A L c hL6 W hW HM.out h0).1 h32)
      have cd := hidd (fun W (hW : Lie sendV 2 W W.heap.size A L) => made_any true A L c (by omega) h0 HM.out (by simp [h32]) W hW)
      have hrg := rgt_of_low hm h0 h32
      have HRG := hidd hrg
      have hmn := fun (x y : Int) (hx : CM.IsMin (CM.low L) n d x) (hy : CM.IsMin L n d y) (a : 0 ≤ n) (b : 0 ≤ d) => ((CM.low_min a b).1 hx).same hy
      have HMN := hidd hmn
      have hlp := low_pos h0
      unfold MakeEnd at cm cd
      simp only [if_true] at cd
      clear hm hA ct hrg hmn
      obtain ⟨R, hRL⟩ : ∃ R, CM.low L = R := ⟨_, rfl⟩
      rw [hRL] at cm cd HRG HMN h32 hlp
      have hR6 : R.length ≤ 1000000 := by omega
      have ct := hidd (fun (A' B' : Option Addr) (c' d' : Nat) (W : World) (hW : Lie sendV 2 W W.heap.size A' R) (hV : Lie sendV 2 W W.heap.size B' R) => told3_any A' B' R R c' d' 0 hR6 hR6 W hW hV)
      rw [decide_eq_true (rfl : R = R)] at ct
      have cc := hidd (fun (A' : Option Addr) (c' : Nat) (W : World) (hW : Lie sendV 2 W W.heap.size A' R) => curveCheck_any A' R c' hR6 W hW)
      have cn := hidd (fun (A' : Option Addr) (c' : Nat) (W : World) (hW : Lie sendV 2 W W.heap.size A' R) => normal_any A' R c' hR6 HRG.out.2.1.all W hW)
      have cat1 := hidd (fun (a : 0 ≤ n) (b : n ≤ 1000000) (e : 1 ≤ d) (f : d ≤ 100) (A' : Option Addr) (c' : Nat) (W : World) (hW : Lie sendV 2 W W.heap.size A' R) => refAt_any A' R c' n d hR6 hlp HRG.out.2.1 a (by omega) e f W hW)
      have cat2 := hidd (fun (a : 0 ≤ n) (b : n ≤ 1000000) (e : 1 ≤ d) (f : d ≤ 100) (W : World) (hW : Lie sendV 2 W W.heap.size A L) => refAt_any A L c n d hL6 h0 HM.out a (by omega) e f W hW)
      unfold RefAtEnd at cat1 cat2
      clear hRL
      have hsp : (n < 0 ∨ (¬ n < 0 ∧ 1000000 < n) ∨ (¬ n < 0 ∧ ¬ 1000000 < n ∧ d < 1) ∨ (¬ n < 0 ∧ ¬ 1000000 < n ∧ ¬ d < 1 ∧ 100 < d)) ∨ (¬ n < 0 ∧ ¬ 1000000 < n ∧ ¬ d < 1 ∧ ¬ 100 < d) := by omega
      rcases hsp with (s1 | ⟨s1, s2⟩ | ⟨s1, s2, s3⟩ | ⟨s1, s2, s3, s4⟩) | ⟨s1, s2, s3, s4⟩
      all_goals
        go_enter Try.func3, Try.ntmps3
        go_wp2_with fail
        refine (cm.out _ HA.out).mono ?_
        rintro e w1 ⟨v1, rfl, hO, hb1⟩
        obtain ⟨A1, c1, rfl, _, _, hl1⟩ := hO.lie sendV_len
        have HL1 := hidd hl1
        have HA1 := hidd (HA.out.below hb1)
        have HB1 := hidd hb1
        clear hO hb1 hl1
        go_wp2_with fail
        refine (cy.out _ HA1.out).mono ?_
        rintro e w2 ⟨R2, rfl, hR, hb2⟩
        obtain rfl : R2 = true := HYES.out R2 hR
        have HL2 := hidd (HL1.out.below hb2)
        have HA2 := hidd (HA1.out.below hb2)
        have HB2 := hidd (below_step HB1.out hb2)
        clear hR hb2
        go_wp2_with fail
        refine (cd.out _ HA2.out).mono ?_
        rintro e w3 ⟨v3, rfl, hO3, hb3⟩
        obtain ⟨A3, c3, rfl, _, _, hl3⟩ := hO3.lie sendV_len
        have HL3 := hidd hl3
        have HL23 := hidd (HL2.out.below hb3)
        have HA3 := hidd (HA2.out.below hb3)
        have HB3 := hidd (below_step HB2.out hb3)
        clear hO3 hb3 hl3
        go_wp2_with fail
        refine (ct.out A1 A3 c1 c3 _ HL23.out HL3.out).mono ?_
        rintro e w4 ⟨rfl, q, rfl⟩
        have hbq : Below w3.heap.size w3 (w3.drewN q) := by (repeat' (first | (with_reducible exact Below.refl _ _) | (with_reducible assumption) | (with_reducible apply Below.setCell) | (with_reducible apply Below.alloc) | (with_reducible apply Below.drew) | (with_reducible apply below_drewN) | (with_reducible refine Below.trans ?_ (Below.mono (by assumption) ?_)) | omega | (simp; done) | (simp; omega)))
        have HL4 := hidd (HL23.out.below hbq)
        have HA4 := hidd (HA3.out.below hbq)
        have HB4 := hidd (below_step HB3.out hbq)
        clear hbq
        generalize w3.drewN q = w4 at *
        go_wp2_with fail
      iterate 4
        · refine (ck.out _).mono ?_
          rintro e w5 ⟨rfl, hb5⟩
          go_wp2_with fail
          go_ret
          exact ⟨by first | rfl | simp, below_step HB4.out hb5⟩
      refine (cc.out A1 c1 _ HL4.out).mono ?_
      rintro e w5 ⟨R5, rfl, hR5, hb5⟩
      obtain rfl : R5 = true := hR5.2 HRG.out
      have HL5 := hidd (HL4.out.below hb5)
      have HA5 := hidd (HA4.out.below hb5)
      have HB5 := hidd (below_step HB4.out hb5)
      clear hR5 hb5
      simp only [if_true]
      go_wp2_with fail
      refine (cn.out A1 c1 _ HL5.out).mono ?_
      rintro e w6 ⟨R6, rfl, hR6, hb6⟩
      obtain rfl : R6 = true := hR6.2 HRG.out.2.2
      have HL6 := hidd (HL5.out.below hb6)
      have HA6 := hidd (HA5.out.below hb6)
      have HB6 := hidd (below_step HB5.out hb6)
      clear hR6 hb6
      go_wp2_with fail
      refine (cat1.out (by omega) (by omega) (by omega) (by omega) A1 c1 _ HL6.out).mono ?_
      rintro e w7 ⟨x, rfl, hx, hb7⟩
      have HX := hidd hx
      have HA7 := hidd (HA6.out.below hb7)
      have HB7 := hidd (below_step HB6.out hb7)
      clear hx hb7
      go_wp2_with fail
      refine (cat2.out (by omega) (by omega) (by omega) (by omega) _ HA7.out).mono ?_
      rintro e w8 ⟨y, rfl, hy, hb8⟩
      obtain rfl := HMN.out x y HX.out hy (by omega) (by omega)
      have HB8 := hidd (below_step HB7.out hb8)
      clear hy hb8
      go_wp2_with fail
      refine (ck.out _).mono ?_
      rintro e w9 ⟨rfl, hb9⟩
      go_wp2_with fail
      go_ret
      exact ⟨by first | rfl | simp, below_step HB8.out hb9⟩
end Go.Proofs.Ytjifbcbbnjpcjaa
