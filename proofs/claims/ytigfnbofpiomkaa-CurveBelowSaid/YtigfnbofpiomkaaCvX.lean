/- The walk of CurveSpecs: the curve of any spec allows what the spec does. -/
import Derived.Test.YtigfnbofpiomkaaCvV
import Derived.Test.YtigfnbofpiomkaaSpB
import Derived.Test.YtigfnbofpiomkaaSpG
namespace Go.Proofs.Ytigfnbofpiomkaa
set_option linter.unusedVariables false
open Go.RowKit Go.Proofs.Ytigfnbofpiomkaa.RowK

theorem told3_any (A B : Option Addr) (L M : List (Int × Int)) (c d : Nat) (k : Int) (hL : L.length ≤ 1000000) (hM : M.length ≤ 1000000) (w : World) (hA : Lie sendV 2 w w.heap.size A L) (hB : Lie sendV 2 w w.heap.size B M) :
    Calls Try.prog 14 #[.slice A L.length c, .int .i64 k, .slice B M.length d, .int .i64 k] w fun e w' => e = .returned (.bool (decide (L = M))) ∧ ∃ q, w' = w.drewN q := by
  have cs := hidd (same_any A B L M c d hL hM w hA hB)
  clear hA hB
  obtain ⟨T, hT⟩ : ∃ T, decide (L = M) = T := ⟨_, rfl⟩
  rw [hT] at cs
  rw [hT]
  clear hT
  go_enter Try.func14, Try.ntmps14
  go_wp2_with fail
  refine cs.out.mono ?_
  rintro e w1 ⟨rfl, q, rfl⟩
  go_wp2_with fail
  go_ret
  exact ⟨by simp, q, rfl⟩
theorem rgt_of_low {L : List (Int × Int)} (hm : MayAll L) (h0 : 0 < L.length) (h32 : (CM.low L).length ≤ 32) : RgtC (CM.low L) :=
  ⟨⟨low_pos h0, h32⟩, may_low hm, CM.low_nrm (fun e => by rw [e] at h0; simp at h0)⟩
theorem min_spec {p r u m t x : Int} (h : CM.IsMin [(m, p), (u, r)] t 1 x) : x = allowsV p r u m t := by
  have g : CM.IsMin [(m, p), (u, r)] t 1 (allowsV p r u m t) := by
    have e1 : CM.val (m, p) t 1 = m + p * t := by unfold CM.val; simp
    have e2 : CM.val (u, r) t 1 = u + r * t := by unfold CM.val; simp
    unfold allowsV
    by_cases h : u + r * t < m + p * t
    · rw [if_pos h]
      refine ⟨⟨(u, r), by simp, e2⟩, fun y hy => ?_⟩
      rcases List.mem_cons.1 hy with rfl | hy
      · rw [e1]; omega
      · have : y = (u, r) := by simpa using hy
        rw [this, e2]; omega
    · rw [if_neg h]
      refine ⟨⟨(m, p), by simp, e1⟩, fun y hy => ?_⟩
      rcases List.mem_cons.1 hy with rfl | hy
      · rw [e1]; omega
      · have : y = (u, r) := by simpa using hy
        rw [this, e2]; omega
  exact h.same g
theorem may_spec {p r u m l : Int} (hr : rightB p r u m l = true) : MayAll [(m, p), (u, r)] := by
  have h := rightB_iff hr
  intro i hi
  have : i = 0 ∨ i = 1 := by simp at hi; omega
  rcases this with rfl | rfl
  · exact decide_eq_true (by simp [SM.av, SM.sv]; omega)
  · exact decide_eq_true (by simp [SM.av, SM.sv]; omega)
theorem lie_spec (w : World) (b : Nat) (hb : w.heap.size = b) (m p u r : Int) (T : TypeId) : Lie sendV 2 (w.alloc (.cells #[.int .i64 m, .int .i64 p, .int .i64 u, .int .i64 r] T)) (w.alloc (.cells #[.int .i64 m, .int .i64 p, .int .i64 u, .int .i64 r] T)).heap.size (some ⟨b, 0, none⟩) [(m, p), (u, r)] :=
  lie_lit2 w b hb [(m, p), (u, r)] T _ rfl
theorem low1_any (A : Option Addr) (L : List (Int × Int)) (c n b : Nat) (hn : L.length = n) (W : World) (hb : W.heap.size = b) (hW : Lie sendV 2 W W.heap.size A L) (h0 : 0 < n) (hL : n ≤ 1000000) (hm : MayAll L) :
    Calls Try.prog 34 #[.slice (some ⟨b, 0, none⟩) 1 1] (W.alloc (.cells #[.slice A n c] 24)) fun e w' => ∃ v, e = .returned v ∧ OwnL sendV 2 w' b 40 v (CM.low L) ∧ Below W.heap.size W w' := by
  subst hn hb
  have h := lowest_any (some ⟨W.heap.size, 0, none⟩) 1 [(.slice A L.length c, L)] (by simp) (by simp; omega) (by rw [allLines_one]; omega) (by rw [allLines_one]; exact fun e => by rw [e] at h0; simp at h0) (by rw [allLines_one]; exact hm.ok) _ (curves_one hW 24)
  rw [allLines_one] at h
  refine h.mono ?_
  rintro e w' ⟨v, rfl, hO, hb⟩
  exact ⟨v, rfl, hO.base (by simp), below_step (below_new (Below.refl _ _) _) hb⟩
def OfEnd (p r u m : Int) (w : World) (e : Ending) (w' : World) : Prop := ∃ v, e = .returned (.tuple #[v, .int .i64 0]) ∧ OwnL sendV 2 w' w.heap.size 40 v (CM.low [(m, p), (u, r)]) ∧ Below w.heap.size w w'
set_option maxRecDepth 100000 in
set_option maxHeartbeats 4000000 in
theorem of_any (p r u m l : Int) (w : World) :
    (rightB p r u m l = true → Calls Try.prog 28 #[.agg #[.int .i64 p, .int .i64 r, .int .i64 u, .int .i64 m, .int .i64 l]] w (OfEnd p r u m w)) ∧
    (rightB p r u m l = false → Calls Try.prog 28 #[.agg #[.int .i64 p, .int .i64 r, .int .i64 u, .int .i64 m, .int .i64 l]] w fun e w' => e = .returned (.tuple #[.slice none 0 0, .int .i64 2]) ∧ Below w.heap.size w w') := by
  have cc := hidd (fun W => check_any p r u m l W)
  constructor
  · intro hr
    have cl := hidd (fun (b b' : Nat) (W : World) (hb : W.heap.size = b') (hW : Lie sendV 2 W W.heap.size (some ⟨b, 0, none⟩) [(m, p), (u, r)]) => low1_any (some ⟨b, 0, none⟩) [(m, p), (u, r)] 2 2 b' rfl W hb hW (by decide) (by decide) (may_spec hr))
    have hls := hidd (fun W b hb => lie_spec W b hb m p u r 40)
    rw [hr] at cc
    unfold OfEnd
    clear hr
    go_enter Try.func28, Try.ntmps28
    go_wp2_with fail
    refine (cc.out _).mono ?_
    rintro e w1 ⟨rfl, hb1⟩
    have Hs := (HasSpec.new w 54 p r u m l).step hb1
    have HB1 := hidd (below_step (below_new (Below.refl w.heap.size w) _) hb1)
    obtain ⟨sz, y0, y1, y2, y3, y4⟩ := Hs
    have ck := hidd (cl.out w1.heap.size (w1.heap.size + 1) _ (by simp) (hls.out w1 w1.heap.size rfl))
    clear hb1 cl
    go_wp2_with fail
    refine ck.out.mono ?_
    rintro e w2 ⟨v, rfl, hO, hb2⟩
    have HO := hidd hO
    have HB2 := hidd (below_step (below_new HB1.out _) hb2)
    have hsz := HB1.out.size
    obtain ⟨A2, c2, rfl, _, _, _⟩ := hO.lie sendV_len
    clear hO hb2
    go_wp2_with fail
    go_ret2
    exact ⟨_, rfl, HO.out.base (by first | omega | (simp; omega)), HB2.out⟩
  · intro hr
    rw [hr] at cc
    clear hr
    go_enter Try.func28, Try.ntmps28
    go_wp2_with fail
    refine (cc.out _).mono ?_
    rintro e w1 ⟨rfl, hb1⟩
    go_wp2_with fail
    go_ret2
    exact ⟨rfl, below_step (below_new (Below.refl w.heap.size w) _) hb1⟩
set_option maxRecDepth 100000 in
set_option maxHeartbeats 8000000 in
theorem specs_walk (p r u m l t : Int) (t0 : -9223372036854775808 ≤ t) (t1 : t ≤ 9223372036854775807) (w : World) :
    Calls Try.prog 8 #[.agg #[.int .i64 p, .int .i64 r, .int .i64 u, .int .i64 m, .int .i64 l], .int .i64 t] w fun e w' => e = .returned (.bool true) ∧ Below w.heap.size w w' := by
  have ck := hidd (fun W => known3_any W)
  have crr := hidd (fun W => right_any p r u m l W)
  by_cases hr : rightB p r u m l = true
  · have co := hidd (fun W => (of_any p r u m l W).1 hr)
    have hl2 : (CM.low [(m, p), (u, r)]).length ≤ 32 := Nat.le_trans (CM.low_len _) (by simp)
    have hrg := rgt_of_low (may_spec hr) (by simp) hl2
    have HRG := hidd hrg
    have cr := hidd (fun A c W (hW : Lie sendV 2 W W.heap.size A (CM.low [(m, p), (u, r)])) => right3_any A (CM.low [(m, p), (u, r)]) c (by omega) W hW)
    have cyes := hidd (fun A c hc hcm (ht : tickB t = true) W (hW : Lie sendV 2 W W.heap.size A (CM.low [(m, p), (u, r)])) => curveAt_yes A (CM.low [(m, p), (u, r)]) c t hc hcm W hW hrg ht)
    have cal := hidd (fun (k0 : 0 ≤ t) (k1 : t ≤ 2147483647) W => refAllows_any p r u m l t hr k0 k1 W)
    have hmn := hidd (fun x (k0 : 0 ≤ t) (h : CM.IsMin (CM.low [(m, p), (u, r)]) t 1 x) => min_spec (p := p) (r := r) (u := u) (m := m) ((CM.low_min k0 (by decide)).1 h))
    rw [hr] at crr
    unfold OfEnd at co
    unfold AtEnd at cyes
    clear hl2 hrg hr
    generalize CM.low [(m, p), (u, r)] = L at *
    by_cases ht : tickB t = true
    · obtain ⟨ht0, ht1⟩ : 0 ≤ t ∧ t ≤ 2147483647 := of_decide_eq_true ht
      have cy := hidd (fun A c hc hcm W hW => cyes.out A c hc hcm ht W hW)
      have ca := hidd (fun W => cal.out ht0 ht1 W)
      have hm2 := hidd (fun x h => hmn.out x ht0 h)
      clear cyes cal hmn ht t0 t1
      go_enter Try.func8, Try.ntmps8
      go_wp2_with fail
      refine (co.out _).mono ?_
      rintro e w1 ⟨v, rfl, hO, hb1⟩
      obtain ⟨A2, c2, rfl, hc0, hc1, hl2⟩ := hO.lie sendV_len
      have HC0 := hidd hc0
      have HC1 := hidd hc1
      have HL := hidd hl2
      have Hs1 := (HasSpec.new w 54 p r u m l).step hb1
      have HB1 := hidd (below_step (below_new (Below.refl w.heap.size w) _) hb1)
      obtain ⟨sz, y0, y1, y2, y3, y4⟩ := id Hs1
      have HS1 := hidd Hs1
      clear hO hl2 hb1 hc0 hc1 Hs1
      go_wp2_with fail
      refine (crr.out _).mono ?_
      rintro e w2 ⟨rfl, hb2⟩
      have HS2 := hidd (HS1.out.step hb2)
      have HB2 := hidd (below_step HB1.out hb2)
      have HL2 := hidd (HL.out.below hb2)
      clear hb2 sz y0 y1 y2 y3 y4
      go_wp2_with fail
      refine (cr.out _ c2 _ HL2.out).mono ?_
      rintro e w3 ⟨R, rfl, hR, hb3⟩
      obtain rfl : R = true := hR.2 HRG.out
      have HS3 := hidd (HS2.out.step hb3)
      have HB3 := hidd (below_step HB2.out hb3)
      have HL3 := hidd (HL2.out.below hb3)
      clear hb3 hR
      go_wp2_with fail
      refine (cy.out _ c2 HC0.out HC1.out _ HL3.out).mono ?_
      rintro e w4 ⟨x, rfl, hx, hb4⟩
      have hxe := hm2.out x hx
      subst hxe
      obtain ⟨sz, y0, y1, y2, y3, y4⟩ := HS3.out.step hb4
      have HB4 := hidd (below_step HB3.out hb4)
      clear hb4 hx
      go_wp2_with fail
      refine (ca.out _).mono ?_
      rintro e w5 ⟨rfl, hb5⟩
      have HB5 := hidd (below_step HB4.out hb5)
      clear hb5 sz y0 y1 y2 y3 y4
      go_wp2_with fail
      refine (ck.out _).mono ?_
      rintro e w6 ⟨rfl, hb6⟩
      go_wp2_with fail
      go_ret
      exact ⟨by simp, below_step HB5.out hb6⟩
    · have htt : ¬ (0 ≤ t ∧ t ≤ 2147483647) := fun h => ht (decide_eq_true h)
      have hsp : t < 0 ∨ (¬ t < 0 ∧ 2147483647 < t) := by omega
      clear cyes cal hmn ht t0 t1 htt
      rcases hsp with hs | ⟨hs1, hs2⟩
      all_goals
        go_enter Try.func8, Try.ntmps8
        go_wp2_with fail
        refine (co.out _).mono ?_
        rintro e w1 ⟨v, rfl, hO, hb1⟩
        obtain ⟨A2, c2, rfl, hc0, hc1, hl2⟩ := hO.lie sendV_len
        have HL := hidd hl2
        have Hs1 := (HasSpec.new w 54 p r u m l).step hb1
        have HB1 := hidd (below_step (below_new (Below.refl w.heap.size w) _) hb1)
        obtain ⟨sz, y0, y1, y2, y3, y4⟩ := id Hs1
        clear hO hl2 hb1 hc0 hc1 Hs1
        go_wp2_with fail
        refine (crr.out _).mono ?_
        rintro e w2 ⟨rfl, hb2⟩
        have HB2 := hidd (below_step HB1.out hb2)
        have HL2 := hidd (HL.out.below hb2)
        clear hb2 sz y0 y1 y2 y3 y4
        go_wp2_with fail
        refine (cr.out _ c2 _ HL2.out).mono ?_
        rintro e w3 ⟨R, rfl, hR, hb3⟩
        obtain rfl : R = true := hR.2 HRG.out
        have HB3 := hidd (below_step HB2.out hb3)
        have HL3 := hidd (HL2.out.below hb3)
        clear hb3 hR
        go_wp2_with fail
        refine (cr.out _ c2 _ HL3.out).mono ?_
        rintro e w4 ⟨R, rfl, hR, hb4⟩
        obtain rfl : R = true := hR.2 HRG.out
        have HB4 := hidd (below_step HB3.out hb4)
        clear hb4 hR
        go_wp2_with fail
        refine (ck.out _).mono ?_
        rintro e w6 ⟨rfl, hb6⟩
        go_wp2_with fail
        go_ret
        exact ⟨by first | rfl | simp, below_step HB4.out hb6⟩
  · have hrf : rightB p r u m l = false := by cases h : rightB p r u m l; rfl; exact absurd h hr
    have co := hidd (fun W => (of_any p r u m l W).2 hrf)
    have ct := hidd (fun (W : World) => told3_any none none [] [] 0 0 2 (by decide) (by decide) W Lie.nil Lie.nil)
    rw [hrf] at crr
    clear hr hrf
    go_enter Try.func8, Try.ntmps8
    go_wp2_with fail
    refine (co.out _).mono ?_
    rintro e w1 ⟨rfl, hb1⟩
    obtain ⟨sz, y0, y1, y2, y3, y4⟩ := (HasSpec.new w 54 p r u m l).step hb1
    have HB1 := hidd (below_step (below_new (Below.refl w.heap.size w) _) hb1)
    clear hb1
    go_wp2_with fail
    refine (crr.out _).mono ?_
    rintro e w2 ⟨rfl, hb2⟩
    have HB2 := hidd (below_step HB1.out hb2)
    clear hb2 sz y0 y1 y2 y3 y4
    go_wp2_with fail
    refine (ct.out _).mono ?_
    rintro e w3 ⟨rfl, q, rfl⟩
    go_wp2_with fail
    refine (ck.out _).mono ?_
    rintro e w4 ⟨rfl, hb4⟩
    go_wp2_with fail
    go_ret
    have h4 : Below w.heap.size w (w2.drewN q) := by have := HB2.out; (repeat' (first | (with_reducible exact Below.refl _ _) | (with_reducible assumption) | (with_reducible apply Below.setCell) | (with_reducible apply Below.alloc) | (with_reducible apply Below.drew) | (with_reducible apply below_drewN) | (with_reducible refine Below.trans ?_ (Below.mono (by assumption) ?_)) | omega | (simp; done) | (simp; omega)))
    exact ⟨by simp, below_step h4 hb4⟩
end Go.Proofs.Ytigfnbofpiomkaa
