/- The walk of CurveLater: a curve so many ticks later, at each time. -/
import Derived.Test.YtigfnbofpiomkaaCvX
import Derived.Test.YtigfnbofpiomkaaCvY
namespace Go.Proofs.Ytigfnbofpiomkaa
set_option linter.unusedVariables false
open Go.RowKit Go.Proofs.Ytigfnbofpiomkaa.RowK

/-- f is the last index of the least height among the first i lines. -/
def LeastAt (L : List (Int × Int)) (t : Int) (i f : Nat) : Prop := (f = 0 ∨ f < i) ∧ ∀ j, j < i → hgt L t f ≤ hgt L t j ∧ (f < j → hgt L t f < hgt L t j)
theorem least_zero {L : List (Int × Int)} {t : Int} : LeastAt L t 0 0 := ⟨.inl rfl, fun j hj => absurd hj (by omega)⟩
theorem least_yes {L : List (Int × Int)} {t : Int} {i f : Nat} (h : LeastAt L t i f) (hle : hgt L t i ≤ hgt L t f) : LeastAt L t (i + 1) i := by
  refine ⟨.inr (by omega), fun j hj => ⟨?_, fun hlt => absurd hlt (by omega)⟩⟩
  rcases Nat.lt_or_ge j i with h1 | h1
  · have := (h.2 j h1).1; omega
  · obtain rfl : j = i := by omega
    exact Int.le_refl _
theorem least_no {L : List (Int × Int)} {t : Int} {i f : Nat} (h : LeastAt L t i f) (hlt : hgt L t f < hgt L t i) : LeastAt L t (i + 1) f := by
  refine ⟨h.1.elim .inl (fun g => .inr (by omega)), fun j hj => ?_⟩
  rcases Nat.lt_or_ge j i with h1 | h1
  · exact h.2 j h1
  · obtain rfl : j = i := by omega
    exact ⟨by omega, fun _ => hlt⟩
def LongAt (L : List (Int × Int)) (t : Int) (f i : Nat) : Prop := ∃ j, f ≤ j ∧ j < i ∧ 1000000000 < hgt L t j
theorem long_step {L : List (Int × Int)} {t : Int} {f i : Nat} (hf : f ≤ i) : LongAt L t f (i + 1) ↔ LongAt L t f i ∨ 1000000000 < hgt L t i := by
  constructor
  · rintro ⟨j, h1, h2, h3⟩
    rcases Nat.lt_or_ge j i with h | h
    · exact .inl ⟨j, h1, h, h3⟩
    · obtain rfl : j = i := by omega
      exact .inr h3
  · rintro (⟨j, h1, h2, h3⟩ | h)
    · exact ⟨j, h1, by omega, h3⟩
    · exact ⟨i, hf, by omega, h⟩
theorem long_iff {L : List (Int × Int)} (hr : RgtC L) {t : Int} {f : Nat} (h : LeastAt L t L.length f) : LongAt L t f L.length ↔ ¬ boundP (laterL L t) := by
  have h0 := hr.1.1
  rw [bound_later hr]
  constructor
  · rintro ⟨j, h1, h2, h3⟩
    have hup : ∀ k, j + k < L.length → hgt L t j ≤ hgt L t (j + k) := by
      intro k
      induction k with
      | zero => intro _; exact Int.le_refl _
      | succ k ih =>
        intro hk
        have g1 := ih (by omega)
        have g2 := up_all hr.2.2.2 ((h.2 (f + 1) (by omega)).2 (by omega)) (j + k - f) (by omega)
        rw [show f + (j + k - f) = j + k by omega] at g2
        rw [show j + (k + 1) = j + k + 1 by omega]
        omega
    have := hup (L.length - 1 - j) (by omega)
    rw [show j + (L.length - 1 - j) = L.length - 1 by omega] at this
    omega
  · intro hn
    exact ⟨L.length - 1, by have := h.1; omega, by omega, by omega⟩

theorem long_ok {lg ok : Bool} {P Q : Prop} (h1 : lg = true ↔ P) (h2 : P ↔ ¬ Q) (h3 : ok = true ↔ Q) : lg = !ok := by
  cases lg <;> cases ok
  · exact absurd (h1.2 (h2.2 (fun h => absurd (h3.2 h) Bool.false_ne_true))) Bool.false_ne_true
  · rfl
  · rfl
  · exact absurd (h3.1 rfl) (h2.1 (h1.1 rfl))
theorem pair_new (w : World) (x y : Int) (t : TypeId) : (w.alloc (.cells #[.int .i64 x, .int .i64 y] t)).cell? ⟨w.heap.size, 0, none⟩ = some (.int .i64 x) ∧ (w.alloc (.cells #[.int .i64 x, .int .i64 y] t)).cell? ⟨w.heap.size, 1, none⟩ = some (.int .i64 y) ∧ (w.alloc (.cells #[.int .i64 x, .int .i64 y] t)).heap.size = w.heap.size + 1 ∧ Below w.heap.size w (w.alloc (.cells #[.int .i64 x, .int .i64 y] t)) :=
  ⟨by simp [go_sem], by simp [go_sem], by simp, below_new (Below.refl w.heap.size w) _⟩

set_option maxRecDepth 100000 in
set_option maxHeartbeats 8000000 in
theorem later3_walk (A : Option Addr) (L : List (Int × Int)) (c : Nat) (t n d : Int) (hc : L.length ≤ c) (hcm : c ≤ maxLen) (t0 : -9223372036854775808 ≤ t) (t1 : t ≤ 9223372036854775807) (w : World) (hA : Lie sendV 2 w w.heap.size A L) :
    Calls Try.prog 6 #[.slice A L.length c, .int .i64 t, .agg #[.int .i64 n, .int .i64 d]] w fun e w' => e = .returned (.bool true) ∧ Below w.heap.size w w' := by
  have ck := hidd (fun W => known3_any W)
  have hLm : L.length ≤ maxLen := Nat.le_trans hc hcm
  unfold maxLen at hLm
  have PN := hidd (pair_new w n d 46)
  by_cases h40 : 40 < L.length
  · have h40' : (40 : Int) < (L.length : Int) := by omega
    clear hA
    go_enter Try.func6, Try.ntmps6
    go_wp2_with fail
    refine (ck.out _).mono ?_
    rintro e w1 ⟨rfl, hb1⟩
    go_wp2_with fail
    go_ret
    exact ⟨rfl, below_step PN.out.2.2.2 hb1⟩
  have h40' : ¬ (40 : Int) < (L.length : Int) := by omega
  have hL6 : L.length ≤ 1000000 := by omega
  have HA := hidd hA
  have cr := hidd (fun W (hW : Lie sendV 2 W W.heap.size A L) => right3_any A L c hL6 W hW)
  have cno := hidd (fun W (hW : Lie sendV 2 W W.heap.size A L) => later_no A L c t hL6 W hW)
  have ct := hidd (fun (A' : Option Addr) (c' : Nat) (k : Int) (W : World) (hW : Lie sendV 2 W W.heap.size A' []) => told3_any A' none [] [] c' 0 k (by decide) (by decide) W hW Lie.nil)
  by_cases hrt : RgtC L ∧ tickB t = true
  case neg =>
    have cl := hidd (fun W hW => cno.out W hW hrt)
    unfold MakeEnd at cl
    by_cases hr : RgtC L
    · have HR := hidd hr
      have htt : ¬ (0 ≤ t ∧ t ≤ 2147483647) := fun h => hrt ⟨hr, decide_eq_true h⟩
      have hsp : t < 0 ∨ (¬ t < 0 ∧ 2147483647 < t) := by omega
      clear cno hr hrt htt hA
      rcases hsp with hs | ⟨hs1, hs2⟩
      all_goals
        go_enter Try.func6, Try.ntmps6
        go_wp2_with fail
        refine (cl.out _ (HA.out.below PN.out.2.2.2)).mono ?_
        rintro e w1 ⟨v1, rfl, hO, hb1⟩
        obtain ⟨A1, c1, rfl, _, _, hl1⟩ := hO.lie sendV_len
        have HL1 := hidd hl1
        have HA1 := hidd ((HA.out.below PN.out.2.2.2).below hb1)
        have HB1 := hidd (below_step PN.out.2.2.2 hb1)
        clear hO hb1 hl1
        go_wp2_with fail
        refine (cr.out _ HA1.out).mono ?_
        rintro e w2 ⟨R, rfl, hR, hb2⟩
        obtain rfl : R = true := hR.2 HR.out
        have HL2 := hidd (HL1.out.below hb2)
        have HB2 := hidd (below_step HB1.out hb2)
        clear hR hb2
        go_wp2_with fail
        refine (ct.out A1 c1 2 _ HL2.out).mono ?_
        rintro e w3 ⟨rfl, q, rfl⟩
        have HB3 := hidd (show Below w.heap.size w (w2.drewN q) by have := HB2.out; (repeat' (first | (with_reducible exact Below.refl _ _) | (with_reducible assumption) | (with_reducible apply Below.setCell) | (with_reducible apply Below.alloc) | (with_reducible apply Below.drew) | (with_reducible apply below_drewN) | (with_reducible refine Below.trans ?_ (Below.mono (by assumption) ?_)) | omega | (simp; done) | (simp; omega))))
        go_wp2_with fail
        refine (ck.out _).mono ?_
        rintro e w4 ⟨rfl, hb4⟩
        go_wp2_with fail
        go_ret
        exact ⟨by first | rfl | simp, below_step HB3.out hb4⟩
    · have HR := hidd hr
      clear cno hr hrt hA
      go_enter Try.func6, Try.ntmps6
      go_wp2_with fail
      refine (cl.out _ (HA.out.below PN.out.2.2.2)).mono ?_
      rintro e w1 ⟨v1, rfl, hO, hb1⟩
      obtain ⟨A1, c1, rfl, _, _, hl1⟩ := hO.lie sendV_len
      have HL1 := hidd hl1
      have HA1 := hidd ((HA.out.below PN.out.2.2.2).below hb1)
      have HB1 := hidd (below_step PN.out.2.2.2 hb1)
      clear hO hb1 hl1
      go_wp2_with fail
      refine (cr.out _ HA1.out).mono ?_
      rintro e w2 ⟨R, rfl, hR, hb2⟩
      obtain rfl : R = false := by cases R; rfl; exact absurd (hR.1 rfl) HR.out
      have HL2 := hidd (HL1.out.below hb2)
      have HB2 := hidd (below_step HB1.out hb2)
      clear hR hb2
      go_wp2_with fail
      refine (ct.out A1 c1 2 _ HL2.out).mono ?_
      rintro e w3 ⟨rfl, q, rfl⟩
      have HB3 := hidd (show Below w.heap.size w (w2.drewN q) by have := HB2.out; (repeat' (first | (with_reducible exact Below.refl _ _) | (with_reducible assumption) | (with_reducible apply Below.setCell) | (with_reducible apply Below.alloc) | (with_reducible apply Below.drew) | (with_reducible apply below_drewN) | (with_reducible refine Below.trans ?_ (Below.mono (by assumption) ?_)) | omega | (simp; done) | (simp; omega))))
      go_wp2_with fail
      refine (ck.out _).mono ?_
      rintro e w4 ⟨rfl, hb4⟩
      go_wp2_with fail
      go_ret
      exact ⟨by first | rfl | simp, below_step HB3.out hb4⟩
  obtain ⟨hr, ht⟩ := hrt
  have HR := hidd hr
  obtain ⟨ht0, ht1⟩ : 0 ≤ t ∧ t ≤ 2147483647 := of_decide_eq_true ht
  obtain ⟨ok, hok⟩ : ∃ ok : Bool, ok = true ↔ boundP (laterL L t) := by
    by_cases h : boundP (laterL L t)
    · exact ⟨true, ⟨fun _ => h, fun _ => rfl⟩⟩
    · exact ⟨false, ⟨fun g => absurd g Bool.false_ne_true, fun g => absurd g h⟩⟩
  have HOK := hidd hok
  have cl := hidd (fun W hW => later_yes ok A L c t hL6 W hW hr ht hok)
  have hbd : ∀ i, i < L.length → (0 ≤ SM.av L i ∧ SM.av L i ≤ 1000000000) ∧ 0 ≤ SM.sv L i * t ∧ SM.sv L i * t ≤ 2147483647000000000 := fun i hi => by
    have h := mayB_iff (hr.2.1 i hi)
    simp only at h
    have h2 := term_bd h.2.2.1 h.2.2.2 ht0 ht1
    omega
  have HBD := hidd hbd
  have h0 : 0 < L.length := hr.1.1
  have hlong := fun f (h : LeastAt L t L.length f) => long_iff hr h
  have HLONG := hidd hlong
  have cf := hidd (fun A' R c' n' (d0 : 1 ≤ d) (d1 : d ≤ 100) (hR : R.length ≤ 1000000 ∧ 0 < R.length ∧ MayAll R) (n0 : 0 ≤ n') (n1 : n' ≤ 2147483647) W hW => refAt_any A' R c' n' d hR.1 hR.2.1 hR.2.2 n0 n1 d0 d1 W hW)
  have hlm := fun (v : Int) (n0 : 0 ≤ n) (d0 : 0 ≤ d) => later_min (L := L) hr.2.2 (t := t) (n := n) (d := d) (v := v) ht0 n0 d0
  have HLM := hidd hlm
  have hlr := fun h => later_rgt (L := L) hr (t := t) ht0 h
  have HLR := hidd hlr
  obtain ⟨ad, rfl, hab, -, -⟩ := hA.send 0 h0
  have hab0 : ad.block < w.heap.size := by first | exact hab | (rw [block_of_add] at hab; exact hab)
  have hi00 : (0 : Int) < (L.length : Int) := by omega
  unfold MakeEnd at cl
  obtain ⟨RR, hRR⟩ : ∃ RR, (if ok = true then laterL L t else []) = RR := ⟨_, rfl⟩
  obtain ⟨no, hno⟩ : ∃ no : Int, (if ok = true then (0 : Int) else 3) = no := ⟨_, rfl⟩
  rw [hRR, hno] at cl
  have HRR := hidd hRR
  have HNO := hidd hno
  clear cno hr ht hok hbd hlong hlm hlr hA hRR hno hab
  go_enter Try.func6, Try.ntmps6
  go_wp2_with fail
  refine (cl.out _ (HA.out.below PN.out.2.2.2)).mono ?_
  rintro e w1 ⟨v1, rfl, hO, hb1⟩
  obtain ⟨A1, c1, rfl, _, _, hl1⟩ := hO.lie sendV_len
  have HL1 := hidd hl1
  have HA1 := hidd ((HA.out.below PN.out.2.2.2).below hb1)
  have HB1 := hidd (below_step PN.out.2.2.2 hb1)
  have hsz1 := PN.out.2.2.1
  have HP1 := hidd (show w1.cell? ⟨w.heap.size, 0, none⟩ = some (.int .i64 n) ∧ w1.cell? ⟨w.heap.size, 1, none⟩ = some (.int .i64 d) ∧ w.heap.size < w1.heap.size from
    ⟨(hb1.cell (p := ⟨w.heap.size, 0, none⟩) (by show w.heap.size < _; omega)).trans PN.out.1, (hb1.cell (p := ⟨w.heap.size, 1, none⟩) (by show w.heap.size < _; omega)).trans PN.out.2.1, by have := hb1.size; omega⟩)
  clear hO hb1 hl1 hsz1
  go_wp2_with fail
  refine (cr.out _ HA1.out).mono ?_
  rintro e w2 ⟨R, rfl, hR, hb2⟩
  obtain rfl : R = true := hR.2 HR.out
  have HL2 := hidd (HL1.out.below hb2)
  have HA2 := hidd (HA1.out.below hb2)
  have HB2 := hidd (below_step HB1.out hb2)
  have HP2 := hidd (show w2.cell? ⟨w.heap.size, 0, none⟩ = some (.int .i64 n) ∧ w2.cell? ⟨w.heap.size, 1, none⟩ = some (.int .i64 d) ∧ w.heap.size < w2.heap.size from
    ⟨(hb2.cell (p := ⟨w.heap.size, 0, none⟩) HP1.out.2.2).trans HP1.out.1, (hb2.cell (p := ⟨w.heap.size, 1, none⟩) HP1.out.2.2).trans HP1.out.2.1, by have := hb2.size; have := HP1.out.2.2; omega⟩)
  clear hR hb2
  go_wp2_with fail
  go_loopg [10, 11] (L.length + 1) (fun g s10 s11 wr => ∃ (i f : Nat), i ≤ L.length ∧ i + g = L.length + 1 ∧ s11 = .int .i64 (i : Int) ∧ s10 = .int .i64 (f : Int) ∧ LeastAt L t i f ∧ Below w2.heap.size w2 wr)
  case atStart => exact ⟨0, 0, by omega, by omega, by first | rfl | simp, by first | rfl | simp, least_zero, Below.refl _ _⟩
  case round =>
    obtain ⟨i, f, hi, hk, rfl, rfl, hL, hB⟩ := hrel
    have HK := hidd hk
    have HLE := hidd hL
    have HB := hidd hB
    clear hk hL hB
    by_cases hlt : i < L.length
    · have hfl : f < L.length := by have := HLE.out.1; omega
      obtain ⟨ad', e', hb', y0, y1⟩ := ((HA2.out.below HB.out)).send i hlt
      obtain rfl : ad = ad' := by injection e'
      obtain ⟨ad', e'', hb'', z0, z1⟩ := ((HA2.out.below HB.out)).send f hfl
      obtain rfl : ad = ad' := by injection e''
      rw [(av_at hlt).1] at y0
      rw [(av_at hlt).2] at y1
      rw [(av_at hfl).1] at z0
      rw [(av_at hfl).2] at z1
      obtain ⟨⟨p0, p1⟩, p2, p3⟩ := HBD.out i hlt
      obtain ⟨⟨q0, q1⟩, q2, q3⟩ := HBD.out f hfl
      have hin2 : (i : Int) < (L.length : Int) := by omega
      have hi0 : (0 : Int) ≤ (i : Int) := by omega
      have hfn2 : (f : Int) < (L.length : Int) := by omega
      have hf0 : (0 : Int) ≤ (f : Int) := by omega
      have hj : IntKind.i64.wrap ((i : Int) + 1) = (i : Int) + 1 := IntWalk.i64_in _ (by omega)
      have g1 := wrap_both (x := SM.sv L i * t) (by omega) (by omega)
      have g2 := wrap_both (x := SM.sv L f * t) (by omega) (by omega)
      obtain ⟨b0, hb0⟩ : ∃ b0, SM.av L i = b0 := ⟨_, rfl⟩
      obtain ⟨b1, hb1⟩ : ∃ b1, SM.sv L i = b1 := ⟨_, rfl⟩
      obtain ⟨d0, hd0⟩ : ∃ d0, SM.av L f = d0 := ⟨_, rfl⟩
      obtain ⟨d1, hd1⟩ : ∃ d1, SM.sv L f = d1 := ⟨_, rfl⟩
      rw [hb0] at y0 p0 p1
      rw [hb1] at y1 p2 p3 g1
      rw [hd0] at z0 q0 q1
      rw [hd1] at z1 q2 q3 g2
      have hyes := fun (h : b0 + b1 * t ≤ d0 + d1 * t) => least_yes HLE.out (by unfold hgt; rw [hb0, hb1, hd0, hd1]; exact h)
      have hnot := fun (h : d0 + d1 * t < b0 + b1 * t) => least_no HLE.out (by unfold hgt; rw [hb0, hb1, hd0, hd1]; exact h)
      clear hb0 hb1 hd0 hd1
      obtain ⟨U, hU⟩ : ∃ U, b1 * t = U := ⟨_, rfl⟩
      obtain ⟨V, hV⟩ : ∃ V, d1 * t = V := ⟨_, rfl⟩
      rw [hU] at p2 p3 hyes hnot
      rw [hV] at q2 q3 hyes hnot
      have h3 : IntKind.i64.wrap (b1 * t) = U := g1.1.trans hU
      have h4 : wrap64 (b1 * t) = U := g1.2.trans hU
      have h5 : IntKind.i64.wrap (d1 * t) = V := g2.1.trans hV
      have h6 : wrap64 (d1 * t) = V := g2.2.trans hV
      have h7 : IntKind.i64.wrap (b0 + U) = b0 + U := IntWalk.i64_in _ (by omega)
      have h8 : IntKind.i64.wrap (d0 + V) = d0 + V := IntWalk.i64_in _ (by omega)
      have HY := hidd hyes
      have HN := hidd hnot
      clear e' e'' hb' hb'' g1 g2 hU hV hyes hnot
      by_cases hle : b0 + U ≤ d0 + V
      · have hst := HY.out hle
        have HST := hidd hst
        clear hst
        go_wp2_with fail
        go_quiet (fail)
        go_wp2_with fail
        have hk := HK.out
        go_roundg (gk - 1)
        case measure => omega
        case rel => exact ⟨i + 1, i, by omega, by omega, by go_num, by first | rfl | simp, HST.out, by have := HB.out; (repeat' (first | (with_reducible exact Below.refl _ _) | (with_reducible assumption) | (with_reducible apply Below.setCell) | (with_reducible apply Below.alloc) | (with_reducible apply Below.drew) | (with_reducible apply below_drewN) | (with_reducible refine Below.trans ?_ (Below.mono (by assumption) ?_)) | omega | (simp; done) | (simp; omega)))⟩
      · have hst := HN.out (by omega)
        have HST := hidd hst
        clear hst
        go_wp2_with fail
        go_quiet (fail)
        go_wp2_with fail
        have hk := HK.out
        go_roundg (gk - 1)
        case measure => omega
        case rel => exact ⟨i + 1, f, by omega, by omega, by go_num, by first | rfl | simp, HST.out, by have := HB.out; (repeat' (first | (with_reducible exact Below.refl _ _) | (with_reducible assumption) | (with_reducible apply Below.setCell) | (with_reducible apply Below.alloc) | (with_reducible apply Below.drew) | (with_reducible apply below_drewN) | (with_reducible refine Below.trans ?_ (Below.mono (by assumption) ?_)) | omega | (simp; done) | (simp; omega)))⟩
    · obtain rfl : i = L.length := by omega
      have hfl : f ≤ L.length := by have := HLE.out.1; omega
      have HA3 := hidd (HA2.out.below HB.out)
      have hlg := HLONG.out f HLE.out
      have HLG := hidd hlg
      clear hlg
      go_wp2_with fail
      go_loopg [9, 12] (L.length + 1 - f) (fun g s9 s12 wr => ∃ (i : Nat) (lg : Bool), (f ≤ i ∧ i ≤ L.length) ∧ i + g = L.length + 1 ∧ s12 = .int .i64 (i : Int) ∧ s9 = .bool lg ∧ (lg = true ↔ LongAt L t f i) ∧ Below w2.heap.size w2 wr)
      case atStart => exact ⟨f, false, by omega, by omega, by first | rfl | simp, by first | rfl | simp, ⟨fun h => absurd h Bool.false_ne_true, fun ⟨j, h1, h2, _⟩ => absurd h2 (by omega)⟩, by have := HB.out; (repeat' (first | (with_reducible exact Below.refl _ _) | (with_reducible assumption) | (with_reducible apply Below.setCell) | (with_reducible apply Below.alloc) | (with_reducible apply Below.drew) | (with_reducible apply below_drewN) | (with_reducible refine Below.trans ?_ (Below.mono (by assumption) ?_)) | omega | (simp; done) | (simp; omega)))⟩
      case round =>
        obtain ⟨i, lg, ⟨hi1, hi2⟩, hk, rfl, rfl, hL, hBq⟩ := hrel
        have HKq := hidd hk
        have HLq := hidd hL
        have HBq := hidd hBq
        clear hk hL hBq
        by_cases hlt : i < L.length
        · obtain ⟨ad', e', hb', y0, y1⟩ := ((HA2.out.below HBq.out)).send i hlt
          obtain rfl : ad = ad' := by injection e'
          rw [(av_at hlt).1] at y0
          rw [(av_at hlt).2] at y1
          obtain ⟨⟨p0, p1⟩, p2, p3⟩ := HBD.out i hlt
          have hin2 : (i : Int) < (L.length : Int) := by omega
          have hi0 : (0 : Int) ≤ (i : Int) := by omega
          have hj : IntKind.i64.wrap ((i : Int) + 1) = (i : Int) + 1 := IntWalk.i64_in _ (by omega)
          have g1 := wrap_both (x := SM.sv L i * t) (by omega) (by omega)
          have hst := long_step (L := L) (t := t) (show f ≤ i from hi1)
          rw [show hgt L t i = SM.av L i + SM.sv L i * t from rfl] at hst
          obtain ⟨b0, hb0⟩ : ∃ b0, SM.av L i = b0 := ⟨_, rfl⟩
          obtain ⟨b1, hb1⟩ : ∃ b1, SM.sv L i = b1 := ⟨_, rfl⟩
          rw [hb0] at y0 p0 p1 hst
          rw [hb1] at y1 p2 p3 g1 hst
          clear hb0 hb1
          obtain ⟨U, hU⟩ : ∃ U, b1 * t = U := ⟨_, rfl⟩
          rw [hU] at p2 p3 hst
          have h3 : IntKind.i64.wrap (b1 * t) = U := g1.1.trans hU
          have h4 : wrap64 (b1 * t) = U := g1.2.trans hU
          have h7 : IntKind.i64.wrap (b0 + U) = b0 + U := IntWalk.i64_in _ (by omega)
          have HST := hidd hst
          clear e' hb' g1 hU hst
          cases lg
          case true =>
            have hst2 : LongAt L t f (i + 1) := HST.out.2 (.inl (HLq.out.1 rfl))
            have HST2 := hidd hst2
            clear hst2 y0 y1
            go_wp2_with fail
            go_quiet (fail)
            go_wp2_with fail
            have hk := HKq.out
            go_roundg (gk - 1)
            case measure => omega
            case rel => exact ⟨i + 1, true, by omega, by omega, by go_num, by first | rfl | simp, ⟨fun _ => HST2.out, fun _ => rfl⟩, by have := HBq.out; (repeat' (first | (with_reducible exact Below.refl _ _) | (with_reducible assumption) | (with_reducible apply Below.setCell) | (with_reducible apply Below.alloc) | (with_reducible apply Below.drew) | (with_reducible apply below_drewN) | (with_reducible refine Below.trans ?_ (Below.mono (by assumption) ?_)) | omega | (simp; done) | (simp; omega)))⟩
          case false =>
            have hno : ¬ LongAt L t f i := fun h => absurd (HLq.out.2 h) Bool.false_ne_true
            by_cases hgg : 1000000000 < b0 + U
            · have hst2 : LongAt L t f (i + 1) := HST.out.2 (.inr hgg)
              have HST2 := hidd hst2
              clear hst2 hno
              go_wp2_with fail
              go_quiet (fail)
              go_wp2_with fail
              have hk := HKq.out
              go_roundg (gk - 1)
              case measure => omega
              case rel => exact ⟨i + 1, true, by omega, by omega, by go_num, by first | rfl | simp, ⟨fun _ => HST2.out, fun _ => rfl⟩, by have := HBq.out; (repeat' (first | (with_reducible exact Below.refl _ _) | (with_reducible assumption) | (with_reducible apply Below.setCell) | (with_reducible apply Below.alloc) | (with_reducible apply Below.drew) | (with_reducible apply below_drewN) | (with_reducible refine Below.trans ?_ (Below.mono (by assumption) ?_)) | omega | (simp; done) | (simp; omega)))⟩
            · have hst2 : false = true ↔ LongAt L t f (i + 1) := ⟨fun h => absurd h Bool.false_ne_true, fun h => (HST.out.1 h).elim (fun g => absurd g hno) (fun g => absurd g hgg)⟩
              have HST2 := hidd hst2
              clear hst2 hno
              go_wp2_with fail
              go_quiet (fail)
              go_wp2_with fail
              have hk := HKq.out
              go_roundg (gk - 1)
              case measure => omega
              case rel => exact ⟨i + 1, false, by omega, by omega, by go_num, by first | rfl | (simp; omega), HST2.out, by have := HBq.out; (repeat' (first | (with_reducible exact Below.refl _ _) | (with_reducible assumption) | (with_reducible apply Below.setCell) | (with_reducible apply Below.alloc) | (with_reducible apply Below.drew) | (with_reducible apply below_drewN) | (with_reducible refine Below.trans ?_ (Below.mono (by assumption) ?_)) | omega | (simp; done) | (simp; omega)))⟩
        · obtain rfl : i = L.length := by omega
          have hlgok : lg = !ok := long_ok HLq.out HLG.out HOK.out
          subst hlgok
          have HL3 := hidd (HL2.out.below HBq.out)
          have HAq := hidd (HA2.out.below HBq.out)
          have HB3 := hidd (below_step HB2.out HBq.out)
          have HP3 := hidd (show wr.cell? ⟨w.heap.size, 0, none⟩ = some (.int .i64 n) ∧ wr.cell? ⟨w.heap.size, 1, none⟩ = some (.int .i64 d) ∧ w.heap.size < wr.heap.size from
            ⟨(HBq.out.cell (p := ⟨w.heap.size, 0, none⟩) HP2.out.2.2).trans HP2.out.1, (HBq.out.cell (p := ⟨w.heap.size, 1, none⟩) HP2.out.2.2).trans HP2.out.2.1, by have := HBq.out.size; have := HP2.out.2.2; omega⟩)
          cases ok
          case false =>
            obtain rfl : [] = RR := by have := HRR.out; simpa using this
            obtain rfl : 3 = no := by have := HNO.out; simpa using this
            go_wp2_with fail
            refine (ct.out A1 c1 3 _ HL3.out).mono ?_
            rintro e w4 ⟨rfl, q, rfl⟩
            have HB4 := hidd (show Below w.heap.size w (wr.drewN q) by have := HB3.out; (repeat' (first | (with_reducible exact Below.refl _ _) | (with_reducible assumption) | (with_reducible apply Below.setCell) | (with_reducible apply Below.alloc) | (with_reducible apply Below.drew) | (with_reducible apply below_drewN) | (with_reducible refine Below.trans ?_ (Below.mono (by assumption) ?_)) | omega | (simp; done) | (simp; omega))))
            go_wp2_with fail
            refine (ck.out _).mono ?_
            rintro e w5 ⟨rfl, hb5⟩
            go_wp2_with fail
            go_ret
            exact ⟨by first | rfl | simp, below_step HB4.out hb5⟩
          case true =>
            obtain rfl : laterL L t = RR := by have := HRR.out; simpa using this
            obtain rfl : 0 = no := by have := HNO.out; simpa using this
            have hRZ := HLR.out (HOK.out.1 rfl)
            have HRZ := hidd hRZ
            have hZ6 : (laterL L t).length ≤ 1000000 := by have := hRZ.1; omega
            have cr2 := hidd (fun W hW => right3_any A1 (laterL L t) c1 hZ6 W hW)
            have cfz := hidd (fun d0 d1 n0 n1 W hW => cf.out A1 (laterL L t) c1 n d0 d1 ⟨hZ6, hRZ.1.1, hRZ.2.1⟩ n0 n1 W hW)
            have cfl := hidd (fun d0 d1 n0 n1 W hW => cf.out (some ad) L c (n + t * d) d0 d1 ⟨hL6, h0, HR.out.2.1⟩ n0 n1 W hW)
            clear hRZ hZ6 cf HLR HRR HNO HOK HLONG HLG HLq cl ct HBD cr
            generalize laterL L t = Z at *
            obtain ⟨k0, k1, k2⟩ := HP3.out
            by_cases hall : (0 ≤ n ∧ n ≤ 1000000) ∧ (1 ≤ d ∧ d ≤ 100) ∧ t ≤ 1000000
            case neg =>
              have hs : n < 0 ∨ (¬ n < 0 ∧ 1000000 < n) ∨ (¬ n < 0 ∧ ¬ 1000000 < n ∧ d < 1) ∨ (¬ n < 0 ∧ ¬ 1000000 < n ∧ ¬ d < 1 ∧ 100 < d) ∨ (¬ n < 0 ∧ ¬ 1000000 < n ∧ ¬ d < 1 ∧ ¬ 100 < d ∧ 1000000 < t) := by omega
              clear hall cfz cfl
              rcases hs with s1 | ⟨s1, s2⟩ | ⟨s1, s2, s3⟩ | ⟨s1, s2, s3, s4⟩ | ⟨s1, s2, s3, s4, s5⟩
              all_goals
                go_wp2_with fail
                go_quiet (fail)
                go_wp2_with fail
                refine (cr2.out _ (by first | exact HL3.out | exact HL3.out.below (Below.drew (Below.refl _ _)) | exact HL3.out.below (by (repeat' (first | (with_reducible exact Below.refl _ _) | (with_reducible assumption) | (with_reducible apply Below.setCell) | (with_reducible apply Below.alloc) | (with_reducible apply Below.drew) | (with_reducible apply below_drewN) | (with_reducible refine Below.trans ?_ (Below.mono (by assumption) ?_)) | omega | (simp; done) | (simp; omega)))))).mono ?_
                rintro e w4 ⟨R, rfl, hR, hb4⟩
                obtain rfl : R = true := hR.2 HRZ.out
                have HB4 := hidd (below_step (show Below w.heap.size w _ by have := HB3.out; (repeat' (first | (with_reducible exact Below.refl _ _) | (with_reducible assumption) | (with_reducible apply Below.setCell) | (with_reducible apply Below.alloc) | (with_reducible apply Below.drew) | (with_reducible apply below_drewN) | (with_reducible refine Below.trans ?_ (Below.mono (by assumption) ?_)) | omega | (simp; done) | (simp; omega)))) hb4)
                have HL4 := hidd ((show Lie sendV 2 _ _ A1 Z by first | exact HL3.out | exact HL3.out.below (Below.drew (Below.refl _ _)) | exact HL3.out.below (by (repeat' (first | (with_reducible exact Below.refl _ _) | (with_reducible assumption) | (with_reducible apply Below.setCell) | (with_reducible apply Below.alloc) | (with_reducible apply Below.drew) | (with_reducible apply below_drewN) | (with_reducible refine Below.trans ?_ (Below.mono (by assumption) ?_)) | omega | (simp; done) | (simp; omega))))).below hb4)
                clear hR hb4
                go_wp2_with fail
                refine (cr2.out _ HL4.out).mono ?_
                rintro e w5 ⟨R, rfl, hR, hb5⟩
                obtain rfl : R = true := hR.2 HRZ.out
                have HB5 := hidd (below_step HB4.out hb5)
                clear hR hb5
                go_wp2_with fail
                refine (ck.out _).mono ?_
                rintro e w6 ⟨rfl, hb6⟩
                go_wp2_with fail
                go_ret
                exact ⟨by first | rfl | simp, below_step HB5.out hb6⟩
            case pos =>
              obtain ⟨⟨n0, n1⟩, ⟨d0, d1⟩, t2⟩ := hall
              have pp0 : 0 ≤ t * d := Int.mul_nonneg ht0 (by omega)
              have pp1 : t * d ≤ 1000000 * 100 := Int.mul_le_mul t2 d1 (by omega) (by decide)
              have g1 := wrap_both (x := t * d) (by omega) (by omega)
              have hlm := fun v => HLM.out v n0 (by omega)
              have ca := hidd (cfz.out d0 d1 n0 (by omega))
              have cb := hidd (cfl.out d0 d1 (by omega) (by omega))
              clear cfz cfl HLM
              obtain ⟨P, hP⟩ : ∃ P, t * d = P := ⟨_, rfl⟩
              rw [hP] at pp0 pp1 cb
              have hlm2 : ∀ v, CM.IsMin Z n d v ↔ CM.IsMin L (n + P) d v := fun v => by rw [← hP]; exact hlm v
              have HLM := hidd hlm2
              have h3 : IntKind.i64.wrap (t * d) = P := g1.1.trans hP
              have h4 : wrap64 (t * d) = P := g1.2.trans hP
              have h5 : IntKind.i64.wrap (n + P) = n + P := IntWalk.i64_in _ (by omega)
              clear hlm hlm2 g1 hP
              unfold RefAtEnd at ca cb
              go_wp2_with fail
              go_quiet (fail)
              go_wp2_with fail
              refine (cr2.out _ (by first | exact HL3.out | exact HL3.out.below (Below.drew (Below.refl _ _)) | exact HL3.out.below (by (repeat' (first | (with_reducible exact Below.refl _ _) | (with_reducible assumption) | (with_reducible apply Below.setCell) | (with_reducible apply Below.alloc) | (with_reducible apply Below.drew) | (with_reducible apply below_drewN) | (with_reducible refine Below.trans ?_ (Below.mono (by assumption) ?_)) | omega | (simp; done) | (simp; omega)))))).mono ?_
              rintro e w4 ⟨R, rfl, hR, hb4⟩
              obtain rfl : R = true := hR.2 HRZ.out
              have HB4 := hidd (below_step (show Below w.heap.size w _ by have := HB3.out; (repeat' (first | (with_reducible exact Below.refl _ _) | (with_reducible assumption) | (with_reducible apply Below.setCell) | (with_reducible apply Below.alloc) | (with_reducible apply Below.drew) | (with_reducible apply below_drewN) | (with_reducible refine Below.trans ?_ (Below.mono (by assumption) ?_)) | omega | (simp; done) | (simp; omega)))) hb4)
              have HL4 := hidd ((show Lie sendV 2 _ _ A1 Z by first | exact HL3.out | exact HL3.out.below (Below.drew (Below.refl _ _)) | exact HL3.out.below (by (repeat' (first | (with_reducible exact Below.refl _ _) | (with_reducible assumption) | (with_reducible apply Below.setCell) | (with_reducible apply Below.alloc) | (with_reducible apply Below.drew) | (with_reducible apply below_drewN) | (with_reducible refine Below.trans ?_ (Below.mono (by assumption) ?_)) | omega | (simp; done) | (simp; omega))))).below hb4)
              have HA4 := hidd ((show Lie sendV 2 _ _ (some ad) L by first | exact HAq.out | exact HAq.out.below (Below.drew (Below.refl _ _)) | exact HAq.out.below (by (repeat' (first | (with_reducible exact Below.refl _ _) | (with_reducible assumption) | (with_reducible apply Below.setCell) | (with_reducible apply Below.alloc) | (with_reducible apply Below.drew) | (with_reducible apply below_drewN) | (with_reducible refine Below.trans ?_ (Below.mono (by assumption) ?_)) | omega | (simp; done) | (simp; omega))))).below hb4)
              clear hR hb4
              go_wp2_with fail
              refine (ca.out _ HL4.out).mono ?_
              rintro e w5 ⟨x, rfl, hx, hb5⟩
              have HX := hidd ((HLM.out x).1 hx)
              have HB5 := hidd (below_step HB4.out hb5)
              have HA5 := hidd (HA4.out.below hb5)
              clear hx hb5
              go_wp2_with fail
              refine (cb.out _ HA5.out).mono ?_
              rintro e w6 ⟨x', rfl, hx', hb6⟩
              obtain rfl : x = x' := HX.out.same hx'
              have HB6 := hidd (below_step HB5.out hb6)
              clear hx' hb6
              go_wp2_with fail
              refine (ck.out _).mono ?_
              rintro e w7 ⟨rfl, hb7⟩
              go_wp2_with fail
              go_ret
              exact ⟨by simp, below_step HB6.out hb7⟩
end Go.Proofs.Ytigfnbofpiomkaa
