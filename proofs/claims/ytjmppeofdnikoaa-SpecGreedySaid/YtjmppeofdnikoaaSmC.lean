/- What two send that keep to theirs is within the sum, and one Most more. The walk of SpecSums. -/
import Derived.Test.YtjmppeofdnikoaaSmB
namespace Go.Proofs.Ytjmppeofdnikoaa
set_option linter.unusedVariables false
open Go.RowKit RowK

theorem noneB_two (a b : Spc) : noneB [a, b] = !(rightS a && rightS b) := by
  simp [noneB, allRight]
/-- what the sum of two is. -/
def SumOf (a b s : Spc) : Prop :=
  rightS a = true ∧ rightS b = true ∧ rightS s = true ∧ s.1 = a.1 + b.1 ∧ s.2.1 = a.2.1 + b.2.1 ∧ s.2.2.1 = a.2.2.1 + b.2.2.1 ∧ a.2.2.2.1 ≤ s.2.2.2.1 ∧ b.2.2.2.1 ≤ s.2.2.2.1
theorem sum_two (a b : Spc) : ∃ s e, sumR [a, b] = (s, e) ∧ (e = 2 ∨ e = 3 ∨ (e = 0 ∧ SumOf a b s)) := by
  by_cases hn : noneB [a, b] = true
  · exact ⟨z5, 2, by unfold sumR; rw [if_pos hn], .inl rfl⟩
  · have h1 : (rightS a && rightS b) = true := by rw [noneB_two] at hn; simpa using hn
    obtain ⟨ha, hb⟩ : rightS a = true ∧ rightS b = true := by simpa using h1
    have hs : sumR [a, b] = if (sumV a b).1 > 1000000 ∨ (sumV a b).2.2.1 > 10000000 then (z5, 3) else (sumV a b, 0) := by unfold sumR; rw [if_neg hn]; rfl
    have qa := rightS_iff ha
    have qb := rightS_iff hb
    have w1 : wrap64 (a.1 + b.1) = a.1 + b.1 := by unfold wrap64; omega
    have w2 : wrap64 (a.2.1 + b.2.1) = a.2.1 + b.2.1 := by unfold wrap64; omega
    have w3 : wrap64 (a.2.2.1 + b.2.2.1) = a.2.2.1 + b.2.2.1 := by unfold wrap64; omega
    have f1 : (sumV a b).1 = a.1 + b.1 := w1
    have f2 : (sumV a b).2.1 = a.2.1 + b.2.1 := w2
    have f3 : (sumV a b).2.2.1 = a.2.2.1 + b.2.2.1 := w3
    have f4 : (sumV a b).2.2.2.1 = max a.2.2.2.1 b.2.2.2.1 := mx_eq _ _
    have f5 : (sumV a b).2.2.2.2 = min a.2.2.2.2 b.2.2.2.2 := mn_eq _ _
    by_cases hbig : (sumV a b).1 > 1000000 ∨ (sumV a b).2.2.1 > 10000000
    · exact ⟨z5, 3, by rw [hs, if_pos hbig], .inr (.inl rfl)⟩
    · refine ⟨sumV a b, 0, by rw [hs, if_neg hbig], .inr (.inr ⟨rfl, ha, hb, ?_, f1, f2, f3, by rw [f4]; omega, by rw [f4]; omega⟩)⟩
      refine decide_eq_true ?_
      rw [f1, f3] at hbig
      rw [f1, f2, f3, f4, f5]
      omega
theorem keepsS_run {a : Spc} (ha : rightS a = true) {L : List (Int × Int)} (h : keepsS a L = true) : SM.KP (SM.av L) (SM.sv L) a.1 a.2.1 a.2.2.1 a.2.2.2.1 a.2.2.2.2 L.length := by
  have h1 := rightS_iff ha
  have h3 : fb0 a.1 a.2.1 a.2.2.1 a.2.2.2.1 a.2.2.2.2 L = L.length := by simpa [keepsS] using h
  exact (SM.fb_all (by omega) (by omega) L).1 h3
theorem keepsS_sizes {a : Spc} (ha : rightS a = true) {L : List (Int × Int)} (h : keepsS a L = true) : ∀ i, i < L.length → 0 ≤ SM.sv L i ∧ SM.sv L i ≤ 2000 := fun i hi => by
  have h1 := rightS_iff ha
  have h2 := (keepsS_run ha h).1 i hi
  have := h2.2.2.1
  have := h2.2.2.2.1
  omega
theorem keepsS_ticks {a : Spc} (ha : rightS a = true) {L : List (Int × Int)} (h : keepsS a L = true) : ∀ i, i < L.length → 0 ≤ SM.av L i ∧ SM.av L i ≤ 2147483647 := fun i hi => by
  have h2 := (keepsS_run ha h).1 i hi
  exact ⟨h2.1, h2.2.1⟩
theorem tickV_bd {a b : Spc} (ha : rightS a = true) (hb : rightS b = true) {X Y : List (Int × Int)} (hx : keepsS a X = true) (hy : keepsS b Y = true) (i : Nat) (hi : i < X.length + Y.length) : 0 ≤ tickV X Y i ∧ tickV X Y i ≤ 2147483647 := by
  unfold tickV
  split
  · exact keepsS_ticks ha hx i (by assumption)
  · exact keepsS_ticks hb hy (i - X.length) (by omega)
theorem sums_most {a b s : Spc} (hs : SumOf a b s) {X Y : List (Int × Int)} (hx : keepsS a X = true) (hy : keepsS b Y = true) (lx : X.length ≤ 20) (ly : Y.length ≤ 20) (f t : Int) (ht : f ≤ t) :
    (0 ≤ sentV X f t X.length ∧ sentV X f t X.length ≤ 40000) ∧ (0 ≤ sentV Y f t Y.length ∧ sentV Y f t Y.length ≤ 40000) ∧
    sentV X f t X.length + sentV Y f t Y.length ≤ allowsV s.1 s.2.1 s.2.2.1 s.2.2.2.1 (t - f) + s.2.2.2.1 := by
  obtain ⟨ha, hb, h0, h1, h2, h3, h4, h5⟩ := hs
  have qa := rightS_iff ha
  have qb := rightS_iff hb
  have bx := SM.sentN_bd (a := SM.av X) (f := f) (t := t) (keepsS_sizes ha hx) X.length (Nat.le_refl _)
  have by' := SM.sentN_bd (a := SM.av Y) (f := f) (t := t) (keepsS_sizes hb hy) Y.length (Nat.le_refl _)
  refine ⟨⟨bx.1, by unfold sentV; omega⟩, ⟨by'.1, by unfold sentV; omega⟩, ?_⟩
  have k1 := SM.sentN_le (keepsS_run ha hx) (by omega) (by omega) (by omega) (by omega) (by omega) ht
  have k2 := SM.sentN_le (keepsS_run hb hy) (by omega) (by omega) (by omega) (by omega) (by omega) ht
  have k3 := SM.sums_le k1 k2 h4 h5 (by omega)
  rw [h1, h2, h3]
  exact k3

set_option maxRecDepth 100000 in
set_option maxHeartbeats 8000000 in
theorem sums_walk (a0 a1 a2 a3 a4 b0 b1 b2 b3 b4 : Int) (A : Option Addr) (X : List (Int × Int)) (c : Nat) (B : Option Addr) (Y : List (Int × Int)) (d : Nat) (hX : X.length ≤ maxLen) (hY : Y.length ≤ maxLen) (w : World) (lX : Lie sendV 2 w w.heap.size A X) (lY : Lie sendV 2 w w.heap.size B Y) :
    Calls Try.prog 3 #[.agg #[.int .i64 a0, .int .i64 a1, .int .i64 a2, .int .i64 a3, .int .i64 a4], .agg #[.int .i64 b0, .int .i64 b1, .int .i64 b2, .int .i64 b3, .int .i64 b4], .agg #[.slice A X.length c, .slice B Y.length d]] w fun e w' => e = .returned (.bool true) ∧ Below w.heap.size w w' := by
  unfold maxLen at hX hY
  have HX := hidd lX
  have HY := hidd lY
  have ck := hidd (fun W => known_any W)
  clear lX lY
  by_cases hx20 : 20 < X.length
  · have g1 : decide ((20 : Int) < (X.length : Int)) = true := decide_eq_true (by omega)
    have g2 : (20 : Int) < (X.length : Int) := by omega
    go_enter Try.func3, Try.ntmps3
    go_wp2_with fail
    go_quiet (fail)
    go_wp2_with fail
    refine (ck.out _).mono ?_
    rintro e w1 ⟨rfl, hb1⟩
    go_wp2_with fail
    go_ret
    exact ⟨rfl, by (repeat' (first | (with_reducible exact Below.refl _ _) | (with_reducible assumption) | (with_reducible apply Below.setCell) | (with_reducible apply Below.alloc) | (with_reducible apply Below.drew) | (with_reducible apply below_drewN) | (with_reducible refine Below.trans ?_ (Below.mono (by assumption) ?_)) | omega | (simp; done) | (simp; omega)))⟩
  · have g0 : (X.length : Int) ≤ 20 := by omega
    by_cases hy20 : 20 < Y.length
    · have g1 : decide ((20 : Int) < (Y.length : Int)) = true := decide_eq_true (by omega)
      have g2 : (20 : Int) < (Y.length : Int) := by omega
      go_enter Try.func3, Try.ntmps3
      go_wp2_with fail
      go_quiet (fail)
      go_wp2_with fail
      refine (ck.out _).mono ?_
      rintro e w1 ⟨rfl, hb1⟩
      go_wp2_with fail
      go_ret
      exact ⟨rfl, by (repeat' (first | (with_reducible exact Below.refl _ _) | (with_reducible assumption) | (with_reducible apply Below.setCell) | (with_reducible apply Below.alloc) | (with_reducible apply Below.drew) | (with_reducible apply below_drewN) | (with_reducible refine Below.trans ?_ (Below.mono (by assumption) ?_)) | omega | (simp; done) | (simp; omega)))⟩
    · have g1 : (Y.length : Int) ≤ 20 := by omega
      obtain ⟨s, es, hS, hcs⟩ := sum_two (a0, a1, a2, a3, a4) (b0, b1, b2, b3, b4)
      have j1 := fun b W hl => Sum_any (some ⟨b, 0, none⟩) [(a0, a1, a2, a3, a4), (b0, b1, b2, b3, b4)] 2 2 rfl (by decide) (by decide) (by decide) W hl
      rw [hS] at j1
      have ka := fun W hl => keeps_any a0 a1 a2 a3 a4 A X c (by omega) W hl
      have kb := fun W hl => keeps_any b0 b1 b2 b3 b4 B Y d (by omega) W hl
      obtain ⟨s0, s1, s2, s3, s4⟩ := s
      unfold pairS specA at j1
      dsimp only at j1
      have J1 := hidd j1
      have KA := hidd (fun (h : rightS (a0, a1, a2, a3, a4) = true) => keepsR_right h X)
      have KB := hidd (fun (h : rightS (b0, b1, b2, b3, b4) = true) => keepsR_right h Y)
      dsimp only at KA KB
      have HCS := hidd hcs
      generalize hka : keepsR a0 a1 a2 a3 a4 X = ra at *
      generalize hkb : keepsR b0 b1 b2 b3 b4 Y = rb at *
      obtain ⟨ra, ea⟩ := ra
      obtain ⟨rb, eb⟩ := rb
      dsimp only at ka kb
      have CA := hidd ka
      have CB := hidd kb
      clear j1 ka kb hcs hS hka hkb
      go_enter Try.func3, Try.ntmps3
      go_wp2_with fail
      go_quiet (fail)
      go_wp2_with fail
      refine (J1.out _ _ (lie_pair _ (a0, a1, a2, a3, a4) (b0, b1, b2, b3, b4) (by simp) (by simp))).mono ?_
      rintro e w1 ⟨rfl, hb1⟩
      have Ha := ((((HasSpec.new w 23 a0 a1 a2 a3 a4).past _).past _).drew nq).past _ |>.step hb1
      have Hb := (((HasSpec.new' (w := w.alloc (.cells #[.int .i64 a0, .int .i64 a1, .int .i64 a2, .int .i64 a3, .int .i64 a4] 23)) (b := w.heap.size + 1) (by simp) 23 b0 b1 b2 b3 b4).past _).drew nq).past _ |>.step hb1
      have Lw : Below w.heap.size w w1 := below_step (below_new (below_drewN (below_new (below_new (below_new (Below.refl w.heap.size w) _) _) _) nq) _) hb1
      obtain ⟨za, p0, p1, p2, p3, p4⟩ := id Ha
      obtain ⟨zb, q0, q1, q2, q3, q4⟩ := id Hb
      go_wp2_with fail
      refine (CA.out _ (HX.out.below (below_new Lw _))).mono ?_
      rintro e w2 ⟨rfl, hb2⟩
      have Hb := (Hb.past _).step hb2
      have Hs := (HasSpec.new w1 23 s0 s1 s2 s3 s4).step hb2
      have Lw := below_step (below_new Lw _) hb2
      obtain ⟨zb, q0, q1, q2, q3, q4⟩ := id Hb
      obtain ⟨zs, r0, r1, r2, r3, r4⟩ := id Hs
      go_wp2_with fail
      refine (CB.out _ (HY.out.below Lw)).mono ?_
      rintro e w3 ⟨rfl, hb3⟩
      have Hs := Hs.step hb3
      have Lw := below_step Lw hb3
      have fin : ∀ W, Below w.heap.size w W → Hid (Below w.heap.size w W) := fun W h => hidd h
      have HLW := hidd Lw
      have HHS := hidd Hs
      clear Ha Hb za p0 p1 p2 p3 p4 zb q0 q1 q2 q3 q4 zs r0 r1 r2 r3 r4 Hs Lw hb1 hb2 hb3 fin
      rcases HCS.out with rfl | rfl | ⟨rfl, hsum⟩
      · go_wp2_with fail
        refine (ck.out _).mono ?_
        rintro e w4 ⟨rfl, hb4⟩
        go_wp2_with fail
        go_ret
        exact ⟨rfl, below_step HLW.out hb4⟩
      · go_wp2_with fail
        refine (ck.out _).mono ?_
        rintro e w4 ⟨rfl, hb4⟩
        go_wp2_with fail
        go_ret
        exact ⟨rfl, below_step HLW.out hb4⟩
      · obtain ⟨e1, rfl⟩ : ra = keepsS (a0, a1, a2, a3, a4) X ∧ ea = 0 := by
          have := KA.out hsum.1
          exact ⟨congrArg Prod.fst this, congrArg Prod.snd this⟩
        obtain ⟨e2, rfl⟩ : rb = keepsS (b0, b1, b2, b3, b4) Y ∧ eb = 0 := by
          have := KB.out hsum.2.1
          exact ⟨congrArg Prod.fst this, congrArg Prod.snd this⟩
        have E1 := hidd e1
        have E2 := hidd e2
        have HSUM := hidd hsum
        clear e1 e2 hsum
        cases ra
        · go_wp2_with fail
          refine (ck.out _).mono ?_
          rintro e w4 ⟨rfl, hb4⟩
          go_wp2_with fail
          go_ret
          exact ⟨rfl, below_step HLW.out hb4⟩
        · cases rb
          · go_wp2_with fail
            refine (ck.out _).mono ?_
            rintro e w4 ⟨rfl, hb4⟩
            go_wp2_with fail
            go_ret
            exact ⟨rfl, below_step HLW.out hb4⟩
          · have bdt := hidd (fun i hi => tickV_bd HSUM.out.1 HSUM.out.2.1 E1.out.symm E2.out.symm i hi)
            have most := hidd (fun f t ht => sums_most HSUM.out E1.out.symm E2.out.symm (by omega) (by omega) f t ht)
            have sX := hidd (fun f t W hl => sent_any A X c f t (by omega) (keepsS_sizes HSUM.out.1 E1.out.symm) W hl)
            have sY := hidd (fun f t W hl => sent_any B Y d f t (by omega) (keepsS_sizes HSUM.out.2.1 E2.out.symm) W hl)
            have tk := hidd (fun i hi W h1 h2 => tick_any A B X Y c d i (by omega) (by omega) hi W h1 h2)
            have hrs : rightB s0 s1 s2 s3 s4 = true := HSUM.out.2.2.1
            have hr5 := rightB_iff hrs
            obtain ⟨n, hn⟩ : ∃ n, X.length + Y.length = n := ⟨_, rfl⟩
            have HN := hidd hn
            have hn40 : n ≤ 40 := by omega
            clear hn CA CB KA KB J1 HCS
            go_wp2_with fail
            go_loopg [15] (n + 1) (fun k s15 wr => ∃ i : Nat, i ≤ n ∧ i + k = n + 1 ∧ s15 = .int .i64 (i : Int) ∧ Below w.heap.size w wr ∧ HasSpec wr w1.heap.size s0 s1 s2 s3 s4)
            case atStart => exact ⟨0, by omega, by omega, rfl, HLW.out, HHS.out⟩
            case round =>
              obtain ⟨i, hi, hk, rfl, hB, hS⟩ := hrel
              have HK := hidd hk
              have HB := hidd hB
              have HS := hidd hS
              clear hk hB hS
              by_cases hlt : i < n
              · have hlt' : (i : Int) < (X.length : Int) + (Y.length : Int) := by have := HN.out; omega
                go_wp2_with fail
                obtain ⟨gko, rfl⟩ : ∃ g, g = gk := ⟨gk, rfl⟩
                have HI := hidd hlt
                clear hlt hlt'
                go_loopg [16] (n + 1) (fun g s16 wx => ∃ k : Nat, k ≤ n ∧ k + g = n + 1 ∧ s16 = .int .i64 (k : Int) ∧ Below w.heap.size w wx ∧ HasSpec wx w1.heap.size s0 s1 s2 s3 s4)
                case atStart => exact ⟨0, by omega, by omega, rfl, HB.out, HS.out⟩
                case round =>
                  obtain ⟨k, hk, hg, rfl, hB2, hS2⟩ := hrel
                  have HG := hidd hg
                  have HB2 := hidd hB2
                  have HS2 := hidd hS2
                  clear hg hB2 hS2 HB HS
                  by_cases hkt : k < n
                  · have hkt' : (k : Int) < (X.length : Int) + (Y.length : Int) := by have := HN.out; omega
                    have hik : i < X.length + Y.length ∧ k < X.length + Y.length := by have := HN.out; have := HI.out; omega
                    have ci := hidd (fun W h1 h2 => tk.out i hik.1 W h1 h2)
                    have ck2 := hidd (fun W h1 h2 => tk.out k hik.2 W h1 h2)
                    obtain ⟨bf0, bf1⟩ := bdt.out i hik.1
                    obtain ⟨bt0, bt1⟩ := bdt.out k hik.2
                    clear hik
                    generalize tickV X Y i = f at *
                    generalize tickV X Y k = t at *
                    go_wp2_with fail
                    refine (ci.out _ (HX.out.below HB2.out) (HY.out.below HB2.out)).mono ?_
                    rintro e wq ⟨rfl, rfl⟩
                    go_wp2_with fail
                    refine (ck2.out _ (HX.out.below HB2.out) (HY.out.below HB2.out)).mono ?_
                    rintro e wq ⟨rfl, rfl⟩
                    by_cases hft : t < f
                    · go_wp2_with fail
                      have hg := HG.out
                      go_roundg (gk - 1)
                      case measure => omega
                      case rel => exact ⟨k + 1, by omega, by omega, by go_num, HB2.out, HS2.out⟩
                    · have hat : 0 ≤ t - f ∧ t - f ≤ 2147483647 := by omega
                      obtain ⟨⟨x0, x1⟩, ⟨y0, y1⟩, mo⟩ := most.out f t (by omega)
                      have ca := hidd (fun W => allows_any s0 s1 s2 s3 s4 (t - f) W)
                      have hal : allowsR s0 s1 s2 s3 s4 (t - f) = (allowsV s0 s1 s2 s3 (t - f), 0) := by unfold allowsR; rw [if_pos ⟨hrs, decide_eq_true hat⟩]
                      rw [hal] at ca
                      have va := allowsV_bd hrs hat.1 hat.2
                      obtain ⟨va0, va1⟩ := va
                      have sx := hidd (fun W hl => sX.out f t W hl)
                      have sy := hidd (fun W hl => sY.out f t W hl)
                      dsimp only at mo ca
                      clear hal hat
                      generalize sentV X f t X.length = vx at *
                      generalize sentV Y f t Y.length = vy at *
                      generalize allowsV s0 s1 s2 s3 (t - f) = va at *
                      have s3b : 0 ≤ s3 ∧ s3 ≤ 2000 := by omega
                      obtain ⟨s3b0, s3b1⟩ := s3b
                      obtain ⟨zs, r0, r1, r2, r3, r4⟩ := id HS2.out
                      go_wp2_with fail
                      refine (ca.out _).mono ?_
                      rintro e w5 ⟨rfl, hb5⟩
                      have HB5 := hidd (below_step HB2.out hb5)
                      have HS5 := hidd (HS2.out.step hb5)
                      clear zs r0 r1 r2 r3 r4 hb5
                      obtain ⟨zs, r0, r1, r2, r3, r4⟩ := id HS5.out
                      have kx := hidd (fun q => sx.out (w5.drewN q) (HX.out.below (below_drewN HB5.out q)))
                      have ky := hidd (fun q => sy.out (w5.drewN q) (HY.out.below (below_drewN HB5.out q)))
                      have hle : ¬ (va + s3 < vx + vy) := by omega
                      have hled : decide (va + s3 < vx + vy) = false := decide_eq_false hle
                      go_wp2_with fail
                      go_quiet ((first | (go_at_call_of 18 (Value.slice A X.length c); exact Calls.quiet_of_same (kx.out _)) | (go_at_call_of 18 (Value.slice B Y.length d); exact Calls.quiet_of_same (ky.out _))))
                      go_wp2_with fail
                      have hg := HG.out
                      go_roundg (gk - 1)
                      case measure => omega
                      case rel => exact ⟨k + 1, by omega, by omega, by go_num, below_drewN HB5.out _, HS5.out.drew _⟩
                  · have hkt' : ¬ (k : Int) < (X.length : Int) + (Y.length : Int) := by have := HN.out; omega
                    go_wp2_with fail
                    have hgk := HK.out
                    go_roundg (gko - 1)
                    case measure => omega
                    case rel => exact ⟨i + 1, by have := HI.out; omega, by omega, by go_num, HB2.out, HS2.out⟩
              · have hlt' : ¬ (i : Int) < (X.length : Int) + (Y.length : Int) := by have := HN.out; omega
                go_wp2_with fail
                refine (ck.out _).mono ?_
                rintro e w4 ⟨rfl, hb4⟩
                go_wp2_with fail
                go_ret
                exact ⟨rfl, below_step HB.out hb4⟩
end Go.Proofs.Ytjmppeofdnikoaa
