/- Buckets: the document's Has. -/
import Derived.Test.YtilikpacgbkebaaBkR
namespace Go.Proofs.Ytilikpacgbkebaa
open Go.RowKit
set_option linter.unusedVariables false
namespace BM
theorem K_bd {p r u m l : Int} {T : List (Int × Int)} (hu : 0 ≤ u) (hm : 0 ≤ m) (hl : 1 ≤ l) (hg : SM.Good (SM.av T) (SM.sv T) p r u m l T.length) : ∀ i, i ≤ T.length → (0 ≤ SM.K (SM.av T) (SM.sv T) r i ∧ SM.K (SM.av T) (SM.sv T) r i ≤ u) ∧ (0 ≤ SM.K (SM.av T) (SM.sv T) p i ∧ SM.K (SM.av T) (SM.sv T) p i ≤ m)
  | 0, _ => ⟨⟨Int.le_refl _, hu⟩, Int.le_refl _, hm⟩
  | i + 1, hi => by
    obtain ⟨a, b, c⟩ := hg i (by omega)
    obtain ⟨_, _, a3, _, _⟩ := a
    have h1 : SM.K (SM.av T) (SM.sv T) r (i + 1) = max (SM.K (SM.av T) (SM.sv T) r i - r * (SM.av T i - SM.now (SM.av T) i)) 0 + SM.sv T i := rfl
    have h2 : SM.K (SM.av T) (SM.sv T) p (i + 1) = max (SM.K (SM.av T) (SM.sv T) p i - p * (SM.av T i - SM.now (SM.av T) i)) 0 + SM.sv T i := rfl
    omega
def hasB (rate cap : Int) (T : List (Int × Int)) (t : Int) (i : Nat) : Int := if i ≤ T.length then cap - SM.K (SM.av T) (SM.sv T) rate i else left rate cap T t
def hasA (T : List (Int × Int)) (t : Int) (i : Nat) : Int := if i ≤ T.length then SM.now (SM.av T) i else t
/-- the words of one round. -/
theorem has_words {rate cap B a t' : Int} (r0 : 0 ≤ rate) (r1 : rate ≤ 1000000) (c1 : cap ≤ 10000000) (b0 : 0 ≤ B) (b1 : B ≤ cap) (h0 : 0 ≤ a) (h1 : a ≤ t') (h2 : t' ≤ 2147483647) :
    ∃ d D : Int, IntKind.i64.wrap (t' - a) = d ∧ IntKind.i64.wrap (rate * d) = D ∧ IntKind.i64.wrap (B + D) = B + D ∧ D = rate * (t' - a) ∧ 0 ≤ D ∧ D ≤ 2200000000000000 ∧ d = t' - a := by
  obtain ⟨b2, b3⟩ := rate_bounds (b := rate) (t := t' - a) r0 r1 (by omega) (by omega)
  exact ⟨t' - a, rate * (t' - a), IntWalk.i64_in _ (by omega), IntWalk.i64_in _ (by omega), IntWalk.i64_in _ (by omega), rfl, b2, b3, rfl⟩
end BM
theorem least12_any (a b : Int) (w : World) : Calls Try.prog 32 #[.int .i64 a, .int .i64 b] w fun e w' => e = .returned (.int .i64 (min a b)) ∧ w' = w := by
  have hM : Hid (min a b = min a b) := hidd rfl
  by_cases h : a < b
  · have e : min a b = a := by omega
    rw [e]
    clear e hM
    go_enter Try.func32, Try.ntmps32
    go_wp2_with fail
    go_ret
    exact ⟨rfl, rfl⟩
  · have e : min a b = b := by omega
    rw [e]
    clear e hM
    go_enter Try.func32, Try.ntmps32
    go_wp2_with fail
    go_ret
    exact ⟨rfl, rfl⟩
set_option maxRecDepth 100000 in
set_option maxHeartbeats 8000000 in
theorem has12_any (p r u m l : Int) (hr : rightB p r u m l = true) (A : Option Addr) (T : List (Int × Int)) (c : Nat) (now t : Int) (hT : T.length ≤ 1000) (hk : BM.Keep p r u m l T) (hlast : BM.last T ≤ t) (h0 : 0 ≤ t) (h1 : t ≤ 2147483647) (w : World) (hl : Lie sendV 2 w w.heap.size A T) :
    Calls Try.prog 21 #[gV p r u m l A T.length c now, .int .i64 t] w fun e w' => e = .returned (.tuple #[.int .i64 (BM.left r u T t), .int .i64 (BM.left p m T t)]) ∧ Below w.heap.size w w' := by
  have hb := rightB_iff hr
  have hg := (SM.KP_iff (show 0 ≤ p by omega) (show 0 ≤ r by omega) T.length).1 hk
  have hK := hidd (BM.K_bd (show 0 ≤ u by omega) (show 0 ≤ m by omega) (show 1 ≤ l by omega) hg)
  have HG := hidd hg
  have HLA := hidd hlast
  obtain ⟨f6, h6⟩ : ∃ f6 : Nat → Int, BM.hasB r u T t = f6 := ⟨_, rfl⟩
  obtain ⟨f7, h7⟩ : ∃ f7 : Nat → Int, BM.hasB p m T t = f7 := ⟨_, rfl⟩
  obtain ⟨f8, h8⟩ : ∃ f8 : Nat → Int, BM.hasA T t = f8 := ⟨_, rfl⟩
  have s0 : Hid (f6 0 = u ∧ f7 0 = m ∧ f8 0 = 0) := hidd (by
    subst h6 h7 h8
    simp [BM.hasB, BM.hasA, SM.K, SM.now])
  have sB : Hid (∀ i, i ≤ T.length → (0 ≤ f6 i ∧ f6 i ≤ u) ∧ (0 ≤ f7 i ∧ f7 i ≤ m) ∧ 0 ≤ f8 i) := hidd (fun i hi => by
    subst h6 h7 h8
    have := hK.out i hi
    simp only [BM.hasB, BM.hasA, if_pos hi]
    refine ⟨by omega, by omega, ?_⟩
    cases i with
    | zero => exact Int.le_refl _
    | succ i => exact (HG.out i (by omega)).1.1)
  have sN : Hid (∀ i, i < T.length → f8 i ≤ SM.av T i ∧ SM.av T i ≤ 2147483647 ∧ 0 ≤ SM.sv T i ∧ SM.sv T i ≤ 2000 ∧ f8 (i + 1) = SM.av T i ∧ f6 (i + 1) = min u (f6 i + r * (SM.av T i - f8 i)) - SM.sv T i ∧ f7 (i + 1) = min m (f7 i + p * (SM.av T i - f8 i)) - SM.sv T i) := hidd (fun i hi => by
    subst h6 h7 h8
    obtain ⟨⟨a1, a2, a3, a4, a5⟩, -, -⟩ := HG.out i hi
    have k1 : SM.K (SM.av T) (SM.sv T) r (i + 1) = max (SM.K (SM.av T) (SM.sv T) r i - r * (SM.av T i - SM.now (SM.av T) i)) 0 + SM.sv T i := rfl
    have k2 : SM.K (SM.av T) (SM.sv T) p (i + 1) = max (SM.K (SM.av T) (SM.sv T) p i - p * (SM.av T i - SM.now (SM.av T) i)) 0 + SM.sv T i := rfl
    simp only [BM.hasB, BM.hasA, if_pos (show i ≤ T.length by omega), if_pos (show i + 1 ≤ T.length by omega)]
    refine ⟨?_, a2, by omega, by omega, rfl, by omega, by omega⟩
    cases i with
    | zero => exact a1
    | succ i => exact a5 (by omega))
  have sL : Hid (f8 T.length ≤ t ∧ f6 (T.length + 1) = min u (f6 T.length + r * (t - f8 T.length)) ∧ f7 (T.length + 1) = min m (f7 T.length + p * (t - f8 T.length)) ∧ f6 (T.length + 1) = BM.left r u T t ∧ f7 (T.length + 1) = BM.left p m T t ∧ f8 (T.length + 1) = t) := hidd (by
    subst h6 h7 h8
    have q : ¬ T.length + 1 ≤ T.length := by omega
    simp only [BM.hasB, BM.hasA, if_pos (Nat.le_refl T.length), if_neg q]
    refine ⟨HLA.out, ?_, ?_, by first | trivial | rfl, by first | trivial | rfl, by first | trivial | rfl⟩
    · show BM.left r u T t = _
      unfold BM.left BM.kept BM.last
      omega
    · show BM.left p m T t = _
      unfold BM.left BM.kept BM.last
      omega)
  obtain ⟨W0, hW0⟩ : ∃ W0 : World, w.alloc (.cells #[.int .i64 p, .int .i64 r, .int .i64 u, .int .i64 m, .int .i64 l, .slice A T.length c, .int .i64 now] 32) = W0 := ⟨_, rfl⟩
  have hb0 : Below w.heap.size w W0 := by rw [← hW0]; (repeat' (first | (with_reducible exact Below.refl _ _) | (with_reducible assumption) | (with_reducible apply Below.setCell) | (with_reducible apply Below.alloc) | (with_reducible apply Below.drew) | (with_reducible apply below_drewN) | (with_reducible refine Below.trans ?_ (Below.mono (by assumption) ?_)) | omega | (simp; done) | (simp; omega)))
  have k0 : W0.cell? ⟨w.heap.size, 0, none⟩ = some (.int .i64 p) := by rw [← hW0]; simp [go_sem]
  have k1 : W0.cell? ⟨w.heap.size, 1, none⟩ = some (.int .i64 r) := by rw [← hW0]; simp [go_sem]
  have k2 : W0.cell? ⟨w.heap.size, 2, none⟩ = some (.int .i64 u) := by rw [← hW0]; simp [go_sem]
  have k3 : W0.cell? ⟨w.heap.size, 3, none⟩ = some (.int .i64 m) := by rw [← hW0]; simp [go_sem]
  have k5 : W0.cell? ⟨w.heap.size, 5, none⟩ = some (.slice A T.length c) := by rw [← hW0]; simp [go_sem]
  have hAT : Hid (∀ i, i < T.length → ∃ ad, A = some ad ∧ W0.cell? (ad.add (i * 2)) = some (.int .i64 (SM.av T i)) ∧ W0.cell? ⟨(ad.add (i * 2)).block, (ad.add (i * 2)).off + 1, none⟩ = some (.int .i64 (SM.sv T i))) := hidd (fun i hi => by
    obtain ⟨ad, h1, h2, h3, h4⟩ := (hl.keep hb0).at_ i hi
    exact ⟨ad, h1, h3, h4⟩)
  have HB0 := hidd hb0
  have HW := hidd hW0
  have hp0 : 0 ≤ p := by omega
  have hp1 : p ≤ 1000000 := by omega
  have hr0 : 0 ≤ r := by omega
  have hr1 : r ≤ 1000000 := by omega
  have hu1 : u ≤ 10000000 := by omega
  have hm1 : m ≤ 2000 := by omega
  have hPO1 := hidd sL.out.2.2.2.1
  have hPO2 := hidd sL.out.2.2.2.2.1
  rw [← hPO1.out, ← hPO2.out]
  have cl := hidd (fun a b W => least12_any a b W)
  unfold gV
  clear hW0 hl hr hb0 hg hk h6 h7 h8 hb hlast hPO1 hPO2 HLA HG hK
  generalize SM.av T = av at *
  generalize SM.sv T = sv at *
  generalize T.length = N at *
  go_enter Try.func21, Try.ntmps21
  go_wp2_with fail
  rw [HW.out]
  go_quiet (fail)
  go_wp2_with fail
  have K0 := hidd k0
  have K1 := hidd k1
  have K2 := hidd k2
  have K3 := hidd k3
  have K5 := hidd k5
  clear k0 k1 k2 k3 k5
  go_loopg [6, 7, 8, 9] (N + 2) (fun gk s6 s7 s8 s9 wr => ∃ (i q : Nat), i ≤ N + 1 ∧ i + gk = N + 2 ∧ s6 = .int .i64 (f6 i) ∧ s7 = .int .i64 (f7 i) ∧ s8 = .int .i64 (f8 i) ∧ s9 = .int .i64 (i : Int) ∧ wr = W0.drewN q)
  case atStart => exact ⟨0, _, by omega, by omega, by rw [s0.out.1], by rw [s0.out.2.1], by rw [s0.out.2.2], rfl, rfl⟩
  case round =>
    obtain ⟨i, q, hi, hk, rfl, rfl, rfl, rfl, hwr⟩ := hrel
    have HWR := hidd hwr
    have k0 : wr.cell? ⟨w.heap.size, 0, none⟩ = some (.int .i64 p) := by rw [hwr]; exact K0.out
    have k1 : wr.cell? ⟨w.heap.size, 1, none⟩ = some (.int .i64 r) := by rw [hwr]; exact K1.out
    have k2 : wr.cell? ⟨w.heap.size, 2, none⟩ = some (.int .i64 u) := by rw [hwr]; exact K2.out
    have k3 : wr.cell? ⟨w.heap.size, 3, none⟩ = some (.int .i64 m) := by rw [hwr]; exact K3.out
    have k5 : wr.cell? ⟨w.heap.size, 5, none⟩ = some (.slice A N c) := by rw [hwr]; exact K5.out
    clear hwr
    have HK := hidd hk
    clear hk
    by_cases hin : i < N + 1
    · have z1 : (i : Int) ≤ (N : Int) := by omega
      obtain ⟨⟨b0, b1⟩, ⟨b2, b3⟩, b4⟩ := sB.out i (by omega)
      by_cases hlt : i < N
      · have z2 : (i : Int) < (N : Int) := by omega
        obtain ⟨ad, rfl, x0', x1'⟩ := hAT.out i hlt
        have x0 : wr.cell? (ad.add (i * 2)) = some (.int .i64 (av i)) := by rw [HWR.out]; exact x0'
        have x1 : wr.cell? ⟨(ad.add (i * 2)).block, (ad.add (i * 2)).off + 1, none⟩ = some (.int .i64 (sv i)) := by rw [HWR.out]; exact x1'
        clear x0' x1'
        obtain ⟨n0, n1, n2, n3, n4, n5, n6⟩ := sN.out i hlt
        have N4 := hidd n4
        have N5 := hidd n5
        have N6 := hidd n6
        clear n4 n5 n6
        generalize av i = a at *
        generalize sv i = z at *
        generalize f6 i = B at *
        generalize f7 i = P at *
        generalize f8 i = at_ at *
        obtain ⟨d, D, w1, w2', w3, w4, w5, w6, w7⟩ := BM.has_words hr0 hr1 hu1 b0 b1 b4 n0 n1
        obtain ⟨d', E, v1, v2, v3, v4, v5, v6, v7⟩ := BM.has_words hp0 hp1 (show m ≤ 10000000 by omega) b2 b3 b4 n0 n1
        obtain rfl : d = d' := by omega
        rw [← w4] at N5
        rw [← v4] at N6
        have W4 := hidd w4
        have V4 := hidd v4
        clear w4 v4 w7 v7
        obtain ⟨X, hX⟩ : ∃ X, min u (B + D) = X := ⟨_, rfl⟩
        obtain ⟨Y, hY⟩ : ∃ Y, min m (P + E) = Y := ⟨_, rfl⟩
        have x2 : 0 ≤ X ∧ X ≤ u := by omega
        have y2 : 0 ≤ Y ∧ Y ≤ m := by omega
        obtain ⟨x2, x3⟩ := x2
        obtain ⟨y2, y3⟩ := y2
        have c1 := hidd (fun W => cl.out u (B + D) W)
        have c2 := hidd (fun W => cl.out m (P + E) W)
        rw [hX] at c1 N5
        rw [hY] at c2 N6
        clear hX hY
        go_wp2_with fail
        go_quiet (fail)
        obtain ⟨w2, hw2⟩ : ∃ w2 : World, wr.drewN nq = w2 := ⟨_, rfl⟩
        have j0 : w2.cell? ⟨w.heap.size, 0, none⟩ = some (.int .i64 p) := by rw [← hw2]; exact k0
        have j1 : w2.cell? ⟨w.heap.size, 1, none⟩ = some (.int .i64 r) := by rw [← hw2]; exact k1
        have j2 : w2.cell? ⟨w.heap.size, 2, none⟩ = some (.int .i64 u) := by rw [← hw2]; exact k2
        have j3 : w2.cell? ⟨w.heap.size, 3, none⟩ = some (.int .i64 m) := by rw [← hw2]; exact k3
        have HW2 := hidd hw2
        rw [hw2]
        clear hw2 k0 k1 k2 k3 k5
        go_wp2_with fail
        go_quiet ((go_at_call 32; first | exact Calls.quiet_of_same (c1.out _) | exact Calls.quiet_of_same (c2.out _)))
        clear w1 w2' w3 v1 v2 v3
        go_wp2_with fail
        have hk := HK.out
        go_roundg (gk - 1)
        case measure => omega
        case rel => exact ⟨i + 1, _, by omega, by omega, by rw [N5.out], by rw [N6.out], by rw [N4.out], by go_num, by rw [← HW2.out, HWR.out]; simp only [World.drewN_drewN]; rfl⟩
      · obtain rfl : i = N := by omega
        have z2 : ¬ (i : Int) < (i : Int) := by omega
        obtain ⟨n0, n5, n6, -, -, n4⟩ := sL.out
        have N4 := hidd n4
        have N5 := hidd n5
        have N6 := hidd n6
        clear n4 n5 n6
        generalize f6 i = B at *
        generalize f7 i = P at *
        generalize f8 i = at_ at *
        obtain ⟨d, D, w1, w2', w3, w4, w5, w6, w7⟩ := BM.has_words hr0 hr1 hu1 b0 b1 b4 n0 h1
        obtain ⟨d', E, v1, v2, v3, v4, v5, v6, v7⟩ := BM.has_words hp0 hp1 (show m ≤ 10000000 by omega) b2 b3 b4 n0 h1
        obtain rfl : d = d' := by omega
        rw [← w4] at N5
        rw [← v4] at N6
        clear w4 v4 w7 v7
        obtain ⟨X, hX⟩ : ∃ X, min u (B + D) = X := ⟨_, rfl⟩
        obtain ⟨Y, hY⟩ : ∃ Y, min m (P + E) = Y := ⟨_, rfl⟩
        have x2 : 0 ≤ X ∧ X ≤ u := by omega
        have y2 : 0 ≤ Y ∧ Y ≤ m := by omega
        obtain ⟨x2, x3⟩ := x2
        obtain ⟨y2, y3⟩ := y2
        have c1 := hidd (fun W => cl.out u (B + D) W)
        have c2 := hidd (fun W => cl.out m (P + E) W)
        rw [hX] at c1 N5
        rw [hY] at c2 N6
        clear hX hY
        go_wp2_with fail
        go_quiet ((go_at_call 32; first | exact Calls.quiet_of_same (c1.out _) | exact Calls.quiet_of_same (c2.out _)))
        clear w1 w2' w3 v1 v2 v3
        go_wp2_with fail
        have hk := HK.out
        go_roundg (gk - 1)
        case measure => omega
        case rel => exact ⟨i + 1, _, by omega, by omega, by rw [N5.out], by rw [N6.out], by rw [N4.out], by go_num, by rw [HWR.out]; simp only [World.drewN_drewN]; rfl⟩
    · obtain rfl : i = N + 1 := by omega
      have z1 : ¬ ((N + 1 : Nat) : Int) ≤ (N : Int) := by omega
      go_wp2_with fail
      go_ret2
      exact ⟨rfl, by rw [HWR.out]; exact below_drewN HB0.out _⟩
end Go.Proofs.Ytilikpacgbkebaa
