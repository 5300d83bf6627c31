/- Curves: how high lines are (the document's side). -/
import Derived.Test.YtpgaklfgbioocaaCvR
namespace Go.Proofs.Ytpgaklfgbioocaa
set_option linter.unusedVariables false
open Go.RowKit Go.Proofs.Ytpgaklfgbioocaa.RowK

def RefAtEnd (L : List (Int × Int)) (n d : Int) (w : World) (e : Ending) (w' : World) : Prop := ∃ x : Int, e = .returned (.int .i64 x) ∧ CM.IsMin L n d x ∧ Below w.heap.size w w'
theorem term_bd {x y K : Int} (h0 : 0 ≤ x) (h1 : x ≤ 1000000000) (k0 : 0 ≤ y) (k1 : y ≤ K) : 0 ≤ x * y ∧ x * y ≤ 1000000000 * K := by
  refine ⟨Int.mul_nonneg h0 k0, ?_⟩
  exact Int.mul_le_mul h1 k1 k0 (by decide)
theorem wrap_both {x : Int} (h0 : -9223372036854775808 ≤ x) (h1 : x ≤ 9223372036854775807) : IntKind.i64.wrap x = x ∧ wrap64 x = x := by
  have e1 : IntKind.i64.wrap x = x := IntWalk.i64_in _ (by omega)
  refine ⟨e1, ?_⟩
  conv => rhs; rw [← e1]
  simp [IntKind.wrap_i64, wrap64]
set_option maxRecDepth 100000 in
set_option maxHeartbeats 4000000 in
theorem refAt_any (A : Option Addr) (L : List (Int × Int)) (c : Nat) (n d : Int) (hL : L.length ≤ 1000000) (h0 : 0 < L.length) (hm : MayAll L) (n0 : 0 ≤ n) (n1 : n ≤ 2147483647) (d0 : 1 ≤ d) (d1 : d ≤ 100) (w : World) (hA : Lie sendV 2 w w.heap.size A L) :
    Calls Try.prog 12 #[.slice A L.length c, .int .i64 n, .int .i64 d] w (RefAtEnd L n d w) := by
  have hbd : ∀ i, i < L.length → (0 ≤ SM.av L i * d ∧ SM.av L i * d ≤ 100000000000) ∧ 0 ≤ SM.sv L i * n ∧ SM.sv L i * n ≤ 2147483647000000000 := fun i hi => by
    have h := mayB_iff (hm i hi)
    simp only at h
    have h1 := term_bd h.1 h.2.1 (show 0 ≤ d by omega) d1
    have h2 := term_bd h.2.2.1 h.2.2.2 n0 n1
    omega
  have HBD := hidd hbd
  have hv : ∀ i, CM.vl L i n d = SM.av L i * d + SM.sv L i * n := fun i => rfl
  have HV := hidd hv
  have HA := hidd hA
  have hF := isMin_first (L := L) h0 n d
  have HF := hidd hF
  have hSt := fun i (hi : i < L.length) v (h : CM.IsMin (L.take i) n d v) => isMin_step hi h
  have HSt := hidd hSt
  obtain ⟨ad, rfl, hab, x0, x1⟩ := hA.send 0 h0
  rw [(av_at h0).1] at x0
  rw [(av_at h0).2] at x1
  have e0 : ad.add (0 * 2) = ad := by simp [Addr.add]
  rw [e0] at x0 x1
  have hl0 : (0 : Int) < (L.length : Int) := by omega
  obtain ⟨⟨p0, p1⟩, p2, p3⟩ := hbd 0 h0
  obtain ⟨e1, f1⟩ := wrap_both (x := SM.av L 0 * d) (by omega) (by omega)
  obtain ⟨e2, f2⟩ := wrap_both (x := SM.sv L 0 * n) (by omega) (by omega)
  rw [hv] at HF
  unfold RefAtEnd
  clear hbd hv hF hSt hA e0 hm
  generalize hU : SM.av L 0 * d = U at *
  generalize hV : SM.sv L 0 * n = V at *
  rw [← hU] at e1 f1
  rw [← hV] at e2 f2
  rw [hU] at e1 f1
  rw [hV] at e2 f2
  have g1 : IntKind.i64.wrap (SM.av L 0 * d) = U := by rw [hU]; exact e1
  have g2 : IntKind.i64.wrap (SM.sv L 0 * n) = V := by rw [hV]; exact e2
  have g3 : wrap64 (SM.av L 0 * d) = U := by rw [hU]; exact f1
  have g4 : wrap64 (SM.sv L 0 * n) = V := by rw [hV]; exact f2
  clear hU hV e1 e2 f1 f2
  generalize SM.av L 0 = a0 at *
  generalize SM.sv L 0 = a1 at *
  have g5 : IntKind.i64.wrap (U + V) = U + V := IntWalk.i64_in _ (by omega)
  go_enter Try.func12, Try.ntmps12
  go_wp2_with fail
  go_quiet (fail)
  go_wp2_with fail
  go_loopg [7, 8] (L.length + 1) (fun g s7 s8 wr => ∃ (i : Nat) (x : Int), (1 ≤ i ∧ i ≤ L.length) ∧ i + g = L.length + 2 ∧ s8 = .int .i64 (i : Int) ∧ s7 = .int .i64 x ∧ CM.IsMin (L.take i) n d x ∧ (0 ≤ x ∧ x ≤ 2147483747000000000) ∧ Below w.heap.size w wr)
  case atStart => exact ⟨1, U + V, by omega, by omega, rfl, by first | rfl | simp, HF.out, by omega, by (repeat' (first | (with_reducible exact Below.refl _ _) | (with_reducible assumption) | (with_reducible apply Below.setCell) | (with_reducible apply Below.alloc) | (with_reducible apply Below.drew) | (with_reducible apply below_drewN) | (with_reducible refine Below.trans ?_ (Below.mono (by assumption) ?_)) | omega | (simp; done) | (simp; omega)))⟩
  case round =>
    obtain ⟨i, x, ⟨hi1, hi2⟩, hk, rfl, rfl, hx, ⟨hx0, hx1⟩, hB⟩ := hrel
    have HK := hidd hk
    have HX := hidd hx
    have HB := hidd hB
    clear hk hx hB g1 g2 g3 g4 g5
    by_cases hlt : i < L.length
    · obtain ⟨ad', e', hb', y0, y1⟩ := (HA.out.keep HB.out).send i hlt
      obtain rfl : ad = ad' := by injection e'
      rw [(av_at hlt).1] at y0
      rw [(av_at hlt).2] at y1
      have hst := HSt.out i hlt x HX.out
      rw [HV.out] at hst
      obtain ⟨⟨p0, p1⟩, p2, p3⟩ := HBD.out i hlt
      have g1 := wrap_both (x := SM.av L i * d) (by omega) (by omega)
      have g2 := wrap_both (x := SM.sv L i * n) (by omega) (by omega)
      have hin2 : (i : Int) < (L.length : Int) := by omega
      have hi0 : (0 : Int) ≤ (i : Int) := by omega
      have hj : IntKind.i64.wrap ((i : Int) + 1) = (i : Int) + 1 := IntWalk.i64_in _ (by omega)
      obtain ⟨U', hU⟩ : ∃ U', SM.av L i * d = U' := ⟨_, rfl⟩
      obtain ⟨V', hV⟩ : ∃ V', SM.sv L i * n = V' := ⟨_, rfl⟩
      rw [hU] at p0 p1 hst
      rw [hV] at p2 p3 hst
      obtain ⟨g3, g4⟩ := g1
      obtain ⟨g5, g6⟩ := g2
      have h3 : IntKind.i64.wrap (SM.av L i * d) = U' := g3.trans hU
      have h4 : wrap64 (SM.av L i * d) = U' := g4.trans hU
      have h5 : IntKind.i64.wrap (SM.sv L i * n) = V' := g5.trans hV
      have h6 : wrap64 (SM.sv L i * n) = V' := g6.trans hV
      have h7 : IntKind.i64.wrap (U' + V') = U' + V' := IntWalk.i64_in _ (by omega)
      have HST := hidd hst
      clear e' hst hb' g3 g4 g5 g6 hU hV
      generalize SM.av L i = b0 at *
      generalize SM.sv L i = b1 at *
      by_cases hlow : U' + V' < x
      · have hst2 := HST.out
        rw [if_pos hlow] at hst2
        have HST2 := hidd hst2
        clear hst2 HST
        go_wp2_with fail
        go_quiet (fail)
        go_wp2_with fail
        have hk := HK.out
        go_roundg (gk - 1)
        case measure => omega
        case rel => exact ⟨i + 1, U' + V', by omega, by omega, by go_num, by first | rfl | simp, HST2.out, by omega, by have := HB.out; (repeat' (first | (with_reducible exact Below.refl _ _) | (with_reducible assumption) | (with_reducible apply Below.setCell) | (with_reducible apply Below.alloc) | (with_reducible apply Below.drew) | (with_reducible apply below_drewN) | (with_reducible refine Below.trans ?_ (Below.mono (by assumption) ?_)) | omega | (simp; done) | (simp; omega)))⟩
      · have hst2 := HST.out
        rw [if_neg hlow] at hst2
        have HST2 := hidd hst2
        clear hst2 HST
        go_wp2_with fail
        go_quiet (fail)
        go_wp2_with fail
        have hk := HK.out
        go_roundg (gk - 1)
        case measure => omega
        case rel => exact ⟨i + 1, x, by omega, by omega, by go_num, rfl, HST2.out, by omega, by have := HB.out; (repeat' (first | (with_reducible exact Below.refl _ _) | (with_reducible assumption) | (with_reducible apply Below.setCell) | (with_reducible apply Below.alloc) | (with_reducible apply Below.drew) | (with_reducible apply below_drewN) | (with_reducible refine Below.trans ?_ (Below.mono (by assumption) ?_)) | omega | (simp; done) | (simp; omega)))⟩
    · obtain rfl : i = L.length := by omega
      go_wp2_with fail
      go_ret
      refine ⟨_, rfl, ?_, HB.out⟩
      have := HX.out
      rwa [List.take_length] at this
end Go.Proofs.Ytpgaklfgbioocaa
