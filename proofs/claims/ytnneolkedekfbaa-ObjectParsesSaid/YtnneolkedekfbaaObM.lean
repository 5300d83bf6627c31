/- Objects: the document's Right and Raw. -/
import Derived.Test.YtnneolkedekfbaaObL
namespace Go.Proofs.Ytnneolkedekfbaa
set_option linter.unusedVariables false
open Go.RowKit

theorem rightB_iff {c t : Int} {ws : List Int} : rightB c t ws = true ↔ (0 ≤ c ∧ c ≤ 255) ∧ (0 ≤ t ∧ t ≤ 255) ∧ (1 ≤ ws.length ∧ ws.length ≤ 64) ∧ ∀ i, i < ws.length → wordB (av ws i) = true := by
  simp only [rightB, Bool.and_eq_true, inB_iff, all_av]
  constructor
  · rintro ⟨h1, h2, h3, h4⟩; exact ⟨h1, h2, by omega, h4⟩
  · rintro ⟨h1, h2, h3, h4⟩; exact ⟨h1, h2, by omega, h4⟩
set_option maxRecDepth 100000 in
set_option maxHeartbeats 8000000 in
theorem refRight7 (a b : Int) (A : Option Addr) (L : List Int) (k : Nat) (hL : L.length ≤ 9223372036854775807) (w : World) (hA : LieQ wdV 1 w (· < w.heap.size) A L) :
    Calls Try.prog 9 #[.agg #[.int .i64 a, .int .i64 b, .slice A L.length k]] w fun e w' => e = .returned (.bool (rightB a b L)) ∧ Below w.heap.size w w' := by
  have HA := hidd hA
  obtain ⟨R, hR⟩ : ∃ R, rightB a b L = R := ⟨_, rfl⟩
  rw [hR]
  have hrr := rightB_iff (c := a) (t := b) (ws := L)
  rw [hR] at hrr
  have HR := hidd hrr
  clear hA hR hrr
  by_cases hok : (0 ≤ a ∧ a ≤ 255) ∧ (0 ≤ b ∧ b ≤ 255) ∧ (1 ≤ L.length ∧ L.length ≤ 64)
  rotate_left
  · have hr : R = false := by
      cases R
      · rfl
      · exact absurd ⟨(HR.out.1 rfl).1, (HR.out.1 rfl).2.1, (HR.out.1 rfl).2.2.1⟩ hok
    subst hr
    clear HR HA
    by_cases h1 : a < 0
    · go_enter Try.func9, Try.ntmps9
      go_wp2_with fail
      go_ret
      exact ⟨by first | rfl | simp, by (repeat' (first | (with_reducible exact Below.refl _ _) | (with_reducible assumption) | (with_reducible apply Below.setCell) | (with_reducible apply Below.alloc) | (with_reducible apply Below.drew) | (with_reducible apply below_drewN) | (with_reducible refine Below.trans ?_ (Below.mono (by assumption) ?_)) | omega | (simp; done) | (simp; omega)))⟩
    by_cases h2 : a > 255
    · go_enter Try.func9, Try.ntmps9
      go_wp2_with fail
      go_ret
      exact ⟨by first | rfl | simp, by (repeat' (first | (with_reducible exact Below.refl _ _) | (with_reducible assumption) | (with_reducible apply Below.setCell) | (with_reducible apply Below.alloc) | (with_reducible apply Below.drew) | (with_reducible apply below_drewN) | (with_reducible refine Below.trans ?_ (Below.mono (by assumption) ?_)) | omega | (simp; done) | (simp; omega)))⟩
    by_cases h3 : b < 0
    · go_enter Try.func9, Try.ntmps9
      go_wp2_with fail
      go_ret
      exact ⟨by first | rfl | simp, by (repeat' (first | (with_reducible exact Below.refl _ _) | (with_reducible assumption) | (with_reducible apply Below.setCell) | (with_reducible apply Below.alloc) | (with_reducible apply Below.drew) | (with_reducible apply below_drewN) | (with_reducible refine Below.trans ?_ (Below.mono (by assumption) ?_)) | omega | (simp; done) | (simp; omega)))⟩
    by_cases h4 : b > 255
    · go_enter Try.func9, Try.ntmps9
      go_wp2_with fail
      go_ret
      exact ⟨by first | rfl | simp, by (repeat' (first | (with_reducible exact Below.refl _ _) | (with_reducible assumption) | (with_reducible apply Below.setCell) | (with_reducible apply Below.alloc) | (with_reducible apply Below.drew) | (with_reducible apply below_drewN) | (with_reducible refine Below.trans ?_ (Below.mono (by assumption) ?_)) | omega | (simp; done) | (simp; omega)))⟩
    by_cases h5 : (L.length : Int) < 1
    · clear hok
      go_enter Try.func9, Try.ntmps9
      go_wp2_with fail
      go_ret
      exact ⟨by first | rfl | simp, by (repeat' (first | (with_reducible exact Below.refl _ _) | (with_reducible assumption) | (with_reducible apply Below.setCell) | (with_reducible apply Below.alloc) | (with_reducible apply Below.drew) | (with_reducible apply below_drewN) | (with_reducible refine Below.trans ?_ (Below.mono (by assumption) ?_)) | omega | (simp; done) | (simp; omega)))⟩
    · have h6 : (L.length : Int) > 64 := by omega
      clear hok
      go_enter Try.func9, Try.ntmps9
      go_wp2_with fail
      go_ret
      exact ⟨by first | rfl | simp, by (repeat' (first | (with_reducible exact Below.refl _ _) | (with_reducible assumption) | (with_reducible apply Below.setCell) | (with_reducible apply Below.alloc) | (with_reducible apply Below.drew) | (with_reducible apply below_drewN) | (with_reducible refine Below.trans ?_ (Below.mono (by assumption) ?_)) | omega | (simp; done) | (simp; omega)))⟩
  have h1 : ¬ (a < 0) := by omega
  have h2 : ¬ (a > 255) := by omega
  have h3 : ¬ (b < 0) := by omega
  have h4 : ¬ (b > 255) := by omega
  have h5 : ¬ ((L.length : Int) < 1) := by omega
  have h6 : ¬ ((L.length : Int) > 64) := by omega
  have HOK := hidd hok
  have HX := hidd (fun (W : World) (hb : Below (w.alloc (.cells #[.int .i64 a, .int .i64 b, .slice A L.length k] 32)).heap.size (w.alloc (.cells #[.int .i64 a, .int .i64 b, .slice A L.length k] 32)) W) => (show W.cell? ⟨w.heap.size, 2, none⟩ = some (.slice A L.length k) ∧ Below w.heap.size w W from ⟨(box_keep w a b _ 32 hb).2.2, below_step (by (repeat' (first | (with_reducible exact Below.refl _ _) | (with_reducible assumption) | (with_reducible apply Below.setCell) | (with_reducible apply Below.alloc) | (with_reducible apply Below.drew) | (with_reducible apply below_drewN) | (with_reducible refine Below.trans ?_ (Below.mono (by assumption) ?_)) | omega | (simp; done) | (simp; omega)))) hb⟩))
  clear hok
  go_enter Try.func9, Try.ntmps9
  go_wp2_with fail
  go_loopg [3] (L.length + 1) (fun g s wr => ∃ (i : Nat), i ≤ L.length ∧ i + g = L.length + 1 ∧ s = .int .i64 (i : Int) ∧ (∀ j, j < i → wordB (av L j) = true) ∧ Below (w.alloc (.cells #[.int .i64 a, .int .i64 b, .slice A L.length k] 32)).heap.size (w.alloc (.cells #[.int .i64 a, .int .i64 b, .slice A L.length k] 32)) wr)
  case atStart => exact ⟨0, by omega, by omega, by first | rfl | simp, fun j hj => absurd hj (by omega), Below.refl _ _⟩
  case round =>
    obtain ⟨i, hi, hg, rfl, hs, hB⟩ := hrel
    have HG := hidd hg
    have HS := hidd hs
    have HBw := hidd hB
    obtain ⟨b0, hBB⟩ := HX.out _ hB
    have HBB := hidd hBB
    clear hg hs hB
    by_cases hin : i < L.length
    · obtain ⟨ad, rfl, ha, x0⟩ := (HA.out.below hBB).word i hin
      have hin2 : (i : Int) < (L.length : Int) := by omega
      have hi0 : (0 : Int) ≤ (i : Int) := by omega
      have e1 : IntKind.i64.wrap ((i : Int) + 1) = (i : Int) + 1 := IntWalk.i64_in _ (by omega)
      have HNO := hidd (fun (h : ¬ wordB (av L i) = true) => (show R = false by
        cases R
        · rfl
        · exact absurd ((HR.out.1 rfl).2.2.2 i hin) h))
      have HST := hidd (fun (h : wordB (av L i) = true) j (hj : j < i + 1) => (show wordB (av L j) = true by
        by_cases e : j = i
        · subst e; exact h
        · exact HS.out j (by omega)))
      rw [wordB_iff] at HNO HST
      clear hBB
      generalize av L i = n at *
      by_cases g0 : n < 0
      · have hr := HNO.out (by omega)
        subst hr
        go_wp2_with fail
        go_ret
        exact ⟨by first | rfl | simp, HBB.out⟩
      by_cases g1 : n > 4294967295
      · have hr := HNO.out (by omega)
        subst hr
        go_wp2_with fail
        go_ret
        exact ⟨by first | rfl | simp, HBB.out⟩
      · have HN1 := hidd (HST.out (by omega))
        go_wp2_with fail
        have hg := HG.out
        go_roundg (gk - 1)
        case measure => omega
        case rel => exact ⟨i + 1, by omega, by omega, by go_num, HN1.out, HBw.out⟩
    · have hin2 : ¬ (i : Int) < (L.length : Int) := by omega
      have hr : R = true := HR.out.2 ⟨HOK.out.1, HOK.out.2.1, HOK.out.2.2, fun j hj => HS.out j (by omega)⟩
      subst hr
      clear hBB
      go_wp2_with fail
      go_ret
      exact ⟨by first | rfl | simp, HBB.out⟩
theorem own_new4 (w : World) (base : Nat) (hb : base ≤ w.heap.size) (x y z u : Int) : OwnL byV 1 (w.alloc (.cells #[.int .u8 x, .int .u8 y, .int .u8 z, .int .u8 u] 5)) base 5 (.slice (some ⟨w.heap.size, 0, none⟩) 4 4) [x, y, z, u] :=
  ⟨rfl, .inr ⟨w.heap.size, 4, #[.int .u8 x, .int .u8 y, .int .u8 z, .int .u8 u], rfl, hb, heap_alloc_new w _, by simp, by simp [maxLen], by simp, by simp [rowOf, byV]⟩⟩
theorem OwnL.snoc4 {w : World} {base n : Nat} {e : TypeId} {v : Value} {L : List Int} {x y z u : Int} {xs : List Value} (h : w.ownsRow base e 1 v n xs) (hn : n = L.length + 4) (hx : xs = rowOf byV L ++ [.int .u8 x, .int .u8 y, .int .u8 z, .int .u8 u]) : OwnL byV 1 w base e v (L ++ [x, y, z, u]) := by
  subst hn hx
  unfold OwnL
  simpa [rowOf, byV] using h
theorem layN4 (n : Int) : layN n 4 = [n / 16777216 % 256, n / 65536 % 256, n / 256 % 256, n % 256] := by simp [layN]
set_option maxRecDepth 100000 in
set_option maxHeartbeats 8000000 in
theorem refRaw7 (a b : Int) (A : Option Addr) (L : List Int) (k : Nat) (hr : rightB a b L = true) (w : World) (hA : LieQ wdV 1 w (· < w.heap.size) A L) :
    Calls Try.prog 10 #[.agg #[.int .i64 a, .int .i64 b, .slice A L.length k]] w fun e w' => ∃ v, e = .returned v ∧ OwnL byV 1 w' w.heap.size 5 v (rawO ⟨a, b, .slice A L.length k, L⟩) ∧ Below w.heap.size w w' := by
  obtain ⟨ha, hb, hl, hwd⟩ := rightB_iff.1 hr
  have HA := hidd hA
  have HW := hidd hwd
  obtain ⟨i0, hi0, hz0, hz1, hz2⟩ := info_parts byteInfo
  obtain ⟨H4, hH4⟩ : ∃ H4, layB 2 [4 + 4 * (L.length : Int)] ++ layB 1 [a, b] = H4 := ⟨_, rfl⟩
  have hH : H4 = [(4 + 4 * (L.length : Int)) / 256, (4 + 4 * (L.length : Int)) % 256, a, b] := by
    rw [← hH4]; simp [layB, layN]; omega
  have HH := hidd hH
  have HH4 := hidd hH4
  have e1 : IntKind.i64.wrap (4 * (L.length : Int)) = 4 * (L.length : Int) := IntWalk.i64_in _ (by omega)
  have e2 : IntKind.i64.wrap (4 + 4 * (L.length : Int)) = 4 + 4 * (L.length : Int) := IntWalk.i64_in _ (by omega)
  have e3 : (4 + 4 * (L.length : Int)).tdiv 256 = (4 + 4 * (L.length : Int)) / 256 := Int.tdiv_eq_ediv_of_nonneg (by omega)
  have e4 : (4 + 4 * (L.length : Int)).tmod 256 = (4 + 4 * (L.length : Int)) % 256 := Int.tmod_eq_emod_of_nonneg (by omega)
  have e5 : IntKind.u8.wrap ((4 + 4 * (L.length : Int)) / 256) = (4 + 4 * (L.length : Int)) / 256 := by rw [IntKind.wrap_u8]; omega
  have e6 : IntKind.u8.wrap ((4 + 4 * (L.length : Int)) % 256) = (4 + 4 * (L.length : Int)) % 256 := by rw [IntKind.wrap_u8]; omega
  have e7 : IntKind.u8.wrap a = a := by rw [IntKind.wrap_u8]; omega
  have e8 : IntKind.u8.wrap b = b := by rw [IntKind.wrap_u8]; omega
  have HX := hidd (fun (W : World) (h : Below (w.heap.size + 1) (w.alloc (.cells #[.int .i64 a, .int .i64 b, .slice A L.length k] 32)) W) => (show W.cell? ⟨w.heap.size, 2, none⟩ = some (.slice A L.length k) ∧ Below w.heap.size w W from ⟨(h.cell (p := ⟨w.heap.size, 2, none⟩) (by simp)).trans (by simp [go_sem]), (show Below w.heap.size w (w.alloc (.cells #[.int .i64 a, .int .i64 b, .slice A L.length k] 32)) by (repeat' (first | (with_reducible exact Below.refl _ _) | (with_reducible assumption) | (with_reducible apply Below.setCell) | (with_reducible apply Below.alloc) | (with_reducible apply Below.drew) | (with_reducible apply below_drewN) | (with_reducible refine Below.trans ?_ (Below.mono (by assumption) ?_)) | omega | (simp; done) | (simp; omega)))).trans (h.mono (by omega))⟩))
  have HN := hidd (own_new4 (w.alloc (.cells #[.int .i64 a, .int .i64 b, .slice A L.length k] 32)) (w.heap.size + 1) (by simp) ((4 + 4 * (L.length : Int)) / 256) ((4 + 4 * (L.length : Int)) % 256) a b)
  clear hA hwd hr hH hH4
  go_enter Try.func10, Try.ntmps10
  go_wp2_with fail
  go_loopg [4, 5] (L.length + 1) (fun g s4 s5 wr => ∃ i : Nat, i ≤ L.length ∧ i + g = L.length + 1 ∧ s5 = .int .i64 (i : Int) ∧ OwnL byV 1 wr (w.heap.size + 1) 5 s4 (H4 ++ layB 4 (L.take i)) ∧ Below (w.heap.size + 1) (w.alloc (.cells #[.int .i64 a, .int .i64 b, .slice A L.length k] 32)) wr)
  case atStart => exact ⟨0, by omega, by omega, by first | rfl | simp, by rw [HH.out]; simpa [layB] using HN.out, (Below.refl _ _).alloc (by simp) _⟩
  case round =>
    obtain ⟨i, hi, hg, rfl, hO, hB⟩ := hrel
    have HG := hidd hg
    have HBw := hidd hB
    obtain ⟨b0, hBB⟩ := HX.out _ hB
    have HBB := hidd hBB
    obtain ⟨A1, c1, rfl, _, _, _⟩ := OwnL.lie hO byV_len
    have hlen : (H4 ++ layB 4 (L.take i)).length ≤ 1000 := by rw [HH.out, List.length_append, layB_len, List.length_take, Nat.min_eq_left hi]; simp; omega
    clear hg hB
    by_cases hin : i < L.length
    · obtain ⟨ad, rfl, hab, x0⟩ := (HA.out.below hBB).word i hin
      have hin2 : (i : Int) < (L.length : Int) := by omega
      have hin0 : (0 : Int) ≤ (i : Int) := by omega
      have f1 : IntKind.i64.wrap ((i : Int) + 1) = (i : Int) + 1 := IntWalk.i64_in _ (by omega)
      have hn := wordB_iff.1 (HW.out i hin)
      have HT := hidd (layB_take (k := 4) hin)
      have hbz := HBw.out.size
      simp only [World.size_alloc] at hbz
      generalize av L i = n at *
      generalize hM : H4 ++ layB 4 (L.take i) = M at *
      have HM := hidd hM
      clear hM
      clear hBB e1 e2 e3 e4 e5 e6 e7 e8
      have g0 : n.tdiv 16777216 = n / 16777216 := Int.tdiv_eq_ediv_of_nonneg (by omega)
      have g1 : n.tdiv 65536 = n / 65536 := Int.tdiv_eq_ediv_of_nonneg (by omega)
      have g2 : n.tdiv 256 = n / 256 := Int.tdiv_eq_ediv_of_nonneg (by omega)
      have g3 : (n / 65536).tmod 256 = n / 65536 % 256 := Int.tmod_eq_emod_of_nonneg (by omega)
      have g4 : (n / 256).tmod 256 = n / 256 % 256 := Int.tmod_eq_emod_of_nonneg (by omega)
      have g5 : n.tmod 256 = n % 256 := Int.tmod_eq_emod_of_nonneg (by omega)
      have j0 : IntKind.u8.wrap (n / 16777216) = n / 16777216 % 256 := by rw [IntKind.wrap_u8]
      have j1 : IntKind.u8.wrap (n / 65536 % 256) = n / 65536 % 256 := by rw [IntKind.wrap_u8]; omega
      have j2 : IntKind.u8.wrap (n / 256 % 256) = n / 256 % 256 := by rw [IntKind.wrap_u8]; omega
      have j3 : IntKind.u8.wrap (n % 256) = n % 256 := by rw [IntKind.wrap_u8]; omega
      go_wp2_with (at_builtin; refine wpList_append_some (by rfl) (.tmp 37) (.tmp 52) _ (by rfl) (w.heap.size + 1) 5 i0 _ 1 1 Try.underlying25 hi0 hz0 hz1 hz2 rfl (by omega) _ _ _ (by rfl) (World.ownsRow.alloc hO _) (some ⟨_, 0, none⟩) 4 4 [.int .u8 (n / 16777216 % 256), .int .u8 (n / 65536 % 256), .int .u8 (n / 256 % 256), .int .u8 (n % 256)] (by rfl) (by rfl) (fun _ => ⟨_, rfl, World.news_of_block (cs := #[.int .u8 (n / 16777216 % 256), .int .u8 (n / 65536 % 256), .int .u8 (n / 256 % 256), .int .u8 (n % 256)]) (t := 5) (fr := (0, 0)) (heap_alloc_new _ _)⟩) (by simp [Value.oneCell']) (by simp only [maxLen]; omega) (by omega) (by first | omega | (simp; omega)) ?_; intro v1 wa hown1 hgrow1 hat1)
      have hb3 : Below (w.heap.size + 1) (w.alloc (.cells #[.int .i64 a, .int .i64 b, .slice (some ad) L.length k] 32)) wa := Below.grown (HBw.out.alloc hbz _) hgrow1 (by first | omega | (simp; omega)) (fun k hk => (OwnL.lt hO k hk).1)
      have hO3 : OwnL byV 1 wa (w.heap.size + 1) 5 v1 (M ++ layN n 4) := by rw [layN4]; exact OwnL.snoc4 hown1 rfl rfl
      have HB3 := hidd hb3
      have HO3 := hidd hO3
      clear hb3 hO3 hown1 hgrow1 hat1 hO g0 g1 g2 g3 g4 g5 j0 j1 j2 j3
      go_wp2_with fail
      have hg := HG.out
      go_roundg (gk - 1)
      case measure => omega
      case rel => exact ⟨i + 1, by omega, by omega, by go_num, by rw [HT.out, ← List.append_assoc, HM.out]; exact HO3.out, HB3.out⟩
    · obtain rfl : i = L.length := by omega
      rw [List.take_length] at hO hlen
      have HO2 := hidd hO
      clear hBB hO
      rw [List.take_length]
      go_wp2_with fail
      go_ret
      refine ⟨_, rfl, ?_, HBB.out⟩
      unfold rawO
      rw [HH4.out]
      exact HO2.out.base (by omega)
end Go.Proofs.Ytnneolkedekfbaa
