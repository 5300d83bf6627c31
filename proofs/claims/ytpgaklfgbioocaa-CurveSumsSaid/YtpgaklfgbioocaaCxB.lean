/- curve.together: the lines that a merge of the bends visits. -/
import Derived.Test.YtpgaklfgbioocaaCvJ
import Derived.Test.YtpgaklfgbioocaaCxA
namespace Go.Proofs.Ytpgaklfgbioocaa
set_option linter.unusedVariables false
open Go.RowKit RowK

theorem own_one (w : World) (base : Nat) (hb : base ≤ w.heap.size) (e : TypeId) (x y : Int) : OwnL sendV 2 (w.alloc (.cells #[.int .i64 x, .int .i64 y] e)) base e (.slice (some ⟨w.heap.size, 0, none⟩) 1 1) [(x, y)] :=
  ⟨rfl, .inr ⟨w.heap.size, 1, #[.int .i64 x, .int .i64 y], rfl, hb, heap_alloc_new _ _, by simp, by simp [maxLen], rfl, rfl⟩⟩
theorem plus_any (a0 a1 b0 b1 : Int) (h0 : 0 ≤ a0) (h1 : a0 ≤ 2000000000) (h2 : 0 ≤ a1) (h3 : a1 ≤ 2000000000) (k0 : 0 ≤ b0) (k1 : b0 ≤ 2000000000) (k2 : 0 ≤ b1) (k3 : b1 ≤ 2000000000) (w : World) :
    Calls Try.prog 41 #[.agg #[.int .i64 a0, .int .i64 a1], .agg #[.int .i64 b0, .int .i64 b1]] w fun e w' => e = .returned (.agg #[.int .i64 (a0 + b0), .int .i64 (a1 + b1)]) ∧ Below w.heap.size w w' := by
  go_enter Try.func41, Try.ntmps41
  go_wp2_with fail
  exact bodyPost_ret (v := .agg #[.int .i64 (a0 + b0), .int .i64 (a1 + b1)]) (by simp [results, Try.results41, go_sem]) rfl ⟨rfl, by (repeat' (first | (with_reducible exact Below.refl _ _) | (with_reducible assumption) | (with_reducible apply Below.setCell) | (with_reducible apply Below.alloc) | (with_reducible apply Below.drew) | (with_reducible apply below_drewN) | (with_reducible refine Below.trans ?_ (Below.mono (by assumption) ?_)) | omega | (simp; done) | (simp; omega)))⟩
/-- the lines of a list that lies there. -/
theorem Lie.two {w : World} {B : Nat} {ad : Addr} {L : List (Int × Int)} (h : Lie sendV 2 w B (some ad) L) (h0 : 0 < L.length) : ad.block < B ∧ (w.cell? ad = some (.int .i64 (SM.av L 0)) ∧ w.cell? ⟨ad.block, ad.off + 1, none⟩ = some (.int .i64 (SM.sv L 0))) ∧
    (1 < L.length → w.cell? ⟨ad.block, ad.off + 2, none⟩ = some (.int .i64 (SM.av L 1)) ∧ w.cell? ⟨ad.block, ad.off + 2 + 1, none⟩ = some (.int .i64 (SM.sv L 1))) := by
  obtain ⟨ad', e, hB, x0, x1⟩ := h.send 0 h0
  obtain rfl : ad = ad' := by injection e
  have e0 : ad.add (0 * 2) = ad := by simp [Addr.add]
  rw [e0, (av_at h0).1] at x0
  rw [e0, (av_at h0).2] at x1
  refine ⟨hB, ⟨x0, x1⟩, fun h1 => ?_⟩
  obtain ⟨ad', e, hB, y0, y1⟩ := h.send 1 h1
  obtain rfl : ad = ad' := by injection e
  have e1 : ad.add (1 * 2) = ⟨ad.block, ad.off + 2, none⟩ := rfl
  rw [e1, (av_at h1).1] at y0
  rw [e1, (av_at h1).2] at y1
  exact ⟨y0, y1⟩
theorem av_drop (L : List (Int × Int)) (i k : Nat) : SM.av (L.drop i) k = SM.av L (i + k) ∧ SM.sv (L.drop i) k = SM.sv L (i + k) := by
  unfold SM.av SM.sv
  simp [List.getD_eq_getElem?_getD, List.getElem?_drop]
theorem nb_drop (L : List (Int × Int)) (i : Nat) : CM.nb (L.drop i) 0 = CM.nb L i := by
  unfold CM.nb CM.bp CM.bq
  obtain ⟨a0, a1⟩ := av_drop L i 0
  obtain ⟨b0, b1⟩ := av_drop L i 1
  by_cases h : i + 1 < L.length
  · rw [if_pos h, if_pos (by simp; omega)]
    simp only [Nat.zero_add, Nat.sub_self, Nat.add_sub_cancel]
    rw [a0, a1, b0, b1]
    rfl
  · rw [if_neg h, if_neg (by simp; omega)]
/-- a new box of two, behind a draw and a call. -/
theorem GB.new (w : World) : ∀ W', Below (w.alloc (.cells #[.int .i64 0, .int .i64 0] 66)).drew.heap.size (w.alloc (.cells #[.int .i64 0, .int .i64 0] 66)).drew W' → W'.cell? ⟨w.heap.size, 0, none⟩ = some (.int .i64 0) ∧ W'.cell? ⟨w.heap.size, 1, none⟩ = some (.int .i64 0) ∧ W'.frozen? ⟨w.heap.size, 0, none⟩ = false ∧ W'.frozen? ⟨w.heap.size, 1, none⟩ = false := fun W' hb => by
  have h0 := hb.cell (p := ⟨w.heap.size, 0, none⟩) (by simp [go_sem])
  have h1 := hb.cell (p := ⟨w.heap.size, 1, none⟩) (by simp [go_sem])
  have f0 := hb.frozen (p := ⟨w.heap.size, 0, none⟩) (by simp [go_sem])
  have f1 := hb.frozen (p := ⟨w.heap.size, 1, none⟩) (by simp [go_sem])
  exact ⟨h0.trans (by simp [go_sem]), h1.trans (by simp [go_sem]), f0.trans (by simp [go_sem]), f1.trans (by simp [go_sem])⟩
set_option maxHeartbeats 2000000 in
theorem nextBend_any (ad : Addr) (M : List (Int × Int)) (n c : Nat) (hn : M.length = n) (h0 : 0 < n) (hok : ∀ i, i < M.length → 0 ≤ SM.av M i ∧ SM.av M i ≤ 2000000000 ∧ 0 ≤ SM.sv M i ∧ SM.sv M i ≤ 2000000000) (w : World) (hA : Lie sendV 2 w w.heap.size (some ad) M) :
    Calls Try.prog 42 #[.slice (some ad) n c] w fun e w' => e = .returned (.agg #[.int .i64 (CM.nb M 0).1, .int .i64 (CM.nb M 0).2]) ∧ Below w.heap.size w w' := by
  obtain ⟨hB, ⟨x0, x1⟩, h1⟩ := hA.two (by omega)
  by_cases hone : n = 1
  · have e : CM.nb M 0 = (1, 0) := by unfold CM.nb; rw [if_neg (by omega)]
    rw [e]
    subst hone
    clear hok h1 e hA hn x0 x1
    go_enter Try.func42, Try.ntmps42
    go_wp2_with fail
    exact bodyPost_ret (v := .agg #[.int .i64 1, .int .i64 0]) (by simp [results, Try.results42, go_sem]) rfl ⟨rfl, by (repeat' (first | (with_reducible exact Below.refl _ _) | (with_reducible assumption) | (with_reducible apply Below.setCell) | (with_reducible apply Below.alloc) | (with_reducible apply Below.drew) | (with_reducible apply below_drewN) | (with_reducible refine Below.trans ?_ (Below.mono (by assumption) ?_)) | omega | (simp; done) | (simp; omega)))⟩
  · obtain ⟨y0, y1⟩ := h1 (by omega)
    have e : CM.nb M 0 = (SM.av M 1 - SM.av M 0, SM.sv M 0 - SM.sv M 1) := by unfold CM.nb CM.bp CM.bq; rw [if_pos (by omega)]
    rw [e]
    obtain ⟨p0, p1, p2, p3⟩ := hok 0 (by omega)
    obtain ⟨q0, q1, q2, q3⟩ := hok 1 (by omega)
    have hn1 : 1 < n := by omega
    have cb := hidd (fun W => bendOf_any (SM.av M 0) (SM.sv M 0) (SM.av M 1) (SM.sv M 1) p0 p1 p2 p3 q0 q1 q2 q3 W)
    have hone2 : ((n : Int) == 1) = false := by simp; omega
    have hn2 : (1 : Int) < (n : Int) := by omega
    clear hok h1 e hA hn p0 p1 p2 p3 q0 q1 q2 q3
    generalize SM.av M 0 = a0 at *
    generalize SM.sv M 0 = a1 at *
    generalize SM.av M 1 = b0 at *
    generalize SM.sv M 1 = b1 at *
    have KEEP := hidd (fun W' (hb : Below w.heap.size w W') => (show W'.cell? ad = some (.int .i64 a0) ∧ W'.cell? ⟨ad.block, ad.off + 1, none⟩ = some (.int .i64 a1) ∧ W'.cell? ⟨ad.block, ad.off + 2, none⟩ = some (.int .i64 b0) ∧ W'.cell? ⟨ad.block, ad.off + 2 + 1, none⟩ = some (.int .i64 b1) from ⟨(hb.cell (p := ad) hB).trans x0, (hb.cell (p := ⟨ad.block, ad.off + 1, none⟩) hB).trans x1, (hb.cell (p := ⟨ad.block, ad.off + 2, none⟩) hB).trans y0, (hb.cell (p := ⟨ad.block, ad.off + 2 + 1, none⟩) hB).trans y1⟩))
    obtain ⟨z0, z1, z2, z3⟩ := KEEP.out _ (below_new (Below.refl w.heap.size w) (.cells #[.int .i64 0, .int .i64 0] 66))
    have hz : ¬ ad.block = w.heap.size := by omega
    go_enter Try.func42, Try.ntmps42
    go_wp2_with fail
    have HG := hidd (GB.new w)
    go_region_held3 (fun w' => w'.cell? ad = some (.int .i64 a0) ∧ w'.cell? ⟨ad.block, ad.off + 1, none⟩ = some (.int .i64 a1) ∧ w'.cell? ⟨ad.block, ad.off + 2, none⟩ = some (.int .i64 b0) ∧ w'.cell? ⟨ad.block, ad.off + 2 + 1, none⟩ = some (.int .i64 b1))
      ((first | exact KEEP.out _ cum1 | exact KEEP.out _ ((cum1.setCell (Nat.le_refl _) _).setCell (Nat.le_refl _) _) | exact ⟨z0, z1, z2, z3⟩ | go_keep))
      ((first
        | (go_at_call 39; refine (cb.out _).mono ?_; rintro E1 y1 ⟨rfl, l1⟩; have cum1 : Below w.heap.size w y1 := (by first | exact below_step (Below.drew (below_new (Below.refl _ _) _)) l1 | exact below_step (below_new (Below.refl _ _) _) l1); obtain ⟨g0, g1, g2, g3⟩ := HG.out _ l1)))
    all_goals go_wp2_with fail
    all_goals exact bodyPost_ret (v := .agg #[.int .i64 (b0 - a0), .int .i64 (a1 - b1)]) (by simp [results, Try.results42, go_sem, *]) rfl ⟨rfl, by (repeat' (first | (with_reducible exact Below.refl _ _) | (with_reducible assumption) | (with_reducible apply Below.setCell) | (with_reducible apply Below.alloc) | (with_reducible apply Below.drew) | (with_reducible apply below_drewN) | (with_reducible refine Below.trans ?_ (Below.mono (by assumption) ?_)) | omega | (simp; done) | (simp; omega)))⟩
end Go.Proofs.Ytpgaklfgbioocaa
