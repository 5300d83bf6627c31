/- Buckets: the document's answers: may it be asked, does a packet keep to it. -/
import Derived.Test.YthaiphkmkchhoaaBkP
import Derived.Test.YthaiphkmkchhoaaSpI
import Derived.Test.YthaiphkmkchhoaaSmD
namespace Go.Proofs.Ythaiphkmkchhoaa
open Go.RowKit
set_option linter.unusedVariables false
theorem rowOf_get {α : Type} {f : α → List Value} {sz : Nat} (hf : ∀ x, (f x).length = sz) : ∀ {L : List α} {j : Nat} {v : Value}, (rowOf f L)[j]? = some v → ∃ i x k, L[i]? = some x ∧ (f x)[k]? = some v ∧ j = i * sz + k
  | [], j, v, h => by simp [rowOf] at h
  | y :: L, j, v, h => by
    simp only [rowOf, List.flatMap_cons] at h
    by_cases hj : j < sz
    · rw [List.getElem?_append_left (by rw [hf]; exact hj)] at h
      exact ⟨0, y, j, by simp, h, by simp⟩
    · rw [List.getElem?_append_right (by rw [hf]; omega), hf] at h
      obtain ⟨i, x, k, h1, h2, h3⟩ := rowOf_get hf (L := L) (j := j - sz) h
      exact ⟨i + 1, x, k, by simpa using h1, h2, by rw [Nat.add_mul]; omega⟩
theorem Lie.src {w W : World} {B : Nat} {A : Option Addr} {L : List (Int × Int)} (h : Lie sendV 2 w B A L) (hb : Below B w W) : 0 < L.length → ∃ ad, A = some ad ∧ ∀ j u, (rowOf sendV L)[j]? = some u → W.cell? (ad.add j) = some u := fun hl => by
  obtain ⟨ad, e, hB, hc⟩ := h hl
  refine ⟨ad, e, fun j u hu => ?_⟩
  obtain ⟨i, x, k, h1, h2, rfl⟩ := rowOf_get sendV_len hu
  exact (hb.cell (by rw [block_of_add]; exact hB)).trans (hc i x h1 k u h2)
theorem sendInfo12 : (Try.prog.info? 107).map (fun i => (i.zero, i.size, i.bytes)) = some (some (.agg #[.int .i64 0, .int .i64 0]), 2, 16) := by kernel_rfl
theorem asked12_any (p r u m l : Int) (A : Option Addr) (n c : Nat) (now t : Int) (w : World) : Calls Try.prog 41 #[.agg #[.int .i64 p, .int .i64 r, .int .i64 u, .int .i64 m, .int .i64 l, .slice A n c, .int .i64 now], .int .i64 t] w fun e w' => e = .returned (.int .i64 (if decide (now ≤ t ∧ t ≤ 2147483647) then 0 else 2)) ∧ Below w.heap.size w w' := by
  by_cases h0 : t < now
  · have e : decide (now ≤ t ∧ t ≤ 2147483647) = false := decide_eq_false (by omega)
    rw [e]
    clear e
    go_enter Try.func41, Try.ntmps41
    go_wp2_with fail
    go_ret
    exact ⟨rfl, by (repeat' (first | (with_reducible exact Below.refl _ _) | (with_reducible assumption) | (with_reducible apply Below.setCell) | (with_reducible apply Below.alloc) | (with_reducible apply Below.drew) | (with_reducible apply below_drewN) | (with_reducible refine Below.trans ?_ (Below.mono (by assumption) ?_)) | omega | (simp; done) | (simp; omega)))⟩
  · by_cases h1 : 2147483647 < t
    · have e : decide (now ≤ t ∧ t ≤ 2147483647) = false := decide_eq_false (by omega)
      rw [e]
      clear e
      go_enter Try.func41, Try.ntmps41
      go_wp2_with fail
      go_ret
      exact ⟨rfl, by (repeat' (first | (with_reducible exact Below.refl _ _) | (with_reducible assumption) | (with_reducible apply Below.setCell) | (with_reducible apply Below.alloc) | (with_reducible apply Below.drew) | (with_reducible apply below_drewN) | (with_reducible refine Below.trans ?_ (Below.mono (by assumption) ?_)) | omega | (simp; done) | (simp; omega)))⟩
    · have e : decide (now ≤ t ∧ t ≤ 2147483647) = true := decide_eq_true (by omega)
      rw [e]
      clear e
      go_enter Try.func41, Try.ntmps41
      go_wp2_with fail
      go_ret
      exact ⟨rfl, by (repeat' (first | (with_reducible exact Below.refl _ _) | (with_reducible assumption) | (with_reducible apply Below.setCell) | (with_reducible apply Below.alloc) | (with_reducible apply Below.drew) | (with_reducible apply below_drewN) | (with_reducible refine Below.trans ?_ (Below.mono (by assumption) ?_)) | omega | (simp; done) | (simp; omega)))⟩
def Keeps12End (p r u m l : Int) (T : List (Int × Int)) (w : World) (e : Ending) (w' : World) : Prop := ∃ b : Bool, e = .returned (.bool b) ∧ (b = true ↔ BM.Keep p r u m l T) ∧ Below w.heap.size w w'
set_option maxRecDepth 100000 in
set_option maxHeartbeats 8000000 in
theorem keeps12_any (p r u m l : Int) (hr : rightB p r u m l = true) (A : Option Addr) (L : List (Int × Int)) (c : Nat) (now t z : Int) (hm : L.length ≤ 1000) (w : World) (hl : Lie sendV 2 w w.heap.size A L) :
    Calls Try.prog 42 #[.agg #[.int .i64 p, .int .i64 r, .int .i64 u, .int .i64 m, .int .i64 l, .slice A L.length c, .int .i64 now], .int .i64 t, .int .i64 z] w (Keeps12End p r u m l (L ++ [(t, z)]) w) := by
  obtain ⟨i0, hi0, hz0, hz1, hz2⟩ := info_parts sendInfo12
  have ckl := hidd (fun A' c' W hl => refKeeps_any p r u m l hr A' (L ++ [(t, z)]) (L.length + 1) c' (by simp) (by omega) W hl)
  unfold RKeepsEnd at ckl
  obtain ⟨W0, hW0⟩ : ∃ W0 : World, w.alloc (.cells #[.int .i64 p, .int .i64 r, .int .i64 u, .int .i64 m, .int .i64 l, .slice A L.length c, .int .i64 now] 32) = W0 := ⟨_, rfl⟩
  have hb0 : Below w.heap.size w W0 := by rw [← hW0]; (repeat' (first | (with_reducible exact Below.refl _ _) | (with_reducible assumption) | (with_reducible apply Below.setCell) | (with_reducible apply Below.alloc) | (with_reducible apply Below.drew) | (with_reducible apply below_drewN) | (with_reducible refine Below.trans ?_ (Below.mono (by assumption) ?_)) | omega | (simp; done) | (simp; omega)))
  have k0 : W0.cell? ⟨w.heap.size, 0, none⟩ = some (.int .i64 p) := by rw [← hW0]; simp [go_sem]
  have k1 : W0.cell? ⟨w.heap.size, 1, none⟩ = some (.int .i64 r) := by rw [← hW0]; simp [go_sem]
  have k2 : W0.cell? ⟨w.heap.size, 2, none⟩ = some (.int .i64 u) := by rw [← hW0]; simp [go_sem]
  have k3 : W0.cell? ⟨w.heap.size, 3, none⟩ = some (.int .i64 m) := by rw [← hW0]; simp [go_sem]
  have k4 : W0.cell? ⟨w.heap.size, 4, none⟩ = some (.int .i64 l) := by rw [← hW0]; simp [go_sem]
  have k5 : W0.cell? ⟨w.heap.size, 5, none⟩ = some (.slice A L.length c) := by rw [← hW0]; simp [go_sem]
  have hlt : w.heap.size < W0.heap.size := by rw [← hW0]; simp
  have HS := hidd (fun W (hb : Below W0.heap.size W0 W) => hl.src (hb0.trans (hb.mono (Nat.le_of_lt hlt))))
  have KEEP := hidd (fun Y (hb : Below W0.heap.size W0 Y) => (show (Y.cell? ⟨w.heap.size, 0, none⟩ = some (.int .i64 p) ∧ Y.cell? ⟨w.heap.size, 1, none⟩ = some (.int .i64 r) ∧ Y.cell? ⟨w.heap.size, 2, none⟩ = some (.int .i64 u) ∧ Y.cell? ⟨w.heap.size, 3, none⟩ = some (.int .i64 m) ∧ Y.cell? ⟨w.heap.size, 4, none⟩ = some (.int .i64 l)) ∧ Y.cell? ⟨w.heap.size, 5, none⟩ = some (.slice A L.length c) from
    ⟨⟨(hb.cell (p := ⟨w.heap.size, 0, none⟩) hlt).trans k0, (hb.cell (p := ⟨w.heap.size, 1, none⟩) hlt).trans k1, (hb.cell (p := ⟨w.heap.size, 2, none⟩) hlt).trans k2, (hb.cell (p := ⟨w.heap.size, 3, none⟩) hlt).trans k3, (hb.cell (p := ⟨w.heap.size, 4, none⟩) hlt).trans k4⟩, (hb.cell (p := ⟨w.heap.size, 5, none⟩) hlt).trans k5⟩))
  have HB0 := hidd hb0
  have HW := hidd hW0
  have HK : Hid (∀ b : Bool, (b = true ↔ SM.KP (SM.av (L ++ [(t, z)])) (SM.sv (L ++ [(t, z)])) p r u m l (L ++ [(t, z)]).length) → (b = true ↔ BM.Keep p r u m l (L ++ [(t, z)]))) := hidd (fun b h => h)
  have h40 := hm
  unfold Keeps12End
  obtain ⟨PK, hPK⟩ : ∃ PK : Prop, BM.Keep p r u m l (L ++ [(t, z)]) = PK := ⟨_, rfl⟩
  rw [hPK] at HK ⊢
  clear hW0 hl hr hb0 hPK
  obtain ⟨PO, hPO⟩ : ∃ PO : Ending → World → Prop, (fun e w' => ∃ b : Bool, e = .returned (.bool b) ∧ (b = true ↔ PK) ∧ Below w.heap.size w w') = PO := ⟨_, rfl⟩
  have HPO := hidd hPO
  show Calls _ _ _ _ (fun e w' => ∃ b : Bool, e = .returned (.bool b) ∧ (b = true ↔ PK) ∧ Below w.heap.size w w')
  rw [hPO]
  clear hPO
  go_enter Try.func42, Try.ntmps42
  go_wp2_with fail
  rw [HW.out]
  go_region_held3 (fun Y => (Y.cell? ⟨w.heap.size, 0, none⟩ = some (.int .i64 p) ∧ Y.cell? ⟨w.heap.size, 1, none⟩ = some (.int .i64 r) ∧ Y.cell? ⟨w.heap.size, 2, none⟩ = some (.int .i64 u) ∧ Y.cell? ⟨w.heap.size, 3, none⟩ = some (.int .i64 m) ∧ Y.cell? ⟨w.heap.size, 4, none⟩ = some (.int .i64 l)) ∧ Y.cell? ⟨w.heap.size, 5, none⟩ = some (.slice A L.length c))
    ((first | exact KEEP.out _ hbF | exact KEEP.out _ hb2 | exact KEEP.out _ (below_new hb1 _) | exact KEEP.out _ hb1 | exact KEEP.out _ (below_new (Below.drew (Below.refl _ _)) _) | exact KEEP.out _ (below_new (Below.refl _ _) _) | exact KEEP.out _ (Below.drew (Below.refl _ _)) | exact KEEP.out _ (Below.refl _ _)))
    ((first
      | (refine step_append_some (by rfl) (.const (.slice none 0 0)) (.tmp 10) _ (by rfl) W0.heap.size 107 i0 _ 2 16 Try.underlying30 hi0 hz0 hz1 hz2 rfl (by omega) (.slice none 0 0) 0 [] (by rfl) (World.ownsRow_nil _ _ _ _) A L.length c (rowOf sendV L) (by rfl) (row_len sendV_len L) (by first | with_reducible exact HS.out _ (Below.drew (Below.refl _ _)) | with_reducible exact HS.out _ (Below.refl _ _) | with_reducible exact HS.out _ (below_new (Below.drew (Below.refl _ _)) _) | with_reducible exact HS.out _ (below_new (Below.refl _ _) _)) (rowOf_one sendV_one L) (by simp only [maxLen]; omega) (by omega) (by (first | omega | (simp; done) | (simp; omega))) ?_; intro v1 wa hown1 hgrow1 hat1; have hb1 : Below W0.heap.size W0 wa := Below.grown (by (repeat' (first | (with_reducible exact Below.refl _ _) | (with_reducible assumption) | (with_reducible apply Below.setCell) | (with_reducible apply Below.alloc) | (with_reducible apply Below.drew) | (with_reducible apply below_drewN) | (with_reducible refine Below.trans ?_ (Below.mono (by assumption) ?_)) | omega | (simp; done) | (simp; omega)))) hgrow1 (by (first | omega | (simp; done) | (simp; omega))) (by intro k hk; simp [Value.ownBlock] at hk); have hz1' := Below.size hb1)
      | (refine step_append_some (by rfl) (.tmp 11) (.tmp 15) _ (by rfl) W0.heap.size 107 i0 _ 2 16 Try.underlying30 hi0 hz0 hz1 hz2 rfl (by omega) v1 (0 + L.length) ([] ++ rowOf sendV L) (by rfl) (World.ownsRow.alloc hown1 _) (some ⟨wa.heap.size, 0, none⟩) 1 1 [.int .i64 t, .int .i64 z] (by rfl) (by rfl) (fun _ => ⟨_, rfl, World.news_of_block (cs := #[.int .i64 t, .int .i64 z]) (t := 107) (fr := (0, 0)) (heap_alloc_new wa _)⟩) (by simp [Value.oneCell']) (by simp only [maxLen]; omega) (by omega) (by (first | omega | (simp; done) | (simp; omega))) ?_; intro v2 wb hown2 hgrow2 hat2; have hb2 : Below W0.heap.size W0 wb := Below.grown (by (repeat' (first | (with_reducible exact Below.refl _ _) | (with_reducible assumption) | (with_reducible apply Below.setCell) | (with_reducible apply Below.alloc) | (with_reducible apply Below.drew) | (with_reducible apply below_drewN) | (with_reducible refine Below.trans ?_ (Below.mono (by assumption) ?_)) | omega | (simp; done) | (simp; omega)))) hgrow2 (by (first | omega | (simp; done) | (simp; omega))) (fun k hk => (World.ownsRow.lt hown1 k hk).1); have hz2' := Below.size hb2; obtain ⟨A2, c2, e2, _, _, hl2⟩ := (OwnL.snoc (f := sendV) (L := L) (x := (t, z)) hown2 (by omega) (by simp [sendV])).lie sendV_len; have e3 : v2 = .slice A2 (L.length + 1) c2 := (by simpa using e2); subst e3; clear e2)
      | (refine step_append_some (by rfl) (.tmp 11) (.tmp 15) _ (by rfl) W0.heap.size 107 i0 _ 2 16 Try.underlying30 hi0 hz0 hz1 hz2 rfl (by omega) v1 (0 + L.length) ([] ++ rowOf sendV L) (by rfl) hown1 (some ⟨W0.heap.size, 0, none⟩) 1 1 [.int .i64 t, .int .i64 z] (by rfl) (by rfl) (fun _ => ⟨_, rfl, World.news_of_block (cs := #[.int .i64 t, .int .i64 z]) (t := 107) (fr := (0, 0)) ((hgrow1.block W0.heap.size (by simp) (by simp [Value.ownBlock])).trans (heap_alloc_new W0 _))⟩) (by simp [Value.oneCell']) (by simp only [maxLen]; omega) (by omega) (by (first | omega | (simp; done) | (simp; omega))) ?_; intro v2 wb hown2 hgrow2 hat2; have hb2 : Below W0.heap.size W0 wb := Below.grown hb1 hgrow2 (by (first | omega | (simp; done) | (simp; omega))) (fun k hk => (World.ownsRow.lt hown1 k hk).1); have hz2' := Below.size hb2; obtain ⟨A2, c2, e2, _, _, hl2⟩ := (OwnL.snoc (f := sendV) (L := L) (x := (t, z)) hown2 (by omega) (by simp [sendV])).lie sendV_len; have e3 : v2 = .slice A2 (L.length + 1) c2 := (by simpa using e2); subst e3; clear e2)
      | (go_at_call 53; refine (ckl.out _ _ _ hl2).mono ?_; rintro E w3 ⟨bk, rfl, hbk, hb3⟩; have HBK := hidd hbk; clear hbk; have hbF : Below W0.heap.size W0 w3 := hb2.trans (hb3.mono hz2'))))
  all_goals go_wp2_with fail
  all_goals (try go_ret)
  all_goals (rw [← HPO.out]; exact ⟨bk, rfl, HK.out _ HBK.out, HB0.out.trans (hbF.mono (Nat.le_of_lt hlt))⟩)
end Go.Proofs.Ythaiphkmkchhoaa
