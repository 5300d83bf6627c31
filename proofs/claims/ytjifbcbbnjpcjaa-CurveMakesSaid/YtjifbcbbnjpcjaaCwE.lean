/- Curves: a line put in its place (the document's side). -/
import Derived.Test.YtjifbcbbnjpcjaaCwD
namespace Go.Proofs.Ytjifbcbbnjpcjaa
set_option linter.unusedVariables false
open Go.RowKit Go.Proofs.Ytjifbcbbnjpcjaa.RowK

theorem row_get : ∀ (L : List (Int × Int)) (j : Nat) (u : Value), (rowOf sendV L)[j]? = some u → ∃ i x r, L[i]? = some x ∧ j = i * 2 + r ∧ (sendV x)[r]? = some u
  | [], j, u, h => by simp [rowOf] at h
  | x :: L, j, u, h => by
    have e : rowOf sendV (x :: L) = sendV x ++ rowOf sendV L := by simp [rowOf]
    rw [e] at h
    by_cases hj : j < 2
    · rw [List.getElem?_append_left (by simpa [sendV] using hj)] at h
      exact ⟨0, x, j, by simp, by omega, h⟩
    · rw [List.getElem?_append_right (by simp [sendV]; omega)] at h
      obtain ⟨i, y, r, h1, h2, h3⟩ := row_get L (j - 2) u (by simpa [sendV] using h)
      exact ⟨i + 1, y, r, by simpa using h1, by omega, h3⟩
theorem lie_take {W : World} {B : Nat} {ad : Addr} {L : List (Int × Int)} (h : Lie sendV 2 W B (some ad) L) (k : Nat) : ∀ j u, (rowOf sendV (L.take k))[j]? = some u → W.cell? (ad.add j) = some u := fun j u hu => by
  obtain ⟨i, x, r, h1, rfl, h3⟩ := row_get _ j u hu
  have hx : L[i]? = some x := by
    rw [List.getElem?_take] at h1
    split at h1
    · exact h1
    · cases h1
  obtain ⟨ad', e, _, hc⟩ := h (by have := (List.getElem?_eq_some_iff.1 hx).1; omega)
  obtain rfl : ad = ad' := by injection e
  exact hc i x hx r u h3
theorem lie_drop {W : World} {B : Nat} {ad : Addr} {L : List (Int × Int)} (h : Lie sendV 2 W B (some ad) L) (k : Nat) : ∀ j u, (rowOf sendV (L.drop k))[j]? = some u → W.cell? ((ad.add (k * 2)).add j) = some u := fun j u hu => by
  obtain ⟨i, x, r, h1, rfl, h3⟩ := row_get _ j u hu
  have hx : L[k + i]? = some x := by rw [List.getElem?_drop] at h1; exact h1
  obtain ⟨ad', e, _, hc⟩ := h (by have := (List.getElem?_eq_some_iff.1 hx).1; omega)
  obtain rfl : ad = ad' := by injection e
  have := hc (k + i) x hx r u h3
  rw [add_of_add, show k * 2 + (i * 2 + r) = (k + i) * 2 + r by omega]
  exact this
theorem lie_all {W : World} {B : Nat} {A : Option Addr} {L : List (Int × Int)} (h : Lie sendV 2 W B A L) : 0 < L.length → ∃ ad, A = some ad ∧ ∀ j u, (rowOf sendV L)[j]? = some u → W.cell? (ad.add j) = some u := fun h0 => by
  obtain ⟨ad, rfl, _⟩ := h h0
  refine ⟨ad, rfl, fun j u hu => ?_⟩
  have := lie_take h L.length j u
  rw [List.take_length] at this
  exact this hu
def PutM (L : List (Int × Int)) (x : Int × Int) (M : List (Int × Int)) : Prop := Ups M ∧ (∀ y, y ∈ M ↔ y ∈ L ∨ y = x) ∧ M.length = L.length + 1
def PutEnd (L : List (Int × Int)) (x : Int × Int) (w : World) (e : Ending) (w' : World) : Prop := ∃ v M, e = .returned v ∧ OwnL sendV 2 w' w.heap.size 46 v M ∧ PutM L x M ∧ Below w.heap.size w w'
theorem line_new (w : World) (x y : Int) (t : TypeId) : LineBox (w.alloc (.cells #[.int .i64 x, .int .i64 y] t)) w.heap.size x y ∧ Below w.heap.size w (w.alloc (.cells #[.int .i64 x, .int .i64 y] t)) :=
  ⟨⟨by simp, by simp [go_sem], by simp [go_sem]⟩, below_new (Below.refl w.heap.size w) _⟩
set_option maxRecDepth 100000 in
set_option maxHeartbeats 4000000 in
theorem put_any (A : Option Addr) (L : List (Int × Int)) (c : Nat) (X Y : Int) (hL : L.length ≤ 100) (hc : L.length ≤ c) (hcm : c ≤ maxLen) (hU : Ups L) (w : World) (hA : Lie sendV 2 w w.heap.size A L) :
    Calls Try.prog 43 #[.slice A L.length c, .agg #[.int .i64 X, .int .i64 Y]] w (PutEnd L (X, Y) w) := by
  have HA := hidd hA
  have HU := hidd hU
  have LN := hidd (line_new w X Y 46)
  have hmx : (maxLen : Nat) = 2 ^ 63 - 1 := rfl
  obtain ⟨i0, hi, hz0, hz1, hz2⟩ := info_parts lineInfo
  unfold PutEnd
  clear hA hU
  obtain ⟨b1, b2, b3⟩ := LN.out.1
  go_enter Try.func43, Try.ntmps43
  go_wp2_with fail
  go_loopg [5] (L.length + 1) (fun g s5 wr => ∃ k : Nat, k ≤ L.length ∧ k + g = L.length + 1 ∧ s5 = .int .i64 (k : Int) ∧ Hid (∀ j, j < k → UpR (SM.av L j, SM.sv L j) (X, Y)) ∧ Below w.heap.size w wr ∧ LineBox wr w.heap.size X Y)
  case atStart => exact ⟨0, by omega, by omega, by first | rfl | simp, hidd (fun j h => absurd h (by omega)), LN.out.2, LN.out.1⟩
  case round =>
    obtain ⟨k, hk1, hg, rfl, HS, hB, hX⟩ := hrel
    have HG := hidd hg
    have HB := hidd hB
    have HX := hidd hX
    clear hg hB b1 b2 b3
    obtain ⟨b1, b2, b3⟩ := hX
    have hk0 : (0 : Int) ≤ (k : Int) := by omega
    have hend : (k = L.length ∨ ∃ h : k < L.length, ¬ UpR (SM.av L k, SM.sv L k) (X, Y)) → (k < L.length → ¬ UpR (SM.av L k, SM.sv L k) (X, Y)) := fun h hk => h.elim (fun e => absurd hk (by omega)) (fun ⟨_, g⟩ => g)
    by_cases hlt : k < L.length
    · obtain ⟨ad, rfl, hab, y0, y1⟩ := (HA.out.below HB.out).send k hlt
      rw [(av_at hlt).1] at y0
      rw [(av_at hlt).2] at y1
      have hin2 : (k : Int) < (L.length : Int) := by omega
      have hj : IntKind.i64.wrap ((k : Int) + 1) = (k : Int) + 1 := IntWalk.i64_in _ (by omega)
      obtain ⟨p, hp⟩ : ∃ p, SM.av L k = p := ⟨_, rfl⟩
      obtain ⟨q, hq⟩ : ∃ q, SM.sv L k = q := ⟨_, rfl⟩
      rw [hp] at y0 hend
      rw [hq] at y1 hend
      have HP := hidd hp
      have HQ := hidd hq
      clear hp hq
      have hstep : UpR (p, q) (X, Y) → ∀ j, j < k + 1 → UpR (SM.av L j, SM.sv L j) (X, Y) := fun h j hj => by
        by_cases e : j = k
        · subst e; rw [HP.out, HQ.out]; exact h
        · exact HS.out j (by omega)
      have HST := hidd hstep
      have HE := hidd hend
      clear hstep hend
      by_cases h1 : p < X
      · have hup : UpR (p, q) (X, Y) := .inl h1
        have HUP := hidd (HST.out hup)
        clear hup
        go_wp2_with fail
        go_quiet (fail)
        go_wp2_with fail
        have hg := HG.out
        have hB := HB.out
        go_roundg (gk - 1)
        case measure => omega
        case rel => exact ⟨k + 1, by omega, by omega, by go_num, HUP, by (repeat' (first | (with_reducible exact Below.refl _ _) | (with_reducible assumption) | (with_reducible apply Below.setCell) | (with_reducible apply Below.alloc) | (with_reducible apply Below.drew) | (with_reducible apply below_drewN) | (with_reducible refine Below.trans ?_ (Below.mono (by assumption) ?_)) | omega | (simp; done) | (simp; omega))), HX.out.step (by (repeat' (first | (with_reducible exact Below.refl _ _) | (with_reducible assumption) | (with_reducible apply Below.setCell) | (with_reducible apply Below.alloc) | (with_reducible apply Below.drew) | (with_reducible apply below_drewN) | (with_reducible refine Below.trans ?_ (Below.mono (by assumption) ?_)) | omega | (simp; done) | (simp; omega))))⟩
      · by_cases h2 : p = X
        · subst h2
          by_cases h3 : q ≤ Y
          · have hup : UpR (p, q) (p, Y) := .inr ⟨rfl, h3⟩
            have HUP := hidd (HST.out hup)
            clear hup
            go_wp2_with fail
            go_quiet (fail)
            go_wp2_with fail
            have hg := HG.out
            have hB := HB.out
            go_roundg (gk - 1)
            case measure => omega
            case rel => exact ⟨k + 1, by omega, by omega, by go_num, HUP, by (repeat' (first | (with_reducible exact Below.refl _ _) | (with_reducible assumption) | (with_reducible apply Below.setCell) | (with_reducible apply Below.alloc) | (with_reducible apply Below.drew) | (with_reducible apply below_drewN) | (with_reducible refine Below.trans ?_ (Below.mono (by assumption) ?_)) | omega | (simp; done) | (simp; omega))), HX.out.step (by (repeat' (first | (with_reducible exact Below.refl _ _) | (with_reducible assumption) | (with_reducible apply Below.setCell) | (with_reducible apply Below.alloc) | (with_reducible apply Below.drew) | (with_reducible apply below_drewN) | (with_reducible refine Below.trans ?_ (Below.mono (by assumption) ?_)) | omega | (simp; done) | (simp; omega))))⟩
          · have hend : k < L.length → ¬ UpR (SM.av L k, SM.sv L k) (p, Y) := fun _ => by rw [HP.out, HQ.out]; exact fun h => h.elim (fun h => absurd h (by simp)) (fun h => h3 h.2)
            have HEND := hidd hend
            clear hend HST HE HP HQ
            go_wp2_with fail
            go_quiet (fail)
            have hBW : Below w.heap.size w (wr.drewN nq) := by have hB := HB.out; (repeat' (first | (with_reducible exact Below.refl _ _) | (with_reducible assumption) | (with_reducible apply Below.setCell) | (with_reducible apply Below.alloc) | (with_reducible apply Below.drew) | (with_reducible apply below_drewN) | (with_reducible refine Below.trans ?_ (Below.mono (by assumption) ?_)) | omega | (simp; done) | (simp; omega)))
            have hXW := HX.out.step (show Below wr.heap.size wr (wr.drewN nq) by (repeat' (first | (with_reducible exact Below.refl _ _) | (with_reducible assumption) | (with_reducible apply Below.setCell) | (with_reducible apply Below.alloc) | (with_reducible apply Below.drew) | (with_reducible apply below_drewN) | (with_reducible refine Below.trans ?_ (Below.mono (by assumption) ?_)) | omega | (simp; done) | (simp; omega))))
            generalize wr.drewN nq = W0 at *
            go_wp2_with fail
            have hk0' : (k : Int) ≤ (L.length : Int) := by omega
            have hkc : (k : Int) ≤ (c : Int) := by omega
            have hlc : (L.length : Int) ≤ (c : Int) := by omega
            have hck : ¬ c = k := by omega
            have hWs := hBW.size
            have hAW := hidd (HA.out.below hBW)
            have SRC1 := hidd (fun W' (hb : Below W0.heap.size W0 W') => (fun (_ : 0 < k) => (⟨ad, rfl, lie_take (hAW.out.below hb) k⟩ : ∃ a, some ad = some a ∧ ∀ j u, (rowOf sendV (L.take k))[j]? = some u → W'.cell? (a.add j) = some u)))
            have SRC2 := hidd (fun W' (hb : Below W0.heap.size W0 W') => (fun (_ : 0 < L.length - k) => (⟨ad.add (k * 2), rfl, lie_drop (hAW.out.below hb) k⟩ : ∃ a, some (ad.add (k * 2)) = some a ∧ ∀ j u, (rowOf sendV (L.drop k))[j]? = some u → W'.cell? (a.add j) = some u)))
            have KX := hidd (fun W' (hb : Below W0.heap.size W0 W') => (hXW.step hb).2)
            obtain ⟨bx1, bx2, bx3⟩ := hXW
            have ek : (L.take k).length = k := by simp; try omega
            go_region_held3 (fun w' => w'.cell? ⟨w.heap.size, 0, none⟩ = some (.int .i64 p) ∧ w'.cell? ⟨w.heap.size, 1, none⟩ = some (.int .i64 Y))
              ((first | exact KX.out _ hb3 | exact KX.out _ hb2 | exact KX.out _ hb1 | exact KX.out _ (by (repeat' (first | (with_reducible exact Below.refl _ _) | (with_reducible assumption) | (with_reducible apply Below.setCell) | (with_reducible apply Below.alloc) | (with_reducible apply Below.drew) | (with_reducible apply below_drewN) | (with_reducible refine Below.trans ?_ (Below.mono (by assumption) ?_)) | omega | (simp; done) | (simp; omega))))))
              ((first
                | (refine step_append_some (by rfl) (.const (.slice none 0 0)) (.tmp 44) _ (by rfl) W0.heap.size 46 i0 _ 2 16 Try.underlying24 hi hz0 hz1 hz2 rfl (by omega) (.slice none 0 0) 0 [] (by rfl) (World.ownsRow_nil _ _ _ _) (some ad) k c (rowOf sendV (L.take k)) (by rfl) (by rw [row_len sendV_len, ek]) (SRC1.out _ (by (repeat' (first | (with_reducible exact Below.refl _ _) | (with_reducible assumption) | (with_reducible apply Below.setCell) | (with_reducible apply Below.alloc) | (with_reducible apply Below.drew) | (with_reducible apply below_drewN) | (with_reducible refine Below.trans ?_ (Below.mono (by assumption) ?_)) | omega | (simp; done) | (simp; omega))))) (rowOf_one sendV_one _) (by simp only [maxLen]; omega) (by omega) (by (first | omega | (simp; done) | (simp; omega))) ?_; intro v1 wa hown1 hgrow1 hat1; have hb1 : Below W0.heap.size W0 wa := Below.grown (by (repeat' (first | (with_reducible exact Below.refl _ _) | (with_reducible assumption) | (with_reducible apply Below.setCell) | (with_reducible apply Below.alloc) | (with_reducible apply Below.drew) | (with_reducible apply below_drewN) | (with_reducible refine Below.trans ?_ (Below.mono (by assumption) ?_)) | omega | (simp; done) | (simp; omega)))) hgrow1 (by (first | omega | (simp; done) | (simp; omega))) (by intro k hk; simp [Value.ownBlock] at hk); have hz1' := Below.size hb1)
                | (refine step_append_some (by rfl) (.tmp 45) (.tmp 47) _ (by rfl) W0.heap.size 46 i0 _ 2 16 Try.underlying24 hi hz0 hz1 hz2 rfl (by omega) v1 (0 + k) ([] ++ rowOf sendV (L.take k)) (by rfl) (World.ownsRow.alloc hown1 _) (some ⟨wa.heap.size, 0, none⟩) 1 1 [.int .i64 p, .int .i64 Y] (by rfl) (by rfl) (fun _ => ⟨_, rfl, World.news_of_block (cs := #[.int .i64 p, .int .i64 Y]) (t := 46) (fr := (0, 0)) (heap_alloc_new wa _)⟩) (by simp [Value.oneCell']) (by simp only [maxLen]; omega) (by omega) (by (first | omega | (simp; done) | (simp; omega))) ?_; intro v2 wb hown2 hgrow2 hat2; have hb2 : Below W0.heap.size W0 wb := Below.grown (by (repeat' (first | (with_reducible exact Below.refl _ _) | (with_reducible assumption) | (with_reducible apply Below.setCell) | (with_reducible apply Below.alloc) | (with_reducible apply Below.drew) | (with_reducible apply below_drewN) | (with_reducible refine Below.trans ?_ (Below.mono (by assumption) ?_)) | omega | (simp; done) | (simp; omega)))) hgrow2 (by (first | omega | (simp; done) | (simp; omega))) (fun k hk => (World.ownsRow.lt hown1 k hk).1); have hz2' := Below.size hb2)
                | (refine step_append_some (by rfl) (.tmp 45) (.tmp 47) _ (by rfl) W0.heap.size 46 i0 _ 2 16 Try.underlying24 hi hz0 hz1 hz2 rfl (by omega) v1 (0 + k) ([] ++ rowOf sendV (L.take k)) (by rfl) hown1 (some ⟨W0.heap.size, 0, none⟩) 1 1 [.int .i64 p, .int .i64 Y] (by rfl) (by rfl) (fun _ => ⟨_, rfl, World.news_of_block (cs := #[.int .i64 p, .int .i64 Y]) (t := 46) (fr := (0, 0)) ((hgrow1.block W0.heap.size (by simp) (by simp [Value.ownBlock])).trans (heap_alloc_new W0 _))⟩) (by simp [Value.oneCell']) (by simp only [maxLen]; omega) (by omega) (by (first | omega | (simp; done) | (simp; omega))) ?_; intro v2 wb hown2 hgrow2 hat2; have hb2 : Below W0.heap.size W0 wb := Below.grown hb1 hgrow2 (by (first | omega | (simp; done) | (simp; omega))) (fun k hk => (World.ownsRow.lt hown1 k hk).1); have hz2' := Below.size hb2)
                | (refine step_append_some (by rfl) (.tmp 48) (.tmp 51) _ (by rfl) W0.heap.size 46 i0 _ 2 16 Try.underlying24 hi hz0 hz1 hz2 rfl (by omega) v2 (0 + k + 1) ([] ++ rowOf sendV (L.take k) ++ [.int .i64 p, .int .i64 Y]) (by rfl) hown2 (some (ad.add (k * 2))) (L.length - k) (c - k) (rowOf sendV (L.drop k)) (by rfl) (by rw [row_len sendV_len, List.length_drop]; try omega) (SRC2.out _ hb2) (rowOf_one sendV_one _) (by simp only [maxLen]; omega) (by omega) (by (first | omega | (simp; done) | (simp; omega))) ?_; intro v3 wc hown3 hgrow3 hat3; have hb3 : Below W0.heap.size W0 wc := Below.grown hb2 hgrow3 (by (first | omega | (simp; done) | (simp; omega))) (fun k hk => (World.ownsRow.lt hown2 k hk).1); have hz3' := Below.size hb3)))
            all_goals go_wp2_with fail
            all_goals (
              have hO : OwnL sendV 2 wc w.heap.size 46 v3 (putL L (p, Y) k) := OwnL.base (by
                unfold OwnL
                rw [putL_len (by omega)]
                have e : rowOf sendV (putL L (p, Y) k) = [] ++ rowOf sendV (L.take k) ++ [.int .i64 p, .int .i64 Y] ++ rowOf sendV (L.drop k) := by simp [rowOf, putL, sendV]
                rw [e]
                have h := hown3
                rw [show 0 + k + 1 + (L.length - k) = L.length + 1 by omega] at h
                exact h) hWs
              go_ret
              have hPM : PutM L (p, Y) (putL L (p, Y) k) := ⟨putL_ups HU.out (by omega) HS.out HEND.out, fun y => putL_mem y, putL_len (by omega)⟩
              have hFB := below_step hBW hb3
              first | exact ⟨_, _, rfl, hO, hPM, hFB⟩ | exact ⟨_, rfl, _, hO, hPM, hFB⟩ | (refine ⟨v3, _, ?_, hO, hPM, hFB⟩; first | rfl | simp))
        · have hend : k < L.length → ¬ UpR (SM.av L k, SM.sv L k) (X, Y) := fun _ => by rw [HP.out, HQ.out]; exact fun h => h.elim (fun h => h1 h) (fun h => h2 h.1)
          have HEND := hidd hend
          clear hend HST HE HP HQ
          go_wp2_with fail
          go_quiet (fail)
          have hBW : Below w.heap.size w (wr.drewN nq) := by have hB := HB.out; (repeat' (first | (with_reducible exact Below.refl _ _) | (with_reducible assumption) | (with_reducible apply Below.setCell) | (with_reducible apply Below.alloc) | (with_reducible apply Below.drew) | (with_reducible apply below_drewN) | (with_reducible refine Below.trans ?_ (Below.mono (by assumption) ?_)) | omega | (simp; done) | (simp; omega)))
          have hXW := HX.out.step (show Below wr.heap.size wr (wr.drewN nq) by (repeat' (first | (with_reducible exact Below.refl _ _) | (with_reducible assumption) | (with_reducible apply Below.setCell) | (with_reducible apply Below.alloc) | (with_reducible apply Below.drew) | (with_reducible apply below_drewN) | (with_reducible refine Below.trans ?_ (Below.mono (by assumption) ?_)) | omega | (simp; done) | (simp; omega))))
          generalize wr.drewN nq = W0 at *
          go_wp2_with fail
          have hk0' : (k : Int) ≤ (L.length : Int) := by omega
          have hkc : (k : Int) ≤ (c : Int) := by omega
          have hlc : (L.length : Int) ≤ (c : Int) := by omega
          have hck : ¬ c = k := by omega
          have hWs := hBW.size
          have hAW := hidd (HA.out.below hBW)
          have SRC1 := hidd (fun W' (hb : Below W0.heap.size W0 W') => (fun (_ : 0 < k) => (⟨ad, rfl, lie_take (hAW.out.below hb) k⟩ : ∃ a, some ad = some a ∧ ∀ j u, (rowOf sendV (L.take k))[j]? = some u → W'.cell? (a.add j) = some u)))
          have SRC2 := hidd (fun W' (hb : Below W0.heap.size W0 W') => (fun (_ : 0 < L.length - k) => (⟨ad.add (k * 2), rfl, lie_drop (hAW.out.below hb) k⟩ : ∃ a, some (ad.add (k * 2)) = some a ∧ ∀ j u, (rowOf sendV (L.drop k))[j]? = some u → W'.cell? (a.add j) = some u)))
          have KX := hidd (fun W' (hb : Below W0.heap.size W0 W') => (hXW.step hb).2)
          obtain ⟨bx1, bx2, bx3⟩ := hXW
          have ek : (L.take k).length = k := by simp; try omega
          go_region_held3 (fun w' => w'.cell? ⟨w.heap.size, 0, none⟩ = some (.int .i64 X) ∧ w'.cell? ⟨w.heap.size, 1, none⟩ = some (.int .i64 Y))
            ((first | exact KX.out _ hb3 | exact KX.out _ hb2 | exact KX.out _ hb1 | exact KX.out _ (by (repeat' (first | (with_reducible exact Below.refl _ _) | (with_reducible assumption) | (with_reducible apply Below.setCell) | (with_reducible apply Below.alloc) | (with_reducible apply Below.drew) | (with_reducible apply below_drewN) | (with_reducible refine Below.trans ?_ (Below.mono (by assumption) ?_)) | omega | (simp; done) | (simp; omega))))))
            ((first
              | (refine step_append_some (by rfl) (.const (.slice none 0 0)) (.tmp 44) _ (by rfl) W0.heap.size 46 i0 _ 2 16 Try.underlying24 hi hz0 hz1 hz2 rfl (by omega) (.slice none 0 0) 0 [] (by rfl) (World.ownsRow_nil _ _ _ _) (some ad) k c (rowOf sendV (L.take k)) (by rfl) (by rw [row_len sendV_len, ek]) (SRC1.out _ (by (repeat' (first | (with_reducible exact Below.refl _ _) | (with_reducible assumption) | (with_reducible apply Below.setCell) | (with_reducible apply Below.alloc) | (with_reducible apply Below.drew) | (with_reducible apply below_drewN) | (with_reducible refine Below.trans ?_ (Below.mono (by assumption) ?_)) | omega | (simp; done) | (simp; omega))))) (rowOf_one sendV_one _) (by simp only [maxLen]; omega) (by omega) (by (first | omega | (simp; done) | (simp; omega))) ?_; intro v1 wa hown1 hgrow1 hat1; have hb1 : Below W0.heap.size W0 wa := Below.grown (by (repeat' (first | (with_reducible exact Below.refl _ _) | (with_reducible assumption) | (with_reducible apply Below.setCell) | (with_reducible apply Below.alloc) | (with_reducible apply Below.drew) | (with_reducible apply below_drewN) | (with_reducible refine Below.trans ?_ (Below.mono (by assumption) ?_)) | omega | (simp; done) | (simp; omega)))) hgrow1 (by (first | omega | (simp; done) | (simp; omega))) (by intro k hk; simp [Value.ownBlock] at hk); have hz1' := Below.size hb1)
              | (refine step_append_some (by rfl) (.tmp 45) (.tmp 47) _ (by rfl) W0.heap.size 46 i0 _ 2 16 Try.underlying24 hi hz0 hz1 hz2 rfl (by omega) v1 (0 + k) ([] ++ rowOf sendV (L.take k)) (by rfl) (World.ownsRow.alloc hown1 _) (some ⟨wa.heap.size, 0, none⟩) 1 1 [.int .i64 X, .int .i64 Y] (by rfl) (by rfl) (fun _ => ⟨_, rfl, World.news_of_block (cs := #[.int .i64 X, .int .i64 Y]) (t := 46) (fr := (0, 0)) (heap_alloc_new wa _)⟩) (by simp [Value.oneCell']) (by simp only [maxLen]; omega) (by omega) (by (first | omega | (simp; done) | (simp; omega))) ?_; intro v2 wb hown2 hgrow2 hat2; have hb2 : Below W0.heap.size W0 wb := Below.grown (by (repeat' (first | (with_reducible exact Below.refl _ _) | (with_reducible assumption) | (with_reducible apply Below.setCell) | (with_reducible apply Below.alloc) | (with_reducible apply Below.drew) | (with_reducible apply below_drewN) | (with_reducible refine Below.trans ?_ (Below.mono (by assumption) ?_)) | omega | (simp; done) | (simp; omega)))) hgrow2 (by (first | omega | (simp; done) | (simp; omega))) (fun k hk => (World.ownsRow.lt hown1 k hk).1); have hz2' := Below.size hb2)
              | (refine step_append_some (by rfl) (.tmp 45) (.tmp 47) _ (by rfl) W0.heap.size 46 i0 _ 2 16 Try.underlying24 hi hz0 hz1 hz2 rfl (by omega) v1 (0 + k) ([] ++ rowOf sendV (L.take k)) (by rfl) hown1 (some ⟨W0.heap.size, 0, none⟩) 1 1 [.int .i64 X, .int .i64 Y] (by rfl) (by rfl) (fun _ => ⟨_, rfl, World.news_of_block (cs := #[.int .i64 X, .int .i64 Y]) (t := 46) (fr := (0, 0)) ((hgrow1.block W0.heap.size (by simp) (by simp [Value.ownBlock])).trans (heap_alloc_new W0 _))⟩) (by simp [Value.oneCell']) (by simp only [maxLen]; omega) (by omega) (by (first | omega | (simp; done) | (simp; omega))) ?_; intro v2 wb hown2 hgrow2 hat2; have hb2 : Below W0.heap.size W0 wb := Below.grown hb1 hgrow2 (by (first | omega | (simp; done) | (simp; omega))) (fun k hk => (World.ownsRow.lt hown1 k hk).1); have hz2' := Below.size hb2)
              | (refine step_append_some (by rfl) (.tmp 48) (.tmp 51) _ (by rfl) W0.heap.size 46 i0 _ 2 16 Try.underlying24 hi hz0 hz1 hz2 rfl (by omega) v2 (0 + k + 1) ([] ++ rowOf sendV (L.take k) ++ [.int .i64 X, .int .i64 Y]) (by rfl) hown2 (some (ad.add (k * 2))) (L.length - k) (c - k) (rowOf sendV (L.drop k)) (by rfl) (by rw [row_len sendV_len, List.length_drop]; try omega) (SRC2.out _ hb2) (rowOf_one sendV_one _) (by simp only [maxLen]; omega) (by omega) (by (first | omega | (simp; done) | (simp; omega))) ?_; intro v3 wc hown3 hgrow3 hat3; have hb3 : Below W0.heap.size W0 wc := Below.grown hb2 hgrow3 (by (first | omega | (simp; done) | (simp; omega))) (fun k hk => (World.ownsRow.lt hown2 k hk).1); have hz3' := Below.size hb3)))
          all_goals go_wp2_with fail
          all_goals (
            have hO : OwnL sendV 2 wc w.heap.size 46 v3 (putL L (X, Y) k) := OwnL.base (by
              unfold OwnL
              rw [putL_len (by omega)]
              have e : rowOf sendV (putL L (X, Y) k) = [] ++ rowOf sendV (L.take k) ++ [.int .i64 X, .int .i64 Y] ++ rowOf sendV (L.drop k) := by simp [rowOf, putL, sendV]
              rw [e]
              have h := hown3
              rw [show 0 + k + 1 + (L.length - k) = L.length + 1 by omega] at h
              exact h) hWs
            go_ret
            have hPM : PutM L (X, Y) (putL L (X, Y) k) := ⟨putL_ups HU.out (by omega) HS.out HEND.out, fun y => putL_mem y, putL_len (by omega)⟩
            have hFB := below_step hBW hb3
            first | exact ⟨_, _, rfl, hO, hPM, hFB⟩ | exact ⟨_, rfl, _, hO, hPM, hFB⟩ | (refine ⟨v3, _, ?_, hO, hPM, hFB⟩; first | rfl | simp))
    · obtain rfl : k = L.length := by omega
      have hend : L.length < L.length → ¬ UpR (SM.av L L.length, SM.sv L L.length) (X, Y) := fun h => absurd h (by omega)
      have HEND := hidd hend
      have hEX := LN
      clear hend
      go_wp2_with fail
      go_quiet (fail)
      have hBW : Below w.heap.size w (wr.drewN nq) := by have hB := HB.out; (repeat' (first | (with_reducible exact Below.refl _ _) | (with_reducible assumption) | (with_reducible apply Below.setCell) | (with_reducible apply Below.alloc) | (with_reducible apply Below.drew) | (with_reducible apply below_drewN) | (with_reducible refine Below.trans ?_ (Below.mono (by assumption) ?_)) | omega | (simp; done) | (simp; omega)))
      have hXW := HX.out.step (show Below wr.heap.size wr (wr.drewN nq) by (repeat' (first | (with_reducible exact Below.refl _ _) | (with_reducible assumption) | (with_reducible apply Below.setCell) | (with_reducible apply Below.alloc) | (with_reducible apply Below.drew) | (with_reducible apply below_drewN) | (with_reducible refine Below.trans ?_ (Below.mono (by assumption) ?_)) | omega | (simp; done) | (simp; omega))))
      generalize wr.drewN nq = W0 at *
      go_wp2_with fail
      have hlc : (L.length : Int) ≤ (c : Int) := by omega
      have hWs := hBW.size
      obtain ⟨bx1, bx2, bx3⟩ := hXW
      have KX := hidd (fun W' (hb : Below W0.heap.size W0 W') => (LineBox.step ⟨bx1, bx2, bx3⟩ hb).2)
      have hAW := hidd (HA.out.below hBW)
      have SRC := hidd (fun W' (hb : Below W0.heap.size W0 W') => lie_all (hAW.out.below hb))
      go_region_held3 (fun w' => w'.cell? ⟨w.heap.size, 0, none⟩ = some (.int .i64 X) ∧ w'.cell? ⟨w.heap.size, 1, none⟩ = some (.int .i64 Y))
              ((first | exact KX.out _ hb3 | exact KX.out _ hb2 | exact KX.out _ hb1 | exact KX.out _ (by (repeat' (first | (with_reducible exact Below.refl _ _) | (with_reducible assumption) | (with_reducible apply Below.setCell) | (with_reducible apply Below.alloc) | (with_reducible apply Below.drew) | (with_reducible apply below_drewN) | (with_reducible refine Below.trans ?_ (Below.mono (by assumption) ?_)) | omega | (simp; done) | (simp; omega))))))
              ((first
                | (refine step_append_some (by rfl) (.const (.slice none 0 0)) (.tmp 44) _ (by rfl) W0.heap.size 46 i0 _ 2 16 Try.underlying24 hi hz0 hz1 hz2 rfl (by omega) (.slice none 0 0) 0 [] (by rfl) (World.ownsRow_nil _ _ _ _) A L.length c (rowOf sendV L) (by rfl) (by rw [row_len sendV_len]) (SRC.out _ (by (repeat' (first | (with_reducible exact Below.refl _ _) | (with_reducible assumption) | (with_reducible apply Below.setCell) | (with_reducible apply Below.alloc) | (with_reducible apply Below.drew) | (with_reducible apply below_drewN) | (with_reducible refine Below.trans ?_ (Below.mono (by assumption) ?_)) | omega | (simp; done) | (simp; omega))))) (rowOf_one sendV_one _) (by simp only [maxLen]; omega) (by omega) (by (first | omega | (simp; done) | (simp; omega))) ?_; intro v1 wa hown1 hgrow1 hat1; have hb1 : Below W0.heap.size W0 wa := Below.grown (by (repeat' (first | (with_reducible exact Below.refl _ _) | (with_reducible assumption) | (with_reducible apply Below.setCell) | (with_reducible apply Below.alloc) | (with_reducible apply Below.drew) | (with_reducible apply below_drewN) | (with_reducible refine Below.trans ?_ (Below.mono (by assumption) ?_)) | omega | (simp; done) | (simp; omega)))) hgrow1 (by (first | omega | (simp; done) | (simp; omega))) (by intro k hk; simp [Value.ownBlock] at hk); have hz1' := Below.size hb1)
                | (refine step_append_some (by rfl) (.tmp 45) (.tmp 47) _ (by rfl) W0.heap.size 46 i0 _ 2 16 Try.underlying24 hi hz0 hz1 hz2 rfl (by omega) v1 (0 + L.length) ([] ++ rowOf sendV L) (by rfl) (World.ownsRow.alloc hown1 _) (some ⟨wa.heap.size, 0, none⟩) 1 1 [.int .i64 X, .int .i64 Y] (by rfl) (by rfl) (fun _ => ⟨_, rfl, World.news_of_block (cs := #[.int .i64 X, .int .i64 Y]) (t := 46) (fr := (0, 0)) (heap_alloc_new wa _)⟩) (by simp [Value.oneCell']) (by simp only [maxLen]; omega) (by omega) (by (first | omega | (simp; done) | (simp; omega))) ?_; intro v2 wb hown2 hgrow2 hat2; have hb2 : Below W0.heap.size W0 wb := Below.grown (by (repeat' (first | (with_reducible exact Below.refl _ _) | (with_reducible assumption) | (with_reducible apply Below.setCell) | (with_reducible apply Below.alloc) | (with_reducible apply Below.drew) | (with_reducible apply below_drewN) | (with_reducible refine Below.trans ?_ (Below.mono (by assumption) ?_)) | omega | (simp; done) | (simp; omega)))) hgrow2 (by (first | omega | (simp; done) | (simp; omega))) (fun k hk => (World.ownsRow.lt hown1 k hk).1); have hz2' := Below.size hb2)
                | (refine step_append_some (by rfl) (.tmp 45) (.tmp 47) _ (by rfl) W0.heap.size 46 i0 _ 2 16 Try.underlying24 hi hz0 hz1 hz2 rfl (by omega) v1 (0 + L.length) ([] ++ rowOf sendV L) (by rfl) hown1 (some ⟨W0.heap.size, 0, none⟩) 1 1 [.int .i64 X, .int .i64 Y] (by rfl) (by rfl) (fun _ => ⟨_, rfl, World.news_of_block (cs := #[.int .i64 X, .int .i64 Y]) (t := 46) (fr := (0, 0)) ((hgrow1.block W0.heap.size (by simp) (by simp [Value.ownBlock])).trans (heap_alloc_new W0 _))⟩) (by simp [Value.oneCell']) (by simp only [maxLen]; omega) (by omega) (by (first | omega | (simp; done) | (simp; omega))) ?_; intro v2 wb hown2 hgrow2 hat2; have hb2 : Below W0.heap.size W0 wb := Below.grown hb1 hgrow2 (by (first | omega | (simp; done) | (simp; omega))) (fun k hk => (World.ownsRow.lt hown1 k hk).1); have hz2' := Below.size hb2)
                | (refine step_append_some (by rfl) (.tmp 48) (.tmp 51) _ (by rfl) W0.heap.size 46 i0 _ 2 16 Try.underlying24 hi hz0 hz1 hz2 rfl (by omega) v2 (0 + L.length + 1) ([] ++ rowOf sendV L ++ [.int .i64 X, .int .i64 Y]) (by rfl) hown2 (if c = L.length then A else Option.map (fun x => x.add (L.length * 2)) A) 0 (c - L.length) [] (by rfl) rfl (fun h => absurd h (by omega)) (by simp) (by simp only [maxLen]; omega) (by omega) (by (first | omega | (simp; done) | (simp; omega))) ?_; intro v3 wc hown3 hgrow3 hat3; have hb3 : Below W0.heap.size W0 wc := Below.grown hb2 hgrow3 (by (first | omega | (simp; done) | (simp; omega))) (fun k hk => (World.ownsRow.lt hown2 k hk).1); have hz3' := Below.size hb3)))
      all_goals go_wp2_with fail
      all_goals (
              have hO : OwnL sendV 2 wc w.heap.size 46 v3 (putL L (X, Y) L.length) := OwnL.base (by
                unfold OwnL
                rw [putL_len (by omega)]
                have e : rowOf sendV (putL L (X, Y) L.length) = [] ++ rowOf sendV L ++ [.int .i64 X, .int .i64 Y] ++ [] := by simp [rowOf, putL, sendV]
                rw [e]
                have h := hown3
                rw [show 0 + L.length + 1 + 0 = L.length + 1 by omega] at h
                exact h) hWs
              go_ret
              have hPM : PutM L (X, Y) (putL L (X, Y) L.length) := ⟨putL_ups HU.out (by omega) HS.out HEND.out, fun y => putL_mem y, putL_len (by omega)⟩
              have hFB := below_step hBW hb3
              first | exact ⟨_, _, rfl, hO, hPM, hFB⟩ | exact ⟨_, rfl, _, hO, hPM, hFB⟩ | (refine ⟨v3, _, ?_, hO, hPM, hFB⟩; first | rfl | simp))
end Go.Proofs.Ytjifbcbbnjpcjaa
