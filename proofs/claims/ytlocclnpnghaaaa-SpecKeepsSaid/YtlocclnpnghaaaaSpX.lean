/- The walk of SpecKeeps. -/
import Derived.Test.YtlocclnpnghaaaaSpW
import Derived.Test.YtlocclnpnghaaaaRowK
namespace Go.Proofs.Ytlocclnpnghaaaa
namespace RowK
open Go.ChangeShapes Go.WideShapes Go.ChangeAt Go.RowKit Go.Joins Go.Deep
section
variable {H : Type} {enc : TypeId × Value → H} {w : World} {base : Nat} {spare : Nat → Bool} {held : Bool} {fuel : Nat}
theorem open_sendsc {cs : List Value} {x : DataW H × List MemPlace} (h : DataW.trod enc Try.prog w base spare held fuel 24 cs = some x) :
    ∃ (A : Option Addr) (L : List (Int × Int)) (c : Nat), cs = [.slice A L.length c] ∧ L.length ≤ c ∧ c ≤ maxLen ∧ Lie sendV 2 w w.heap.size A L := by
  rcases open_slice_fields Try.underlying24 Try.underlying55 (by kernel_rfl) cellsSend h with rfl | ⟨a, len, cap, rfl, hl, hm, hc⟩
  · exact ⟨none, [], 0, rfl, by simp, by simp, Lie.nil⟩
  · obtain ⟨L, rfl, hL⟩ := list_of (α := Int × Int) (Q := fun i x => w.cell? (a.add (i * 2 + 0)) = some (.int .i64 x.1) ∧ w.cell? (a.add (i * 2 + 1)) = some (.int .i64 x.2)) (n := len) (fun i hi => by
      obtain ⟨v0, n0, y0, hv0, ht0⟩ := hc i hi 0 _ rfl
      obtain ⟨v1, n1, y1, hv1, ht1⟩ := hc i hi 1 _ rfl
      obtain ⟨a0, e0, rfl, -⟩ := DataW.trod_int Try.underlying2 ht0
      obtain ⟨a1, e1, rfl, -⟩ := DataW.trod_int Try.underlying2 ht1
      simp at e0 e1
      subst e0 e1
      exact ⟨(a0, a1), hv0, hv1⟩)
    refine ⟨some a, L, cap, rfl, hl, hm, fun hlen => ⟨a, rfl, ?_, fun i x hx j v hv => ?_⟩⟩
    · have := (hL 0 L[0] (List.getElem?_eq_getElem hlen)).1
      have := World.block_lt_of_cell? _ _ this
      rwa [block_of_add] at this
    · obtain ⟨h0, h1⟩ := hL i x hx
      match j, hv with
      | 0, hv => simp [sendV] at hv; subst hv; exact h0
      | 1, hv => simp [sendV] at hv; subst hv; exact h1
      | j + 2, hv => simp [sendV] at hv
end
end RowK
open Go.RowKit RowK

set_option maxRecDepth 100000 in
set_option maxHeartbeats 4000000 in
theorem keeps_walk (p r u m l : Int) (A : Option Addr) (L : List (Int × Int)) (c : Nat) (hc : L.length ≤ c) (hx : c ≤ maxLen) (w : World) (hl : Lie sendV 2 w w.heap.size A L) :
    Calls Try.prog 3 #[.agg #[.int .i64 p, .int .i64 r, .int .i64 u, .int .i64 m, .int .i64 l], .slice A L.length c] w fun e w' => e = .returned (.bool true) ∧ Below w.heap.size w w' := by
  have hx' := hx
  unfold maxLen at hx'
  have HL := hidd hl
  have ck := hidd (fun W => known_any W)
  clear hl
  by_cases h40 : 40 < L.length
  · have g1 : decide ((40 : Int) < (L.length : Int)) = true := decide_eq_true (by omega)
    have g2 : (40 : Int) < (L.length : Int) := by omega
    go_enter Try.func3, Try.ntmps3
    go_wp2_with fail
    refine (ck.out _).mono ?_
    rintro e w1 ⟨rfl, hb1⟩
    go_wp2_with fail
    go_ret
    exact ⟨rfl, by (repeat' (first | (with_reducible exact Below.refl _ _) | (with_reducible assumption) | (with_reducible apply Below.setCell) | (with_reducible apply Below.alloc) | (with_reducible apply Below.drew) | (with_reducible apply below_drewN) | (with_reducible refine Below.trans ?_ (Below.mono (by assumption) ?_)) | omega | (simp; done) | (simp; omega)))⟩
  · have g2 : (L.length : Int) ≤ 40 := by omega
    have cke := hidd (fun W hl => keeps_any p r u m l A L c (by omega) W hl)
    have cbr := hidd (fun W hl => breaks_any p r u m l A L c (by omega) W hl)
    have crt := hidd (fun W => right_any p r u m l W)
    have cch := hidd (fun W => check_any p r u m l W)
    by_cases hR : rightB p r u m l = true
    · have crk := hidd (fun W hl => refKeeps_any p r u m l hR A L L.length c rfl (by omega) W hl)
      have crb := hidd (fun W hl => refBreaks_any p r u m l hR A L L.length c rfl (by omega) hc hx W hl)
      have b := rightB_iff hR
      have e1 : keepsR p r u m l L = (fb0 p r u m l L == L.length, 0) := by simp [keepsR, hR]
      have e2 : breaksR p r u m l L = (((fb0 p r u m l L : Nat) : Int), 0) := by simp [breaksR, hR]
      have e3 : ∀ q : Bool, (q = true ↔ SM.KP (SM.av L) (SM.sv L) p r u m l L.length) → q = (fb0 p r u m l L == L.length) := fun q hq => by
        have h := SM.fb_all (p := p) (r := r) (u := u) (m := m) (l := l) (by omega) (by omega) L
        rw [Bool.eq_iff_iff, hq, beq_iff_eq]
        exact h.symm
      have E3 := hidd e3
      rw [e1] at cke
      rw [e2] at cbr
      rw [hR] at crt cch
      dsimp only at cke cbr
      clear e1 e2 e3 b hR hx hx' hc
      generalize fb0 p r u m l L = F at *
      generalize (F == L.length) = K at *
      go_enter Try.func3, Try.ntmps3
      go_wp2_with fail
      have H := HasSpec.new w 23 p r u m l
      have Lw := below_new (Below.refl w.heap.size w) (.cells #[.int .i64 p, .int .i64 r, .int .i64 u, .int .i64 m, .int .i64 l] 23)
      refine (cke.out _ (HL.out.below Lw)).mono ?_
      rintro e w1 ⟨rfl, hb1⟩
      have H := H.step hb1
      have Lw := below_step Lw hb1
      obtain ⟨z, d0, d1, d2, d3, d4⟩ := id H
      go_wp2_with fail
      refine (cbr.out _ (HL.out.below Lw)).mono ?_
      rintro e w2 ⟨rfl, hb2⟩
      have H := H.step hb2
      have Lw := below_step Lw hb2
      obtain ⟨z, d0, d1, d2, d3, d4⟩ := id H
      go_wp2_with fail
      refine (crt.out _).mono ?_
      rintro e w3 ⟨rfl, hb3⟩
      have H := H.step hb3
      have Lw := below_step Lw hb3
      obtain ⟨z, d0, d1, d2, d3, d4⟩ := id H
      go_wp2_with fail
      refine (cch.out _).mono ?_
      rintro e w4 ⟨rfl, hb4⟩
      have H := H.step hb4
      have Lw := below_step Lw hb4
      obtain ⟨z, d0, d1, d2, d3, d4⟩ := id H
      go_wp2_with fail
      refine (crk.out _ (HL.out.below Lw)).mono ?_
      rintro e w5 ⟨q, rfl, hq, hb5⟩
      have H := H.step hb5
      have Lw := below_step Lw hb5
      obtain ⟨z, d0, d1, d2, d3, d4⟩ := id H
      have hqq := E3.out q hq
      subst hqq
      have hz : (q == q) = true := by simp
      clear hq
      cases q
      all_goals
        go_wp2_with fail
        refine (crb.out _ (HL.out.below Lw)).mono ?_
        rintro e w6 ⟨rfl, hb6⟩
        have Lw := below_step Lw hb6
        go_wp2_with fail
        refine (ck.out _).mono ?_
        rintro e w7 ⟨rfl, hb7⟩
        have Lw := below_step Lw hb7
        go_wp2_with fail
        go_ret
        exact ⟨by simp, Lw⟩
    · have hR : rightB p r u m l = false := by simpa using hR
      have e1 : keepsR p r u m l L = (false, 2) := by simp [keepsR, hR]
      have e2 : breaksR p r u m l L = (0, 2) := by simp [breaksR, hR]
      rw [e1] at cke
      rw [e2] at cbr
      rw [hR] at crt cch
      dsimp only at cke cbr
      clear e1 e2 hR hx hx' hc
      go_enter Try.func3, Try.ntmps3
      go_wp2_with fail
      have H := HasSpec.new w 23 p r u m l
      have Lw := below_new (Below.refl w.heap.size w) (.cells #[.int .i64 p, .int .i64 r, .int .i64 u, .int .i64 m, .int .i64 l] 23)
      refine (cke.out _ (HL.out.below Lw)).mono ?_
      rintro e w1 ⟨rfl, hb1⟩
      have H := H.step hb1
      have Lw := below_step Lw hb1
      obtain ⟨z, d0, d1, d2, d3, d4⟩ := id H
      go_wp2_with fail
      refine (cbr.out _ (HL.out.below Lw)).mono ?_
      rintro e w2 ⟨rfl, hb2⟩
      have H := H.step hb2
      have Lw := below_step Lw hb2
      obtain ⟨z, d0, d1, d2, d3, d4⟩ := id H
      go_wp2_with fail
      refine (crt.out _).mono ?_
      rintro e w3 ⟨rfl, hb3⟩
      have H := H.step hb3
      have Lw := below_step Lw hb3
      obtain ⟨z, d0, d1, d2, d3, d4⟩ := id H
      go_wp2_with fail
      refine (cch.out _).mono ?_
      rintro e w4 ⟨rfl, hb4⟩
      have Lw := below_step Lw hb4
      go_wp2_with fail
      refine (ck.out _).mono ?_
      rintro e w5 ⟨rfl, hb5⟩
      have Lw := below_step Lw hb5
      go_wp2_with fail
      go_ret
      exact ⟨by simp, Lw⟩
end Go.Proofs.Ytlocclnpnghaaaa
