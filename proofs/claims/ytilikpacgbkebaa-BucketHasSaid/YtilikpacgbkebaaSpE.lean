/- The first sending with which a spec is not kept: the walk. -/
import Derived.Test.YtilikpacgbkebaaSpD
import Derived.Test.YtilikpacgbkebaaSpM
import Derived.IntWalk
namespace Go.Proofs.Ytilikpacgbkebaa
open Go.RowKit

theorem block_of_add (a : Addr) (n : Nat) : (a.add n).block = a.block := by unfold Addr.add; split <;> rfl
theorem add_of_add (a : Addr) (i j : Nat) : (a.add i).add j = a.add (i + j) := by
  unfold Addr.add
  by_cases hi : i = 0 <;> by_cases hj : j = 0 <;> simp [hi, hj, Nat.add_assoc]
/-- a list lies in memory below block B, each of it in 'sz' cells. -/
def Lie {α : Type} (f : α → List Value) (sz : Nat) (w : World) (B : Nat) (A : Option Addr) (l : List α) : Prop :=
  0 < l.length → ∃ ad, A = some ad ∧ ad.block < B ∧ ∀ i x, l[i]? = some x → ∀ j v, (f x)[j]? = some v → w.cell? (ad.add (i * sz + j)) = some v
theorem Lie.keep {α : Type} {f : α → List Value} {sz : Nat} {w w' : World} {B : Nat} {A : Option Addr} {l : List α} (h : Lie f sz w B A l) (hb : Below B w w') : Lie f sz w' B A l := fun hl => by
  obtain ⟨ad, e, hB, hc⟩ := h hl
  exact ⟨ad, e, hB, fun i x hx j v hv => (hb.cell (by rw [block_of_add]; exact hB)).trans (hc i x hx j v hv)⟩
theorem Lie.more {α : Type} {f : α → List Value} {sz : Nat} {w : World} {B B' : Nat} {A : Option Addr} {l : List α} (h : Lie f sz w B A l) (hb : B ≤ B') : Lie f sz w B' A l := fun hl => by
  obtain ⟨ad, e, hB, hc⟩ := h hl
  exact ⟨ad, e, Nat.lt_of_lt_of_le hB hb, hc⟩
theorem Lie.below {α : Type} {f : α → List Value} {sz : Nat} {w w' : World} {A : Option Addr} {l : List α} (h : Lie f sz w w.heap.size A l) (hb : Below w.heap.size w w') : Lie f sz w' w'.heap.size A l :=
  (h.keep hb).more hb.size
theorem Lie.nil {α : Type} {f : α → List Value} {sz : Nat} {w : World} {B : Nat} {A : Option Addr} : Lie f sz w B A [] := fun h => absurd h (by simp)
def sendV (x : Int × Int) : List Value := [.int .i64 x.1, .int .i64 x.2]
theorem Lie.send {w : World} {B : Nat} {A : Option Addr} {l : List (Int × Int)} (h : Lie sendV 2 w B A l) (i : Nat) (hi : i < l.length) :
    ∃ ad, A = some ad ∧ ad.block < B ∧ w.cell? (ad.add (i * 2)) = some (.int .i64 l[i].1) ∧ w.cell? ⟨(ad.add (i * 2)).block, (ad.add (i * 2)).off + 1, none⟩ = some (.int .i64 l[i].2) := by
  obtain ⟨ad, e, hB, hc⟩ := h (by omega)
  have hx : l[i]? = some l[i] := List.getElem?_eq_getElem hi
  refine ⟨ad, e, hB, hc i _ hx 0 _ rfl, ?_⟩
  have := hc i _ hx 1 _ rfl
  rw [← add_of_add] at this
  exact this

set_option maxRecDepth 100000 in
theorem index0 (a b c d : Value) (w : World) : (Instr.index 82 (.agg #[a, b, c, d]) (.int .i64 0)).run Try.prog w = .ok (.agg #[a, b]) w := by
  first | rfl | kernel_rfl
set_option maxRecDepth 100000 in
theorem index1 (a b c d : Value) (w : World) : (Instr.index 82 (.agg #[a, b, c, d]) (.int .i64 1)).run Try.prog w = .ok (.agg #[c, d]) w := by
  first | rfl | kernel_rfl
/-- the words of one step of what is kept of a line. -/
theorem more_words (rate kept now a s : Int) (r0 : 0 ≤ rate) (r1 : rate ≤ 1000000) (k0 : 0 ≤ kept) (k1 : kept ≤ 10000000) (n0 : 0 ≤ now) (n1 : now ≤ a) (n2 : a ≤ 2147483647) (s0 : 0 ≤ s) (s1 : s ≤ 2000) :
    ∃ d P Q M n : Int, IntKind.i64.wrap (a - now) = d ∧ IntKind.i64.wrap (rate * d) = P ∧ IntKind.i64.wrap (kept - P) = Q ∧ ((Q < 0 ∧ M = 0) ∨ (0 ≤ Q ∧ M = Q)) ∧ IntKind.i64.wrap (M + s) = n ∧ n = SM.more rate kept now a s ∧ 0 ≤ n := by
  obtain ⟨b0, b1⟩ := rate_bounds (b := rate) (t := a - now) r0 r1 (by omega) (by omega)
  refine ⟨a - now, rate * (a - now), kept - rate * (a - now), if kept - rate * (a - now) < 0 then 0 else kept - rate * (a - now), SM.more rate kept now a s, ?_, ?_, ?_, ?_, ?_, rfl, ?_⟩
  · exact IntWalk.i64_in _ (by omega)
  · exact IntWalk.i64_in _ (by omega)
  · exact IntWalk.i64_in _ (by omega)
  · split
    · exact .inl ⟨by assumption, rfl⟩
    · exact .inr ⟨by omega, rfl⟩
  · have : SM.more rate kept now a s = (if kept - rate * (a - now) < 0 then 0 else kept - rate * (a - now)) + s := by
      unfold SM.more
      split <;> omega
    rw [← this]
    exact IntWalk.i64_in _ (by rw [this]; split <;> omega)
  · unfold SM.more; omega

set_option maxHeartbeats 4000000 in
theorem firstBreak_any (p r u m l : Int) (hr : rightB p r u m l = true) (A : Option Addr) (L : List (Int × Int)) (c : Nat) (hm : L.length ≤ 1000000) (w : World) (hl : Lie sendV 2 w w.heap.size A L) :
    Calls Try.prog 35 #[.agg #[.int .i64 p, .int .i64 r, .int .i64 u, .int .i64 m, .int .i64 l], .slice A L.length c] w fun e w' => e = .returned (.int .i64 (SM.fb p r u m l L 0 0 0 0 : Nat)) ∧ Below w.heap.size w w' := by
  have HR := hidd hr
  have HL := hidd hl
  have cl := hidd (fun W => lines_any p r u m l W)
  have ct := hidd (fun t W => isTick_any t W)
  generalize hF : SM.fb p r u m l L 0 0 0 0 = F at *
  have HF := hidd hF
  clear hr hl hF
  go_enter Try.func35, Try.ntmps35
  go_wp2_with fail
  go_step3
  go_wp2_with fail
  go_step3
  go_wp2_with fail
  go_loopg [6, 7, 16] (L.length + 1) (fun k s6 s7 s16 wr => ∃ (i : Nat) (now k0 k1 : Int), i ≤ L.length ∧ i + k = L.length + 1 ∧ s6 = .int .i64 now ∧ s7 = .int .i64 (L.length : Int) ∧ s16 = .int .i64 (i : Int) ∧ SM.fb p r u m l (L.drop i) k0 k1 now i = F ∧ (0 ≤ now ∧ now ≤ 2147483647) ∧ (0 ≤ k0 ∧ k0 ≤ m) ∧ (0 ≤ k1 ∧ k1 ≤ u) ∧
    Below w.heap.size w wr ∧ w.heap.size + 2 ≤ wr.heap.size ∧ wr.cell? ⟨w.heap.size + 1, 0, none⟩ = some (.int .i64 k0) ∧ wr.cell? ⟨w.heap.size + 1, 1, none⟩ = some (.int .i64 k1) ∧ wr.frozen? ⟨w.heap.size + 1, 0, none⟩ = false ∧ wr.frozen? ⟨w.heap.size + 1, 1, none⟩ = false ∧
    wr.cell? ⟨w.heap.size, 0, none⟩ = some (.int .i64 p) ∧ wr.cell? ⟨w.heap.size, 1, none⟩ = some (.int .i64 r) ∧ wr.cell? ⟨w.heap.size, 2, none⟩ = some (.int .i64 u) ∧ wr.cell? ⟨w.heap.size, 3, none⟩ = some (.int .i64 m) ∧ wr.cell? ⟨w.heap.size, 4, none⟩ = some (.int .i64 l))
  case atStart =>
    have b := rightB_iff HR.out
    refine ⟨0, 0, 0, 0, by omega, by omega, rfl, rfl, rfl, HF.out, by omega, by omega, by omega, by (repeat' (first | (with_reducible exact Below.refl _ _) | (with_reducible assumption) | (with_reducible apply Below.setCell) | (with_reducible apply Below.alloc) | (with_reducible apply Below.drew) | (with_reducible apply below_drewN) | (with_reducible refine Below.trans ?_ (Below.mono (by assumption) ?_)) | omega | (simp; done) | (simp; omega))), by simp, ?_, ?_, ?_, ?_, ?_, ?_, ?_, ?_, ?_⟩ <;> simp [go_sem]
  case round =>
    obtain ⟨i, now, k0, k1, hi, hk, rfl, rfl, rfl, hfb, hnow, hk0, hk1, hB, hsz, c0, c1, f0, f1, g0, g1, g2, g3, g4⟩ := hrel
    have HK := hidd hk
    have HFB := hidd hfb
    have HB := hidd hB
    clear hk hfb hB
    by_cases hlt : i < L.length
    · obtain ⟨ad, rfl, hadb, x0, x1⟩ := (HL.out.keep HB.out).send i hlt
      have hx : L.drop i = (L[i].1, L[i].2) :: L.drop (i + 1) := SM.drop_get L i hlt
      generalize L[i].1 = a at *
      generalize L[i].2 = s at *
      have HX := hidd hx
      clear hx
      have y0 : w.heap.size < wr.heap.size := by omega
      have y1 : w.heap.size + 1 < wr.heap.size := by omega
      by_cases hf : SM.fits m l now a s
      · obtain ⟨q1, q2, q3, q4, q5⟩ := hf
        have hf := hidd (show SM.fits m l now a s from ⟨q1, q2, q3, q4, q5⟩)
        have ha : tickB a = true := decide_eq_true ⟨q2, q3⟩
        have d1 : decide (a < now) = false := decide_eq_false (by omega)
        go_wp2_with fail
        refine (ct.out _ _).mono ?_
        rintro e w1 ⟨rfl, rfl⟩
        go_wp2_with fail
        clear ha d1
        refine (cl.out _).mono ?_
        rintro e w1 ⟨rfl, hb1⟩
        obtain ⟨bc, bf⟩ := bcell hb1
        have z := hb1.size
        simp at z
        have y2 : w.heap.size < w1.heap.size := by omega
        have y3 : w.heap.size + 1 < w1.heap.size := by omega
        have y4 : wr.heap.size < w1.heap.size := by omega
        have y5 : ¬ w.heap.size + 1 = wr.heap.size := by omega
        have e0 : w1.cell? ⟨w.heap.size + 1, 0, none⟩ = some (.int .i64 k0) := by rw [bc _ _ (by (first | omega | (simp; done) | (simp; omega)))]; simp [go_sem, *]
        have e1 : w1.cell? ⟨w.heap.size + 1, 1, none⟩ = some (.int .i64 k1) := by rw [bc _ _ (by (first | omega | (simp; done) | (simp; omega)))]; simp [go_sem, *]
        have e2 : w1.frozen? ⟨w.heap.size + 1, 0, none⟩ = false := by rw [bf _ _ (by (first | omega | (simp; done) | (simp; omega)))]; simp [go_sem, *]
        have e3 : w1.frozen? ⟨w.heap.size + 1, 1, none⟩ = false := by rw [bf _ _ (by (first | omega | (simp; done) | (simp; omega)))]; simp [go_sem, *]
        have e4 : w1.cell? ⟨wr.heap.size, 0, none⟩ = some (.int .i64 a) := by rw [bc _ _ (by (first | omega | (simp; done) | (simp; omega)))]; simp [go_sem, *]
        have e5 : w1.cell? ⟨wr.heap.size, 1, none⟩ = some (.int .i64 s) := by rw [bc _ _ (by (first | omega | (simp; done) | (simp; omega)))]; simp [go_sem, *]
        have e6 : w1.cell? ⟨w.heap.size, 0, none⟩ = some (.int .i64 p) := by rw [bc _ _ (by (first | omega | (simp; done) | (simp; omega)))]; simp [go_sem, *]
        have e7 : w1.cell? ⟨w.heap.size, 1, none⟩ = some (.int .i64 r) := by rw [bc _ _ (by (first | omega | (simp; done) | (simp; omega)))]; simp [go_sem, *]
        have e8 : w1.cell? ⟨w.heap.size, 2, none⟩ = some (.int .i64 u) := by rw [bc _ _ (by (first | omega | (simp; done) | (simp; omega)))]; simp [go_sem, *]
        have e9 : w1.cell? ⟨w.heap.size, 3, none⟩ = some (.int .i64 m) := by rw [bc _ _ (by (first | omega | (simp; done) | (simp; omega)))]; simp [go_sem, *]
        have e10 : w1.cell? ⟨w.heap.size, 4, none⟩ = some (.int .i64 l) := by rw [bc _ _ (by (first | omega | (simp; done) | (simp; omega)))]; simp [go_sem, *]
        have b := rightB_iff HR.out
        obtain ⟨d, P, Q, M, n, hw1, hw2, hw3, hw4, hw5, hw6, hw7⟩ := more_words p k0 now a s (by omega) (by omega) hk0.1 (by omega) hnow.1 q1 q3 (by omega) (by omega)
        have HW6 := hidd hw6
        have hi0 := fun a b c d w => index0 a b c d w
        have hi1 := fun a b c d w => index1 a b c d w
        clear hw6 c0 c1 f0 f1 x0 x1 b bc bf
        go_wp2_with fail
        refine wp_loop_rounds 3 ?_
        rw [rounds_succ]
        go_wp2_with fail
        go_cut [69] (fun s69 wx => wx = ((w1.setCell ⟨w.heap.size + 1, 0, none⟩ (.int .i64 n)).alloc (.cells #[.int .i64 m, .int .i64 p] 81)).drew)
        case first =>
          rcases hw4 with ⟨hq, rfl⟩ | ⟨hq, rfl⟩
          · have hw8 : wrap64 s = n := by rw [← hw5]; simp [IntKind.wrap_i64, wrap64]
            go_region
            go_wp2_with fail
            go_meet
            rfl
          · go_region
            go_wp2_with fail
            go_meet
            rfl
        case rest =>
          subst hcut
          clear hw1 hw2 hw3 hw4 hw5
          by_cases hn : m < n
          · have hF : F = i := by
              have := HFB.out
              rw [HX.out, SM.fb_no0 (by rw [← HW6.out]; exact hn)] at this
              exact this.symm
            have HFI := hidd (show ((i : Int)) = ((F : Nat) : Int) by omega)
            clear hF
            go_wp2_with fail
            go_quiet (fail)
            go_wp2_with fail
            rw [Exit.noGoto_ret]
            go_ret
            exact ⟨ret_int HFI.out, by have := HB.out; have := HB.out.size; (repeat' (first | (with_reducible exact Below.refl _ _) | (with_reducible assumption) | (with_reducible apply Below.setCell) | (with_reducible apply Below.alloc) | (with_reducible apply Below.drew) | (with_reducible apply below_drewN) | (with_reducible refine Below.trans ?_ (Below.mono (by assumption) ?_)) | omega | (simp; done) | (simp; omega)))⟩
          · have b := rightB_iff HR.out
            obtain ⟨d, P, Q, M, o, hw1, hw2, hw3, hw4, hw5, hw6, hw9⟩ := more_words r k1 now a s (by omega) (by omega) hk1.1 (by omega) hnow.1 q1 q3 (by omega) (by omega)
            have HW9 := hidd hw6
            clear hw6 b
            go_wp2_with fail
            go_quiet (fail)
            go_wp2_with fail
            rw [rounds_succ]
            go_wp2_with fail
            go_cut [69] (fun s69 wx => wx = (((((w1.setCell ⟨w.heap.size + 1, 0, none⟩ (.int .i64 n)).alloc (.cells #[.int .i64 m, .int .i64 p] 81)).drewN (1 + nq)).setCell ⟨w.heap.size + 1, 1, none⟩ (.int .i64 o)).alloc (.cells #[.int .i64 u, .int .i64 r] 81)).drew)
            case first =>
              rcases hw4 with ⟨hq, rfl⟩ | ⟨hq, rfl⟩
              · have hw8 : wrap64 s = o := by rw [← hw5]; simp [IntKind.wrap_i64, wrap64]
                go_region
                go_wp2_with fail
                go_meet
                rfl
              · go_region
                go_wp2_with fail
                go_meet
                rfl
            case rest =>
              subst hcut
              clear hw1 hw2 hw3 hw4 hw5
              by_cases ho : u < o
              · have hF : F = i := by
                  have := HFB.out
                  rw [HX.out, SM.fb_no1 (by rw [← HW9.out]; exact ho)] at this
                  exact this.symm
                have HFI := hidd (show ((i : Int)) = ((F : Nat) : Int) by omega)
                clear hF
                go_wp2_with fail
                go_quiet (fail)
                go_wp2_with fail
                rw [Exit.noGoto_ret]
                go_ret
                exact ⟨ret_int HFI.out, by have := HB.out; have := HB.out.size; (repeat' (first | (with_reducible exact Below.refl _ _) | (with_reducible assumption) | (with_reducible apply Below.setCell) | (with_reducible apply Below.alloc) | (with_reducible apply Below.drew) | (with_reducible apply below_drewN) | (with_reducible refine Below.trans ?_ (Below.mono (by assumption) ?_)) | omega | (simp; done) | (simp; omega)))⟩
              · go_wp2_with fail
                go_quiet (fail)
                go_wp2_with fail
                rw [rounds_succ]
                go_wp2_with fail
                have hk := HK.out
                have hfb := HFB.out
                rw [HX.out, SM.fb_on hf.out (by rw [← HW6.out]; omega) (by rw [← HW9.out]; omega), ← HW6.out, ← HW9.out] at hfb
                have HFB2 := hidd hfb
                clear hfb
                go_roundg (gk - 1)
                case measure => omega
                case rel =>
                  refine ⟨i + 1, a, n, o, by omega, by omega, rfl, rfl, by go_num, HFB2.out, by omega, by omega, by omega, by have := HB.out; have := HB.out.size; (repeat' (first | (with_reducible exact Below.refl _ _) | (with_reducible assumption) | (with_reducible apply Below.setCell) | (with_reducible apply Below.alloc) | (with_reducible apply Below.drew) | (with_reducible apply below_drewN) | (with_reducible refine Below.trans ?_ (Below.mono (by assumption) ?_)) | omega | (simp; done) | (simp; omega))), by simp; omega, ?_, ?_, ?_, ?_, ?_, ?_, ?_, ?_, ?_⟩
                  all_goals simp [go_sem, *]
      · have hF : F = i := by
          have := HFB.out
          rw [HX.out, SM.fb_unfit hf] at this
          exact this.symm
        have HFI := hidd (show ((i : Int)) = ((F : Nat) : Int) by omega)
        clear hF
        by_cases q1 : a < now
        · clear hf
          go_wp2_with fail
          rw [Exit.noGoto_ret]
          go_ret
          exact ⟨ret_int HFI.out, by have := HB.out; (repeat' (first | (with_reducible exact Below.refl _ _) | (with_reducible assumption) | (with_reducible apply Below.setCell) | (with_reducible apply Below.alloc) | (with_reducible apply Below.drew) | (with_reducible apply below_drewN) | (with_reducible refine Below.trans ?_ (Below.mono (by assumption) ?_)) | omega | (simp; done) | (simp; omega)))⟩
        · by_cases q2 : tickB a = true
          · have q3 := of_decide_eq_true q2
            by_cases q4 : s < l
            · clear hf q3
              go_wp2_with fail
              refine (ct.out _ _).mono ?_
              rintro e w1 ⟨rfl, rfl⟩
              go_wp2_with fail
              rw [Exit.noGoto_ret]
              go_ret
              exact ⟨ret_int HFI.out, by have := HB.out; (repeat' (first | (with_reducible exact Below.refl _ _) | (with_reducible assumption) | (with_reducible apply Below.setCell) | (with_reducible apply Below.alloc) | (with_reducible apply Below.drew) | (with_reducible apply below_drewN) | (with_reducible refine Below.trans ?_ (Below.mono (by assumption) ?_)) | omega | (simp; done) | (simp; omega)))⟩
            · have q5 : m < s := by
                refine Int.not_le.1 fun h => hf ⟨by omega, by omega, by omega, by omega, h⟩
              clear hf q3
              go_wp2_with fail
              refine (ct.out _ _).mono ?_
              rintro e w1 ⟨rfl, rfl⟩
              go_wp2_with fail
              rw [Exit.noGoto_ret]
              go_ret
              exact ⟨ret_int HFI.out, by have := HB.out; (repeat' (first | (with_reducible exact Below.refl _ _) | (with_reducible assumption) | (with_reducible apply Below.setCell) | (with_reducible apply Below.alloc) | (with_reducible apply Below.drew) | (with_reducible apply below_drewN) | (with_reducible refine Below.trans ?_ (Below.mono (by assumption) ?_)) | omega | (simp; done) | (simp; omega)))⟩
          · have q3 : tickB a = false := by simpa using q2
            clear hf q2
            go_wp2_with fail
            refine (ct.out _ _).mono ?_
            rintro e w1 ⟨rfl, rfl⟩
            go_wp2_with fail
            rw [Exit.noGoto_ret]
            go_ret
            exact ⟨ret_int HFI.out, by have := HB.out; (repeat' (first | (with_reducible exact Below.refl _ _) | (with_reducible assumption) | (with_reducible apply Below.setCell) | (with_reducible apply Below.alloc) | (with_reducible apply Below.drew) | (with_reducible apply below_drewN) | (with_reducible refine Below.trans ?_ (Below.mono (by assumption) ?_)) | omega | (simp; done) | (simp; omega)))⟩
    · go_wp2_with fail
      have : F = i := by
        have := HFB.out
        rw [List.drop_eq_nil_of_le (by omega), SM.fb_nil] at this
        exact this.symm
      try rw [Exit.noGoto_ret]
      go_ret
      subst this
      exact ⟨ret_int (by omega), HB.out⟩
end Go.Proofs.Ytilikpacgbkebaa
