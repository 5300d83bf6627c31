/- minplus: the least of what is told of some. -/
import Derived.Test.YtokcalmmmfakcaaGreatMpC
import Derived.Deep.LoopGhost
namespace Go.Proofs.YtokcalmmmfakcaaGreat
set_option linter.unusedVariables false
open Go.RowKit

def lowK {α : Type} (f : α → Num3) : Int → Int → List α → Num3
  | N, D, [] => (N, D, 0)
  | N, D, x :: xs => thenR (f x) (fun P Q => if P * D < N * Q then lowK f P Q xs else lowK f N D xs)
def lowR {α : Type} (f : α → Num3) : List α → Num3
  | [] => (0, 0, 0)
  | x :: xs => thenR (f x) (fun N D => lowK f N D xs)
theorem lowK_next {α : Type} {f : α → Num3} {l : List α} {i : Nat} (h : i < l.length) (N D : Int) : lowK f N D (l.drop i) = thenR (f l[i]) (fun P Q => if P * D < N * Q then lowK f P Q (l.drop (i + 1)) else lowK f N D (l.drop (i + 1))) := by
  rw [List.drop_eq_getElem_cons h]
  rfl
theorem lowR_first {α : Type} {f : α → Num3} {l : List α} (h : 0 < l.length) : lowR f l = thenR (f l[0]) (fun N D => lowK f N D l.tail) := by
  cases l with
  | nil => simp at h
  | cons x xs => rfl
theorem tells_lowK {α : Type} {f : α → Num3} : ∀ (l : List α), (∀ x ∈ l, Tells (f x)) → ∀ N D, RM.Right N D → Tells (lowK f N D l)
  | [], _, N, D, h => .inl ⟨N, D, rfl, h⟩
  | x :: xs, hf, N, D, h => tells_then (hf x (by simp)) (fun P Q hp => by
    split
    · exact tells_lowK xs (fun y hy => hf y (by simp [hy])) P Q hp
    · exact tells_lowK xs (fun y hy => hf y (by simp [hy])) N D h)
theorem GBox.put {W : World} {b : Nat} {u v : Int} (h : GBox W b u v) (x y : Int) : GBox ((W.setCell ⟨b, 0, none⟩ (.int .i64 x)).setCell ⟨b, 1, none⟩ (.int .i64 y)) b x y := by
  obtain ⟨h0, h1, h2, h3, h4⟩ := h
  exact ⟨by simpa using h0, by simp [go_sem, *], by simp [go_sem, *], by simp [go_sem, *], by simp [go_sem, *]⟩
theorem below_put {w W : World} {b : Nat} (h : Below w.heap.size w W) (hb : w.heap.size ≤ b) (x y : Int) : Below w.heap.size w ((W.setCell ⟨b, 0, none⟩ (.int .i64 x)).setCell ⟨b, 1, none⟩ (.int .i64 y)) := (h.setCell (by simpa using hb) _).setCell (by simpa using hb) _
theorem LiesO.tail2 {w : World} {ad : Addr} {l : List (Int × Int)} (h : LiesO w (some ad) l) : LiesO w (some ⟨ad.block, ad.off + 2, none⟩) l.tail := fun hl => by
  obtain ⟨ad', e, hB, hc⟩ := h (by cases l <;> simp_all)
  obtain rfl : ad = ad' := by injection e
  refine ⟨_, rfl, hB, fun i hi => ?_⟩
  have e2 : Addr.add ⟨ad.block, ad.off + 2, none⟩ (i * 2) = ad.add ((i + 1) * 2) := by
    have : (⟨ad.block, ad.off + 2, none⟩ : Addr) = ad.add 2 := rfl
    rw [this, add_of_add]; congr 1; omega
  have hi2 : i + 1 < l.length := by cases l <;> simp_all
  have e3 : l.tail[i] = l[i + 1] := by cases l <;> simp_all
  rw [e2, e3]
  exact hc (i + 1) hi2
theorem plain_add (b o k : Nat) : Addr.add ⟨b, o, none⟩ k = ⟨b, o + k, none⟩ := by
  unfold Addr.add
  split
  · rename_i h; subst h; rfl
  · rfl
def StepN (K : Nat) (cap : Array Value) (f : Int × Int → Num3) (l : List (Int × Int)) (w : World) : Prop :=
  ∀ x ∈ l, ∀ W, Below w.heap.size w W → Calls Tryz.prog K (#[.agg #[.int .i64 x.1, .int .i64 x.2]] ++ cap) W (NumEnd (f x) W)
set_option maxRecDepth 100000 in
set_option maxHeartbeats 8000000 in
theorem leastLine_any (K : Nat) (cap : Array Value) (he : ∀ args w, (callFunc K args).run Tryz.prog w = .ok (.enter K args) w) (f : Int × Int → Num3) (A : Option Addr) (l : List (Int × Int)) (c : Nat) (h0 : 0 < l.length) (hm : l.length ≤ 1000000) (hc : l.length ≤ c) (hcm : c ≤ maxLen) (w : World) (hl : LiesO w A l) (cs : StepN K cap f l w) :
    Calls Tryz.prog 86 #[.slice A l.length c, .func (Fn.func K) #[] cap] w (NumEnd (lowR f l) w) := by
  unfold maxLen at hcm
  unfold StepN at cs
  obtain ⟨n, hn⟩ : ∃ n, l.length = n + 1 := ⟨l.length - 1, by omega⟩
  have HN := hidd hn
  have HL := hidd hl
  obtain ⟨ad, rfl, hab, hcells⟩ := hl h0
  obtain ⟨x0, x1⟩ := hcells 0 h0
  have e0 : ad.add (0 * 2) = ad := by simp [Addr.add]
  rw [e0] at x0 x1
  have CS := hidd cs
  have c0 := hidd (fun W hW => cs (l[0]'h0) (List.getElem_mem h0) W hW)
  have htl : l.tail.length = n := by simp [hn]
  have HTL := hidd htl
  have HT := hidd (LiesO.tail2 hl)
  have CT := hidd (fun x (hx : x ∈ l.tail) W hW => cs x (List.mem_of_mem_tail hx) W hW)
  have ca := hidd (fun N D P Q (h1 : RM.Right N D) (h2 : RM.Right P Q) W => num_isAbove N D P Q h1.fit h2.fit W)
  have hfd := field_num
  obtain ⟨RR, hRR⟩ : ∃ R, lowR f l = R := ⟨_, rfl⟩
  have HR0 := hidd (show RR = thenR (f (l[0]'h0)) (fun N D => lowK f N D l.tail) from by rw [← hRR]; exact lowR_first h0)
  rw [hRR]
  obtain ⟨y, hy⟩ : ∃ y, l[0]'h0 = y := ⟨_, rfl⟩
  rw [hy] at x0 x1 c0 HR0
  obtain ⟨T, hT⟩ : ∃ T, l.tail = T := ⟨_, rfl⟩
  rw [hT] at HTL HR0 HT CT
  have HNX := hidd (fun i (hi : i < T.length) N D => lowK_next (f := f) hi N D)
  rw [hn]
  rw [hn] at hc hm
  clear hl cs hcells e0 htl hRR hy hT hn h0
  obtain ⟨y0, y1⟩ := y
  dsimp only at x0 x1 c0
  unfold NumEnd at c0 ⊢
  go_enter Tryz.func86, Tryz.ntmps86
  go_wp2_with fail
  refine (c0.out _ (by (repeat' (first | (with_reducible exact Below.refl _ _) | (with_reducible assumption) | (with_reducible apply Below.setCell) | (with_reducible apply Below.alloc) | (with_reducible apply Below.drew) | (with_reducible apply below_drewN) | (with_reducible refine Below.trans ?_ (Below.mono (by assumption) ?_)) | omega | (simp; done) | (simp; omega))))).mono ?_
  rintro e w1 (⟨N0, D0, rfl, hN0, hr0, hb1⟩ | ⟨k, rfl, hk, hk0, hb1⟩)
  case inr =>
    have HB1 := hidd (Below.trans (show Below w.heap.size w (w.alloc (.cells #[.int .i64 0, .int .i64 0] 66)) by (repeat' (first | (with_reducible exact Below.refl _ _) | (with_reducible assumption) | (with_reducible apply Below.setCell) | (with_reducible apply Below.alloc) | (with_reducible apply Below.drew) | (with_reducible apply below_drewN) | (with_reducible refine Below.trans ?_ (Below.mono (by assumption) ?_)) | omega | (simp; done) | (simp; omega)))) (hb1.mono (by simp)))
    go_wp2_with fail
    exact ⟨rfl, .inr ⟨k, rfl, by rw [HR0.out, hk, thenR_no hk0], hk0, HB1.out⟩⟩
  have HB1 := hidd (Below.trans (show Below w.heap.size w (w.alloc (.cells #[.int .i64 0, .int .i64 0] 66)) by (repeat' (first | (with_reducible exact Below.refl _ _) | (with_reducible assumption) | (with_reducible apply Below.setCell) | (with_reducible apply Below.alloc) | (with_reducible apply Below.drew) | (with_reducible apply below_drewN) | (with_reducible refine Below.trans ?_ (Below.mono (by assumption) ?_)) | omega | (simp; done) | (simp; omega)))) (hb1.mono (by simp)))
  have HO1 := hidd ((GBox.new (w := w) rfl 66 0 0).step hb1)
  have HRK := hidd (show RR = lowK f N0 D0 (T.drop 0) from by rw [HR0.out, hN0, thenR_ok, List.drop_zero])
  have HRT := hidd hr0
  have hs1 := HB1.out.size
  have hsb : w.heap.size < w1.heap.size := HO1.out.1
  clear hb1 hN0 hr0 HR0
  by_cases hc1 : c = 1
  · obtain rfl : n = 0 := by omega
    subst hc1
    have HRE := hidd (show RR = (N0, D0, 0) from by
      have := HTL.out
      rw [HRK.out, List.drop_zero, List.eq_nil_of_length_eq_zero this]; rfl)
    obtain ⟨o5, o0, o1, f0, f1⟩ := HO1.out
    have HB2 := hidd (below_new HB1.out (.cells #[.int .i64 N0, .int .i64 D0] 66))
    go_wp2_with fail
    go_loopg [17] 2 (fun g s17 wr => ∃ N D : Int, g = 2 ∧ s17 = .int .i64 0 ∧ RR = (N, D, 0) ∧ RM.Right N D ∧ GBox wr w1.heap.size N D ∧ Below w1.heap.size w1 wr)
    case atStart => exact ⟨N0, D0, rfl, rfl, HRE.out, HRT.out, GBox.new rfl _ N0 D0, below_new (Below.refl _ _) _⟩
    case round =>
      obtain ⟨N, D, hg, rfl, hRE, hRN, hG, hB⟩ := hrel
      have HRE := hidd hRE
      have HRN := hidd hRN
      have HG0 := hidd hG
      have HBr := hidd hB
      clear hg hRE hRN hG hB o5 o0 o1 f0 f1
      obtain ⟨o5, o0, o1, f0, f1⟩ := (HO1.out.step HBr.out)
      obtain ⟨g5, g0, g1, g2, g3⟩ := HG0.out
      have HBf := hidd (below_step HB1.out HBr.out)
      have hle0 := HB1.out.size
      go_wp2_with fail
      exact bodyPost_ret (v := .agg #[.int .i64 N, .int .i64 D]) (by simp [results, Tryz.results86, go_sem, *]) rfl (.inl ⟨N, D, rfl, HRE.out, HRN.out, by have q := HBf.out; (repeat' (first | (with_reducible exact Below.refl _ _) | (with_reducible assumption) | (with_reducible apply Below.setCell) | (with_reducible apply Below.alloc) | (with_reducible apply Below.drew) | (with_reducible apply below_drewN) | (with_reducible refine Below.trans ?_ (Below.mono (by assumption) ?_)) | omega | (simp; done) | (simp; omega)))⟩)
  · have hc2 : ¬ c ≤ 1 := by omega
    have hc3 : (1 : Int) ≤ (c : Int) := by omega
    have hn1 : ((n + 1 : Nat) : Int) = (n : Int) + 1 := by omega
    go_wp2_with fail
    go_loopg [17] (n + 2) (fun g s17 wr => ∃ (i : Nat) (N D : Int), i ≤ n ∧ i + g = n + 2 ∧ s17 = .int .i64 (i : Int) ∧ RR = lowK f N D (T.drop i) ∧ RM.Right N D ∧ GBox wr w1.heap.size N D ∧ Below w1.heap.size w1 wr)
    case atStart => exact ⟨0, N0, D0, by omega, by omega, by first | rfl | simp, HRK.out, HRT.out, GBox.new rfl _ N0 D0, below_new (Below.refl _ _) _⟩
    case round =>
      obtain ⟨i, N, D, hi1, hg, rfl, hRE, hRN, hG, hB⟩ := hrel
      have HGk := hidd hg
      have HRI := hidd hRE
      have HRN := hidd hRN
      have HG0 := hidd hG
      have HBr := hidd hB
      have hin0 : (0 : Int) ≤ (i : Int) := by omega
      clear hg hRE hRN hG hB
      by_cases hin : i < n
      · have hin2 : (i : Int) < (n : Int) := by omega
        have hiT : i < T.length := by rw [HTL.out]; exact hin
        have HBw := hidd (below_step HB1.out HBr.out)
        obtain ⟨tad, hte, htb, hcells⟩ := (HT.out.below HBw.out) (by omega)
        obtain rfl : (⟨ad.block, ad.off + 2, none⟩ : Addr) = tad := by injection hte
        obtain ⟨u0, u1⟩ := hcells i hiT
        have c1 := hidd (fun W hW => CT.out (T[i]'hiT) (List.getElem_mem hiT) W hW)
        have HN1 := hidd (HNX.out i hiT N D)
        obtain ⟨x, hx⟩ : ∃ x, T[i]'hiT = x := ⟨_, rfl⟩
        rw [hx] at u0 u1 c1 HN1
        obtain ⟨b, r⟩ := x
        dsimp only at u0 u1 c1
        have u0' : wr.cell? ⟨ad.block, ad.off + 2 + i * 2, none⟩ = some (.int .i64 b) := by rw [plain_add] at u0; exact u0
        have u1' : wr.cell? ⟨ad.block, ad.off + 2 + i * 2 + 1, none⟩ = some (.int .i64 r) := by rw [plain_add] at u1; exact u1
        clear hx hte hcells u0 u1
        unfold NumEnd at c1
        obtain ⟨g5, g0, g1, g2, g3⟩ := HG0.out
        have htb2 : (Addr.add ⟨ad.block, ad.off + 2, none⟩ (i * 2)).block < wr.heap.size := by rw [block_of_add]; exact htb
        go_wp2_with fail
        refine (c1.out _ (by have := HBw.out; (repeat' (first | (with_reducible exact Below.refl _ _) | (with_reducible assumption) | (with_reducible apply Below.setCell) | (with_reducible apply Below.alloc) | (with_reducible apply Below.drew) | (with_reducible apply below_drewN) | (with_reducible refine Below.trans ?_ (Below.mono (by assumption) ?_)) | omega | (simp; done) | (simp; omega))))).mono ?_
        rintro e w2 (⟨P, Q, rfl, hP, hPr, hb2⟩ | ⟨k, rfl, hk, hk0, hb2⟩)
        case inr =>
          have HBx := hidd (below_step (below_new HBw.out _) hb2)
          go_wp2_with fail
          exact ⟨rfl, .inr ⟨k, rfl, by rw [HRI.out, HN1.out, hk, thenR_no hk0], hk0, HBx.out⟩⟩
        have HBy := hidd (below_step (below_new HBr.out _) hb2)
        have HG2 := hidd ((HG0.out.past _).step hb2)
        have HPr := hidd hPr
        have HP := hidd hP
        clear hb2 g0 g1 g2 g3 g5 u0' u1' hP hPr
        obtain ⟨g5, g0, g1, g2, g3⟩ := (HG2.out.past (.cells #[.int .i64 P, .int .i64 Q] 66))
        have cab := hidd (fun W => ca.out N D P Q HRN.out HPr.out W)
        rw [ord_above] at cab
        by_cases hab2 : P * D < N * Q
        · have HAB := hidd hab2
          rw [decide_eq_true hab2] at cab
          have HRI2 := hidd (show RR = lowK f P Q (T.drop (i + 1)) from by rw [HRI.out, HN1.out, HP.out, thenR_ok, if_pos hab2])
          clear hab2
          go_wp2_with fail
          refine (cab.out _).mono ?_
          rintro e w3 ⟨rfl, hb3⟩
          have HBz := hidd (below_step (below_new HBy.out _) hb3)
          have HG3 := hidd (((HG2.out.past _).step hb3))
          have HY := hidd ((GBox.new (w := w2) rfl 66 P Q).step hb3)
          clear g5 g0 g1 g2 g3 hb3
          obtain ⟨g5, g0, g1, g2, g3⟩ := HG3.out
          obtain ⟨y5, y0', y1', y2, y3⟩ := HY.out
          go_wp2_with fail
          have hg := HGk.out
          go_roundg (gk - 1)
          case measure => omega
          case rel => exact ⟨i + 1, P, Q, by omega, by omega, by go_num, HRI2.out, HPr.out, HG3.out.put P Q, below_put HBz.out (Nat.le_refl _) P Q⟩
        · rw [decide_eq_false hab2] at cab
          have HRI2 := hidd (show RR = lowK f N D (T.drop (i + 1)) from by rw [HRI.out, HN1.out, HP.out, thenR_ok, if_neg hab2])
          clear hab2
          go_wp2_with fail
          refine (cab.out _).mono ?_
          rintro e w3 ⟨rfl, hb3⟩
          have HBz := hidd (below_step (below_new HBy.out _) hb3)
          have HG3 := hidd (((HG2.out.past _).step hb3))
          clear g5 g0 g1 g2 g3 hb3
          go_wp2_with fail
          have hg := HGk.out
          go_roundg (gk - 1)
          case measure => omega
          case rel => exact ⟨i + 1, N, D, by omega, by omega, by go_num, HRI2.out, HRN.out, HG3.out, HBz.out⟩
      · obtain rfl : i = n := by omega
        have HRE := hidd (show RR = (N, D, 0) from by
          rw [HRI.out, List.drop_of_length_le (by rw [HTL.out]; exact Nat.le_refl _)]; rfl)
        obtain ⟨o5, o0, o1, f0, f1⟩ := (HO1.out.step HBr.out)
        obtain ⟨g5, g0, g1, g2, g3⟩ := HG0.out
        have HBf := hidd (below_step HB1.out HBr.out)
        have hle0 := HB1.out.size
        go_wp2_with fail
        exact bodyPost_ret (v := .agg #[.int .i64 N, .int .i64 D]) (by simp [results, Tryz.results86, go_sem, *]) rfl (.inl ⟨N, D, rfl, HRE.out, HRN.out, by have q := HBf.out; (repeat' (first | (with_reducible exact Below.refl _ _) | (with_reducible assumption) | (with_reducible apply Below.setCell) | (with_reducible apply Below.alloc) | (with_reducible apply Below.drew) | (with_reducible apply below_drewN) | (with_reducible refine Below.trans ?_ (Below.mono (by assumption) ?_)) | omega | (simp; done) | (simp; omega)))⟩)
end Go.Proofs.YtokcalmmmfakcaaGreat
