/- The walk of CheckSums: the sum of any parts, however they are cut; copies go on apart. -/
import Derived.Test.YtmpiobpgjlceaaaCkW
namespace Go.Proofs.Ytmpiobpgjlceaaa
set_option linter.unusedVariables false
open Go.RowKit

/-- the copy of a sum under way, or none yet. -/
def CopyAt (cs : List Part) (W : World) (b lo : Nat) (v8 v9 : Value) : Prop :=
  v8 = .pointer none ∨ ∃ (bc j : Nat), v8 = .pointer (some ⟨bc, 0, none⟩) ∧ v9 = .int .i64 (sumR (allBytes (cs.take j))) ∧ bc ≠ b ∧ lo ≤ bc ∧ AdderAt W bc (feedAll st0 (allBytes (cs.take j)))
theorem CopyAt.below {cs : List Part} {W W' : World} {b lo : Nat} {v8 v9 : Value} (h : CopyAt cs W b lo v8 v9) (hb : Below W.heap.size W W') : CopyAt cs W' b lo v8 v9 := by
  rcases h with h | ⟨bc, j, h1, h2, h3, h4, h5⟩
  · exact .inl h
  · exact .inr ⟨bc, j, h1, h2, h3, h4, h5.below hb⟩
theorem CopyAt.but {cs : List Part} {W W' : World} {b lo : Nat} {v8 v9 : Value} (h : CopyAt cs W b lo v8 v9) (hb : But b W W') : CopyAt cs W' b lo v8 v9 := by
  rcases h with h | ⟨bc, j, h1, h2, h3, h4, h5⟩
  · exact .inl h
  · exact .inr ⟨bc, j, h1, h2, h3, h4, h5.but hb h3⟩
theorem but_below {b : Nat} {w w' w'' : World} (h : Below w.heap.size w w') (hb : But b w' w'') (hlo : w.heap.size ≤ b) : Below w.heap.size w w'' := h.trans (hb.below hlo h.size)
theorem own_but {w w' : World} {base b : Nat} {e : TypeId} {v : Value} {L : List Int} (h : OwnL byV 1 w base e v L) (hb : But b w w') (hne : v.ownBlock ≠ some b) : OwnL byV 1 w' base e v L := by
  refine ⟨h.1, ?_⟩
  rcases h.2 with h0 | ⟨g, cap, cur, rfl, hbs, hh, hr⟩
  · exact .inl h0
  · refine .inr ⟨g, cap, cur, rfl, hbs, ?_, hr⟩
    rw [hb.block g ?_ ?_]
    · exact hh
    · rcases Nat.lt_or_ge g w.heap.size with hlt | hge
      · exact hlt
      · rw [Array.getElem?_eq_none hge] at hh; cases hh
    · intro e; subst e; exact hne rfl
theorem take_bytes {cs : List Part} (h : Bytes (allBytes cs)) (j : Nat) : Bytes (allBytes (cs.take j)) := fun x hx => h x (by
  unfold allBytes at *
  obtain ⟨c, hc, hx⟩ := List.mem_flatMap.1 hx
  exact List.mem_flatMap.2 ⟨c, List.mem_of_mem_take hc, hx⟩)
theorem part_bytes {cs : List Part} (h : Bytes (allBytes cs)) {c : Part} (hc : c ∈ cs) : Bytes c.2 := fun x hx => h x (List.mem_flatMap.2 ⟨c, hc, hx⟩)
theorem take_len {cs : List Part} (h20 : cs.length ≤ 20) (hall : ∀ c ∈ cs, c.2.length ≤ 3000) (j : Nat) : (allBytes (cs.take j)).length ≤ 60000 := by
  have key : ∀ l : List Part, (∀ c ∈ l, c.2.length ≤ 3000) → (allBytes l).length ≤ 3000 * l.length := by
    intro l
    induction l with
    | nil => intro _; simp [allBytes]
    | cons c l ih =>
      intro h
      have h1 := h c (by simp)
      have h2 := ih (fun d hd => h d (by simp [hd]))
      unfold allBytes at *
      simp only [List.flatMap_cons, List.length_append, List.length_cons]
      omega
  have h1 := key (cs.take j) (fun c hc => hall c (List.mem_of_mem_take hc))
  have h2 : (cs.take j).length ≤ 20 := by rw [List.length_take]; omega
  omega
set_option maxHeartbeats 8000000 in
theorem sums_walk (A : Option Addr) (cs : List Part) (k : Nat) (at_ : Int) (hlen : cs.length ≤ k) (hk : k ≤ maxLen) (hby : Bytes (allBytes cs)) (hpl : ∀ p ∈ cs, p.2.length ≤ maxLen) (a0 : -9223372036854775808 ≤ at_) (a1 : at_ ≤ 9223372036854775807) (w : World) (hP : Parts w (· < w.heap.size) A cs) :
    Calls Try.prog 3 #[.slice A cs.length k, .int .i64 at_] w fun e w' => e = .returned (.bool true) ∧ Below w.heap.size w w' := by
  have ck := hidd (fun W => known_any W)
  have cj := hidd (joined_any A k cs (by omega) w hP)
  have cn := hidd (fun W => New_any W)
  have HP := hidd hP
  have HBY := hidd hby
  have hlen' : cs.length ≤ 9223372036854775807 := by unfold maxLen at hk; omega
  clear hP hby hk hpl
  go_enter Try.func3, Try.ntmps3
  go_wp2_with fail
  refine cj.out.mono ?_
  rintro e w1 (⟨v, rfl, hO, h20, hall, h3000, hB⟩ | ⟨v, rfl, hB⟩)
  rotate_left
  · have HB := hidd hB
    clear hB
    go_wp2_with fail
    refine (ck.out _).mono ?_
    rintro e w3 ⟨rfl, hb3⟩
    have HB3 := hidd (below_step HB.out hb3)
    clear hb3
    go_wp2_with fail
    go_ret
    exact ⟨rfl, HB3.out⟩
  obtain ⟨Ao, co, rfl, _, _, hlo⟩ := OwnL.lie hO byV_len
  have hO0 := hO
  have HO := hidd hO
  have HB := hidd hB
  have HALL := hidd hall
  clear hO hB cj hall
  go_wp2_with fail
  refine (cn.out _).mono ?_
  rintro e w2 ⟨rfl, rfl⟩
  have hA0 := new_at w1 51
  have hb0 := HB.out.size
  obtain ⟨W2, hW2⟩ : ∃ W2, w1.alloc (.cells #[.int .u8 0, .bool false, .int .u16 0, .bool true] 51) = W2 := ⟨_, rfl⟩
  have hO2 : OwnL byV 1 W2 w.heap.size 5 (.slice Ao (allBytes cs).length co) (allBytes cs) := by rw [← hW2]; exact HO.out.alloc _
  have hB2 : Below w.heap.size w W2 := by rw [← hW2]; exact below_new HB.out _
  have hn0 : (Value.slice Ao (allBytes cs).length co).ownBlock ≠ some w1.heap.size := fun e => by have := (OwnL.lt hO0 _ e).2; omega
  rw [hW2] at hA0 ⊢
  generalize w1.heap.size = b at *
  have HN0 := hidd hn0
  have HA0 := hidd hA0
  have HO2 := hidd hO2
  have HB2 := hidd hB2
  clear hlo hW2 hn0 hA0 hO2 hB2 hO0 HO HB cn
  generalize hbl : (allBytes cs).length = bl at *
  have HBL := hidd hbl
  clear hbl
  have HH20 := hidd h20
  have HLOW := hidd hb0
  clear h20 hb0
  go_wp2_with fail
  go_loopg [8, 9, 10] (cs.length + 1) (fun g s8 s9 s10 wr => ∃ i : Nat, i + g = cs.length + 1 ∧ i ≤ cs.length ∧ s10 = .int .i64 (i : Int) ∧ AdderAt wr b (feedAll st0 (allBytes (cs.take i))) ∧ CopyAt cs wr b w.heap.size s8 s9 ∧ OwnL byV 1 wr w.heap.size 5 (.slice Ao bl co) (allBytes cs) ∧ Below w.heap.size w wr)
  case atStart => exact ⟨0, by omega, by omega, by first | rfl | simp, by simpa [allBytes, feedAll] using HA0.out, .inl (by first | rfl | simp), HO2.out, HB2.out⟩
  case round =>
    obtain ⟨i, hk, hi, rfl, hA, hC, hO, hB⟩ := hrel
    have HK := hidd hk
    have HA := hidd hA
    have HC := hidd hC
    have HO := hidd hO
    have HB := hidd hB
    clear hk hA hC hO hB HA0 HO2 HB2
    have hh20 := HH20.out
    have v1 : IntKind.i64.wrap ((i : Int) + 1) = (i : Int) + 1 := IntWalk.i64_in _ (by omega)
    clear hh20
    by_cases h1 : i < cs.length
    · have hi1 : (i : Int) < (cs.length : Int) := by omega
      have HPr := HP.out.later HB.out
      obtain ⟨ad, rfl, hab, x0⟩ := HPr.at_ i h1
      obtain ⟨Ai, ki, e1, hl⟩ := HPr.2 cs[i] (List.getElem_mem h1)
      have HT := hidd (allBytes_take h1)
      have hm3 := HALL.out cs[i] (List.getElem_mem h1)
      have hmb := part_bytes HBY.out (List.getElem_mem h1)
      have habi : (ad.add i).block < w.heap.size := by rw [block_of_add]; exact hab
      have hszr := HB.out.size
      have X0 := hidd (fun W (hW : Below w.heap.size wr W) => (hW.cell habi).trans (x0.trans (by rw [e1])))
      generalize cs[i].2 = m at *
      have HM := hidd (fun W (hW : Below w.heap.size wr W) => show LieQ byV 1 W (fun j => j < W.heap.size ∧ j ≠ b) Ai m from hl.to (fun j hj => ⟨⟨by have := hW.size; omega, by have := HLOW.out; omega⟩, hW.block j hj⟩))
      have cw := hidd (fun W hA hM => Write_any b (feedAll st0 (allBytes (cs.take i))) (feedAll_ok st0_ok (take_bytes HBY.out i)) Ai m ki (by omega) hmb W hA hM)
      clear e1 hl HPr x0 hmb
      by_cases hat : at_ = (i : Int)
      · subst hat
        have cc := hidd (fun W h => Copy_any b (feedAll st0 (allBytes (cs.take i))) W h)
        have cf := hidd (fun W h => firsts_any (some ad) k cs i hi HH20.out HALL.out W h)
        have cr := hidd (fun A c W h => refSum_any A (allBytes (cs.take i)) c (by have := take_len HH20.out HALL.out i; omega) (take_bytes HBY.out i) W h)
        go_wp2_with fail
        refine (cc.out _ HA.out).mono ?_
        rintro e w3 ⟨rfl, hA3, hB3⟩
        have hBw3 : Below w.heap.size wr w3 := hB3.mono hszr
        have HAc := hidd hA3
        have HA3 := hidd (HA.out.below hB3)
        have HO3 := hidd (HO.out.below hB3)
        have HB3 := hidd (HB.out.trans hBw3)
        have hsr3 := hB3.size
        have hnb : wr.heap.size ≠ b := by have := HA.out.lt; omega
        have hBW3 := hidd hBw3
        clear hA3 hB3 HA HO HB HC hBw3
        go_wp2_with fail
        refine (cf.out _ (HP.out.to (fun j hj => ⟨by have := HB3.out.size; omega, HB3.out.block j hj⟩))).mono ?_
        rintro e w4 ⟨v4, rfl, hO4, hB4⟩
        obtain ⟨A4, c4, rfl, _, _, hl4⟩ := OwnL.lie hO4 byV_len
        have HL4 := hidd hl4
        have HAc4 := hidd (HAc.out.below hB4)
        have HAx := hidd (HA3.out.below hB4)
        have HOx := hidd (HO3.out.below hB4)
        have hBw4 : Below w.heap.size w3 w4 := hB4.mono HB3.out.size
        have HBx := hidd (HB3.out.trans hBw4)
        have x4 := X0.out _ (hBW3.out.trans hBw4)
        have HMx := hidd (HM.out _ (hBW3.out.trans hBw4))
        have HCx := hidd (show CopyAt cs w4 b w.heap.size (.pointer (some ⟨wr.heap.size, 0, none⟩)) (.int .i64 (sumR (allBytes (cs.take i)))) from .inr ⟨wr.heap.size, i, rfl, rfl, hnb, hszr, HAc4.out⟩)
        clear hO4 hB4 hl4 HAc HA3 HO3 HB3 hBw4 HAc4 X0 HM hBW3
        generalize hTl : (allBytes (cs.take i)).length = tl at *
        go_wp2_with fail
        refine (cr.out _ _ _ HL4.out).mono ?_
        rintro e w5 ⟨rfl, rfl⟩
        clear cr cf cc HL4 hTl
        go_wp2_with fail
        refine (cw.out _ HAx.out HMx.out).mono ?_
        rintro e w9 ⟨rfl, hA9, hB9⟩
        have HA9 := hidd (show AdderAt w9 b (feedAll st0 (allBytes (cs.take (i + 1)))) by rw [HT.out, feedAll_app]; exact hA9)
        have HC9 := hidd (HCx.out.but hB9)
        have HO9 := hidd (own_but HOx.out hB9 HN0.out)
        have HB9 := hidd (but_below HBx.out hB9 HLOW.out)
        clear hA9 hB9 HAx HCx HOx HBx HMx
        go_wp2_with fail
        have hk := HK.out
        go_roundg (gk - 1)
        case measure => omega
        case rel => exact ⟨i + 1, by omega, by omega, by simp, HA9.out, HC9.out, HO9.out, HB9.out⟩
      · have hne : ((i : Int) == at_) = false := by simp; omega
        have x4 := X0.out _ (Below.refl _ _)
        have HMx := hidd (HM.out _ (Below.refl _ _))
        have HAx := HA
        have HOx := HO
        have HBx := HB
        have HCx := HC
        clear HA HO HB HC X0 HM
        go_wp2_with fail
        refine (cw.out _ HAx.out HMx.out).mono ?_
        rintro e w9 ⟨rfl, hA9, hB9⟩
        have HA9 := hidd (show AdderAt w9 b (feedAll st0 (allBytes (cs.take (i + 1)))) by rw [HT.out, feedAll_app]; exact hA9)
        have HC9 := hidd (HCx.out.but hB9)
        have HO9 := hidd (own_but HOx.out hB9 HN0.out)
        have HB9 := hidd (but_below HBx.out hB9 HLOW.out)
        clear hA9 hB9 HAx HCx HOx HBx HMx
        go_wp2_with fail
        have hk := HK.out
        go_roundg (gk - 1)
        case measure => omega
        case rel => exact ⟨i + 1, by omega, by omega, by simp, HA9.out, HC9.out, HO9.out, HB9.out⟩
    · obtain rfl : i = cs.length := by omega
      have hi1 : ¬ ((cs.length : Int) < (cs.length : Int)) := by omega
      have hAe := HA.out
      rw [List.take_length] at hAe
      have HAe := hidd hAe
      obtain ⟨r0, r1⟩ := sumR_w HBY.out
      have cr := hidd (fun W h => refSum_any Ao (allBytes cs) co (by rw [HBL.out]; omega) HBY.out W h)
      have cS := hidd (fun W h => Sum_any A k cs (by have := HH20.out; omega) (fun c hc => by have := HALL.out c hc; omega) HBY.out W h)
      have c1 := hidd (fun b W h1 h2 h3 => sum1_any b Ao (allBytes cs) co (by rw [HBL.out]; omega) HBY.out W h1 h2 h3)
      have cA := hidd (fun W h => AdderSum_any b (feedAll st0 (allBytes cs)) (feedAll_ok st0_ok HBY.out) W h)
      have cR := hidd (fun W h => Right_any Ao (allBytes cs) co (by rw [HBL.out]; omega) HBY.out W h)
      rw [fin_sum _ HBY.out] at cA
      rw [HBL.out] at cr c1 cR
      have KL := hidd (fun W (h : OwnL byV 1 W w.heap.size 5 (.slice Ao bl co) (allBytes cs)) => show Lie byV 1 W W.heap.size Ao (allBytes cs) by
        obtain ⟨A', c', e, _, _, hl⟩ := OwnL.lie h byV_len
        cases e
        exact hl)
      have KP := hidd (fun W (h : Below w.heap.size w W) => show Parts W (· < W.heap.size) A cs from HP.out.to (fun j hj => ⟨by have := h.size; omega, h.block j hj⟩))
      have hrw : IntKind.i64.wrap (sumR (allBytes cs)) = sumR (allBytes cs) := IntWalk.i64_in _ (by omega)
      have hHC := HC.out
      clear hAe HA HC hi1 h1 v1
      generalize sumR (allBytes cs) = r at *
      go_wp2_with fail
      refine (cr.out _ (KL.out _ HO.out)).mono ?_
      rintro e w3 ⟨rfl, rfl⟩
      go_wp2_with fail
      refine (cS.out _ (KP.out _ HB.out)).mono ?_
      rintro e w3 ⟨rfl, hb3⟩
      have HA3 := hidd (HAe.out.below hb3)
      have HO3 := hidd (HO.out.below hb3)
      have HB3 := hidd (below_step HB.out hb3)
      have hC3 := hHC.below hb3
      clear hb3 HAe HO HB hHC
      go_wp2_with fail
      refine (c1.out _ _ (by simp [go_sem]) (by simp) (((KL.out _ HO3.out).keep (below_new (Below.refl _ _) _)).q (fun k hk => by simp; omega))).mono ?_
      rintro e w4 ⟨rfl, hb4⟩
      have hb4' := below_step (below_new (Below.refl w3.heap.size w3) _) hb4
      have HA4 := hidd (HA3.out.below hb4')
      have HO4 := hidd (HO3.out.below hb4')
      have HB4 := hidd (below_step HB3.out hb4')
      have hC4 := hC3.below hb4'
      clear hb4 hb4' HA3 HO3 HB3 hC3
      go_wp2_with fail
      refine (cA.out _ HA4.out).mono ?_
      rintro e w5 ⟨rfl, hd5⟩
      have hb5 := drewN_below hd5
      have HA5 := hidd (HA4.out.below hb5)
      have HO5 := hidd (HO4.out.below hb5)
      have HB5 := hidd (below_step HB4.out hb5)
      have hC5 := hC4.below hb5
      clear hb5 hd5 HA4 HO4 HB4 hC4
      go_wp2_with fail
      refine (cR.out _ (KL.out _ HO5.out)).mono ?_
      rintro e w6 ⟨rfl, hb6⟩
      have HA6 := hidd (HA5.out.below hb6)
      have HB6 := hidd (below_step HB5.out hb6)
      have hC6 := hC5.below hb6
      clear hb6 HA5 HO5 HB5 hC5
      rcases hC6 with rfl | ⟨bc, j, rfl, rfl, hne, hlo, hAc⟩
      · clear HA6
        go_wp2_with fail
        refine (ck.out _).mono ?_
        rintro e w7 ⟨rfl, hb7⟩
        have HB7 := hidd (below_step HB6.out hb7)
        clear hb7
        go_wp2_with fail
        go_ret
        exact ⟨rfl, HB7.out⟩
      · have HAc := hidd hAc
        have HNE := hidd hne
        have HLO := hidd hlo
        obtain ⟨q0, q1⟩ := sumR_w (take_bytes HBY.out j)
        have cC := hidd (fun W h => AdderSum_any bc (feedAll st0 (allBytes (cs.take j))) (feedAll_ok st0_ok (take_bytes HBY.out j)) W h)
        rw [fin_sum _ (take_bytes HBY.out j)] at cC
        have cW := hidd (fun B W hA (h1 : W.cell? ⟨B, 0, none⟩ = some (.int .u8 7)) (h2 : B < W.heap.size) (h3 : B ≠ bc) => Write_any bc (feedAll st0 (allBytes (cs.take j))) (feedAll_ok st0_ok (take_bytes HBY.out j)) (some ⟨B, 0, none⟩) [7] 1 (by simp) (by intro x hx; simp at hx; omega) W hA (fun _ => ⟨_, rfl, ⟨h2, h3⟩, fun i x hx jj u hu => by
          match i, hx with
          | 0, hx =>
            simp at hx; subst hx
            match jj, hu with
            | 0, hu => simp [byV] at hu; subst hu; simpa [Addr.add] using h1⟩))
        have hrq : IntKind.i64.wrap (sumR (allBytes (cs.take j))) = sumR (allBytes (cs.take j)) := IntWalk.i64_in _ (by omega)
        clear hAc hne hlo
        generalize sumR (allBytes (cs.take j)) = q at *
        go_wp2_with fail
        refine (cC.out _ HAc.out).mono ?_
        rintro e w7 ⟨rfl, hd7⟩
        have hb7 := drewN_below hd7
        have HA7 := hidd (HA6.out.below hb7)
        have HAc7 := hidd (HAc.out.below hb7)
        have HB7 := hidd (below_step HB6.out hb7)
        clear hb7 hd7 HA6 HAc HB6
        go_wp2_with fail
        refine (cW.out _ _ (HAc7.out.below (below_new (Below.refl _ _) _)) (by simp [go_sem]) (by simp) (by have := HAc7.out.lt; omega)).mono ?_
        rintro e w8 ⟨rfl, _, hB8⟩
        have HA8 := hidd ((HA7.out.below (below_new (Below.refl _ _) (.cells #[.int .u8 7] 5))).but hB8 (fun e => HNE.out e.symm))
        have HB8 := hidd (but_below (below_new HB7.out (.cells #[.int .u8 7] 5)) hB8 HLO.out)
        clear hB8 HA7 HB7 HAc7
        go_wp2_with fail
        refine (cA.out _ HA8.out).mono ?_
        rintro e w9 ⟨rfl, hd9⟩
        have HB9 := hidd (below_step HB8.out (drewN_below hd9))
        clear hd9 HA8 HB8
        go_wp2_with fail
        refine (ck.out _).mono ?_
        rintro e w10 ⟨rfl, hb10⟩
        have HB10 := hidd (below_step HB9.out hb10)
        clear hb10
        go_wp2_with fail
        go_ret
        exact ⟨rfl, HB10.out⟩
end Go.Proofs.Ytmpiobpgjlceaaa
