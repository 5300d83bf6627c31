/- Digits: without noughts at the end; a number's; which is less. -/
import Derived.Test.YtgeankdimknmiaaBgK
namespace Go.Proofs.Ytgeankdimknmiaa
set_option linter.unusedVariables false
open Go.RowKit

set_option maxRecDepth 100000 in
set_option maxHeartbeats 1000000 in
theorem trim_any (A : Option Addr) (L : List Nat) (c n : Nat) (hn : L.length = n) (hc : n ≤ c) (hx : c ≤ maxLen) (w : World) (hl : Lie dV 1 w w.heap.size A L) :
    Calls Try.prog 42 #[.slice A n c] w fun e w' => e = .returned (.slice A (BM.trimL L).length c) ∧ w' = w := by
  unfold maxLen at hx
  have HN := hidd hn
  have HL := hidd hl
  clear hn hl
  go_enter Try.func42, Try.ntmps42
  go_wp2_with fail
  go_loopg [0] (n + 1) (fun g s0 wr => ∃ k : Nat, k ≤ n ∧ k < g ∧ s0 = .slice A k c ∧ BM.trimL (L.take k) = BM.trimL L ∧ wr = w)
  case atStart => exact ⟨n, Nat.le_refl _, by omega, rfl, by rw [List.take_of_length_le (by rw [HN.out]; omega)], rfl⟩
  case round =>
    obtain ⟨k, hk, hg, rfl, ht, rfl⟩ := hrel
    have HT := hidd ht
    clear ht
    cases k with
    | zero =>
      go_wp2_with fail
      go_ret
      have : BM.trimL L = [] := by rw [← HT.out]; rfl
      exact ⟨by rw [this]; rfl, rfl⟩
    | succ j =>
      obtain ⟨ad, rfl, hb, x0⟩ := HL.out.digit j (by rw [HN.out]; omega)
      have HS := hidd (BM.take_snoc (l := L) (i := j) (by rw [HN.out]; omega))
      have hj1 : IntKind.i64.wrap (((j + 1 : Nat) : Int) - 1) = (j : Int) := by rw [IntWalk.i64_in _ (by omega)]; omega
      have hj2 : ((j + 1 : Nat) : Int) - 1 = (j : Int) := by omega
      have hj3 : (0 : Int) < ((j + 1 : Nat) : Int) := by omega
      by_cases hz : BM.D L j = 0
      · rw [hz] at x0
        have HZ := hidd hz
        clear hz
        go_wp2_with fail
        go_roundg (j + 1)
        case measure => omega
        case rel =>
          refine ⟨j, by omega, by omega, by simp, ?_, rfl⟩
          rw [← HT.out, HS.out, HZ.out, BM.trimL_zero]
      · have HZ := hidd hz
        have hz2 : (((BM.D L j : Nat) : Int) == 0) = false := beq_eq_false_iff_ne.2 (by omega)
        have hlen : (BM.trimL L).length = j + 1 := by
          rw [← HT.out, HS.out, BM.trimL_pos HZ.out]
          have := HN.out
          simp; omega
        have HLE := hidd hlen
        generalize BM.D L j = q at *
        clear hlen hz
        go_wp2_with fail
        go_ret
        exact ⟨(by rw [HLE.out]; try rfl), rfl⟩
theorem digs_len8 {x : Nat} (h : x < 65536 ^ 16) : (BM.digs x).length ≤ 16 := BM.len_le h
set_option maxRecDepth 100000 in
set_option maxHeartbeats 2000000 in
theorem of_any (n : Nat) (hn : n < 18446744073709551616) (w : World) : Calls Try.prog 25 #[.int .u64 n] w (BigEnd n w) := by
  obtain ⟨i0, hi0, hz0, hz1, hz2⟩ := info_parts digInfo
  have HLen := hidd (BM.len_le (x := n) (k := 4) (by omega))
  go_enter Try.func25, Try.ntmps25
  go_wp2_with fail
  go_loopg [0, 3] (n + 1) (fun g s0 s3 wr => ∃ (m : Nat) (L : List Nat), m < g ∧ m ≤ n ∧ s0 = .int .u64 m ∧ BM.digs n = L ++ BM.digs m ∧ OwnL dV 1 wr w.heap.size 99 s3 L ∧ Below w.heap.size w wr)
  case atStart => exact ⟨n, [], by omega, Nat.le_refl _, rfl, rfl, OwnL.nil _ _ _, Below.refl _ _⟩
  case round =>
    obtain ⟨m, L, hg, hm, rfl, hd, hO, hB⟩ := hrel
    have HD := hidd hd
    have HO := hidd hO
    have HB := hidd hB
    clear hd hO hB
    obtain ⟨A, c, rfl, hc0, hc1, hlie⟩ := HO.out.lie dV_len
    have HLie := hidd hlie
    have hL4 : L.length ≤ 4 := by have := HLen.out; rw [HD.out] at this; simp at this; omega
    clear hlie
    by_cases h0 : m = 0
    · subst h0
      go_wp2_with fail
      go_ret
      have e : BM.digs n = L := by rw [HD.out, BM.digs_zero, List.append_nil]
      exact ⟨A, c, (by rw [e]; try rfl), by rw [e]; exact hc0, hc1, HO.out.from_, by rw [e]; exact HLie.out, HB.out⟩
    · have hpos : (0 : Int) < (m : Int) := by omega
      obtain ⟨q, hq⟩ : ∃ q : Nat, m % 65536 = q := ⟨_, rfl⟩
      obtain ⟨r, hr⟩ : ∃ r : Nat, m / 65536 = r := ⟨_, rfl⟩
      have hqi : (m : Int) % 65536 = (q : Int) := by omega
      have hri : (m : Int) / 65536 = (r : Int) := by omega
      have hqw : IntKind.u32.wrap (q : Int) = (q : Int) := by rw [IntKind.wrap_u32]; omega
      have HNX := hidd (BM.of_step (n := m) (by omega) L HD.out)
      rw [hq, hr] at HNX
      have hrm : r < m := by omega
      clear hq hr h0 HD
      go_wp2_with (at_builtin; refine wpList_append_some (by rfl) (.tmp 6) (.tmp 10) _ (by rfl) w.heap.size 99 i0 _ 1 4 Try.underlying76 hi0 hz0 hz1 hz2 rfl (by omega) (.slice A L.length c) L.length (rowOf dV L) (by rfl) (World.ownsRow.alloc HO.out _) (some ⟨_, 0, none⟩) 1 1 [.int .u32 q] (by rfl) (by rfl) (fun _ => ⟨_, rfl, World.news_of_block (cs := #[.int .u32 q]) (t := 99) (fr := (0, 0)) (heap_alloc_new _ _)⟩) (by simp [Value.oneCell']) (by simp only [maxLen]; omega) (by omega) (by have := HB.out.size; simp; omega) ?_; intro v1 wa hown1 hgrow1 hat1)
      go_roundg (r + 1)
      case measure => omega
      case rel =>
        refine ⟨r, L ++ [q], by omega, by omega, rfl, HNX.out, OwnL.snoc (f := dV) (L := L) (x := q) hown1 rfl rfl, ?_⟩
        exact Below.grown (below_new HB.out _) hgrow1 (by have := HB.out.size; simp; omega) (fun k hk => (OwnL.lt HO.out k hk).1)
set_option maxRecDepth 100000 in
set_option maxHeartbeats 2000000 in
theorem less_big (x y : Nat) (hx : x < 65536 ^ 16) (hy : y < 65536 ^ 16) (A B : Option Addr) (c d n m : Nat) (hn : (BM.digs x).length = n) (hm : (BM.digs y).length = m) (w : World) (hA : Lie dV 1 w w.heap.size A (BM.digs x)) (hB : Lie dV 1 w w.heap.size B (BM.digs y)) :
    Calls Try.prog 28 #[.slice A n c, .slice B m d] w fun e w' => e = .returned (.bool (decide (x < y))) ∧ ∃ q, w' = w.drewN q := by
  have HN := hidd hn
  have HM := hidd hm
  have HA := hidd hA
  have HB := hidd hB
  have n16 : n ≤ 16 := by rw [← hn]; exact BM.len_le hx
  have m16 : m ≤ 16 := by rw [← hm]; exact BM.len_le hy
  have hxy : x < y ↔ decide (x < y) = true := by simp
  have HXY := hidd hxy
  generalize decide (x < y) = R at *
  clear hA hB hn hm hxy hx hy
  by_cases hnm : n = m
  · subst hnm
    go_enter Try.func28, Try.ntmps28
    go_wp2_with fail
    go_loopg [5] (n + 1) (fun g s5 wr => ∃ (k q : Nat), k ≤ n ∧ k < g ∧ s5 = .int .i64 ((k : Int) - 1) ∧ (BM.digs x).drop k = (BM.digs y).drop k ∧ wr = w.drewN q)
    case atStart => exact ⟨n, 0, Nat.le_refl _, by omega, by first | rfl | simp, by rw [List.drop_eq_nil_of_le (by rw [HN.out]; omega), List.drop_eq_nil_of_le (by rw [HM.out]; omega)], rfl⟩
    case round =>
      obtain ⟨k, q, hk, hg, rfl, hd, rfl⟩ := hrel
      have HD := hidd hd
      clear hd
      cases k with
      | zero =>
        go_wp2_with fail
        go_ret
        have e := BM.digs_inj (show BM.digs x = BM.digs y from HD.out)
        have : R = false := by
          cases R
          · rfl
          · have := HXY.out.2 rfl; omega
        exact ⟨(by rw [this]; try rfl), _, rfl⟩
      | succ j =>
        obtain ⟨ad, rfl, hb, x0⟩ := HA.out.digit j (by rw [HN.out]; omega)
        obtain ⟨bd, rfl, hb', y0⟩ := HB.out.digit j (by rw [HM.out]; omega)
        have hj2 : ((j + 1 : Nat) : Int) - 1 = (j : Int) := by omega
        rw [hj2]
        clear hj2
        have hja : (0 : Int) ≤ (j : Int) := by omega
        have hjb : (j : Int) < (n : Int) := by omega
        have HLT : Hid (BM.D (BM.digs x) j < BM.D (BM.digs y) j → R = true) := hidd fun h => HXY.out.1 (by
          have := BM.val_less (i := j) (BM.dig_digs x) (by rw [HN.out]; omega) (by rw [HN.out, HM.out]) HD.out h
          rwa [BM.valD_digs, BM.valD_digs] at this)
        have HGT : Hid (BM.D (BM.digs y) j < BM.D (BM.digs x) j → R = false) := hidd fun h => by
          have := BM.val_less (i := j) (BM.dig_digs y) (by rw [HM.out]; omega) (by rw [HN.out, HM.out]) HD.out.symm h
          rw [BM.valD_digs, BM.valD_digs] at this
          cases R
          · rfl
          · have := HXY.out.2 rfl; omega
        have HEQ : Hid (BM.D (BM.digs x) j = BM.D (BM.digs y) j → (BM.digs x).drop j = (BM.digs y).drop j) := hidd fun h => by
          have e1 := BM.drop_cons (l := BM.digs x) (i := j) (by rw [HN.out]; omega)
          have e2 := BM.drop_cons (l := BM.digs y) (i := j) (by rw [HM.out]; omega)
          rw [e1, e2, HD.out, h]
        generalize BM.D (BM.digs x) j = a at *
        generalize BM.D (BM.digs y) j = b at *
        rcases Nat.lt_trichotomy a b with h | h | h
        · have hR := HLT.out h
          subst hR
          have hne : ((a : Int) != (b : Int)) = true := by simp; omega
          have hlt : decide ((a : Int) < (b : Int)) = true := decide_eq_true (by omega)
          go_wp2_with fail
          go_quiet (fail)
          go_wp2_with fail
          go_quiet (fail)
          go_wp2_with fail
          go_ret
          exact ⟨rfl, _, by first | rfl | (rw [World.drewN_drewN, World.drewN_drewN]; done) | (rw [World.drewN_drewN]; done)⟩
        · subst h
          have he := HEQ.out rfl
          have HE := hidd he
          clear he
          go_wp2_with fail
          go_quiet (fail)
          go_wp2_with fail
          go_roundg (j + 1)
          case measure => omega
          case rel => exact ⟨j, _, by omega, by omega, rfl, HE.out, by first | rfl | rw [World.drewN_drewN]⟩
        · have hR := HGT.out h
          subst hR
          have hne : ((a : Int) != (b : Int)) = true := by simp; omega
          have hlt : decide ((a : Int) < (b : Int)) = false := decide_eq_false (by omega)
          go_wp2_with fail
          go_quiet (fail)
          go_wp2_with fail
          go_quiet (fail)
          go_wp2_with fail
          go_ret
          exact ⟨ret_bool (decide_eq_false (by omega)), _, by first | rfl | (rw [World.drewN_drewN, World.drewN_drewN]; done) | (rw [World.drewN_drewN]; done)⟩
  · have hne : ((n : Int) != (m : Int)) = true := by simp; omega
    have hR : R = decide (n < m) := by
      by_cases h : n < m
      · rw [decide_eq_true h]
        exact HXY.out.1 (BM.less_len (by rw [HN.out, HM.out]; exact h))
      · rw [decide_eq_false h]
        have : y < x := BM.less_len (by rw [HN.out, HM.out]; omega)
        cases R
        · rfl
        · have := HXY.out.2 rfl; omega
    have HR := hidd hR
    clear hR
    by_cases hlt : n < m
    · have hlt2 : (n : Int) < (m : Int) := by omega
      have hr : R = true := by rw [HR.out]; exact decide_eq_true hlt
      subst hr
      go_enter Try.func28, Try.ntmps28
      go_wp2_with fail
      go_ret
      exact ⟨by simp, 0, rfl⟩
    · have hlt2 : ¬ (n : Int) < (m : Int) := by omega
      have hr : R = false := by rw [HR.out]; exact decide_eq_false hlt
      subst hr
      go_enter Try.func28, Try.ntmps28
      go_wp2_with fail
      go_ret
      exact ⟨by simp, 0, rfl⟩
end Go.Proofs.Ytgeankdimknmiaa
