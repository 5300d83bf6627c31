/- Differences of numbers by their digits. -/
import Derived.Test.YtgeankdimknmiaaBgB
namespace Go.Proofs.Ytgeankdimknmiaa
set_option linter.unusedVariables false
open Go.RowKit

set_option maxRecDepth 100000 in
set_option maxHeartbeats 4000000 in
theorem sub_big (x y : Nat) (hx : x < 65536 ^ 16) (hyx : y ≤ x) (A B : Option Addr) (c d n m : Nat) (hn : (BM.digs x).length = n) (hm : (BM.digs y).length = m) (w : World) (hA : Lie dV 1 w w.heap.size A (BM.digs x)) (hB : Lie dV 1 w w.heap.size B (BM.digs y)) :
    Calls Try.prog 63 #[.slice A n c, .slice B m d] w (BigEnd (x - y) w) := by
  obtain ⟨i0, hi0, hz0, hz1, hz2⟩ := info_parts digInfo
  have HN := hidd hn
  have HM := hidd hm
  have HA := hidd hA
  have HB := hidd hB
  have HYX := hidd hyx
  have n16 : n ≤ 16 := by rw [← hn]; exact BM.len_le hx
  have mn : m ≤ n := by rw [← hn, ← hm]; exact BM.len_mono hyx
  have ct := hidd (fun A L c n hn hc hx W hl => trim_any A L c n hn hc hx W hl)
  clear hA hB hn hm hx hyx
  go_enter Try.func63, Try.ntmps63
  go_wp2_with fail
  go_loopg [5, 6, 7] 20 (fun g s5 s6 s7 wr => ∃ (L : List Nat) (cy : Int) (bw : Nat), L.length + g = 20 ∧ L.length ≤ n ∧ s6 = .int .i64 cy ∧ s7 = .int .i64 (L.length : Int) ∧ (-1 ≤ cy ∧ cy ≤ 0) ∧ (bw : Int) = -cy ∧ BM.Dig L ∧ BM.valD L + BM.valD ((BM.digs y).take L.length) = BM.valD ((BM.digs x).take L.length) + bw * 65536 ^ L.length ∧ OwnL dV 1 wr w.heap.size 99 s5 L ∧ Below w.heap.size w wr)
  case atStart => exact ⟨[], 0, 0, by simp, by simp, rfl, rfl, by omega, rfl, BM.Dig.nil, by simp [BM.valD], OwnL.nil _ _ _, Below.refl _ _⟩
  case round =>
    obtain ⟨L, cy, bw, hg, h17, rfl, rfl, ⟨hc0', hc1'⟩, hbw, hdg, hv, hO, hBl⟩ := hrel
    have HV := hidd hv
    have HO := hidd hO
    have HBl := hidd hBl
    have HDG := hidd hdg
    have HBW := hidd hbw
    clear hv hO hBl hdg hbw
    obtain ⟨A', c', rfl, hc0, hc1, hlie⟩ := HO.out.lie dV_len
    have HLie := hidd hlie
    clear hlie
    have HST := hidd (fun w' d h => BM.sub_step (a := BM.digs x) (b := BM.digs y) (L := L) (i := L.length) (w := bw) (w' := w') (d := d) rfl HV.out h)
    have HDX := hidd (BM.D_lt (BM.dig_digs x) L.length)
    have HDY := hidd (BM.D_lt (BM.dig_digs y) L.length)
    have HOY := hidd (BM.D_out (l := BM.digs y) (i := L.length))
    rw [HM.out] at HOY
    have tail : ∀ (wa : World) (v1 : Value) (q : Nat) (cy' : Int), (q : Int) = cy + BM.D (BM.digs x) L.length - BM.D (BM.digs y) L.length - cy' * 65536 → q < 65536 → (-1 ≤ cy' ∧ cy' ≤ 0) → L.length < n →
        wa.ownsRow w.heap.size 99 1 v1 (L.length + 1) (rowOf dV L ++ [.int .u32 q]) → Below w.heap.size w wa → ∃ (L' : List Nat) (cy'' : Int) (bw' : Nat), L'.length + (gk - 1) = 20 ∧ L'.length ≤ n ∧ Value.int .i64 cy' = .int .i64 cy'' ∧ Value.int .i64 ((L.length : Int) + 1) = .int .i64 (L'.length : Int) ∧ (-1 ≤ cy'' ∧ cy'' ≤ 0) ∧ (bw' : Int) = -cy'' ∧ BM.Dig L' ∧ BM.valD L' + BM.valD ((BM.digs y).take L'.length) = BM.valD ((BM.digs x).take L'.length) + bw' * 65536 ^ L'.length ∧ OwnL dV 1 wa w.heap.size 99 v1 L' ∧ Below w.heap.size w wa := by
      intro wa v1 q cy' hq hq2 hcy hl hown hb
      have hbw := HBW.out
      refine ⟨L ++ [q], cy', (-cy').toNat, by simp; omega, by simp; omega, rfl, by simp, hcy, by omega, HDG.out.snoc hq2, ?_, OwnL.snoc (f := dV) (L := L) (x := q) hown rfl rfl, hb⟩
      have e : (L ++ [q]).length = L.length + 1 := by simp
      rw [e]
      exact HST.out _ _ (by omega)
    have TAIL := hidd tail
    clear tail
    by_cases hlx : L.length < n
    · obtain ⟨ad, rfl, hb, x0⟩ := (HA.out.below HBl.out).digit L.length (by rw [HN.out]; omega)
      have hlx' : (L.length : Int) < (n : Int) := by omega
      by_cases hly : L.length < m
      · obtain ⟨bd, rfl, hb', y0⟩ := (HB.out.below HBl.out).digit L.length (by rw [HM.out]; omega)
        have hly' : (L.length : Int) < (m : Int) := by omega
        have ha := HDX.out
        have hb2 := HDY.out
        clear HDX HDY HST HOY
        generalize BM.D (BM.digs x) L.length = a at *
        generalize BM.D (BM.digs y) L.length = b at *
        by_cases hneg : cy + (a : Int) - (b : Int) < 0
        · obtain ⟨q, hq⟩ : ∃ q : Nat, (q : Int) = cy + (a : Int) - (b : Int) + 65536 := ⟨(cy + (a : Int) - (b : Int) + 65536).toNat, by omega⟩
          have hqw : IntKind.u32.wrap (cy + (a : Int) - (b : Int) + 65536) = (q : Int) := by rw [IntKind.wrap_u32]; omega
          have HQ := hidd hq
          have hq9 : q < 65536 := by omega
          clear hq
          go_wp2_with (at_builtin; refine wpList_append_some (by rfl) (.tmp 38) (.tmp 41) _ (by rfl) w.heap.size 99 i0 _ 1 4 Try.underlying76 hi0 hz0 hz1 hz2 rfl (by omega) (.slice A' L.length c') L.length (rowOf dV L) (by rfl) (World.ownsRow.alloc HO.out _) (some ⟨_, 0, none⟩) 1 1 [.int .u32 q] (by rfl) (by rfl) (fun _ => ⟨_, rfl, World.news_of_block (cs := #[.int .u32 q]) (t := 99) (fr := (0, 0)) (heap_alloc_new _ _)⟩) (by simp [Value.oneCell']) (by simp only [maxLen]; omega) (by omega) (by have := HBl.out.size; simp; omega) ?_; intro v1 wa hown1 hgrow1 hat1)
          have hbw := Below.grown (below_new HBl.out _) hgrow1 (by have := HBl.out.size; simp; omega) (fun k hk => (OwnL.lt HO.out k hk).1)
          go_roundg (gk - 1)
          case measure => omega
          case rel => exact TAIL.out wa v1 q (-1) (by have := HQ.out; omega) hq9 (by omega) hlx hown1 hbw
        · obtain ⟨q, hq⟩ : ∃ q : Nat, (q : Int) = cy + (a : Int) - (b : Int) := ⟨(cy + (a : Int) - (b : Int)).toNat, by omega⟩
          have hqw : IntKind.u32.wrap (cy + (a : Int) - (b : Int)) = (q : Int) := by rw [IntKind.wrap_u32]; omega
          have HQ := hidd hq
          have hq9 : q < 65536 := by omega
          have hdn : decide (cy + (a : Int) - (b : Int) < 0) = false := decide_eq_false hneg
          clear hq
          go_wp2_with (at_builtin; refine wpList_append_some (by rfl) (.tmp 38) (.tmp 41) _ (by rfl) w.heap.size 99 i0 _ 1 4 Try.underlying76 hi0 hz0 hz1 hz2 rfl (by omega) (.slice A' L.length c') L.length (rowOf dV L) (by rfl) (World.ownsRow.alloc HO.out _) (some ⟨_, 0, none⟩) 1 1 [.int .u32 q] (by rfl) (by rfl) (fun _ => ⟨_, rfl, World.news_of_block (cs := #[.int .u32 q]) (t := 99) (fr := (0, 0)) (heap_alloc_new _ _)⟩) (by simp [Value.oneCell']) (by simp only [maxLen]; omega) (by omega) (by have := HBl.out.size; simp; omega) ?_; intro v1 wa hown1 hgrow1 hat1)
          have hbw := Below.grown (below_new HBl.out _) hgrow1 (by have := HBl.out.size; simp; omega) (fun k hk => (OwnL.lt HO.out k hk).1)
          go_roundg (gk - 1)
          case measure => omega
          case rel => exact TAIL.out wa v1 q 0 (by have := HQ.out; omega) hq9 (by omega) hlx hown1 hbw
      · have hly' : ¬ (L.length : Int) < (m : Int) := by omega
        have ha := HDX.out
        have hb2 := HDY.out
        have e2 := HOY.out (by omega)
        rw [e2] at hb2 TAIL
        clear e2
        clear HDX HDY HST HOY
        generalize BM.D (BM.digs x) L.length = a at *
        by_cases hneg : cy + (a : Int) < 0
        · obtain ⟨q, hq⟩ : ∃ q : Nat, (q : Int) = cy + (a : Int) + 65536 := ⟨(cy + (a : Int) + 65536).toNat, by omega⟩
          have hqw : IntKind.u32.wrap (cy + (a : Int) + 65536) = (q : Int) := by rw [IntKind.wrap_u32]; omega
          have HQ := hidd hq
          have hq9 : q < 65536 := by omega
          clear hq
          go_wp2_with (at_builtin; refine wpList_append_some (by rfl) (.tmp 38) (.tmp 41) _ (by rfl) w.heap.size 99 i0 _ 1 4 Try.underlying76 hi0 hz0 hz1 hz2 rfl (by omega) (.slice A' L.length c') L.length (rowOf dV L) (by rfl) (World.ownsRow.alloc HO.out _) (some ⟨_, 0, none⟩) 1 1 [.int .u32 q] (by rfl) (by rfl) (fun _ => ⟨_, rfl, World.news_of_block (cs := #[.int .u32 q]) (t := 99) (fr := (0, 0)) (heap_alloc_new _ _)⟩) (by simp [Value.oneCell']) (by simp only [maxLen]; omega) (by omega) (by have := HBl.out.size; simp; omega) ?_; intro v1 wa hown1 hgrow1 hat1)
          have hbw := Below.grown (below_new HBl.out _) hgrow1 (by have := HBl.out.size; simp; omega) (fun k hk => (OwnL.lt HO.out k hk).1)
          go_roundg (gk - 1)
          case measure => omega
          case rel => exact TAIL.out wa v1 q (-1) (by have := HQ.out; omega) hq9 (by omega) hlx hown1 hbw
        · obtain ⟨q, hq⟩ : ∃ q : Nat, (q : Int) = cy + (a : Int) := ⟨(cy + (a : Int)).toNat, by omega⟩
          have hqw : IntKind.u32.wrap (cy + (a : Int)) = (q : Int) := by rw [IntKind.wrap_u32]; omega
          have HQ := hidd hq
          have hq9 : q < 65536 := by omega
          have hdn : decide (cy + (a : Int) < 0) = false := decide_eq_false hneg
          clear hq
          go_wp2_with (at_builtin; refine wpList_append_some (by rfl) (.tmp 38) (.tmp 41) _ (by rfl) w.heap.size 99 i0 _ 1 4 Try.underlying76 hi0 hz0 hz1 hz2 rfl (by omega) (.slice A' L.length c') L.length (rowOf dV L) (by rfl) (World.ownsRow.alloc HO.out _) (some ⟨_, 0, none⟩) 1 1 [.int .u32 q] (by rfl) (by rfl) (fun _ => ⟨_, rfl, World.news_of_block (cs := #[.int .u32 q]) (t := 99) (fr := (0, 0)) (heap_alloc_new _ _)⟩) (by simp [Value.oneCell']) (by simp only [maxLen]; omega) (by omega) (by have := HBl.out.size; simp; omega) ?_; intro v1 wa hown1 hgrow1 hat1)
          have hbw := Below.grown (below_new HBl.out _) hgrow1 (by have := HBl.out.size; simp; omega) (fun k hk => (OwnL.lt HO.out k hk).1)
          go_roundg (gk - 1)
          case measure => omega
          case rel => exact TAIL.out wa v1 q 0 (by have := HQ.out; omega) hq9 (by omega) hlx hown1 hbw
    · have hlx' : ¬ (L.length : Int) < (n : Int) := by omega
      have e : BM.valD L = x - y := by
        have h1 := HV.out
        have h3 := HBW.out
        rw [List.take_of_length_le (l := BM.digs y) (by rw [HM.out]; omega), List.take_of_length_le (l := BM.digs x) (by rw [HN.out]; omega)] at h1
        have := BM.sub_end (a := BM.digs x) (b := BM.digs y) (L := L) (n := L.length) (w := bw) rfl HDG.out h1 (by rw [BM.valD_digs, BM.valD_digs]; exact HYX.out) (by omega)
        rwa [BM.valD_digs, BM.valD_digs] at this
      have HE := hidd e
      have cta := hidd (ct.out A' L c' _ rfl hc0 hc1 wr HLie.out)
      clear e
      go_wp2_with fail
      refine cta.out.mono ?_
      rintro e w' ⟨rfl, rfl⟩
      go_wp2_with fail
      go_ret
      exact trim_end hc0 hc1 HDG.out HE.out HO.out.from_ HLie.out HBl.out
end Go.Proofs.Ytgeankdimknmiaa
