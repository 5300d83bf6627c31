/- Sums and differences of numbers by their digits. -/
import Derived.Test.YtgeankdimknmiaaBgA
namespace Go.Proofs.Ytgeankdimknmiaa
set_option linter.unusedVariables false
open Go.RowKit

/-- a list of digits that the call owns, trimmed: the digits of its value. -/
theorem trim_end {A : Option Addr} {L : List Nat} {c : Nat} {w w' : World} {x : Nat} (hc : L.length ≤ c) (hx : c ≤ maxLen) (hd : BM.Dig L) (hv : BM.valD L = x) (hf : ∀ ad, A = some ad → w.heap.size ≤ ad.block) (hl : Lie dV 1 w' w'.heap.size A L) (hb : Below w.heap.size w w') :
    ∃ A' c', Ending.returned (.slice A (BM.trimL L).length c) = .returned (.slice A' (BM.digs x).length c') ∧ (BM.digs x).length ≤ c' ∧ c' ≤ maxLen ∧ (∀ ad, A' = some ad → w.heap.size ≤ ad.block) ∧ Lie dV 1 w' w'.heap.size A' (BM.digs x) ∧ Below w.heap.size w w' := by
  have e : BM.trimL L = BM.digs x := by rw [BM.trimL_digs hd, hv]
  obtain ⟨k, hk, hp⟩ := BM.trimL_prefix L
  have h1 : (BM.digs x).length ≤ L.length := by rw [← e, hp]; simp; omega
  refine ⟨A, c, by rw [e], by omega, hx, hf, ?_, hb⟩
  rw [← e, hp]
  exact hl.take k
set_option maxRecDepth 100000 in
set_option maxHeartbeats 4000000 in
theorem add_big (x y : Nat) (hx : x < 65536 ^ 16) (hy : y < 65536 ^ 16) (A B : Option Addr) (c d n m : Nat) (hn : (BM.digs x).length = n) (hm : (BM.digs y).length = m) (w : World) (hA : Lie dV 1 w w.heap.size A (BM.digs x)) (hB : Lie dV 1 w w.heap.size B (BM.digs y)) :
    Calls Try.prog 62 #[.slice A n c, .slice B m d] w (BigEnd (x + y) w) := by
  obtain ⟨i0, hi0, hz0, hz1, hz2⟩ := info_parts digInfo
  have HN := hidd hn
  have HM := hidd hm
  have HA := hidd hA
  have HB := hidd hB
  have n16 : n ≤ 16 := by rw [← hn]; exact BM.len_le hx
  have m16 : m ≤ 16 := by rw [← hm]; exact BM.len_le hy
  have ct := hidd (fun A L c n hn hc hx W hl => trim_any A L c n hn hc hx W hl)
  clear hA hB hn hm hx hy
  go_enter Try.func62, Try.ntmps62
  go_wp2_with fail
  go_loopg [5, 6, 7] 20 (fun g s5 s6 s7 wr => ∃ (L : List Nat) (cy : Nat), L.length + g = 20 ∧ L.length ≤ 17 ∧ (L.length = 17 → cy = 0) ∧ s6 = .int .u32 cy ∧ s7 = .int .i64 (L.length : Int) ∧ cy ≤ 1 ∧ BM.Dig L ∧ BM.valD L + cy * 65536 ^ L.length = BM.valD ((BM.digs x).take L.length) + BM.valD ((BM.digs y).take L.length) ∧ OwnL dV 1 wr w.heap.size 99 s5 L ∧ Below w.heap.size w wr)
  case atStart => exact ⟨[], 0, by simp, by simp, by simp, rfl, rfl, by omega, BM.Dig.nil, by simp [BM.valD], OwnL.nil _ _ _, Below.refl _ _⟩
  case round =>
    obtain ⟨L, cy, hg, h17, hcy0, rfl, rfl, hcy, hdg, hv, hO, hBl⟩ := hrel
    have HV := hidd hv
    have HO := hidd hO
    have HBl := hidd hBl
    have HDG := hidd hdg
    clear hv hO hBl hdg
    obtain ⟨A', c', rfl, hc0, hc1, hlie⟩ := HO.out.lie dV_len
    have HLie := hidd hlie
    clear hlie
    have HST := hidd (BM.add_step (a := BM.digs x) (b := BM.digs y) (L := L) (i := L.length) (c := cy) rfl HV.out)
    have HDX := hidd (BM.D_lt (BM.dig_digs x) L.length)
    have HDY := hidd (BM.D_lt (BM.dig_digs y) L.length)
    have HOX := hidd (BM.D_out (l := BM.digs x) (i := L.length))
    have HOY := hidd (BM.D_out (l := BM.digs y) (i := L.length))
    rw [HN.out] at HOX
    rw [HM.out] at HOY
    have tail : ∀ (wa : World) (v1 : Value) (q r : Nat), q = (cy + BM.D (BM.digs x) L.length + BM.D (BM.digs y) L.length) % 65536 → r = (cy + BM.D (BM.digs x) L.length + BM.D (BM.digs y) L.length) / 65536 → L.length ≤ 16 →
        wa.ownsRow w.heap.size 99 1 v1 (L.length + 1) (rowOf dV L ++ [.int .u32 q]) → Below w.heap.size w wa → ∃ (L' : List Nat) (cy' : Nat), L'.length + (gk - 1) = 20 ∧ L'.length ≤ 17 ∧ (L'.length = 17 → cy' = 0) ∧ Value.int .u32 (r : Int) = .int .u32 (cy' : Int) ∧ Value.int .i64 ((L.length : Int) + 1) = .int .i64 (L'.length : Int) ∧ cy' ≤ 1 ∧ BM.Dig L' ∧ BM.valD L' + cy' * 65536 ^ L'.length = BM.valD ((BM.digs x).take L'.length) + BM.valD ((BM.digs y).take L'.length) ∧ OwnL dV 1 wa w.heap.size 99 v1 L' ∧ Below w.heap.size w wa := by
      intro wa v1 q r hq hr hl16 hown hb
      have h1 := HST.out
      have h2 := HDX.out
      have h3 := HDY.out
      rw [← hq, ← hr] at h1
      refine ⟨L ++ [q], r, by simp; omega, by simp; omega, fun h => ?_, rfl, by simp, by omega, HDG.out.snoc (by omega), ?_, OwnL.snoc (f := dV) (L := L) (x := q) hown rfl rfl, hb⟩
      · have hL : L.length = 16 := by simpa using h
        have e1 := HOX.out (by omega)
        have e2 := HOY.out (by omega)
        rw [e1, e2] at hr
        omega
      · have e : (L ++ [q]).length = L.length + 1 := by simp
        rw [e]; exact h1
    have TAIL := hidd tail
    clear tail
    by_cases hlx : L.length < n
    · obtain ⟨ad, rfl, hb, x0⟩ := (HA.out.below HBl.out).digit L.length (by rw [HN.out]; omega)
      have hlx' : (L.length : Int) < (n : Int) := by omega
      by_cases hly : L.length < m
      · obtain ⟨bd, rfl, hb', y0⟩ := (HB.out.below HBl.out).digit L.length (by rw [HM.out]; omega)
        have hly' : (L.length : Int) < (m : Int) := by omega
        have ha := HDX.out
        have hb2 := HDY.out
        clear HDX HDY HST HOX HOY
        generalize BM.D (BM.digs x) L.length = a at *
        generalize BM.D (BM.digs y) L.length = b at *
        obtain ⟨q, hq⟩ : ∃ q : Nat, (cy + a + b) % 65536 = q := ⟨_, rfl⟩
        obtain ⟨r, hr⟩ : ∃ r : Nat, (cy + a + b) / 65536 = r := ⟨_, rfl⟩
        have hqi : ((cy : Int) + (a : Int) + (b : Int)) % 65536 = (q : Int) := by omega
        have hri : ((cy : Int) + (a : Int) + (b : Int)) / 65536 = (r : Int) := by omega
        have HQ := hidd hq
        have HR := hidd hr
        clear hq hr
        go_wp2_with (at_builtin; refine wpList_append_some (by rfl) (.tmp 44) (.tmp 47) _ (by rfl) w.heap.size 99 i0 _ 1 4 Try.underlying76 hi0 hz0 hz1 hz2 rfl (by omega) (.slice A' L.length c') L.length (rowOf dV L) (by rfl) (World.ownsRow.alloc HO.out _) (some ⟨_, 0, none⟩) 1 1 [.int .u32 q] (by rfl) (by rfl) (fun _ => ⟨_, rfl, World.news_of_block (cs := #[.int .u32 q]) (t := 99) (fr := (0, 0)) (heap_alloc_new _ _)⟩) (by simp [Value.oneCell']) (by simp only [maxLen]; omega) (by omega) (by have := HBl.out.size; simp; omega) ?_; intro v1 wa hown1 hgrow1 hat1)
        have hbw := Below.grown (below_new HBl.out _) hgrow1 (by have := HBl.out.size; simp; omega) (fun k hk => (OwnL.lt HO.out k hk).1)
        go_roundg (gk - 1)
        case measure => omega
        case rel => (try rw [hri]); exact TAIL.out wa v1 q r (by have := HQ.out; omega) (by have := HR.out; omega) (by omega) hown1 hbw
      · have hly' : ¬ (L.length : Int) < (m : Int) := by omega
        have e2 := HOY.out (by omega)
        rw [e2] at HST HDY TAIL
        have ha := HDX.out
        have hb2 := HDY.out
        clear HDX HDY HST HOX HOY
        generalize BM.D (BM.digs x) L.length = a at *
        clear e2
        obtain ⟨q, hq⟩ : ∃ q : Nat, (cy + a) % 65536 = q := ⟨_, rfl⟩
        obtain ⟨r, hr⟩ : ∃ r : Nat, (cy + a) / 65536 = r := ⟨_, rfl⟩
        have hqi : ((cy : Int) + (a : Int)) % 65536 = (q : Int) := by omega
        have hri : ((cy : Int) + (a : Int)) / 65536 = (r : Int) := by omega
        have HQ := hidd hq
        have HR := hidd hr
        clear hq hr
        go_wp2_with (at_builtin; refine wpList_append_some (by rfl) (.tmp 44) (.tmp 47) _ (by rfl) w.heap.size 99 i0 _ 1 4 Try.underlying76 hi0 hz0 hz1 hz2 rfl (by omega) (.slice A' L.length c') L.length (rowOf dV L) (by rfl) (World.ownsRow.alloc HO.out _) (some ⟨_, 0, none⟩) 1 1 [.int .u32 q] (by rfl) (by rfl) (fun _ => ⟨_, rfl, World.news_of_block (cs := #[.int .u32 q]) (t := 99) (fr := (0, 0)) (heap_alloc_new _ _)⟩) (by simp [Value.oneCell']) (by simp only [maxLen]; omega) (by omega) (by have := HBl.out.size; simp; omega) ?_; intro v1 wa hown1 hgrow1 hat1)
        have hbw := Below.grown (below_new HBl.out _) hgrow1 (by have := HBl.out.size; simp; omega) (fun k hk => (OwnL.lt HO.out k hk).1)
        go_roundg (gk - 1)
        case measure => omega
        case rel => (try rw [hri]); exact TAIL.out wa v1 q r (by have := HQ.out; omega) (by have := HR.out; omega) (by omega) hown1 hbw
    · have hlx' : ¬ (L.length : Int) < (n : Int) := by omega
      by_cases hly : L.length < m
      · obtain ⟨bd, rfl, hb', y0⟩ := (HB.out.below HBl.out).digit L.length (by rw [HM.out]; omega)
        have hly' : (L.length : Int) < (m : Int) := by omega
        have e1 := HOX.out (by omega)
        rw [e1] at HST HDX TAIL
        have ha := HDX.out
        have hb2 := HDY.out
        clear HDX HDY HST HOX HOY
        clear e1
        generalize BM.D (BM.digs y) L.length = b at *
        obtain ⟨q, hq⟩ : ∃ q : Nat, (cy + b) % 65536 = q := ⟨_, rfl⟩
        obtain ⟨r, hr⟩ : ∃ r : Nat, (cy + b) / 65536 = r := ⟨_, rfl⟩
        have hqi : ((cy : Int) + (b : Int)) % 65536 = (q : Int) := by omega
        have hri : ((cy : Int) + (b : Int)) / 65536 = (r : Int) := by omega
        have HQ := hidd hq
        have HR := hidd hr
        clear hq hr
        go_wp2_with (at_builtin; refine wpList_append_some (by rfl) (.tmp 44) (.tmp 47) _ (by rfl) w.heap.size 99 i0 _ 1 4 Try.underlying76 hi0 hz0 hz1 hz2 rfl (by omega) (.slice A' L.length c') L.length (rowOf dV L) (by rfl) (World.ownsRow.alloc HO.out _) (some ⟨_, 0, none⟩) 1 1 [.int .u32 q] (by rfl) (by rfl) (fun _ => ⟨_, rfl, World.news_of_block (cs := #[.int .u32 q]) (t := 99) (fr := (0, 0)) (heap_alloc_new _ _)⟩) (by simp [Value.oneCell']) (by simp only [maxLen]; omega) (by omega) (by have := HBl.out.size; simp; omega) ?_; intro v1 wa hown1 hgrow1 hat1)
        have hbw := Below.grown (below_new HBl.out _) hgrow1 (by have := HBl.out.size; simp; omega) (fun k hk => (OwnL.lt HO.out k hk).1)
        go_roundg (gk - 1)
        case measure => omega
        case rel => (try rw [hri]); exact TAIL.out wa v1 q r (by have := HQ.out; omega) (by have := HR.out; omega) (by omega) hown1 hbw
      · have hly' : ¬ (L.length : Int) < (m : Int) := by omega
        by_cases hc : cy = 0
        · subst hc
          have e : BM.valD L = x + y := by
            have := HV.out
            rw [List.take_of_length_le (by rw [HN.out]; omega), List.take_of_length_le (by rw [HM.out]; omega), BM.valD_digs, BM.valD_digs] at this
            omega
          have HE := hidd e
          have cta := hidd (ct.out A' L c' _ rfl hc0 hc1 wr HLie.out)
          clear e
          go_wp2_with fail
          refine cta.out.mono ?_
          rintro e w' ⟨rfl, rfl⟩
          go_wp2_with fail
          go_ret
          exact trim_end hc0 hc1 HDG.out HE.out HO.out.from_ HLie.out HBl.out
        · have hcp : (0 : Int) < (cy : Int) := by omega
          have e1 := HOX.out (by omega)
          rw [e1] at HST HDX TAIL
          have e2 := HOY.out (by omega)
          rw [e2] at HST HDY TAIL
          have ha := HDX.out
          have hb2 := HDY.out
          clear HDX HDY HST HOX HOY
          clear e1
          clear e2
          obtain ⟨q, hq⟩ : ∃ q : Nat, (cy) % 65536 = q := ⟨_, rfl⟩
          obtain ⟨r, hr⟩ : ∃ r : Nat, (cy) / 65536 = r := ⟨_, rfl⟩
          have hqi : ((cy : Int)) % 65536 = (q : Int) := by omega
          have hri : ((cy : Int)) / 65536 = (r : Int) := by omega
          have HQ := hidd hq
          have HR := hidd hr
          clear hq hr
          go_wp2_with (at_builtin; refine wpList_append_some (by rfl) (.tmp 44) (.tmp 47) _ (by rfl) w.heap.size 99 i0 _ 1 4 Try.underlying76 hi0 hz0 hz1 hz2 rfl (by omega) (.slice A' L.length c') L.length (rowOf dV L) (by rfl) (World.ownsRow.alloc HO.out _) (some ⟨_, 0, none⟩) 1 1 [.int .u32 q] (by rfl) (by rfl) (fun _ => ⟨_, rfl, World.news_of_block (cs := #[.int .u32 q]) (t := 99) (fr := (0, 0)) (heap_alloc_new _ _)⟩) (by simp [Value.oneCell']) (by simp only [maxLen]; omega) (by omega) (by have := HBl.out.size; simp; omega) ?_; intro v1 wa hown1 hgrow1 hat1)
          have hbw := Below.grown (below_new HBl.out _) hgrow1 (by have := HBl.out.size; simp; omega) (fun k hk => (OwnL.lt HO.out k hk).1)
          go_roundg (gk - 1)
          case measure => omega
          case rel => (try rw [hri]); exact TAIL.out wa v1 q r (by have := HQ.out; omega) (by have := HR.out; omega) (by omega) hown1 hbw
end Go.Proofs.Ytgeankdimknmiaa
