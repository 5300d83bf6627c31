/- The walk of CheckTurned: the sum of bytes whose pairs are turned is the sum, turned; it does not hang on the order of pairs. -/
import Derived.Test.YtmpiobpgjlceaaaCkR
namespace Go.Proofs.Ytmpiobpgjlceaaa
set_option linter.unusedVariables false
open Go.RowKit

theorem drop_pair {M : List Int} {q : Nat} (h : q + 2 ≤ M.length) : tot (M.drop q) = 256 * av M q + av M (q + 1) + tot (M.drop (q + 2)) := by
  have e : M.drop q = av M q :: av M (q + 1) :: M.drop (q + 2) := by
    rw [List.drop_eq_getElem_cons (by omega), List.drop_eq_getElem_cons (show q + 1 < M.length by omega), av_at (by omega), av_at (by omega)]
  rw [e]
  simp only [tot]
theorem take_pair {M : List Int} {i : Nat} (h : i + 2 ≤ M.length) (he : i % 2 = 0) : tot (M.take (i + 2)) = tot (M.take i) + (256 * av M i + av M (i + 1)) := by
  have e : M.take (i + 2) = M.take i ++ [av M i, av M (i + 1)] := by
    rw [show i + 2 = (i + 1) + 1 from rfl, take_oneB (by omega), take_oneB (by omega)]
    simp
  rw [e, tot_app _ _ _ (by rw [List.length_take]; omega)]
/-- what the rounds keep. -/
structure Turns (M T B : List Int) (i : Nat) : Prop where
  even : i % 2 = 0
  le : i ≤ M.length
  lt : T.length = i
  lb : B.length = i
  bt : Bytes T
  bb : Bytes B
  xy : ∃ X Y : Int, 0 ≤ X ∧ 0 ≤ Y ∧ tot (M.take i) = 256 * X + Y ∧ tot T = 256 * Y + X
  tb : tot B = tot (M.drop (M.length - i))
theorem Turns.start (M : List Int) : Turns M [] [] 0 := ⟨rfl, Nat.zero_le _, rfl, rfl, (fun x h => by cases h), (fun x h => by cases h), ⟨0, 0, by omega, by omega, by simp [tot], by simp [tot]⟩, by simp [tot]⟩
theorem bytes_two {T : List Int} {x y : Int} (h : Bytes T) (hx : 0 ≤ x ∧ x ≤ 255) (hy : 0 ≤ y ∧ y ≤ 255) : Bytes (T ++ [x, y]) := fun z hz => by
  simp only [List.mem_append, List.mem_cons, List.not_mem_nil, or_false] at hz
  rcases hz with h1 | rfl | rfl
  · exact h z h1
  · exact hx
  · exact hy
theorem Turns.next {M T B : List Int} {i q : Nat} (h : Turns M T B i) (hM : Bytes M) (hi : i + 2 ≤ M.length) (hq : q + 2 + i = M.length) : Turns M (T ++ [av M (i + 1), av M i]) (B ++ [av M q, av M (q + 1)]) (i + 2) := by
  obtain ⟨X, Y, hX, hY, h1, h2⟩ := h.xy
  have m0 := hM _ (av_mem (show i < M.length by omega))
  have m1 := hM _ (av_mem (show i + 1 < M.length by omega))
  have n0 := hM _ (av_mem (show q < M.length by omega))
  have n1 := hM _ (av_mem (show q + 1 < M.length by omega))
  have he := h.even
  refine ⟨by omega, hi, by simp [h.lt], by simp [h.lb], bytes_two h.bt m1 m0, bytes_two h.bb n0 n1, ⟨X + av M i, Y + av M (i + 1), by omega, by omega, ?_, ?_⟩, ?_⟩
  · rw [take_pair hi he]; omega
  · rw [tot_app _ _ _ (by rw [h.lt]; exact he), h2]; omega
  · rw [tot_app _ _ _ (by rw [h.lb]; exact he), h.tb, show M.length - i = q + 2 by omega, show M.length - (i + 2) = q by omega, drop_pair (q := q) (by omega)]; omega
theorem Turns.done {M T B : List Int} (h : Turns M T B M.length) (hM : Bytes M) : sumR T = rot (sumR M) ∧ sumR B = sumR M := by
  obtain ⟨X, Y, hX, hY, h1, h2⟩ := h.xy
  rw [List.take_length] at h1
  refine ⟨turned_sum hM h.bt h1 h2 hX hY, same_tot hM h.bb ?_⟩
  rw [h.tb, Nat.sub_self, List.drop_zero]
/-- two rows of the call's own in blocks of their own. -/
def Apart (v u : Value) : Prop := ∀ k, v.ownBlock = some k → u.ownBlock ≠ some k
theorem Apart.row {v u : Value} (h : Apart v u) : v.ownBlock = none ∨ v.ownBlock ≠ u.ownBlock := by
  cases hv : v.ownBlock with
  | none => exact .inl rfl
  | some k => exact .inr (fun e => h k hv (by rw [← e]))
theorem Apart.sym {v u : Value} (h : Apart v u) : Apart u v := fun k h1 h2 => h k h2 h1
theorem Apart.new {v u v' : Value} {n : Nat} (h : Apart v u) (hv : v'.ownBlock = v.ownBlock ∨ v'.ownBlock = some n) (hu : ∀ k, u.ownBlock = some k → k < n) : Apart v' u := fun k h1 h2 => by
  rcases hv with hv | hv
  · rw [hv] at h1; exact h k h1 h2
  · rw [hv] at h1; cases h1; have := hu _ h2; omega
theorem own_two {w : World} {base n : Nat} {e : TypeId} {v : Value} {T : List Int} {x y : Int} {xs : List Value} (h : w.ownsRow base e 1 v n xs) (hn : n = T.length + 2) (hx : xs = rowOf byV T ++ [.int .u8 x, .int .u8 y]) : OwnL byV 1 w base e v (T ++ [x, y]) := by
  subst hn hx
  unfold OwnL
  have e1 : rowOf byV (T ++ [x, y]) = rowOf byV T ++ [.int .u8 x, .int .u8 y] := by simp [rowOf, byV]
  rw [e1, List.length_append]
  exact h
set_option maxHeartbeats 8000000 in
theorem turned_walk (A : Option Addr) (L : List Int) (c : Nat) (hc : L.length ≤ c) (hm : c ≤ maxLen) (hb : Bytes L) (w : World) (hl : Lie byV 1 w w.heap.size A L) :
    Calls Try.prog 8 #[.slice A L.length c] w fun e w' => e = .returned (.bool true) ∧ Below w.heap.size w w' := by
  have ck := hidd (fun W => known_any W)
  by_cases hlen : L.length ≤ 2000
  rotate_left
  · have h1 : (L.length : Int) > 2000 := by omega
    clear hlen hl hb
    go_enter Try.func8, Try.ntmps8
    go_wp2_with fail
    refine (ck.out _).mono ?_
    rintro e w2 ⟨rfl, hb2⟩
    go_wp2_with fail
    go_ret
    exact ⟨rfl, hb2⟩
  · have hml : L.length / 2 * 2 ≤ L.length := by omega
    have hT : (L.take (L.length / 2 * 2)).length = L.length / 2 * 2 := by rw [List.length_take]; omega
    have hbT : Bytes (L.take (L.length / 2 * 2)) := fun x hx => hb x (List.mem_of_mem_take hx)
    have hlT := hl.takeB (L.length / 2 * 2)
    generalize L.take (L.length / 2 * 2) = M at *
    have h1 : ¬ ((L.length : Int) > 2000) := by omega
    have HLM := hidd (show M.length ≤ 2000 by omega)
    have HEV := hidd (show M.length % 2 = 0 by omega)
    have HL := hidd hlT
    have HBT := hidd hbT
    obtain ⟨i0, hi0, hz0, hz1, hz2⟩ := info_parts byteInfo
    clear hlT hl hb hml hlen hbT
    go_enter Try.func8, Try.ntmps8
    go_wp2_with fail
    have HT := hidd hT
    clear hT
    go_loopg [3, 4, 5] (M.length + 2) (fun k s3 s4 s5 wr => ∃ (i : Nat) (T B : List Int), i + k = M.length + 2 ∧ s5 = .int .i64 (i : Int) ∧ Turns M T B i ∧ OwnL byV 1 wr w.heap.size 5 s3 T ∧ OwnL byV 1 wr w.heap.size 5 s4 B ∧ Apart s3 s4 ∧ Below w.heap.size w wr)
    case atStart => exact ⟨0, [], [], by omega, by first | rfl | simp, Turns.start M, OwnL.nil _ _ _, OwnL.nil _ _ _, fun k h => by simp [Value.ownBlock] at h, Below.refl _ _⟩
    case round =>
      obtain ⟨i, T, B, hk, rfl, hT, hO3, hO4, hA, hB⟩ := hrel
      have HK := hidd hk
      have HTT := hidd hT
      have HO3 := hidd hO3
      have HO4 := hidd hO4
      have HA := hidd hA
      have HB := hidd hB
      have hTTl : T.length = i ∧ B.length = i := ⟨hT.lt, hT.lb⟩
      obtain ⟨ev, lei⟩ : i % 2 = 0 ∧ i ≤ M.length := ⟨hT.even, hT.le⟩
      clear hk hT hO3 hO4 hA hB
      have hTo := HT.out
      have hev := HEV.out
      have hlm := HLM.out
      by_cases hi : i < M.length
      · obtain ⟨i1, hi1⟩ : ∃ i1, i + 1 = i1 := ⟨_, rfl⟩
        obtain ⟨q, hq⟩ : ∃ q, q + 2 + i = M.length := ⟨M.length - 2 - i, by omega⟩
        obtain ⟨q1, hq1⟩ : ∃ q1, q + 1 = q1 := ⟨_, rfl⟩
        have HN := hidd (HTT.out.next HBT.out (q := q) (by omega) hq)
        rw [hi1, hq1] at HN
        have HLw := HL.out.keep HB.out
        obtain ⟨ad, rfl, hab, x0⟩ := HLw.byte i hi
        obtain ⟨ad', e1, _, x1⟩ := HLw.byte i1 (by omega)
        cases e1
        obtain ⟨ad', e1, _, y0⟩ := HLw.byte q (by omega)
        cases e1
        obtain ⟨ad', e1, _, y1⟩ := HLw.byte q1 (by omega)
        cases e1
        have hkp : ∀ w', Below w.heap.size wr w' → w'.cell? (ad.add i) = some (.int .u8 (av M i)) ∧ w'.cell? (ad.add i1) = some (.int .u8 (av M i1)) ∧ w'.cell? (ad.add q) = some (.int .u8 (av M q)) ∧ w'.cell? (ad.add q1) = some (.int .u8 (av M q1)) := fun w' hb =>
          ⟨(hb.cell (by rw [block_of_add]; exact hab)).trans x0, (hb.cell (by rw [block_of_add]; exact hab)).trans x1, (hb.cell (by rw [block_of_add]; exact hab)).trans y0, (hb.cell (by rw [block_of_add]; exact hab)).trans y1⟩
        have KEEP := hidd hkp
        clear hkp x0 x1 y0 y1 HLw HTT
        generalize av M i = a0 at *
        generalize av M i1 = a1 at *
        generalize av M q = b0 at *
        generalize av M q1 = b1 at *
        have n1 : (i : Int) < ((L.length / 2 * 2 : Nat) : Int) := by omega
        have n2 : (i1 : Int) < ((L.length / 2 * 2 : Nat) : Int) := by omega
        have n3 : (q : Int) < ((L.length / 2 * 2 : Nat) : Int) := by omega
        have n4 : (q1 : Int) < ((L.length / 2 * 2 : Nat) : Int) := by omega
        generalize L.length / 2 * 2 = m at *
        have v1 : IntKind.i64.wrap ((i : Int) + 1) = (i1 : Int) := by rw [IntWalk.i64_in _ (by omega)]; omega
        have v2 : IntKind.i64.wrap ((i : Int) + 2) = ((i + 2 : Nat) : Int) := by rw [IntWalk.i64_in _ (by omega)]; omega
        have v3 : IntKind.i64.wrap ((m : Int) - 2) = (m : Int) - 2 := IntWalk.i64_in _ (by omega)
        have v4 : IntKind.i64.wrap ((m : Int) - 1) = (m : Int) - 1 := IntWalk.i64_in _ (by omega)
        have v5 : IntKind.i64.wrap ((m : Int) - 2 - (i : Int)) = (q : Int) := by rw [IntWalk.i64_in _ (by omega)]; omega
        have v6 : IntKind.i64.wrap ((m : Int) - 1 - (i : Int)) = (q1 : Int) := by rw [IntWalk.i64_in _ (by omega)]; omega
        have hsz := HB.out.size
        have hO3 := HO3.out
        have hO4 := HO4.out
        have tl3 : T.length ≤ 1000000 := by rw [hTTl.1]; omega
        have tl4 : B.length ≤ 1000000 := by rw [hTTl.2]; omega
        clear hTTl
        go_wp2_with fail
        go_region_held3 (fun w' => w'.cell? (ad.add i) = some (.int .u8 a0) ∧ w'.cell? (ad.add i1) = some (.int .u8 a1) ∧ w'.cell? (ad.add q) = some (.int .u8 b0) ∧ w'.cell? (ad.add q1) = some (.int .u8 b1))
          ((first | exact KEEP.out _ hb1 | exact KEEP.out _ (Below.drew (Below.refl _ _)) | exact KEEP.out _ ((Below.drew (Below.refl _ _)).alloc hsz _) | exact KEEP.out _ (Below.refl _ _)))
          ((first
            | (refine step_append_some (by rfl) (.tmp 23) (.tmp 33) _ (by rfl) w.heap.size 5 i0 _ 1 1 Try.underlying23 hi0 hz0 hz1 hz2 rfl (by omega) _ _ _ (by rfl) (World.ownsRow.alloc (OwnL.drew hO3) _) (some ⟨_, 0, none⟩) 2 2 [.int .u8 a1, .int .u8 a0] (by rfl) (by rfl) (fun _ => ⟨_, rfl, World.news_of_block (cs := #[.int .u8 a1, .int .u8 a0]) (t := 5) (fr := (0, 0)) (heap_alloc_new _ _)⟩) (by simp [Value.oneCell']) (by simp only [maxLen]; omega) (by omega) (by have := HB.out.size; first | omega | (simp; omega)) ?_; intro v1 wa hown1 hgrow1 hat1; have hb0 : Below w.heap.size w wa := Below.grown (below_new (Below.drew HB.out) _) hgrow1 (by have := HB.out.size; first | omega | (simp; omega)) (fun k hk => (OwnL.lt hO3 k hk).1); have hb1 : Below w.heap.size wr wa := Below.grown ((Below.drew (Below.refl w.heap.size wr)).alloc hsz _) hgrow1 (by first | omega | (simp; omega)) (fun k hk => (OwnL.lt hO3 k hk).1))))
        have hO3' : OwnL byV 1 wa w.heap.size 5 v1 (T ++ [a1, a0]) := own_two hown1 rfl rfl
        have hO4' : OwnL byV 1 wa w.heap.size 5 _ B := World.ownsRow.kept (World.ownsRow.alloc (OwnL.drew hO4) _) hgrow1 (HA.out.sym.row)
        have hA1 : Apart v1 _ := HA.out.new hat1 (fun k hk => by have := (OwnL.lt hO4 k hk).2; simp; omega)
        have hbw : Below w.heap.size w wa := hb0
        have hsz2 := hbw.size
        have KEEP2 := hidd (fun w' (h : Below w.heap.size wa w') => KEEP.out w' (hb1.trans h))
        have HBW := hidd hbw
        clear hown1 hgrow1 hat1 hO3 hO4 hb0 hb1 HB hbw HO3 HO4 HA KEEP
        go_wp2_with fail
        go_region_held3 (fun w' => w'.cell? (ad.add i) = some (.int .u8 a0) ∧ w'.cell? (ad.add i1) = some (.int .u8 a1) ∧ w'.cell? (ad.add q) = some (.int .u8 b0) ∧ w'.cell? (ad.add q1) = some (.int .u8 b1))
          ((first | exact KEEP2.out _ hb1 | exact KEEP2.out _ (Below.drew (Below.refl _ _)) | exact KEEP2.out _ ((Below.drew (Below.refl _ _)).alloc hsz2 _) | exact KEEP2.out _ (Below.refl _ _)))
          ((first
            | (refine step_append_some (by rfl) (.tmp 35) (.tmp 52) _ (by rfl) w.heap.size 5 i0 _ 1 1 Try.underlying23 hi0 hz0 hz1 hz2 rfl (by omega) _ _ _ (by rfl) (World.ownsRow.alloc (OwnL.drew hO4') _) (some ⟨_, 0, none⟩) 2 2 [.int .u8 b0, .int .u8 b1] (by rfl) (by rfl) (fun _ => ⟨_, rfl, World.news_of_block (cs := #[.int .u8 b0, .int .u8 b1]) (t := 5) (fr := (0, 0)) (heap_alloc_new _ _)⟩) (by simp [Value.oneCell']) (by simp only [maxLen]; omega) (by omega) (by first | omega | (simp; omega)) ?_; intro v2 wb hown2 hgrow2 hat2; have hb2 : Below w.heap.size w wb := Below.grown (below_new (Below.drew HBW.out) _) hgrow2 (by first | omega | (simp; omega)) (fun k hk => (OwnL.lt hO4' k hk).1); have hb1 : Below w.heap.size wa wb := Below.grown ((Below.drew (Below.refl w.heap.size wa)).alloc hsz2 _) hgrow2 (by first | omega | (simp; omega)) (fun k hk => (OwnL.lt hO4' k hk).1))))
        have hO4'' : OwnL byV 1 wb w.heap.size 5 v2 (B ++ [b0, b1]) := own_two hown2 rfl rfl
        have hO3'' : OwnL byV 1 wb w.heap.size 5 v1 (T ++ [a1, a0]) := World.ownsRow.kept (World.ownsRow.alloc (OwnL.drew hO3') _) hgrow2 hA1.row
        have hA2 : Apart v1 v2 := (hA1.sym.new hat2 (fun k hk => by have := (OwnL.lt hO3' k hk).2; simp; omega)).sym
        clear hown2 hgrow2 hat2 hO3' hO4' hA1 KEEP2 hb1 HBW
        have H3 := hidd hO3''
        have H4 := hidd hO4''
        have H5 := hidd hA2
        have H6 := hidd hb2
        clear hO3'' hO4'' hA2 hb2
        go_wp2_with fail
        have hk := HK.out
        go_roundg (gk - 2)
        case measure => omega
        case rel => exact ⟨i + 2, T ++ [a1, a0], B ++ [b0, b1], by omega, by first | rfl | simp, HN.out, H3.out, H4.out, H5.out, H6.out⟩
      · obtain rfl : i = M.length := by omega
        have hsum := HTT.out.done HBT.out
        have ni : ¬ ((M.length : Int) < ((L.length / 2 * 2 : Nat) : Int)) := by omega
        obtain ⟨A3, c3, rfl, _, _, hl3⟩ := OwnL.lie HO3.out byV_len
        obtain ⟨A4, c4, rfl, _, _, hl4⟩ := OwnL.lie HO4.out byV_len
        have HL3 := hidd hl3
        have HL4 := hidd hl4
        have cm := hidd (fun b W h1 h2 h3 => sum1_any b A M c (by omega) HBT.out W h1 h2 h3)
        have ct := hidd (fun b W h1 h2 h3 => sum1_any b A3 T c3 (by omega) HTT.out.bt W h1 h2 h3)
        have cb := hidd (fun b W h1 h2 h3 => sum1_any b A4 B c4 (by omega) HTT.out.bb W h1 h2 h3)
        rw [hsum.1] at ct
        rw [hsum.2] at cb
        have hw := sumR_w HBT.out
        generalize sumR M = r at *
        obtain ⟨r1, r2⟩ := rot_ops hw
        rw [hTo] at cm
        rw [hTTl.1] at ct
        rw [hTTl.2] at cb
        clear hsum hl3 hl4 HO3 HO4 HA HTT hTo
        generalize L.length / 2 * 2 = m at *
        have hT1 := hidd hTTl.1
        have hT2 := hidd hTTl.2
        clear hTTl hw
        go_wp2_with fail
        refine (cm.out _ _ (by simp [go_sem]) (by simp) (((HL.out.below HB.out).keep (below_new (Below.refl _ _) _)).q (fun k hk => by simp; omega))).mono ?_
        rintro e w1 ⟨rfl, hb1⟩
        have h1 := below_step (below_new (Below.refl wr.heap.size wr) _) hb1
        have HB1 := hidd (HB.out.trans (h1.mono HB.out.size))
        have HL31 := hidd (HL3.out.below h1)
        have HL41 := hidd (HL4.out.below h1)
        clear h1 hb1 HB HL3 HL4
        go_wp2_with fail
        refine (ct.out _ _ (by simp [go_sem, hT1.out]) (by simp) ((HL31.out.keep (below_new (Below.refl _ _) _)).q (fun k hk => by simp; omega))).mono ?_
        rintro e w2 ⟨rfl, hb2⟩
        have h2 := below_step (below_new (Below.refl w1.heap.size w1) _) hb2
        have HB2 := hidd (HB1.out.trans (h2.mono HB1.out.size))
        have HL42 := hidd (HL41.out.below h2)
        clear h2 hb2 HB1 HL31 HL41
        go_wp2_with fail
        refine (cb.out _ _ (by simp [go_sem, hT2.out]) (by simp) ((HL42.out.keep (below_new (Below.refl _ _) _)).q (fun k hk => by simp; omega))).mono ?_
        rintro e w3 ⟨rfl, hb3⟩
        have h3 := below_step (below_new (Below.refl w2.heap.size w2) _) hb3
        have HB3 := hidd (HB2.out.trans (h3.mono HB2.out.size))
        clear h3 hb3 HB2 HL42
        go_wp2_with fail
        refine (ck.out _).mono ?_
        rintro e w4 ⟨rfl, hb4⟩
        have HB4 := hidd (below_step HB3.out hb4)
        clear hb4
        go_wp2_with fail
        go_ret
        exact ⟨rfl, HB4.out⟩
end Go.Proofs.Ytmpiobpgjlceaaa
