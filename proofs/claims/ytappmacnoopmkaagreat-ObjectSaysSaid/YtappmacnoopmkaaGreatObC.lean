/- Objects: numbers are laid behind bytes. -/
import Derived.Test.YtappmacnoopmkaaGreatObB
namespace Go.Proofs.YtappmacnoopmkaaGreat
set_option linter.unusedVariables false
open Go.RowKit

/-- a number's lowest bytes, so many, the higher ones first. -/
def layN (n : Int) : Nat → List Int
  | 0 => []
  | j + 1 => n / 256 ^ j % 256 :: layN n j
def layB (k : Nat) (ns : List Int) : List Int := ns.flatMap fun n => layN n k
theorem layN_len (n : Int) : ∀ k, (layN n k).length = k
  | 0 => rfl
  | k + 1 => by simp [layN, layN_len n k]
theorem layB_len (k : Nat) : ∀ ns : List Int, (layB k ns).length = ns.length * k
  | [] => by simp [layB]
  | n :: ns => by
    have := layB_len k ns
    unfold layB at *
    rw [List.flatMap_cons, List.length_append, layN_len, this, List.length_cons, Nat.add_mul]; omega
theorem layB_take {k : Nat} {ns : List Int} {i : Nat} (h : i < ns.length) : layB k (ns.take (i + 1)) = layB k (ns.take i) ++ layN (av ns i) k := by
  rw [take_oneB h]
  simp [layB]
theorem OwnL.snoc1 {w : World} {base : Nat} {e : TypeId} {v : Value} {L : List Int} {x : Int} (h : w.ownsRow base e 1 v (L.length + 1) (rowOf byV L ++ [.int .u8 x])) : OwnL byV 1 w base e v (L ++ [x]) := OwnL.snoc h rfl rfl
/-- what lay tells. -/
def LaidEnd (base : Nat) (v : Value) (L : List Int) (w : World) (e : Ending) (w' : World) : Prop := ∃ v', e = .returned v' ∧ OwnL byV 1 w' base 5 v' L ∧ Below base w w' ∧ ∀ b, b < w.heap.size → v.ownBlock ≠ some b → v'.ownBlock ≠ some b ∧ w'.heap[b]? = w.heap[b]?
set_option maxRecDepth 100000 in
set_option maxHeartbeats 8000000 in
theorem lay_any (k : Nat) (hk : k = 1 ∨ k = 2 ∨ k = 4) (base : Nat) (v : Value) (L : List Int) (A : Option Addr) (ns : List Int) (c : Nat) (hns : ns.length ≤ 64) (hnn : ∀ n ∈ ns, 0 ≤ n ∧ n ≤ 9223372036854775807) (hL : L.length ≤ 1000000) (w : World)
    (hO : OwnL byV 1 w base 5 v L) (hbase : base ≤ w.heap.size) (hl : LieQ wdV 1 w (fun b => b < w.heap.size ∧ v.ownBlock ≠ some b) A ns) :
    Calls Tryz.prog 91 #[v, .int .i64 k, .slice A ns.length c] w (LaidEnd base v (L ++ layB k ns) w) := by
  obtain ⟨A0, c0, rfl, _, _, _⟩ := OwnL.lie hO byV_len
  obtain ⟨v0, hv0⟩ : ∃ v0, Value.slice A0 L.length c0 = v0 := ⟨_, rfl⟩
  have HV0 := hidd hv0
  have HO := hidd hO
  have HL := hidd hl
  have HNN := hidd hnn
  have HLL := hidd hL
  have HBS := hidd hbase
  have HK := hidd hk
  obtain ⟨i0, hi0, hz0, hz1, hz2⟩ := info_parts byteInfo
  have hk1 : IntKind.i64.wrap ((k : Int) - 1) = (k : Int) - 1 := IntWalk.i64_in _ (by omega)
  have hkl : k ≤ 4 := by omega
  clear hO hl hnn hv0 hL hbase hk
  go_enter Tryz.func91, Tryz.ntmps91
  go_wp2_with fail
  go_loopg [0, 12] (ns.length + 1) (fun g s0 s12 wr => ∃ i : Nat, i ≤ ns.length ∧ i + g = ns.length + 1 ∧ s12 = .int .i64 (i : Int) ∧ OwnL byV 1 wr base 5 s0 (L ++ layB k (ns.take i)) ∧ (∀ b, b < w.heap.size → (Value.slice A0 L.length c0).ownBlock ≠ some b → s0.ownBlock ≠ some b ∧ wr.heap[b]? = w.heap[b]?) ∧ Below base w wr)
  case atStart => exact ⟨0, by omega, by omega, by first | rfl | simp, by simpa [layB] using HO.out, fun b _ h => ⟨h, rfl⟩, Below.refl _ _⟩
  case round =>
    obtain ⟨i, hi1, hg, rfl, hO, hkeep, hB⟩ := hrel
    have HG := hidd hg
    have HB := hidd hB
    have HKP := hidd hkeep
    obtain ⟨A1, c1, rfl, _, _, _⟩ := OwnL.lie hO byV_len
    have HO1 := hidd hO
    clear hg hB hkeep hO
    by_cases hin : i < ns.length
    · have hin2 : (i : Int) < (ns.length : Int) := by omega
      obtain ⟨ad, rfl, ⟨hab, han⟩, x0⟩ := HL.out.word i hin
      have hx1 : wr.cell? (ad.add i) = some (.int .i64 (av ns i)) := (World.cell?_of_block (by rw [block_of_add]; exact (HKP.out _ hab han).2)).trans x0
      have hn := HNN.out _ (av_mem hin)
      have HT := hidd (layB_take (k := k) hin)
      have hlen : (L ++ layB k (ns.take i)).length ≤ 1000256 := by
        have h1 := HLL.out
        have h2 : i * k ≤ 64 * 4 := Nat.mul_le_mul (by omega) hkl
        rw [List.length_append, layB_len, List.length_take, Nat.min_eq_left (by omega)]; omega
      generalize av ns i = n at *
      generalize hM : L ++ layB k (ns.take i) = M at *
      have HM := hidd hM
      clear x0 hM
      obtain ⟨v1, hv1⟩ : ∃ v1, Value.slice A1 M.length c1 = v1 := ⟨_, rfl⟩
      have HV1 := hidd hv1
      clear hv1
      generalize wr = wo at *
      go_wp2_with fail
      go_loopw [0, 9] (fun s0 s9 wi => ∃ (j : Nat) (I : Int) (P : List Int), j ≤ k ∧ I = (j : Int) - 1 ∧ s9 = .int .i64 I ∧ layN n k = P ++ layN n j ∧ P.length + j = k ∧ OwnL byV 1 wi base 5 s0 (M ++ P) ∧ (∀ b, b < w.heap.size → (Value.slice A0 L.length c0).ownBlock ≠ some b → s0.ownBlock ≠ some b ∧ wi.heap[b]? = w.heap[b]?) ∧ Below base w wi)
        (fun _ s9 _ => (intOf s9 + 1).toNat)
      case atStart => exact ⟨k, _, [], Nat.le_refl _, rfl, rfl, by simp, by simp, by simpa using HO1.out, HKP.out, HB.out⟩
      case round =>
        obtain ⟨j, I, P, hj, hI, rfl, hP, hPl, hO, hkeep, hB2⟩ := hrel
        have HP := hidd hP
        have HPL := hidd hPl
        have HB2 := hidd hB2
        have HKP2 := hidd hkeep
        obtain ⟨A2, c2, rfl, _, _, _⟩ := OwnL.lie hO byV_len
        have HO2 := hidd hO
        clear hP hPl hB2 hkeep hO HO1 HKP HB
        rcases Nat.eq_zero_or_pos j with rfl | hj0
        · obtain rfl : I = -1 := by omega
          have hPn : L ++ layB k (ns.take (i + 1)) = M ++ P := by
            have h1 := HP.out
            rw [HT.out, ← HM.out, h1]; simp [layN]
          have HPN := hidd hPn
          have e1 : IntKind.i64.wrap ((i : Int) + 1) = (i : Int) + 1 := IntWalk.i64_in _ (by omega)
          clear hPn hI
          go_wp2_with fail
          have hg := HG.out
          go_roundg (gk - 1)
          case measure => omega
          case rel => exact ⟨i + 1, by omega, by omega, by go_num, by rw [HPN.out]; exact HO2.out, HKP2.out, HB2.out⟩
        · have hso : base ≤ wr.heap.size := Nat.le_trans HBS.out HB2.out.size
          have hmp : (M ++ P).length ≤ 1000260 := by have := HPL.out; rw [List.length_append]; omega
          obtain ⟨x, hx⟩ : ∃ x, n / 256 ^ (j - 1) % 256 = x := ⟨_, rfl⟩
          have hst : layN n k = (P ++ [x]) ++ layN n (j - 1) := by
            rw [HP.out, ← hx]
            obtain ⟨q, rfl⟩ : ∃ q, j = q + 1 := ⟨j - 1, by omega⟩
            simp [layN]
          have HST := hidd hst
          clear hst
          generalize hQ : M ++ P = Q at *
          have HQ := hidd hQ
          have HX := hidd hx
          clear hQ
          have hj4 : j = 1 ∨ j = 2 ∨ j = 3 ∨ j = 4 := by omega
          have hO2 := HO2.out
          rcases hj4 with rfl | rfl | rfl | rfl
          · have hI2 : I = 0 := by omega
            subst hI2
            have hxe : IntKind.u8.wrap (n) = x := by rw [IntKind.wrap_u8]; rw [← hx]; first | rfl | (simp; done) | omega
            clear hI hx
            go_wp2_with (at_builtin; refine wpList_append_some (by rfl) (.tmp 22) (.tmp 28) _ (by rfl) base 5 i0 _ 1 1 Tryz.underlying94 hi0 hz0 hz1 hz2 rfl (by omega) _ _ _ (by rfl) (World.ownsRow.alloc hO2 _) (some ⟨_, 0, none⟩) 1 1 [.int .u8 x] (by rfl) (by rfl) (fun _ => ⟨_, rfl, World.news_of_block (cs := #[.int .u8 x]) (t := 5) (fr := (0, 0)) (heap_alloc_new _ _)⟩) (by simp [Value.oneCell']) (by simp only [maxLen]; omega) (by omega) (by first | omega | (simp; omega)) ?_; intro v1 wa hown1 hgrow1 hat1)
            have hb3 : Below base w wa := Below.grown (HB2.out.alloc hso _) hgrow1 (by first | omega | (simp; omega)) (fun k hk => (OwnL.lt hO2 k hk).1)
            have hO3 : OwnL byV 1 wa base 5 v1 (Q ++ [x]) := OwnL.snoc1 hown1
            have hws := HB2.out.size
            have hk3 : ∀ b, b < w.heap.size → (Value.slice A0 L.length c0).ownBlock ≠ some b → v1.ownBlock ≠ some b ∧ wa.heap[b]? = w.heap[b]? := fun b hb h => by
              obtain ⟨h1, h2⟩ := HKP2.out b hb h
              refine ⟨fun e => ?_, ?_⟩
              · rcases hat1 with h3 | h3
                · rw [h3] at e; exact h1 e
                · rw [h3] at e
                  simp at e
                  omega
              · rw [hgrow1.block b (by simp; omega) (fun e => h1 e.symm), Below.heap_alloc _ _ _ (by omega)]
                exact h2
            have HB3 := hidd hb3
            have HO3 := hidd hO3
            have HK3 := hidd hk3
            have HPL2 := hidd (show (P ++ [x]).length + (1 - 1) = k by have := HPL.out; simp; omega)
            have HQ2 := hidd (show M ++ (P ++ [x]) = Q ++ [x] by rw [← HQ.out]; simp)
            clear hb3 hO3 hk3 hown1 hgrow1 hat1 hO2 hxe
            go_wp2_with fail
            go_roundw
            case rel => exact ⟨1 - 1, _, P ++ [x], by omega, rfl, by first | rfl | simp, HST.out, HPL2.out, by rw [HQ2.out]; exact HO3.out, HK3.out, HB3.out⟩
            case measure => simp [intOf]
          · have hI2 : I = 1 := by omega
            subst hI2
            have hxe : IntKind.u8.wrap (n / 256) = x := by rw [IntKind.wrap_u8]; rw [← hx]; first | rfl | (simp; done) | omega
            clear hI hx
            go_wp2_with (at_builtin; refine wpList_append_some (by rfl) (.tmp 22) (.tmp 28) _ (by rfl) base 5 i0 _ 1 1 Tryz.underlying94 hi0 hz0 hz1 hz2 rfl (by omega) _ _ _ (by rfl) (World.ownsRow.alloc hO2 _) (some ⟨_, 0, none⟩) 1 1 [.int .u8 x] (by rfl) (by rfl) (fun _ => ⟨_, rfl, World.news_of_block (cs := #[.int .u8 x]) (t := 5) (fr := (0, 0)) (heap_alloc_new _ _)⟩) (by simp [Value.oneCell']) (by simp only [maxLen]; omega) (by omega) (by first | omega | (simp; omega)) ?_; intro v1 wa hown1 hgrow1 hat1)
            have hb3 : Below base w wa := Below.grown (HB2.out.alloc hso _) hgrow1 (by first | omega | (simp; omega)) (fun k hk => (OwnL.lt hO2 k hk).1)
            have hO3 : OwnL byV 1 wa base 5 v1 (Q ++ [x]) := OwnL.snoc1 hown1
            have hws := HB2.out.size
            have hk3 : ∀ b, b < w.heap.size → (Value.slice A0 L.length c0).ownBlock ≠ some b → v1.ownBlock ≠ some b ∧ wa.heap[b]? = w.heap[b]? := fun b hb h => by
              obtain ⟨h1, h2⟩ := HKP2.out b hb h
              refine ⟨fun e => ?_, ?_⟩
              · rcases hat1 with h3 | h3
                · rw [h3] at e; exact h1 e
                · rw [h3] at e
                  simp at e
                  omega
              · rw [hgrow1.block b (by simp; omega) (fun e => h1 e.symm), Below.heap_alloc _ _ _ (by omega)]
                exact h2
            have HB3 := hidd hb3
            have HO3 := hidd hO3
            have HK3 := hidd hk3
            have HPL2 := hidd (show (P ++ [x]).length + (2 - 1) = k by have := HPL.out; simp; omega)
            have HQ2 := hidd (show M ++ (P ++ [x]) = Q ++ [x] by rw [← HQ.out]; simp)
            clear hb3 hO3 hk3 hown1 hgrow1 hat1 hO2 hxe
            go_wp2_with fail
            go_roundw
            case rel => exact ⟨2 - 1, _, P ++ [x], by omega, rfl, by first | rfl | simp, HST.out, HPL2.out, by rw [HQ2.out]; exact HO3.out, HK3.out, HB3.out⟩
            case measure => simp [intOf]
          · have hI2 : I = 2 := by omega
            subst hI2
            have hxe : IntKind.u8.wrap (n / 65536) = x := by rw [IntKind.wrap_u8]; rw [← hx]; first | rfl | (simp; done) | omega
            clear hI hx
            go_wp2_with (at_builtin; refine wpList_append_some (by rfl) (.tmp 22) (.tmp 28) _ (by rfl) base 5 i0 _ 1 1 Tryz.underlying94 hi0 hz0 hz1 hz2 rfl (by omega) _ _ _ (by rfl) (World.ownsRow.alloc hO2 _) (some ⟨_, 0, none⟩) 1 1 [.int .u8 x] (by rfl) (by rfl) (fun _ => ⟨_, rfl, World.news_of_block (cs := #[.int .u8 x]) (t := 5) (fr := (0, 0)) (heap_alloc_new _ _)⟩) (by simp [Value.oneCell']) (by simp only [maxLen]; omega) (by omega) (by first | omega | (simp; omega)) ?_; intro v1 wa hown1 hgrow1 hat1)
            have hb3 : Below base w wa := Below.grown (HB2.out.alloc hso _) hgrow1 (by first | omega | (simp; omega)) (fun k hk => (OwnL.lt hO2 k hk).1)
            have hO3 : OwnL byV 1 wa base 5 v1 (Q ++ [x]) := OwnL.snoc1 hown1
            have hws := HB2.out.size
            have hk3 : ∀ b, b < w.heap.size → (Value.slice A0 L.length c0).ownBlock ≠ some b → v1.ownBlock ≠ some b ∧ wa.heap[b]? = w.heap[b]? := fun b hb h => by
              obtain ⟨h1, h2⟩ := HKP2.out b hb h
              refine ⟨fun e => ?_, ?_⟩
              · rcases hat1 with h3 | h3
                · rw [h3] at e; exact h1 e
                · rw [h3] at e
                  simp at e
                  omega
              · rw [hgrow1.block b (by simp; omega) (fun e => h1 e.symm), Below.heap_alloc _ _ _ (by omega)]
                exact h2
            have HB3 := hidd hb3
            have HO3 := hidd hO3
            have HK3 := hidd hk3
            have HPL2 := hidd (show (P ++ [x]).length + (3 - 1) = k by have := HPL.out; simp; omega)
            have HQ2 := hidd (show M ++ (P ++ [x]) = Q ++ [x] by rw [← HQ.out]; simp)
            clear hb3 hO3 hk3 hown1 hgrow1 hat1 hO2 hxe
            go_wp2_with fail
            go_roundw
            case rel => exact ⟨3 - 1, _, P ++ [x], by omega, rfl, by first | rfl | simp, HST.out, HPL2.out, by rw [HQ2.out]; exact HO3.out, HK3.out, HB3.out⟩
            case measure => simp [intOf]
          · have hI2 : I = 3 := by omega
            subst hI2
            have hxe : IntKind.u8.wrap (n / 16777216) = x := by rw [IntKind.wrap_u8]; rw [← hx]; first | rfl | (simp; done) | omega
            clear hI hx
            go_wp2_with (at_builtin; refine wpList_append_some (by rfl) (.tmp 22) (.tmp 28) _ (by rfl) base 5 i0 _ 1 1 Tryz.underlying94 hi0 hz0 hz1 hz2 rfl (by omega) _ _ _ (by rfl) (World.ownsRow.alloc hO2 _) (some ⟨_, 0, none⟩) 1 1 [.int .u8 x] (by rfl) (by rfl) (fun _ => ⟨_, rfl, World.news_of_block (cs := #[.int .u8 x]) (t := 5) (fr := (0, 0)) (heap_alloc_new _ _)⟩) (by simp [Value.oneCell']) (by simp only [maxLen]; omega) (by omega) (by first | omega | (simp; omega)) ?_; intro v1 wa hown1 hgrow1 hat1)
            have hb3 : Below base w wa := Below.grown (HB2.out.alloc hso _) hgrow1 (by first | omega | (simp; omega)) (fun k hk => (OwnL.lt hO2 k hk).1)
            have hO3 : OwnL byV 1 wa base 5 v1 (Q ++ [x]) := OwnL.snoc1 hown1
            have hws := HB2.out.size
            have hk3 : ∀ b, b < w.heap.size → (Value.slice A0 L.length c0).ownBlock ≠ some b → v1.ownBlock ≠ some b ∧ wa.heap[b]? = w.heap[b]? := fun b hb h => by
              obtain ⟨h1, h2⟩ := HKP2.out b hb h
              refine ⟨fun e => ?_, ?_⟩
              · rcases hat1 with h3 | h3
                · rw [h3] at e; exact h1 e
                · rw [h3] at e
                  simp at e
                  omega
              · rw [hgrow1.block b (by simp; omega) (fun e => h1 e.symm), Below.heap_alloc _ _ _ (by omega)]
                exact h2
            have HB3 := hidd hb3
            have HO3 := hidd hO3
            have HK3 := hidd hk3
            have HPL2 := hidd (show (P ++ [x]).length + (4 - 1) = k by have := HPL.out; simp; omega)
            have HQ2 := hidd (show M ++ (P ++ [x]) = Q ++ [x] by rw [← HQ.out]; simp)
            clear hb3 hO3 hk3 hown1 hgrow1 hat1 hO2 hxe
            go_wp2_with fail
            go_roundw
            case rel => exact ⟨4 - 1, _, P ++ [x], by omega, rfl, by first | rfl | simp, HST.out, HPL2.out, by rw [HQ2.out]; exact HO3.out, HK3.out, HB3.out⟩
            case measure => simp [intOf]
    · obtain rfl : i = ns.length := by omega
      have hO1 := HO1.out
      rw [List.take_length] at hO1
      have hkp := HKP.out
      rw [List.take_length] at hkp
      have HO2 := hidd hO1
      have HKQ := hidd hkp
      clear hO1 HO1 hkp HKP
      rw [List.take_length]
      go_wp2_with fail
      go_ret
      exact ⟨_, rfl, HO2.out, HB.out, HKQ.out⟩
end Go.Proofs.YtappmacnoopmkaaGreat
