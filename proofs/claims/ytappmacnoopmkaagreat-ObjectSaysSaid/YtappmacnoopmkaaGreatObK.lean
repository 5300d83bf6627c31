/- Objects: what every law of the layer looks at besides. -/
import Derived.Laws.BytesArg
import Derived.Test.YtappmacnoopmkaaGreatObIS
import Derived.Test.YtappmacnoopmkaaGreatObIQ
namespace Go.Proofs.YtappmacnoopmkaaGreat
set_option linter.unusedVariables false
open Go.RowKit

theorem conv_any (A : Option Addr) (l : List Int) (n c : Nat) (hn : l.length = n) (w : World) (B : Nat) (hl : Lie byV 1 w B A l) : (convert 94 9 (.slice A n c)).run Tryz.prog w = .ok (.string (strOfNums l)) w := by
  subst hn
  rcases Nat.eq_zero_or_pos l.length with h | h
  · have : l = [] := List.eq_nil_of_length_eq_zero h
    subst this
    cases A with
    | none => exact run_convert_bytes_nil w _ _ Tryz.underlying94 Tryz.underlying5 _ _ _ Tryz.underlying9
    | some ad =>
      rw [run_convert_bytes_string w _ _ _ (some ad) _ c Tryz.underlying94 Tryz.underlying5 Tryz.underlying9]
      have hq := run_loadCells_list (P := Tryz.prog) w ad (([] : List Int).map (Value.int .u8)) (fun j v hj => by simp at hj)
      rw [List.length_map] at hq
      rw [run_bytesToString w ad _ c [] hq]
      rfl
  · obtain ⟨ad, rfl, hB, hc⟩ := hl h
    rw [run_convert_bytes_string w _ _ _ (some ad) _ c Tryz.underlying94 Tryz.underlying5 Tryz.underlying9]
    have hq := run_loadCells_list (P := Tryz.prog) w ad (l.map (Value.int .u8)) (fun j v hj => by
      simp only [List.getElem?_map, Option.map_eq_some_iff] at hj
      obtain ⟨x, hx, rfl⟩ := hj
      have := hc j x hx 0 _ rfl
      simpa using this)
    rw [List.length_map] at hq
    rw [run_bytesToString w ad _ c l hq, foldl_push_bytes]
    simp [strOfNums, ByteArray.empty, ByteArray.emptyWithCapacity]
    rfl
theorem obs_new (w : World) (c t : Int) (A : Option Addr) (ws : List Int) (k : Nat) (ty : TypeId) (hl : LieQ wdV 1 w (· < w.heap.size) A ws) :
    Obs (w.alloc (.cells #[.int .i64 c, .int .i64 t, .slice A ws.length k] ty)) (· < (w.alloc (.cells #[.int .i64 c, .int .i64 t, .slice A ws.length k] ty)).heap.size) (some ⟨w.heap.size, 0, none⟩) [⟨c, t, .slice A ws.length k, ws⟩] := by
  refine ⟨fun _ => ⟨_, rfl, by simp, fun i x hx j v hv => ?_⟩, fun o ho => ?_⟩
  · match i, hx with
    | 0, hx =>
      have : (⟨c, t, .slice A ws.length k, ws⟩ : Ob) = x := by simpa using hx
      subst this
      match j, hv with
      | 0, hv => simp [obV] at hv; subst hv; simp [go_sem, Addr.add]
      | 1, hv => simp [obV] at hv; subst hv; simp [go_sem, Addr.add]
      | 2, hv => simp [obV] at hv; subst hv; simp [go_sem, Addr.add]
      | j + 3, hv => simp [obV] at hv
  · have : o = (⟨c, t, .slice A ws.length k, ws⟩ : Ob) := by simpa using ho
    subst this
    exact ⟨A, k, rfl, hl.below (below_new (Below.refl w.heap.size w) _)⟩
theorem obs_newAt (w : World) (c t : Int) (A : Option Addr) (ws : List Int) (k n b : Nat) (ty : TypeId) (hb : w.heap.size = b) (hn : ws.length = n) (hl : LieQ wdV 1 w (· < w.heap.size) A ws) :
    Obs (w.alloc (.cells #[.int .i64 c, .int .i64 t, .slice A n k] ty)) (· < (w.alloc (.cells #[.int .i64 c, .int .i64 t, .slice A n k] ty)).heap.size) (some ⟨b, 0, none⟩) [⟨c, t, .slice A n k, ws⟩] := by
  subst hb hn
  exact obs_new w c t A ws k ty hl
def FreshO (c t : Int) (ws : List Int) (n : Nat) (w : World) (e : Ending) (w' : World) : Prop := Below w.heap.size w w' ∧ ∃ A k, e = .returned (.tuple #[.agg #[.int .i64 c, .int .i64 t, .slice A n k], .int .i64 0]) ∧ LieQ wdV 1 w' (· < w'.heap.size) A ws
theorem period30 (w : World) : Calls Tryz.prog 30 #[.int .i64 30] w (FreshO 5 1 [30] 1 w) :=
  (Period_any 30 w).mono fun e w' ⟨h1, h2⟩ => ⟨h1, by
    rcases h2 with ⟨_, A, k, h, hl⟩ | h
    · exact ⟨A, k, h, hl.to (fun q hq => ⟨hq.2, rfl⟩)⟩
    · exact absurd h.1 (by decide)⟩
theorem session25 (w : World) : Calls Tryz.prog 28 #[.agg #[.int .i64 2, .int .i64 5]] w (FreshO 1 1 [2, 285212677] 2 w) :=
  (Session_any 2 5 w).mono fun e w' ⟨h1, h2⟩ => ⟨h1, by
    rcases h2 with ⟨_, A, k, h, hl⟩ | h
    · exact ⟨A, k, h, hl.to (fun q hq => ⟨hq.2, rfl⟩)⟩
    · exact absurd h.1 (by decide)⟩
theorem as25 (A : Option Addr) (m : Nat) (w : World) (hl : LieQ wdV 1 w (· < w.heap.size) A [2, 285212677]) : Calls Tryz.prog 8 #[.agg #[.int .i64 1, .int .i64 1, .slice A 2 m]] w fun e w' => e = .returned (.tuple #[.agg #[.int .i64 2, .int .i64 5], .int .i64 0]) ∧ Below w.heap.size w w' :=
  (AsSession_any 1 1 A [2, 285212677] m (by simp) (by intro x hx; simp at hx; omega) w hl).mono fun e w' ⟨h1, h2⟩ => ⟨by
    have e1 : wrap64 (av [2, 285212677] 1 - 285212672) = 5 := by
      show wrap64 (285212677 - 285212672) = 5
      rw [IntWalk.wrap64_in _ (by omega)]; rfl
    have e0 : av [2, 285212677] 0 = 2 := rfl
    rw [e0, e1] at h2
    rcases h2 with h | h
    · exact h.2
    · exact absurd h.1 (by decide), h1⟩
theorem raw30 (ad : Addr) (A : Option Addr) (k m : Nat) (w : World) (hl : Obs w (· < w.heap.size) (some ad) [⟨5, 1, .slice A 1 k, [30]⟩]) : Calls Tryz.prog 53 #[.slice (some ad) 1 m] w fun e w' => Below w.heap.size w w' ∧ ∃ A2 k2, e = .returned (.tuple #[.slice A2 8 k2, .int .i64 0]) ∧ Lie byV 1 w' w'.heap.size A2 [0, 8, 5, 1, 0, 0, 0, 30] :=
  (Raw_any (some ad) [⟨5, 1, .slice A 1 k, [30]⟩] m (by simp) (by simp) w hl).mono fun e w' ⟨h1, h2⟩ => ⟨h1, by
    have hr : allR [⟨5, 1, .slice A 1 k, [30]⟩] := fun o ho => by
      have : o = (⟨5, 1, .slice A 1 k, [30]⟩ : Ob) := by simpa using ho
      subst this
      show rightB 5 1 [30] = true
      decide
    rcases h2 with ⟨_, _, v, h, ho⟩ | ⟨h, _⟩ | ⟨_, h, _⟩
    · have e1 : rawAll [⟨5, 1, .slice A 1 k, [30]⟩] = [0, 8, 5, 1, 0, 0, 0, 30] := by simp [rawAll, rawO, layB, layN]
      rw [e1] at ho
      obtain ⟨A2, k2, rfl, _, _, hl2⟩ := OwnL.lie ho byV_len
      exact ⟨A2, k2, h, hl2⟩
    · exact absurd hr h
    · exact absurd (by simp) h⟩
set_option maxRecDepth 100000 in
set_option maxHeartbeats 8000000 in
theorem known_any (w : World) : Calls Tryz.prog 7 #[] w fun e w' => e = .returned (.bool true) ∧ Below w.heap.size w w' := by
  have c1 := hidd (fun W => period30 W)
  have c2 := hidd (fun W => session25 W)
  have hv := fun W A c B h => conv_any A [0, 8, 5, 1, 0, 0, 0, 30] 8 c rfl W B h
  have HV := hidd hv
  have hstr : strOfNums [0, 8, 5, 1, 0, 0, 0, 30] = { data := #[0, 8, 5, 1, 0, 0, 0, 30] } := by rfl
  have HS := hidd hstr
  clear hv hstr
  go_enter Tryz.func7, Tryz.ntmps7
  go_wp2_with fail
  refine (c1.out _).mono ?_
  rintro e w1 ⟨hb1, A1, k1, rfl, hl1⟩
  have HB1 := hidd hb1
  have HL1 := hidd hl1
  clear hb1 hl1
  go_wp2_with fail
  have HO := hidd (obs_newAt (w1.alloc (.cells #[.int .i64 5, .int .i64 1, .slice A1 1 k1] 42)) 5 1 A1 [30] k1 1 (w1.heap.size + 1) 42 (by simp) rfl (HL1.out.below (below_new (Below.refl w1.heap.size w1) (.cells #[.int .i64 5, .int .i64 1, .slice A1 1 k1] 42))))
  refine (raw30 _ A1 k1 _ _ HO.out).mono ?_
  rintro e w2 ⟨hb2, A2, k2, rfl, hl2⟩
  have HB2 := hidd (below_step (below_new (below_new HB1.out _) _) hb2)
  have HL2 := hidd hl2
  clear hb2 hl2
  go_wp2_with fail
  refine (c2.out _).mono ?_
  rintro e w3 ⟨hb3, A3, k3, rfl, hl3⟩
  have HB3 := hidd (below_step HB2.out hb3)
  have HL23 := hidd (HL2.out.below hb3)
  have HL3 := hidd hl3
  clear hb3 hl3
  go_wp2_with fail
  refine (as25 A3 k3 _ (HL3.out.below (below_new (Below.refl w3.heap.size w3) (.cells #[.int .i64 1, .int .i64 1, .slice A3 2 k3] 42)))).mono ?_
  rintro e w4 ⟨rfl, hb4⟩
  have hb4' := below_step (below_new (Below.refl w3.heap.size w3) (.cells #[.int .i64 1, .int .i64 1, .slice A3 2 k3] 42)) hb4
  have HB4 := hidd (below_step HB3.out hb4')
  obtain ⟨bc, bf⟩ := bcell hb4
  have hz4 : w3.heap.size < w4.heap.size := by have := hb4.size; simp at this; omega
  have s0 : w4.cell? ⟨w3.heap.size, 2, none⟩ = some (.slice A3 2 k3) := by rw [bc _ _ (by simp)]; simp [go_sem]
  obtain ⟨ad3, rfl, ha3, s1⟩ := (HL3.out.below hb4').word 1 (by simp)
  have s2 : w4.cell? ⟨ad3.block, ad3.off + 1, none⟩ = some (.int .i64 285212677) := by
    have e1 : av [2, 285212677] 1 = 285212677 := rfl
    rw [e1] at s1
    simpa [Addr.add] using s1
  have k0 := HV.out (w4.alloc (.cells #[.int .i64 2, .int .i64 5] 23)) A2 k2 _ (HL23.out.below (below_new (below_step (Below.refl w3.heap.size w3) hb4') (.cells #[.int .i64 2, .int .i64 5] 23)))
  rw [HS.out] at k0
  clear hb4 hb4' bc bf s1
  go_wp2_with fail
  go_ret
  exact ⟨by first | rfl | simp, below_new HB4.out _⟩
end Go.Proofs.YtappmacnoopmkaaGreat
